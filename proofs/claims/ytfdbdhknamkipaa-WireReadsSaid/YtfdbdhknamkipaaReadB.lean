import Derived.Test.YtfdbdhknamkipaaReadU
import Derived.Defers
import Derived.StillTailTactics
namespace Go.Proofs.Ytfdbdhknamkipaa
open Go.RowKit
/-- the deferred closure of read: no error -/
theorem backB_keep (b R : Nat) (u : FrameMode) (w : World) (hc : w.cell? ⟨b, 0, none⟩ = some (.pointer (some ⟨R, 0, none⟩))) (h3 : w.cell? ⟨R, 3, none⟩ = some (.int .i64 0)) :
    CallsD Try.prog 67 #[.pointer (some ⟨b, 0, none⟩)] u w fun e u' w' => u' = u ∧ (e = .returned (.tuple #[]) ∧ w = w') := by
  go_enter_d Try.func67, Try.ntmps67
  go_wp2
  go_end0
  exact ⟨rfl, rfl⟩
/-- the deferred closure of read: an error -/
theorem backB_err (b R : Nat) (last pos : Int) (u : FrameMode) (w : World) (hc : w.cell? ⟨b, 0, none⟩ = some (.pointer (some ⟨R, 0, none⟩))) (h3 : w.cell? ⟨R, 3, none⟩ = some (.int .i64 3)) (h2 : w.cell? ⟨R, 2, none⟩ = some (.int .i64 last)) (h1 : w.cell? ⟨R, 1, none⟩ = some (.int .i64 pos)) (hz : w.frozen? ⟨R, 1, none⟩ = false) :
    CallsD Try.prog 67 #[.pointer (some ⟨b, 0, none⟩)] u w fun e u' w' => u' = u ∧ (e = .returned (.tuple #[]) ∧ w' = (w.setCell ⟨R, 1, none⟩ (.int .i64 last)).drew) := by
  go_enter_d Try.func67, Try.ntmps67
  go_wp2
  go_still_tail 7, (by kernel_rfl)
  change wpList _ _ _ _ _ w.drew
  go_wp2
  go_end0
  exact ⟨rfl, rfl⟩
/-- the bool whose encoding begins at an offset -/
def boolAt (bs : List Nat) (pos : Nat) : Option Bool := if h : pos < bs.length then (if bs[pos] ≤ 1 then some (bs[pos] == 1) else none) else none
theorem truth_short (R : Nat) (a : Option Addr) (cap : Nat) (bs : List Nat) (pos last : Nat) (w : World) (h : RD w R a cap bs pos last 0) (hs : ¬ pos < bs.length) :
    Calls Try.prog 49 #[.pointer (some ⟨R, 0, none⟩)] w fun e w' => ∃ p, e = .returned (.tuple #[.bool false, .int .i64 3]) ∧ RD w' R a cap bs p last 0 ∧ w.grownBy w' (some R) := by
  go_enter Try.func49, Try.ntmps49
  go_wp2_with (fail)
  refine (next_short R a cap bs pos last 0 1 _ h (by omega)).mono ?_
  rintro e w1 ⟨rfl, m, rfl⟩
  go_wp2_with (fail)
  go_ret2
  exact ⟨_, rfl, h.drewN, g_drewN (g_refl _ _) _⟩
theorem truth_bad (R : Nat) (a : Option Addr) (cap : Nat) (bs : List Nat) (pos last : Nat) (w : World) (h : RD w R a cap bs pos last 0) (hs : pos < bs.length) (hbig : 1 < bs[pos]) :
    Calls Try.prog 49 #[.pointer (some ⟨R, 0, none⟩)] w fun e w' => ∃ p, e = .returned (.tuple #[.bool false, .int .i64 3]) ∧ RD w' R a cap bs p last 0 ∧ w.grownBy w' (some R) := by
  go_enter Try.func49, Try.ntmps49
  go_wp2_with (fail)
  refine (next_ok R a cap bs pos last 0 1 _ h (by omega)).mono ?_
  rintro e w1 ⟨a', c', rfl, hby, hrd1, hg1⟩
  obtain ⟨b, off, rfl, hc⟩ := hby 0 (by simp; omega)
  have hbv : ((bs.drop pos).take 1).getD 0 0 = bs[pos] := by simp [List.getD, hs]
  rw [hbv] at hc
  clear hby hbv
  have hz : (1 : Int) < ((bs[pos] : Nat) : Int) := by omega
  generalize bs[pos] = bv at *
  simp only [Nat.add_zero] at hc
  go_wp2_with (fail)
  go_ret2
  exact ⟨_, rfl, hrd1, hg1⟩
theorem truth_ok (R : Nat) (a : Option Addr) (cap : Nat) (bs : List Nat) (pos last bv : Nat) (w : World) (h : RD w R a cap bs pos last 0) (hs : pos < bs.length) (hv : bs[pos] = bv) (hbig : bv ≤ 1) :
    Calls Try.prog 49 #[.pointer (some ⟨R, 0, none⟩)] w fun e w' => e = .returned (.tuple #[.bool (bv == 1), .int .i64 0]) ∧ RD w' R a cap bs (pos + 1) last 0 ∧ w.grownBy w' (some R) := by
  have hbv : bv = 0 ∨ bv = 1 := by omega
  rcases hbv with rfl | rfl
  all_goals
    go_enter Try.func49, Try.ntmps49
    go_wp2_with (fail)
    refine (next_ok R a cap bs pos last 0 1 _ h (by omega)).mono ?_
    rintro e w1 ⟨a', c', rfl, hby, hrd1, hg1⟩
    obtain ⟨b, off, rfl, hc⟩ := hby 0 (by simp; omega)
    have hbv : ((bs.drop pos).take 1).getD 0 0 = bs[pos] := by simp [List.getD, hs]
    rw [hbv, hv] at hc
    clear hby hbv hv
    simp only [Nat.add_zero] at hc
    go_wp2_with (fail)
    go_ret2
    exact ⟨rfl, hrd1, hg1⟩
theorem truth_some (R : Nat) (a : Option Addr) (cap : Nat) (bs : List Nat) (pos last : Nat) (v : Bool) (w : World) (h : RD w R a cap bs pos last 0) (hn : boolAt bs pos = some v) :
    Calls Try.prog 49 #[.pointer (some ⟨R, 0, none⟩)] w fun e w' => e = .returned (.tuple #[.bool v, .int .i64 0]) ∧ RD w' R a cap bs (pos + 1) last 0 ∧ w.grownBy w' (some R) := by
  unfold boolAt at hn
  split at hn
  · rename_i hs
    split at hn
    · rename_i hb
      simp only [Option.some.injEq] at hn
      subst hn
      exact truth_ok R a cap bs pos last _ w h hs rfl hb
    · cases hn
  · cases hn
theorem truth_none (R : Nat) (a : Option Addr) (cap : Nat) (bs : List Nat) (pos last : Nat) (w : World) (h : RD w R a cap bs pos last 0) (hn : boolAt bs pos = none) :
    Calls Try.prog 49 #[.pointer (some ⟨R, 0, none⟩)] w fun e w' => ∃ p, e = .returned (.tuple #[.bool false, .int .i64 3]) ∧ RD w' R a cap bs p last 0 ∧ w.grownBy w' (some R) := by
  unfold boolAt at hn
  split at hn
  · rename_i hs
    split at hn
    · cases hn
    · exact truth_bad R a cap bs pos last w h hs (by omega)
  · rename_i hs
    exact truth_short R a cap bs pos last w h hs
/-- what read[uint64] returns with the method number -/
def BoolPost (R : Nat) (a : Option Addr) (cap : Nat) (bs : List Nat) (pos : Nat) (w : World) (r : Option Bool) (e : Ending) (w' : World) : Prop :=
  w.grownBy w' (some R) ∧ (match r with
    | some v => e = .returned (.bool v) ∧ RD w' R a cap bs (pos + 1) pos 0
    | none => e = .returned (.bool false) ∧ RD w' R a cap bs pos pos 3)
set_option maxRecDepth 100000 in
theorem readB_any (R : Nat) (a : Option Addr) (cap : Nat) (bs : List Nat) (pos last : Nat) (w : World) (h : RD w R a cap bs pos last 0) :
    Calls Try.prog 48 #[.pointer (some ⟨R, 0, none⟩), .func (Fn.func 49) #[.pointer (some ⟨R, 0, none⟩)] #[]] w (BoolPost R a cap bs pos w (boolAt bs pos)) := by
  have hR := h.lt
  have c1 := h.c1
  have c3 := h.c3
  have z2 := h.fz 2
  have hRB : ¬ R = w.heap.size := by omega
  have hmf : ∀ (fn : Fn) (first cap : Array Value) (w : World), (Instr.makeFunc fn first cap).run Try.prog w = .ok (.func fn first cap) w := fun _ _ _ _ => rfl
  have hA : RD (w.alloc (.cells #[.pointer (some ⟨R, 0, none⟩)] 30)) R a cap bs pos last 0 := h.alloc _
  have hW : RD ((w.alloc (.cells #[.pointer (some ⟨R, 0, none⟩)] 30)).setCell ⟨R, 2, none⟩ (.int .i64 pos)).drew R a cap bs pos pos 0 := (hA.setLast pos rfl h.le).drewN (m := 1)
  have hG : w.grownBy ((w.alloc (.cells #[.pointer (some ⟨R, 0, none⟩)] 30)).setCell ⟨R, 2, none⟩ (.int .i64 pos)).drew (some R) := g_drewN (g_set (g_alloc (g_refl _ _) _)) 1
  have hbox : ((w.alloc (.cells #[.pointer (some ⟨R, 0, none⟩)] 30)).setCell ⟨R, 2, none⟩ (.int .i64 pos)).drew.cell? ⟨w.heap.size, 0, none⟩ = some (.pointer (some ⟨R, 0, none⟩)) := by
    show ((w.alloc (.cells #[.pointer (some ⟨R, 0, none⟩)] 30)).setCell ⟨R, 2, none⟩ (.int .i64 pos)).cell? ⟨w.heap.size, 0, none⟩ = _
    rw [cell_of_row _ _ _ #[.pointer (some ⟨R, 0, none⟩)] 30 (0, 0) (by rw [heap_setCell_other _ _ _ _ (fun e => hRB e.symm)]; exact heap_alloc_new _ _)]
    rfl
  have hAbox : (w.alloc (.cells #[.pointer (some ⟨R, 0, none⟩)] 30)).cell? ⟨w.heap.size, 0, none⟩ = some (.pointer (some ⟨R, 0, none⟩)) := by
    rw [cell_of_row _ _ _ _ _ _ (heap_alloc_new _ _)]; rfl
  have hne : ∀ x, w.heap.size = x → ¬ R = x := fun x e => e ▸ hRB
  cases hn : boolAt bs pos with
  | none =>
    have hn2 := hidIt hn
    clear hn
    go_enter_defers Try.func48, Try.ntmps48
    go_wp2_with (fail)
    generalize w.alloc (.cells #[.pointer (some ⟨R, 0, none⟩)] 30) = A at *
    have W1 := hidIt hW
    have W2 := hidIt hG
    have W3 := hidIt hbox
    clear hW hG hbox c1 c3 z2
    have a1 := hA.c1
    have a2 := hA.c2
    have az := hA.fz 2
    go_still_tail 7, (by kernel_rfl)
    change wpList _ _ _ _ _ A.drew
    go_wp2_with (fail)
    generalize (A.setCell ⟨R, 2, none⟩ (.int .i64 pos)).drew = W at *
    clear hA hAbox a1 a2 az
    generalize w.heap.size = B at *
    have W4 : W.cell? ⟨B, 0, none⟩ = some (.pointer (some ⟨R, 0, none⟩)) := W3.out
    go_region_held3 (fun w' => w'.cell? ⟨B, 0, none⟩ = some (.pointer (some ⟨R, 0, none⟩)))
      (first
        | go_keep
        | assumption)
      (first
        | (go_at_call 49; refine (truth_none R a cap bs pos pos _ (W1.out.drewN (m := 1)) hn2.out).mono ?_; rintro e w2 ⟨p, rfl, hrd2, hg2⟩; have hbox2 := hg2.cell (a := ⟨B, 0, none⟩) W4 (fun e => hRB (by cases e; rfl)); have k3 := hrd2.c3; have kz := hrd2.fz 3))
    go_wp2_with (fail)
    have hx := hrd2.setErr 3 (v := .int .i64 3) rfl
    refine leaves_cons (f := 67) (args := #[.pointer (some ⟨B, 0, none⟩)]) (by simp) (by simp [go_sem]) ?_
    refine (backB_err B R pos p _ _ (by assumption) hx.c3 hx.c2 hx.c1 (hx.fz 1)).mono ?_
    rintro e u' w3 ⟨rfl, rfl, rfl⟩
    exact ⟨_, results_tmp rfl _ _ _, g_trans W2.out (g_drewN (g_set (g_set (g_trans (g_drewN (g_refl _ _) 1) hg2))) 1), rfl, (hx.setPos pos rfl h.le).drewN (m := 1)⟩
  | some r =>
    have hn2 := hidIt hn
    clear hn
    go_enter_defers Try.func48, Try.ntmps48
    go_wp2_with (fail)
    generalize w.alloc (.cells #[.pointer (some ⟨R, 0, none⟩)] 30) = A at *
    have W1 := hidIt hW
    have W2 := hidIt hG
    have W3 := hidIt hbox
    clear hW hG hbox c1 c3 z2
    have a1 := hA.c1
    have a2 := hA.c2
    have az := hA.fz 2
    go_still_tail 7, (by kernel_rfl)
    change wpList _ _ _ _ _ A.drew
    go_wp2_with (fail)
    generalize (A.setCell ⟨R, 2, none⟩ (.int .i64 pos)).drew = W at *
    clear hA hAbox a1 a2 az
    generalize w.heap.size = B at *
    have W4 : W.cell? ⟨B, 0, none⟩ = some (.pointer (some ⟨R, 0, none⟩)) := W3.out
    go_region_held3 (fun w' => w'.cell? ⟨B, 0, none⟩ = some (.pointer (some ⟨R, 0, none⟩)))
      (first
        | go_keep
        | assumption)
      (first
        | (go_at_call 49; refine (truth_some R a cap bs pos pos r _ (W1.out.drewN (m := 1)) hn2.out).mono ?_; rintro e w2 ⟨rfl, hrd2, hg2⟩; have hbox2 := hg2.cell (a := ⟨B, 0, none⟩) W4 (fun e => hRB (by cases e; rfl)); have k3 := hrd2.c3; have kz := hrd2.fz 3))
    go_wp2_with (fail)
    have hx := hrd2.setErr 0 (v := .int .i64 0) rfl
    refine leaves_cons (f := 67) (args := #[.pointer (some ⟨B, 0, none⟩)]) (by simp) (by simp [go_sem]) ?_
    refine (backB_keep B R _ _ (by assumption) hx.c3).mono ?_
    rintro e u' w3 ⟨rfl, rfl, rfl⟩
    exact ⟨_, results_tmp rfl _ _ _, g_trans W2.out (g_set (g_trans (g_drewN (g_refl _ _) 1) hg2)), rfl, hx⟩
end Go.Proofs.Ytfdbdhknamkipaa
