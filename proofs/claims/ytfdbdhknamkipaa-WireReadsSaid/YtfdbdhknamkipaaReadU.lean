import Derived.Test.YtfdbdhknamkipaaNumber
import Derived.Defers
import Derived.StillTailTactics
namespace Go.Proofs.Ytfdbdhknamkipaa
open Go.RowKit
/-- the deferred closure of read: no error -/
theorem backU_keep (b R : Nat) (u : FrameMode) (w : World) (hc : w.cell? ⟨b, 0, none⟩ = some (.pointer (some ⟨R, 0, none⟩))) (h3 : w.cell? ⟨R, 3, none⟩ = some (.int .i64 0)) :
    CallsD Try.prog 66 #[.pointer (some ⟨b, 0, none⟩)] u w fun e u' w' => u' = u ∧ (e = .returned (.tuple #[]) ∧ w = w') := by
  go_enter_d Try.func66, Try.ntmps66
  go_wp2
  go_end0
  exact ⟨rfl, rfl⟩
/-- the deferred closure of read: an error -/
theorem backU_err (b R : Nat) (last pos : Int) (u : FrameMode) (w : World) (hc : w.cell? ⟨b, 0, none⟩ = some (.pointer (some ⟨R, 0, none⟩))) (h3 : w.cell? ⟨R, 3, none⟩ = some (.int .i64 3)) (h2 : w.cell? ⟨R, 2, none⟩ = some (.int .i64 last)) (h1 : w.cell? ⟨R, 1, none⟩ = some (.int .i64 pos)) (hz : w.frozen? ⟨R, 1, none⟩ = false) :
    CallsD Try.prog 66 #[.pointer (some ⟨b, 0, none⟩)] u w fun e u' w' => u' = u ∧ (e = .returned (.tuple #[]) ∧ w' = (w.setCell ⟨R, 1, none⟩ (.int .i64 last)).drew) := by
  go_enter_d Try.func66, Try.ntmps66
  go_wp2
  go_still_tail 7, (by kernel_rfl)
  change wpList _ _ _ _ _ w.drew
  go_wp2
  go_end0
  exact ⟨rfl, rfl⟩
theorem number_some (R : Nat) (a : Option Addr) (cap : Nat) (bs : List Nat) (pos last n k : Nat) (w : World) (h : RD w R a cap bs pos last 0) (hb : ∀ x ∈ bs, x < 256) (hn : En.num (bs.drop pos) = some (n, k)) :
    Calls Try.prog 47 #[.pointer (some ⟨R, 0, none⟩)] w fun e w' => e = .returned (.tuple #[.int .u64 n, .int .i64 0]) ∧ RD w' R a cap bs (pos + k) last 0 ∧ w.grownBy w' (some R) := by
  refine (number_any R a cap bs pos last w h hb).mono ?_
  rw [hn]
  exact fun e w' ⟨hg, he, hr⟩ => ⟨he, hr, hg⟩
theorem number_none (R : Nat) (a : Option Addr) (cap : Nat) (bs : List Nat) (pos last : Nat) (w : World) (h : RD w R a cap bs pos last 0) (hb : ∀ x ∈ bs, x < 256) (hn : En.num (bs.drop pos) = none) :
    Calls Try.prog 47 #[.pointer (some ⟨R, 0, none⟩)] w fun e w' => ∃ p, e = .returned (.tuple #[.int .u64 0, .int .i64 3]) ∧ RD w' R a cap bs p last 0 ∧ w.grownBy w' (some R) := by
  refine (number_any R a cap bs pos last w h hb).mono ?_
  rw [hn]
  exact fun e w' ⟨hg, he, p, hr⟩ => ⟨p, he, hr, hg⟩
theorem RD.alloc {w : World} {R : Nat} {a : Option Addr} {cap : Nat} {bs : List Nat} {pos last err : Nat} (h : RD w R a cap bs pos last err) (o : Obj) : RD (w.alloc o) R a cap bs pos last err :=
  ⟨by rw [Below.heap_alloc _ _ _ h.lt]; exact h.row, h.bytes.below ((Below.refl _ _).alloc (Nat.le_refl _) _), h.ne, h.le, h.lastle, h.capge, h.capm⟩
/-- what read[uint64] returns with the method number -/
def UintPost (R : Nat) (a : Option Addr) (cap : Nat) (bs : List Nat) (pos : Nat) (w : World) (r : Option (Nat × Nat)) (e : Ending) (w' : World) : Prop :=
  w.grownBy w' (some R) ∧ (match r with
    | some (n, k) => e = .returned (.int .u64 n) ∧ RD w' R a cap bs (pos + k) pos 0
    | none => e = .returned (.int .u64 0) ∧ RD w' R a cap bs pos pos 3)
set_option maxRecDepth 100000 in
theorem readU_any (R : Nat) (a : Option Addr) (cap : Nat) (bs : List Nat) (pos last : Nat) (w : World) (h : RD w R a cap bs pos last 0) (hb : ∀ x ∈ bs, x < 256) :
    Calls Try.prog 46 #[.pointer (some ⟨R, 0, none⟩), .func (Fn.func 47) #[.pointer (some ⟨R, 0, none⟩)] #[]] w (UintPost R a cap bs pos w (En.num (bs.drop pos))) := by
  have hR := h.lt
  have c1 := h.c1
  have c3 := h.c3
  have z2 := h.fz 2
  have hRB : ¬ R = w.heap.size := by omega
  have hmf : ∀ (fn : Fn) (first cap : Array Value) (w : World), (Instr.makeFunc fn first cap).run Try.prog w = .ok (.func fn first cap) w := fun _ _ _ _ => rfl
  have hA : RD (w.alloc (.cells #[.pointer (some ⟨R, 0, none⟩)] 30)) R a cap bs pos last 0 := h.alloc _
  have hW : RD ((w.alloc (.cells #[.pointer (some ⟨R, 0, none⟩)] 30)).setCell ⟨R, 2, none⟩ (.int .i64 pos)).drew R a cap bs pos pos 0 := (hA.setLast pos rfl h.le).drewN (m := 1)
  have hG : w.grownBy ((w.alloc (.cells #[.pointer (some ⟨R, 0, none⟩)] 30)).setCell ⟨R, 2, none⟩ (.int .i64 pos)).drew (some R) := g_drewN (g_set (g_alloc (g_refl _ _) _)) 1
  have hbox : ((w.alloc (.cells #[.pointer (some ⟨R, 0, none⟩)] 30)).setCell ⟨R, 2, none⟩ (.int .i64 pos)).drew.cell? ⟨w.heap.size, 0, none⟩ = some (.pointer (some ⟨R, 0, none⟩)) := by
    show ((w.alloc (.cells #[.pointer (some ⟨R, 0, none⟩)] 30)).setCell ⟨R, 2, none⟩ (.int .i64 pos)).cell? ⟨w.heap.size, 0, none⟩ = _
    rw [cell_of_row _ _ _ #[.pointer (some ⟨R, 0, none⟩)] 30 (0, 0) (by rw [heap_setCell_other _ _ _ _ (fun e => hRB e.symm)]; exact heap_alloc_new _ _)]
    rfl
  have hAbox : (w.alloc (.cells #[.pointer (some ⟨R, 0, none⟩)] 30)).cell? ⟨w.heap.size, 0, none⟩ = some (.pointer (some ⟨R, 0, none⟩)) := by
    rw [cell_of_row _ _ _ _ _ _ (heap_alloc_new _ _)]; rfl
  have hne : ∀ x, w.heap.size = x → ¬ R = x := fun x e => e ▸ hRB
  cases hn : En.num (bs.drop pos) with
  | none =>
    have hn2 := hidIt hn
    clear hn
    go_enter_defers Try.func46, Try.ntmps46
    go_wp2_with (fail)
    generalize w.alloc (.cells #[.pointer (some ⟨R, 0, none⟩)] 30) = A at *
    have W1 := hidIt hW
    have W2 := hidIt hG
    have W3 := hidIt hbox
    clear hW hG hbox c1 c3 z2
    have a1 := hA.c1
    have a2 := hA.c2
    have az := hA.fz 2
    go_still_tail 7, (by kernel_rfl)
    change wpList _ _ _ _ _ A.drew
    go_wp2_with (fail)
    generalize (A.setCell ⟨R, 2, none⟩ (.int .i64 pos)).drew = W at *
    clear hA hAbox a1 a2 az
    generalize w.heap.size = B at *
    have W4 : W.cell? ⟨B, 0, none⟩ = some (.pointer (some ⟨R, 0, none⟩)) := W3.out
    go_region_held3 (fun w' => w'.cell? ⟨B, 0, none⟩ = some (.pointer (some ⟨R, 0, none⟩)))
      (first
        | go_keep
        | assumption)
      (first
        | (go_at_call 47; refine (number_none R a cap bs pos pos _ (W1.out.drewN (m := 1)) hb hn2.out).mono ?_; rintro e w2 ⟨p, rfl, hrd2, hg2⟩; have hbox2 := hg2.cell (a := ⟨B, 0, none⟩) W4 (fun e => hRB (by cases e; rfl)); have k3 := hrd2.c3; have kz := hrd2.fz 3))
    go_wp2_with (fail)
    have hx := hrd2.setErr 3 (v := .int .i64 3) rfl
    refine leaves_cons (f := 66) (args := #[.pointer (some ⟨B, 0, none⟩)]) (by simp) (by simp [go_sem]) ?_
    refine (backU_err B R pos p _ _ (by assumption) hx.c3 hx.c2 hx.c1 (hx.fz 1)).mono ?_
    rintro e u' w3 ⟨rfl, rfl, rfl⟩
    exact ⟨_, results_tmp rfl _ _ _, g_trans W2.out (g_drewN (g_set (g_set (g_trans (g_drewN (g_refl _ _) 1) hg2))) 1), rfl, (hx.setPos pos rfl h.le).drewN (m := 1)⟩
  | some r =>
    obtain ⟨n, k⟩ := r
    have hn2 := hidIt hn
    clear hn
    go_enter_defers Try.func46, Try.ntmps46
    go_wp2_with (fail)
    generalize w.alloc (.cells #[.pointer (some ⟨R, 0, none⟩)] 30) = A at *
    have W1 := hidIt hW
    have W2 := hidIt hG
    have W3 := hidIt hbox
    clear hW hG hbox c1 c3 z2
    have a1 := hA.c1
    have a2 := hA.c2
    have az := hA.fz 2
    go_still_tail 7, (by kernel_rfl)
    change wpList _ _ _ _ _ A.drew
    go_wp2_with (fail)
    generalize (A.setCell ⟨R, 2, none⟩ (.int .i64 pos)).drew = W at *
    clear hA hAbox a1 a2 az
    generalize w.heap.size = B at *
    have W4 : W.cell? ⟨B, 0, none⟩ = some (.pointer (some ⟨R, 0, none⟩)) := W3.out
    go_region_held3 (fun w' => w'.cell? ⟨B, 0, none⟩ = some (.pointer (some ⟨R, 0, none⟩)))
      (first
        | go_keep
        | assumption)
      (first
        | (go_at_call 47; refine (number_some R a cap bs pos pos n k _ (W1.out.drewN (m := 1)) hb hn2.out).mono ?_; rintro e w2 ⟨rfl, hrd2, hg2⟩; have hbox2 := hg2.cell (a := ⟨B, 0, none⟩) W4 (fun e => hRB (by cases e; rfl)); have k3 := hrd2.c3; have kz := hrd2.fz 3))
    go_wp2_with (fail)
    have hx := hrd2.setErr 0 (v := .int .i64 0) rfl
    refine leaves_cons (f := 66) (args := #[.pointer (some ⟨B, 0, none⟩)]) (by simp) (by simp [go_sem]) ?_
    refine (backU_keep B R _ _ (by assumption) hx.c3).mono ?_
    rintro e u' w3 ⟨rfl, rfl, rfl⟩
    exact ⟨_, results_tmp rfl _ _ _, g_trans W2.out (g_set (g_trans (g_drewN (g_refl _ _) 1) hg2)), rfl, hx⟩
end Go.Proofs.Ytfdbdhknamkipaa
