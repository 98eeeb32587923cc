import Derived.Test.YtfdbdhknamkipaaMeas
import Derived.Defers
import Derived.StillTailTactics
namespace Go.Proofs.Ytfdbdhknamkipaa
open Go.RowKit
/-- the deferred closure of read: no error -/
theorem backS_keep (b R : Nat) (u : FrameMode) (w : World) (hc : w.cell? ⟨b, 0, none⟩ = some (.pointer (some ⟨R, 0, none⟩))) (h3 : w.cell? ⟨R, 3, none⟩ = some (.int .i64 0)) :
    CallsD Try.prog 68 #[.pointer (some ⟨b, 0, none⟩)] u w fun e u' w' => u' = u ∧ (e = .returned (.tuple #[]) ∧ w = w') := by
  go_enter_d Try.func68, Try.ntmps68
  go_wp2
  go_end0
  exact ⟨rfl, rfl⟩
/-- the deferred closure of read: an error -/
theorem backS_err (b R er : Nat) (her : er = 2 ∨ er = 3) (last pos : Int) (u : FrameMode) (w : World) (hc : w.cell? ⟨b, 0, none⟩ = some (.pointer (some ⟨R, 0, none⟩))) (h3 : w.cell? ⟨R, 3, none⟩ = some (.int .i64 er)) (h2 : w.cell? ⟨R, 2, none⟩ = some (.int .i64 last)) (h1 : w.cell? ⟨R, 1, none⟩ = some (.int .i64 pos)) (hz : w.frozen? ⟨R, 1, none⟩ = false) :
    CallsD Try.prog 68 #[.pointer (some ⟨b, 0, none⟩)] u w fun e u' w' => u' = u ∧ (e = .returned (.tuple #[]) ∧ w' = (w.setCell ⟨R, 1, none⟩ (.int .i64 last)).drew) := by
  rcases her with rfl | rfl
  all_goals
    go_enter_d Try.func68, Try.ntmps68
    go_wp2
    go_still_tail 7, (by kernel_rfl)
    change wpList _ _ _ _ _ w.drew
    go_wp2
    go_end0
    exact ⟨rfl, rfl⟩
theorem owns_ne {w : World} {base n R : Nat} {v : Value} {xs : List Value} (h : w.ownsRow base 5 1 v n xs) (hR : R < base) : v.ownBlock = none ∨ v.ownBlock ≠ some R := by
  have := h.lt
  cases hv : v.ownBlock with
  | none => exact .inl rfl
  | some q => right; intro e; have := (this q hv).1; simp at e; omega
theorem owns_weak {w : World} {base base' n : Nat} {v : Value} {xs : List Value} (h : w.ownsRow base 5 1 v n xs) (hb : base' ≤ base) : w.ownsRow base' 5 1 v n xs := by
  refine ⟨h.1, ?_⟩
  rcases h.2 with h0 | ⟨g, cap, cur, hv, hg, hr⟩
  · exact .inl h0
  · exact .inr ⟨g, cap, cur, hv, Nat.le_trans hb hg, hr⟩
/-- what Bytes returns -/
def BytesPost (R : Nat) (a : Option Addr) (cap : Nat) (bs : List Nat) (pos : Nat) (w : World) (r : Sum Nat (Nat × Nat)) (e : Ending) (w' : World) : Prop :=
  w.grownBy w' (some R) ∧ (match r with
    | .inr (at', n) => ∃ a' c', e = .returned (.slice a' n c') ∧ w'.ownsRow w.heap.size 5 1 (.slice a' n c') n (vals ((bs.drop at').take n)) ∧ RD w' R a cap bs (at' + n) pos 0
    | .inl er => e = .returned (.slice none 0 0) ∧ RD w' R a cap bs pos pos er)
set_option maxRecDepth 100000 in
theorem readS_any (B0 B1 R : Nat) (a : Option Addr) (cap : Nat) (bs : List Nat) (pos last : Nat) (most : Int) (hm1 : -9223372036854775808 ≤ most) (hm2 : most ≤ 9223372036854775807) (w : World) (q0 : w.cell? ⟨B0, 0, none⟩ = some (.pointer (some ⟨R, 0, none⟩))) (q1 : w.cell? ⟨B1, 0, none⟩ = some (.int .i64 most)) (n0 : B0 ≠ R) (n1 : B1 ≠ R) (hsz : bs.length ≤ 140737488355328) (h : RD w R a cap bs pos last 0) (hb : ∀ x ∈ bs, x < 256) :
    Calls Try.prog 52 #[.pointer (some ⟨R, 0, none⟩), .func (Fn.func 53) #[] #[.pointer (some ⟨B0, 0, none⟩), .pointer (some ⟨B1, 0, none⟩)]] w (BytesPost R a cap bs pos w (measure bs pos most)) := by
  have hR := h.lt
  have c1 := h.c1
  have c3 := h.c3
  have z2 := h.fz 2
  have hRB : ¬ R = w.heap.size := by omega
  have hmf : ∀ (fn : Fn) (first cap : Array Value) (w : World), (Instr.makeFunc fn first cap).run Try.prog w = .ok (.func fn first cap) w := fun _ _ _ _ => rfl
  have hA : RD (w.alloc (.cells #[.pointer (some ⟨R, 0, none⟩)] 30)) R a cap bs pos last 0 := h.alloc _
  have hW : RD ((w.alloc (.cells #[.pointer (some ⟨R, 0, none⟩)] 30)).setCell ⟨R, 2, none⟩ (.int .i64 pos)).drew R a cap bs pos pos 0 := (hA.setLast pos rfl h.le).drewN (m := 1)
  have hG : w.grownBy ((w.alloc (.cells #[.pointer (some ⟨R, 0, none⟩)] 30)).setCell ⟨R, 2, none⟩ (.int .i64 pos)).drew (some R) := g_drewN (g_set (g_alloc (g_refl _ _) _)) 1
  have hbox : ((w.alloc (.cells #[.pointer (some ⟨R, 0, none⟩)] 30)).setCell ⟨R, 2, none⟩ (.int .i64 pos)).drew.cell? ⟨w.heap.size, 0, none⟩ = some (.pointer (some ⟨R, 0, none⟩)) := by
    show ((w.alloc (.cells #[.pointer (some ⟨R, 0, none⟩)] 30)).setCell ⟨R, 2, none⟩ (.int .i64 pos)).cell? ⟨w.heap.size, 0, none⟩ = _
    rw [cell_of_row _ _ _ #[.pointer (some ⟨R, 0, none⟩)] 30 (0, 0) (by rw [heap_setCell_other _ _ _ _ (fun e => hRB e.symm)]; exact heap_alloc_new _ _)]
    rfl
  have hAbox : (w.alloc (.cells #[.pointer (some ⟨R, 0, none⟩)] 30)).cell? ⟨w.heap.size, 0, none⟩ = some (.pointer (some ⟨R, 0, none⟩)) := by
    rw [cell_of_row _ _ _ _ _ _ (heap_alloc_new _ _)]; rfl
  have hne : ∀ x, w.heap.size = x → ¬ R = x := fun x e => e ▸ hRB
  have Q0 := hidIt (hG.cell q0 (fun e => n0 (Option.some.inj e)))
  have Q1 := hidIt (hG.cell q1 (fun e => n1 (Option.some.inj e)))
  clear q0 q1
  cases hn : measure bs pos most with
  | inl er =>
    have her := hidIt (measure_err hn)
    have hn2 := hidIt hn
    clear hn
    go_enter_defers Try.func52, Try.ntmps52
    go_wp2_with (fail)
    generalize w.alloc (.cells #[.pointer (some ⟨R, 0, none⟩)] 30) = A at *
    have W1 := hidIt hW
    have W2 := hidIt hG
    have W3 := hidIt hbox
    clear hW hG hbox c1 c3 z2
    have a1 := hA.c1
    have a2 := hA.c2
    have az := hA.fz 2
    go_still_tail 7, (by kernel_rfl)
    change wpList _ _ _ _ _ A.drew
    go_wp2_with (fail)
    generalize (A.setCell ⟨R, 2, none⟩ (.int .i64 pos)).drew = W at *
    clear hA hAbox a1 a2 az
    generalize w.heap.size = B at *
    have W4 : W.cell? ⟨B, 0, none⟩ = some (.pointer (some ⟨R, 0, none⟩)) := W3.out
    go_region_held3 (fun w' => w'.cell? ⟨B, 0, none⟩ = some (.pointer (some ⟨R, 0, none⟩)))
      (first
        | go_keep
        | assumption)
      (first
        | (go_at_call 53; refine (bytesDec_err B0 B1 R a cap bs pos pos er most hm1 hm2 (W.drewN 1) Q0.out Q1.out (W1.out.drewN (m := 1)) hb hn2.out).mono ?_; rintro e w2 ⟨p, rfl, hrd2, hg2⟩; have hbox2 := hg2.cell (a := ⟨B, 0, none⟩) W4 (fun e => hRB (by cases e; rfl)); have k3 := hrd2.c3; have kz := hrd2.fz 3))
    go_wp2_with (fail)
    have hx := hrd2.setErr er (v := .int .i64 er) rfl
    refine leaves_cons (f := 68) (args := #[.pointer (some ⟨B, 0, none⟩)]) (by simp) (by simp [go_sem]) ?_
    refine (backS_err B R er her.out pos p _ _ (by assumption) hx.c3 hx.c2 hx.c1 (hx.fz 1)).mono ?_
    rintro e u' w3 ⟨rfl, rfl, rfl⟩
    exact ⟨_, results_tmp rfl _ _ _, g_trans W2.out (g_drewN (g_set (g_set (g_trans (g_drewN (g_refl _ _) 1) hg2))) 1), rfl, (hx.setPos pos rfl h.le).drewN (m := 1)⟩
  | inr r =>
    obtain ⟨at', n⟩ := r
    have hok := hidIt (measure_ok hn)
    have hn2 := hidIt hn
    clear hn
    go_enter_defers Try.func52, Try.ntmps52
    go_wp2_with (fail)
    generalize w.alloc (.cells #[.pointer (some ⟨R, 0, none⟩)] 30) = A at *
    have W1 := hidIt hW
    have W2 := hidIt hG
    have W3 := hidIt hbox
    clear hW hG hbox c1 c3 z2
    have a1 := hA.c1
    have a2 := hA.c2
    have az := hA.fz 2
    go_still_tail 7, (by kernel_rfl)
    change wpList _ _ _ _ _ A.drew
    go_wp2_with (fail)
    generalize (A.setCell ⟨R, 2, none⟩ (.int .i64 pos)).drew = W at *
    clear hA hAbox a1 a2 az
    generalize w.heap.size = B at *
    have W4 : W.cell? ⟨B, 0, none⟩ = some (.pointer (some ⟨R, 0, none⟩)) := W3.out
    go_region_held3 (fun w' => w'.cell? ⟨B, 0, none⟩ = some (.pointer (some ⟨R, 0, none⟩)))
      (first
        | go_keep
        | assumption)
      (first
        | (go_at_call 53; refine (bytesDec_ok B0 B1 R a cap bs pos pos at' n most hm1 hm2 (W.drewN 1) Q0.out Q1.out (W1.out.drewN (m := 1)) hb hsz hn2.out).mono ?_; rintro e w2 ⟨a', c', rfl, hown2, hrd2, hg2⟩; have hbox2 := hg2.cell (a := ⟨B, 0, none⟩) W4 (fun e => hRB (by cases e; rfl)); have k3 := hrd2.c3; have kz := hrd2.fz 3))
    go_wp2_with (fail)
    have hx := hrd2.setErr 0 (v := .int .i64 0) rfl
    refine leaves_cons (f := 68) (args := #[.pointer (some ⟨B, 0, none⟩)]) (by simp) (by simp [go_sem]) ?_
    refine (backS_keep B R _ _ (by assumption) hx.c3).mono ?_
    rintro e u' w3 ⟨rfl, rfl, rfl⟩
    have hRW := W1.out.lt
    have hown3 := hown2.kept (row := some R) (g_set (i := 3) (v := .int .i64 0) (g_refl w2 (some R))) (owns_ne hown2 (by show R < W.heap.size; exact hRW))
    have hown4 := owns_weak hown3 W2.out.size
    exact ⟨_, results_tmp rfl _ _ _, g_trans W2.out (g_set (g_trans (g_drewN (g_refl _ _) 1) hg2)), a', c', rfl, hown4, hx⟩
end Go.Proofs.Ytfdbdhknamkipaa
