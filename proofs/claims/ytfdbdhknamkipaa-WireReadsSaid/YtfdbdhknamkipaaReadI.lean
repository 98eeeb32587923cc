import Derived.Test.YtfdbdhknamkipaaLimit1
import Derived.Defers
import Derived.StillTailTactics
namespace Go.Proofs.Ytfdbdhknamkipaa
open Go.RowKit
/-- the deferred closure of read: no error -/
theorem backI_keep (b R : Nat) (u : FrameMode) (w : World) (hc : w.cell? ⟨b, 0, none⟩ = some (.pointer (some ⟨R, 0, none⟩))) (h3 : w.cell? ⟨R, 3, none⟩ = some (.int .i64 0)) :
    CallsD Try.prog 70 #[.pointer (some ⟨b, 0, none⟩)] u w fun e u' w' => u' = u ∧ (e = .returned (.tuple #[]) ∧ w = w') := by
  go_enter_d Try.func70, Try.ntmps70
  go_wp2
  go_end0
  exact ⟨rfl, rfl⟩
/-- the deferred closure of read: an error -/
theorem backI_err (b R er : Nat) (her : er = 2 ∨ er = 3) (last pos : Int) (u : FrameMode) (w : World) (hc : w.cell? ⟨b, 0, none⟩ = some (.pointer (some ⟨R, 0, none⟩))) (h3 : w.cell? ⟨R, 3, none⟩ = some (.int .i64 er)) (h2 : w.cell? ⟨R, 2, none⟩ = some (.int .i64 last)) (h1 : w.cell? ⟨R, 1, none⟩ = some (.int .i64 pos)) (hz : w.frozen? ⟨R, 1, none⟩ = false) :
    CallsD Try.prog 70 #[.pointer (some ⟨b, 0, none⟩)] u w fun e u' w' => u' = u ∧ (e = .returned (.tuple #[]) ∧ w' = (w.setCell ⟨R, 1, none⟩ (.int .i64 last)).drew) := by
  rcases her with rfl | rfl
  all_goals
    go_enter_d Try.func70, Try.ntmps70
    go_wp2
    go_still_tail 7, (by kernel_rfl)
    change wpList _ _ _ _ _ w.drew
    go_wp2
    go_end0
    exact ⟨rfl, rfl⟩
theorem countDec_err (B0 B1 R : Nat) (a : Option Addr) (cap : Nat) (bs : List Nat) (pos last er : Nat) (most : Int) (hm1 : -9223372036854775808 ≤ most) (hm2 : most ≤ 9223372036854775807) (w : World) (h0 : w.cell? ⟨B0, 0, none⟩ = some (.pointer (some ⟨R, 0, none⟩))) (h1 : w.cell? ⟨B1, 0, none⟩ = some (.int .i64 most)) (h : RD w R a cap bs pos last 0) (hb : ∀ x ∈ bs, x < 256) (hn : limit bs pos most = .inl er) :
    Calls Try.prog 60 #[.pointer (some ⟨B0, 0, none⟩), .pointer (some ⟨B1, 0, none⟩)] w fun e w' => ∃ p, e = .returned (.tuple #[.int .i64 0, .int .i64 er]) ∧ RD w' R a cap bs p last 0 ∧ w.grownBy w' (some R) := by
  go_enter Try.func60, Try.ntmps60
  go_wp2_with (fail)
  refine (limited_err R a cap bs pos last er most hm1 hm2 _ h hb hn).mono ?_
  rintro e w1 ⟨p, rfl, hr, hg⟩
  go_wp2_with (fail)
  go_ret2
  exact ⟨p, rfl, hr, hg⟩
theorem countDec_ok (B0 B1 R : Nat) (a : Option Addr) (cap : Nat) (bs : List Nat) (pos last n k : Nat) (most : Int) (hm1 : -9223372036854775808 ≤ most) (hm2 : most ≤ 9223372036854775807) (w : World) (h0 : w.cell? ⟨B0, 0, none⟩ = some (.pointer (some ⟨R, 0, none⟩))) (h1 : w.cell? ⟨B1, 0, none⟩ = some (.int .i64 most)) (h : RD w R a cap bs pos last 0) (hb : ∀ x ∈ bs, x < 256) (hn : limit bs pos most = .inr (n, k)) :
    Calls Try.prog 60 #[.pointer (some ⟨B0, 0, none⟩), .pointer (some ⟨B1, 0, none⟩)] w fun e w' => e = .returned (.tuple #[.int .i64 n, .int .i64 0]) ∧ RD w' R a cap bs (pos + k) last 0 ∧ w.grownBy w' (some R) := by
  go_enter Try.func60, Try.ntmps60
  go_wp2_with (fail)
  refine (limited_ok R a cap bs pos last n k most hm1 hm2 _ h hb hn).mono ?_
  rintro e w1 ⟨rfl, hr, hg⟩
  go_wp2_with (fail)
  go_ret2
  exact ⟨rfl, hr, hg⟩
/-- what Count returns -/
def CountPost (R : Nat) (a : Option Addr) (cap : Nat) (bs : List Nat) (pos : Nat) (w : World) (r : Sum Nat (Nat × Nat)) (e : Ending) (w' : World) : Prop :=
  w.grownBy w' (some R) ∧ (match r with
    | .inr (n, k) => e = .returned (.int .i64 n) ∧ RD w' R a cap bs (pos + k) pos 0
    | .inl er => e = .returned (.int .i64 0) ∧ RD w' R a cap bs pos pos er)
set_option maxRecDepth 100000 in
theorem readI_any (B0 B1 R : Nat) (a : Option Addr) (cap : Nat) (bs : List Nat) (pos last : Nat) (most : Int) (hm1 : -9223372036854775808 ≤ most) (hm2 : most ≤ 9223372036854775807) (w : World) (q0 : w.cell? ⟨B0, 0, none⟩ = some (.pointer (some ⟨R, 0, none⟩))) (q1 : w.cell? ⟨B1, 0, none⟩ = some (.int .i64 most)) (n0 : B0 ≠ R) (n1 : B1 ≠ R) (h : RD w R a cap bs pos last 0) (hb : ∀ x ∈ bs, x < 256) :
    Calls Try.prog 59 #[.pointer (some ⟨R, 0, none⟩), .func (Fn.func 60) #[] #[.pointer (some ⟨B0, 0, none⟩), .pointer (some ⟨B1, 0, none⟩)]] w (CountPost R a cap bs pos w (limit bs pos most)) := by
  have hR := h.lt
  have c1 := h.c1
  have c3 := h.c3
  have z2 := h.fz 2
  have hRB : ¬ R = w.heap.size := by omega
  have hmf : ∀ (fn : Fn) (first cap : Array Value) (w : World), (Instr.makeFunc fn first cap).run Try.prog w = .ok (.func fn first cap) w := fun _ _ _ _ => rfl
  have hA : RD (w.alloc (.cells #[.pointer (some ⟨R, 0, none⟩)] 30)) R a cap bs pos last 0 := h.alloc _
  have hW : RD ((w.alloc (.cells #[.pointer (some ⟨R, 0, none⟩)] 30)).setCell ⟨R, 2, none⟩ (.int .i64 pos)).drew R a cap bs pos pos 0 := (hA.setLast pos rfl h.le).drewN (m := 1)
  have hG : w.grownBy ((w.alloc (.cells #[.pointer (some ⟨R, 0, none⟩)] 30)).setCell ⟨R, 2, none⟩ (.int .i64 pos)).drew (some R) := g_drewN (g_set (g_alloc (g_refl _ _) _)) 1
  have hbox : ((w.alloc (.cells #[.pointer (some ⟨R, 0, none⟩)] 30)).setCell ⟨R, 2, none⟩ (.int .i64 pos)).drew.cell? ⟨w.heap.size, 0, none⟩ = some (.pointer (some ⟨R, 0, none⟩)) := by
    show ((w.alloc (.cells #[.pointer (some ⟨R, 0, none⟩)] 30)).setCell ⟨R, 2, none⟩ (.int .i64 pos)).cell? ⟨w.heap.size, 0, none⟩ = _
    rw [cell_of_row _ _ _ #[.pointer (some ⟨R, 0, none⟩)] 30 (0, 0) (by rw [heap_setCell_other _ _ _ _ (fun e => hRB e.symm)]; exact heap_alloc_new _ _)]
    rfl
  have hAbox : (w.alloc (.cells #[.pointer (some ⟨R, 0, none⟩)] 30)).cell? ⟨w.heap.size, 0, none⟩ = some (.pointer (some ⟨R, 0, none⟩)) := by
    rw [cell_of_row _ _ _ _ _ _ (heap_alloc_new _ _)]; rfl
  have hne : ∀ x, w.heap.size = x → ¬ R = x := fun x e => e ▸ hRB
  have Q0 := hidIt (hG.cell q0 (fun e => n0 (Option.some.inj e)))
  have Q1 := hidIt (hG.cell q1 (fun e => n1 (Option.some.inj e)))
  clear q0 q1
  cases hn : limit bs pos most with
  | inl er =>
    have her := hidIt (limit_err hn)
    have hn2 := hidIt hn
    clear hn
    go_enter_defers Try.func59, Try.ntmps59
    go_wp2_with (fail)
    generalize w.alloc (.cells #[.pointer (some ⟨R, 0, none⟩)] 30) = A at *
    have W1 := hidIt hW
    have W2 := hidIt hG
    have W3 := hidIt hbox
    clear hW hG hbox c1 c3 z2
    have a1 := hA.c1
    have a2 := hA.c2
    have az := hA.fz 2
    go_still_tail 7, (by kernel_rfl)
    change wpList _ _ _ _ _ A.drew
    go_wp2_with (fail)
    generalize (A.setCell ⟨R, 2, none⟩ (.int .i64 pos)).drew = W at *
    clear hA hAbox a1 a2 az
    generalize w.heap.size = B at *
    have W4 : W.cell? ⟨B, 0, none⟩ = some (.pointer (some ⟨R, 0, none⟩)) := W3.out
    go_region_held3 (fun w' => w'.cell? ⟨B, 0, none⟩ = some (.pointer (some ⟨R, 0, none⟩)))
      (first
        | go_keep
        | assumption)
      (first
        | (go_at_call 60; refine (countDec_err B0 B1 R a cap bs pos pos er most hm1 hm2 (W.drewN 1) Q0.out Q1.out (W1.out.drewN (m := 1)) hb hn2.out).mono ?_; rintro e w2 ⟨p, rfl, hrd2, hg2⟩; have hbox2 := hg2.cell (a := ⟨B, 0, none⟩) W4 (fun e => hRB (by cases e; rfl)); have k3 := hrd2.c3; have kz := hrd2.fz 3))
    go_wp2_with (fail)
    have hx := hrd2.setErr er (v := .int .i64 er) rfl
    refine leaves_cons (f := 70) (args := #[.pointer (some ⟨B, 0, none⟩)]) (by simp) (by simp [go_sem]) ?_
    refine (backI_err B R er her.out pos p _ _ (by assumption) hx.c3 hx.c2 hx.c1 (hx.fz 1)).mono ?_
    rintro e u' w3 ⟨rfl, rfl, rfl⟩
    exact ⟨_, results_tmp rfl _ _ _, g_trans W2.out (g_drewN (g_set (g_set (g_trans (g_drewN (g_refl _ _) 1) hg2))) 1), rfl, (hx.setPos pos rfl h.le).drewN (m := 1)⟩
  | inr r =>
    obtain ⟨n, k⟩ := r
    have hok := hidIt (limit_ok hn)
    have hn2 := hidIt hn
    clear hn
    go_enter_defers Try.func59, Try.ntmps59
    go_wp2_with (fail)
    generalize w.alloc (.cells #[.pointer (some ⟨R, 0, none⟩)] 30) = A at *
    have W1 := hidIt hW
    have W2 := hidIt hG
    have W3 := hidIt hbox
    clear hW hG hbox c1 c3 z2
    have a1 := hA.c1
    have a2 := hA.c2
    have az := hA.fz 2
    go_still_tail 7, (by kernel_rfl)
    change wpList _ _ _ _ _ A.drew
    go_wp2_with (fail)
    generalize (A.setCell ⟨R, 2, none⟩ (.int .i64 pos)).drew = W at *
    clear hA hAbox a1 a2 az
    generalize w.heap.size = B at *
    have W4 : W.cell? ⟨B, 0, none⟩ = some (.pointer (some ⟨R, 0, none⟩)) := W3.out
    go_region_held3 (fun w' => w'.cell? ⟨B, 0, none⟩ = some (.pointer (some ⟨R, 0, none⟩)))
      (first
        | go_keep
        | assumption)
      (first
        | (go_at_call 60; refine (countDec_ok B0 B1 R a cap bs pos pos n k most hm1 hm2 (W.drewN 1) Q0.out Q1.out (W1.out.drewN (m := 1)) hb hn2.out).mono ?_; rintro e w2 ⟨rfl, hrd2, hg2⟩; have hbox2 := hg2.cell (a := ⟨B, 0, none⟩) W4 (fun e => hRB (by cases e; rfl)); have k3 := hrd2.c3; have kz := hrd2.fz 3))
    go_wp2_with (fail)
    have hx := hrd2.setErr 0 (v := .int .i64 0) rfl
    refine leaves_cons (f := 70) (args := #[.pointer (some ⟨B, 0, none⟩)]) (by simp) (by simp [go_sem]) ?_
    refine (backI_keep B R _ _ (by assumption) hx.c3).mono ?_
    rintro e u' w3 ⟨rfl, rfl, rfl⟩
    exact ⟨_, results_tmp rfl _ _ _, g_trans W2.out (g_set (g_trans (g_drewN (g_refl _ _) 1) hg2)), rfl, hx⟩
/-- the method Count of the reader -/
theorem rCount_any (R : Nat) (a : Option Addr) (cap : Nat) (bs : List Nat) (pos last : Nat) (most : Int) (hm1 : -9223372036854775808 ≤ most) (hm2 : most ≤ 9223372036854775807) (w : World) (h : RD w R a cap bs pos last 0) (hb : ∀ x ∈ bs, x < 256) :
    Calls Try.prog 38 #[.pointer (some ⟨R, 0, none⟩), .int .i64 most] w (CountPost R a cap bs pos w (limit bs pos most)) := by
  have hR := h.lt
  have hmf : ∀ (fn : Fn) (first cap : Array Value) (w : World), (Instr.makeFunc fn first cap).run Try.prog w = .ok (.func fn first cap) w := fun _ _ _ _ => rfl
  have hA : RD ((w.alloc (.cells #[.pointer (some ⟨R, 0, none⟩)] 30)).alloc (.cells #[.int .i64 most] 3)) R a cap bs pos last 0 := (h.alloc _).alloc _
  have hG : w.grownBy ((w.alloc (.cells #[.pointer (some ⟨R, 0, none⟩)] 30)).alloc (.cells #[.int .i64 most] 3)) (some R) := g_alloc (g_alloc (g_refl _ _) _) _
  have q0 : ((w.alloc (.cells #[.pointer (some ⟨R, 0, none⟩)] 30)).alloc (.cells #[.int .i64 most] 3)).cell? ⟨w.heap.size, 0, none⟩ = some (.pointer (some ⟨R, 0, none⟩)) := by simp
  have q1 : ((w.alloc (.cells #[.pointer (some ⟨R, 0, none⟩)] 30)).alloc (.cells #[.int .i64 most] 3)).cell? ⟨w.heap.size + 1, 0, none⟩ = some (.int .i64 most) := by simp
  have hr := readI_any w.heap.size (w.heap.size + 1) R a cap bs pos last most hm1 hm2 _ q0 q1 (by omega) (by omega) hA hb
  have hG2 := hidIt hG
  clear hG q0 q1 hA
  cases hn : limit bs pos most with
  | inl er =>
    rw [hn] at hr
    have hr2 := hidIt hr
    clear hr hn
    go_enter Try.func38, Try.ntmps38
    go_wp2_with (fail)
    refine hr2.out.mono ?_
    rintro e w1 ⟨hg, rfl, hrd⟩
    go_wp2_with (fail)
    go_ret
    exact ⟨g_trans hG2.out hg, rfl, hrd⟩
  | inr r =>
    obtain ⟨n, k⟩ := r
    rw [hn] at hr
    have hr2 := hidIt hr
    clear hr hn
    go_enter Try.func38, Try.ntmps38
    go_wp2_with (fail)
    refine hr2.out.mono ?_
    rintro e w1 ⟨hg, rfl, hrd⟩
    go_wp2_with (fail)
    go_ret
    exact ⟨g_trans hG2.out hg, rfl, hrd⟩
end Go.Proofs.Ytfdbdhknamkipaa
