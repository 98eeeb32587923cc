import Derived.Test.YtfdbdhknamkipaaText
namespace Go.Proofs.Ytfdbdhknamkipaa
open Go.RowKit
/-- where the 32 bytes of a sum begin -/
def sumAt (bs : List Nat) (pos : Nat) : Sum Nat (Nat × Nat) := if bs.length - pos < 32 then .inl 3 else .inr (pos, 32)
theorem sumAt_short {bs : List Nat} {pos er : Nat} (h : sumAt bs pos = .inl er) : bs.length - pos < 32 ∧ er = 3 := by
  unfold sumAt at h; split at h
  · simp at h; exact ⟨by assumption, h.symm⟩
  · cases h
theorem sumAt_ok {bs : List Nat} {pos at' n : Nat} (h : sumAt bs pos = .inr (at', n)) : at' = pos ∧ 32 ≤ bs.length - pos ∧ n = 32 := by
  unfold sumAt at h; split at h
  · cases h
  · simp at h; exact ⟨h.1.symm, by omega, h.2.symm⟩
theorem sumAt_err {bs : List Nat} {pos er : Nat} (h : sumAt bs pos = .inl er) : er = 2 ∨ er = 3 := .inr (sumAt_short h).2
theorem sumDec_err (B0 R : Nat) (a : Option Addr) (cap : Nat) (bs : List Nat) (pos last er : Nat) (w : World) (h0 : w.cell? ⟨B0, 0, none⟩ = some (.pointer (some ⟨R, 0, none⟩))) (h : RD w R a cap bs pos last 0) (hn : sumAt bs pos = .inl er) :
    Calls Try.prog 57 #[.pointer (some ⟨B0, 0, none⟩)] w fun e w' => ∃ p, e = .returned (.tuple #[.string ByteArray.empty, .int .i64 er]) ∧ RD w' R a cap bs p last 0 ∧ w.grownBy w' (some R) := by
  obtain rfl := (sumAt_short hn).2
  go_enter Try.func57, Try.ntmps57
  go_wp2_with (fail)
  refine (next_short R a cap bs pos last 0 32 _ h (sumAt_short hn).1).mono ?_
  rintro e w1 ⟨rfl, m, rfl⟩
  have hr := h.drewN (m := m)
  have hg := g_drewN (g_refl w (some R)) m
  generalize w.drewN m = w1 at *
  have hq := conv_str w1 none 0 0 [] rfl (fun i hi => by simp at hi)
  go_wp2_with (fail)
  go_ret2
  exact ⟨_, rfl, hr, hg⟩
theorem sumDec_ok (B0 R : Nat) (a : Option Addr) (cap : Nat) (bs : List Nat) (pos last at' n : Nat) (w : World) (h0 : w.cell? ⟨B0, 0, none⟩ = some (.pointer (some ⟨R, 0, none⟩))) (h : RD w R a cap bs pos last 0) (hn : sumAt bs pos = .inr (at', n)) :
    Calls Try.prog 57 #[.pointer (some ⟨B0, 0, none⟩)] w fun e w' => e = .returned (.tuple #[.string (str ((bs.drop at').take n)), .int .i64 0]) ∧ RD w' R a cap bs (at' + n) last 0 ∧ w.grownBy w' (some R) := by
  obtain ⟨rfl, _, rfl⟩ := sumAt_ok hn
  have hok := (sumAt_ok hn).2.1
  have hlen : ((bs.drop at').take 32).length = 32 := by simp; omega
  go_enter Try.func57, Try.ntmps57
  go_wp2_with (fail)
  refine (next_ok R a cap bs at' last 0 32 _ h (sumAt_ok hn).2.1).mono ?_
  rintro e w1 ⟨a', c', rfl, hby, hr, hg⟩
  have hq := conv_str w1 a' 32 c' _ hlen.symm hby
  generalize hsv : str ((bs.drop at').take 32) = sv at *
  have hsv2 := hidIt hsv
  clear hsv
  go_wp2_with (fail)
  go_ret2
  exact ⟨by rw [hsv2.out]; rfl, hr, hg⟩
/-- what Sum returns -/
def SumPost (R : Nat) (a : Option Addr) (cap : Nat) (bs : List Nat) (pos : Nat) (w : World) (r : Sum Nat (Nat × Nat)) (e : Ending) (w' : World) : Prop :=
  w.grownBy w' (some R) ∧ (match r with
    | .inr (at', n) => e = .returned (.string (str ((bs.drop at').take n))) ∧ RD w' R a cap bs (at' + n) pos 0
    | .inl er => e = .returned (.string ByteArray.empty) ∧ RD w' R a cap bs pos pos er)
set_option maxRecDepth 100000 in
theorem readSum_any (B0 R : Nat) (a : Option Addr) (cap : Nat) (bs : List Nat) (pos last : Nat) (w : World) (q0 : w.cell? ⟨B0, 0, none⟩ = some (.pointer (some ⟨R, 0, none⟩))) (n0 : B0 ≠ R) (h : RD w R a cap bs pos last 0) :
    Calls Try.prog 55 #[.pointer (some ⟨R, 0, none⟩), .func (Fn.func 57) #[] #[.pointer (some ⟨B0, 0, none⟩)]] w (SumPost R a cap bs pos w (sumAt bs pos)) := by
  have hR := h.lt
  have c1 := h.c1
  have c3 := h.c3
  have z2 := h.fz 2
  have hRB : ¬ R = w.heap.size := by omega
  have hmf : ∀ (fn : Fn) (first cap : Array Value) (w : World), (Instr.makeFunc fn first cap).run Try.prog w = .ok (.func fn first cap) w := fun _ _ _ _ => rfl
  have hA : RD (w.alloc (.cells #[.pointer (some ⟨R, 0, none⟩)] 30)) R a cap bs pos last 0 := h.alloc _
  have hW : RD ((w.alloc (.cells #[.pointer (some ⟨R, 0, none⟩)] 30)).setCell ⟨R, 2, none⟩ (.int .i64 pos)).drew R a cap bs pos pos 0 := (hA.setLast pos rfl h.le).drewN (m := 1)
  have hG : w.grownBy ((w.alloc (.cells #[.pointer (some ⟨R, 0, none⟩)] 30)).setCell ⟨R, 2, none⟩ (.int .i64 pos)).drew (some R) := g_drewN (g_set (g_alloc (g_refl _ _) _)) 1
  have hbox : ((w.alloc (.cells #[.pointer (some ⟨R, 0, none⟩)] 30)).setCell ⟨R, 2, none⟩ (.int .i64 pos)).drew.cell? ⟨w.heap.size, 0, none⟩ = some (.pointer (some ⟨R, 0, none⟩)) := by
    show ((w.alloc (.cells #[.pointer (some ⟨R, 0, none⟩)] 30)).setCell ⟨R, 2, none⟩ (.int .i64 pos)).cell? ⟨w.heap.size, 0, none⟩ = _
    rw [cell_of_row _ _ _ #[.pointer (some ⟨R, 0, none⟩)] 30 (0, 0) (by rw [heap_setCell_other _ _ _ _ (fun e => hRB e.symm)]; exact heap_alloc_new _ _)]
    rfl
  have hAbox : (w.alloc (.cells #[.pointer (some ⟨R, 0, none⟩)] 30)).cell? ⟨w.heap.size, 0, none⟩ = some (.pointer (some ⟨R, 0, none⟩)) := by
    rw [cell_of_row _ _ _ _ _ _ (heap_alloc_new _ _)]; rfl
  have hne : ∀ x, w.heap.size = x → ¬ R = x := fun x e => e ▸ hRB
  have Q0 := hidIt (hG.cell q0 (fun e => n0 (Option.some.inj e)))
  clear q0
  cases hn : sumAt bs pos with
  | inl er =>
    have her := hidIt (sumAt_err hn)
    have hn2 := hidIt hn
    clear hn
    go_enter_defers Try.func55, Try.ntmps55
    go_wp2_with (fail)
    generalize w.alloc (.cells #[.pointer (some ⟨R, 0, none⟩)] 30) = A at *
    have W1 := hidIt hW
    have W2 := hidIt hG
    have W3 := hidIt hbox
    clear hW hG hbox c1 c3 z2
    have a1 := hA.c1
    have a2 := hA.c2
    have az := hA.fz 2
    go_still_tail 7, (by kernel_rfl)
    change wpList _ _ _ _ _ A.drew
    go_wp2_with (fail)
    generalize (A.setCell ⟨R, 2, none⟩ (.int .i64 pos)).drew = W at *
    clear hA hAbox a1 a2 az
    generalize w.heap.size = B at *
    have W4 : W.cell? ⟨B, 0, none⟩ = some (.pointer (some ⟨R, 0, none⟩)) := W3.out
    go_region_held3 (fun w' => w'.cell? ⟨B, 0, none⟩ = some (.pointer (some ⟨R, 0, none⟩)))
      (first
        | go_keep
        | assumption)
      (first
        | (go_at_call 57; refine (sumDec_err B0 R a cap bs pos pos er (W.drewN 1) Q0.out (W1.out.drewN (m := 1)) hn2.out).mono ?_; rintro e w2 ⟨p, rfl, hrd2, hg2⟩; have hbox2 := hg2.cell (a := ⟨B, 0, none⟩) W4 (fun e => hRB (by cases e; rfl)); have k3 := hrd2.c3; have kz := hrd2.fz 3))
    go_wp2_with (fail)
    have hx := hrd2.setErr er (v := .int .i64 er) rfl
    refine leaves_cons (f := 69) (args := #[.pointer (some ⟨B, 0, none⟩)]) (by simp) (by simp [go_sem]) ?_
    refine (backT_err B R er her.out pos p _ _ (by assumption) hx.c3 hx.c2 hx.c1 (hx.fz 1)).mono ?_
    rintro e u' w3 ⟨rfl, rfl, rfl⟩
    exact ⟨_, results_tmp rfl _ _ _, g_trans W2.out (g_drewN (g_set (g_set (g_trans (g_drewN (g_refl _ _) 1) hg2))) 1), rfl, (hx.setPos pos rfl h.le).drewN (m := 1)⟩
  | inr r =>
    obtain ⟨at', n⟩ := r
    have hok := hidIt (sumAt_ok hn)
    have hn2 := hidIt hn
    clear hn
    go_enter_defers Try.func55, Try.ntmps55
    go_wp2_with (fail)
    generalize w.alloc (.cells #[.pointer (some ⟨R, 0, none⟩)] 30) = A at *
    have W1 := hidIt hW
    have W2 := hidIt hG
    have W3 := hidIt hbox
    clear hW hG hbox c1 c3 z2
    have a1 := hA.c1
    have a2 := hA.c2
    have az := hA.fz 2
    go_still_tail 7, (by kernel_rfl)
    change wpList _ _ _ _ _ A.drew
    go_wp2_with (fail)
    generalize (A.setCell ⟨R, 2, none⟩ (.int .i64 pos)).drew = W at *
    clear hA hAbox a1 a2 az
    generalize w.heap.size = B at *
    have W4 : W.cell? ⟨B, 0, none⟩ = some (.pointer (some ⟨R, 0, none⟩)) := W3.out
    go_region_held3 (fun w' => w'.cell? ⟨B, 0, none⟩ = some (.pointer (some ⟨R, 0, none⟩)))
      (first
        | go_keep
        | assumption)
      (first
        | (go_at_call 57; refine (sumDec_ok B0 R a cap bs pos pos at' n (W.drewN 1) Q0.out (W1.out.drewN (m := 1)) hn2.out).mono ?_; rintro e w2 ⟨rfl, hrd2, hg2⟩; have hbox2 := hg2.cell (a := ⟨B, 0, none⟩) W4 (fun e => hRB (by cases e; rfl)); have k3 := hrd2.c3; have kz := hrd2.fz 3))
    go_wp2_with (fail)
    have hx := hrd2.setErr 0 (v := .int .i64 0) rfl
    refine leaves_cons (f := 69) (args := #[.pointer (some ⟨B, 0, none⟩)]) (by simp) (by simp [go_sem]) ?_
    refine (backT_keep B R _ _ (by assumption) hx.c3).mono ?_
    rintro e u' w3 ⟨rfl, rfl, rfl⟩
    exact ⟨_, results_tmp rfl _ _ _, g_trans W2.out (g_set (g_trans (g_drewN (g_refl _ _) 1) hg2)), rfl, hx⟩
/-- the method Sum of the reader -/
theorem rSum_any (R : Nat) (a : Option Addr) (cap : Nat) (bs : List Nat) (pos last : Nat) (w : World) (h : RD w R a cap bs pos last 0) :
    Calls Try.prog 37 #[.pointer (some ⟨R, 0, none⟩)] w (SumPost R a cap bs pos w (sumAt bs pos)) := by
  have hR := h.lt
  have hmf : ∀ (fn : Fn) (first cap : Array Value) (w : World), (Instr.makeFunc fn first cap).run Try.prog w = .ok (.func fn first cap) w := fun _ _ _ _ => rfl
  have hA : RD (w.alloc (.cells #[.pointer (some ⟨R, 0, none⟩)] 30)) R a cap bs pos last 0 := h.alloc _
  have hG : w.grownBy (w.alloc (.cells #[.pointer (some ⟨R, 0, none⟩)] 30)) (some R) := g_alloc (g_refl _ _) _
  have q0 : (w.alloc (.cells #[.pointer (some ⟨R, 0, none⟩)] 30)).cell? ⟨w.heap.size, 0, none⟩ = some (.pointer (some ⟨R, 0, none⟩)) := by simp
  have hr := readSum_any w.heap.size R a cap bs pos last _ q0 (by omega) hA
  have hG2 := hidIt hG
  clear hG q0 hA
  cases hn : sumAt bs pos with
  | inl er =>
    rw [hn] at hr
    have hr2 := hidIt hr
    clear hr hn
    go_enter Try.func37, Try.ntmps37
    go_wp2_with (fail)
    refine hr2.out.mono ?_
    rintro e w1 ⟨hg, rfl, hrd⟩
    go_wp2_with (fail)
    go_ret
    exact ⟨g_trans hG2.out hg, rfl, hrd⟩
  | inr r =>
    obtain ⟨at', n⟩ := r
    rw [hn] at hr
    have hr2 := hidIt hr
    clear hr hn
    go_enter Try.func37, Try.ntmps37
    go_wp2_with (fail)
    refine hr2.out.mono ?_
    rintro e w1 ⟨hg, rfl, hrd⟩
    go_wp2_with (fail)
    go_ret
    exact ⟨g_trans hG2.out hg, rfl, hrd⟩
end Go.Proofs.Ytfdbdhknamkipaa
