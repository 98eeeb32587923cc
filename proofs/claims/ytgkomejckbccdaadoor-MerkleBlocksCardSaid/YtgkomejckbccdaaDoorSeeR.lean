import Derived.Test.YtgkomejckbccdaaDoorSee
namespace Go.Proofs.YtgkomejckbccdaaDoor
open Go.RowKit
set_option maxRecDepth 100000 in
theorem refsee_any (z : ByteArray) (n size b : Int) (aX aP : Option Addr) (lx cx lp cp : Nat) (xs : List Nat) (P : List ByteArray) (v : Bool) (hv : Hid (seeB z n size b xs P = v)) (hSm : Sr P) (hlp : lp ≤ 1000000000) (hlx : xs.length ≤ 1000) (bn : Hid (-9223372036854775808 ≤ n ∧ n ≤ 9223372036854775807)) (bs : Hid (-9223372036854775808 ≤ size ∧ size ≤ 9223372036854775807)) (bb : Hid (-9223372036854775808 ≤ b ∧ b ≤ 9223372036854775807)) (w : World) (hL : Laid w) (hX : Hid (RowB w aX lx cx xs)) (hP : Hid (RdS w aP lp cp P)) :
    Calls Tryd.prog 48 #[.string z, .int .i64 n, .int .i64 size, .int .i64 b, .slice aX lx cx, .slice aP lp cp] w fun e w' => e = .returned (.bool v) ∧ Below w.heap.size w w' := by
  have hbn := bn.out
  have hbs := bs.out
  by_cases hn1 : n < 1
  · have hv2 : v = false := by rw [← hv.out, seeB, if_neg (by omega)]
    subst hv2
    clear hP hX
    go_enter Tryd.func48, Tryd.ntmps48
    go_wp2_with (fail)
    go_ret
    exact ⟨rfl, Below.refl _ _⟩
  by_cases hs1 : size < 1
  · have hv2 : v = false := by rw [← hv.out, seeB, if_neg (by omega)]
    subst hv2
    clear hP hX
    go_enter Tryd.func48, Tryd.ntmps48
    go_wp2_with (fail)
    go_ret
    exact ⟨rfl, Below.refl _ _⟩
  obtain ⟨n', rfl⟩ := Int.eq_ofNat_of_zero_le (show 0 ≤ n by omega)
  obtain ⟨s', rfl⟩ := Int.eq_ofNat_of_zero_le (show 0 ≤ size by omega)
  have n1 : Hid (1 ≤ n') := by show _ ≤ _; omega
  have s1 : Hid (1 ≤ s') := by show _ ≤ _; omega
  have nb : Hid (n' < 9223372036854775808) := by show _ < _; omega
  have sb : Hid (s' < 9223372036854775808) := by show _ < _; omega
  have g1 : decide ((n' : Int) < 1) = false := by rw [decide_eq_false_iff_not]; exact hn1
  have g2 : ((s' : Int) == 0) = false := by simp; omega
  have g3 : ¬ (n' : Int) < 1 := hn1
  have g4 : ¬ (s' : Int) < 1 := hs1
  have g5 : ¬ (s' : Int) = 0 := by omega
  have g6 : ¬ s' = 0 := by omega
  obtain ⟨m, hm⟩ : ∃ m, Hid (n' - 1 = m) := ⟨_, rfl⟩
  obtain ⟨q, hq⟩ : ∃ q, Hid (m / s' = q) := ⟨_, rfl⟩
  have qm : Hid (q ≤ m) := by show _ ≤ _; rw [← hq.out]; exact Nat.div_le_self _ _
  have e1 : (n' : Int) - 1 = (m : Int) := by have := hm.out; omega
  have e1' : IntKind.i64.wrap (m : Int) = (m : Int) := by have := hm.out; exact IntWalk.i64_in _ (by omega)
  have e2 : (m : Int).tdiv (s' : Int) = (q : Int) := by rw [← hq.out]; simp
  have e3 : (m : Int) / (s' : Int) = (q : Int) := by rw [← hq.out]; simp
  have e2' : IntKind.i64.wrap (q : Int) = (q : Int) := by have := hm.out; have := qm.out; exact IntWalk.i64_in _ (by omega)
  have e4 : (q : Int) + 1 = ((q + 1 : Nat) : Int) := by omega
  by_cases hb0 : b < 0
  · have hv2 : v = false := by rw [← hv.out, seeB, if_neg (by omega)]
    subst hv2
    clear hP hX e4
    go_enter Tryd.func48, Tryd.ntmps48
    go_wp2_with (fail)
    go_ret
    exact ⟨rfl, Below.refl _ _⟩
  obtain ⟨b', rfl⟩ := Int.eq_ofNat_of_zero_le (show 0 ≤ b by omega)
  have hv2 := hv.out
  unfold seeB at hv2
  rw [Int.toNat_natCast, Int.toNat_natCast, Int.toNat_natCast, hm.out, hq.out] at hv2
  clear hv
  have h0b : ¬ (b' : Int) < 0 := hb0
  have h0d : decide ((b' : Int) < 0) = false := by rw [decide_eq_false_iff_not]; exact hb0
  obtain ⟨q1, hq1⟩ : ∃ q1, Hid (q + 1 = q1) := ⟨_, rfl⟩
  have e5 : (q : Int) + 1 = (q1 : Int) := by have := hq1.out; omega
  have e5' : IntKind.i64.wrap (q1 : Int) = (q1 : Int) := by have := hm.out; have := qm.out; have := hq1.out; exact IntWalk.i64_in _ (by omega)
  clear e4
  by_cases hbq : q < b'
  · have hv3 : v = false := by rw [← hv2, if_neg (by omega)]
    subst hv3
    have h1b : (q : Int) < (b' : Int) := by omega
    clear hP hX hv2 hbq
    go_enter Tryd.func48, Tryd.ntmps48
    go_wp2_with (fail)
    go_ret
    exact ⟨rfl, Below.refl _ _⟩
  obtain ⟨L, hLn⟩ : ∃ L, Hid (blen n' s' b' = L) := ⟨_, rfl⟩
  rw [hLn.out] at hv2
  have hbm : Hid (b' * s' ≤ n') := by
    show _ ≤ _
    have := block_in (n := n') (size := s') (b := b') (by rw [hm.out, hq.out]; omega)
    omega
  have h1c : ¬ (q : Int) < (b' : Int) := by omega
  have h1d : decide (q < b') = false := by rw [decide_eq_false_iff_not]; omega
  rw [hq1.out] at hv2
  have hlen : Hid (lx = xs.length) := hX.out.len
  obtain ⟨p, hp⟩ : ∃ p, Hid (b' * s' = p) := ⟨_, rfl⟩
  have p1 : (b' : Int) * (s' : Int) = (p : Int) := by rw [← hp.out]; simp
  have p1' : (s' : Int) * (b' : Int) = (p : Int) := by rw [Int.mul_comm]; exact p1
  have hpn : Hid (p ≤ n') := by show _ ≤ _; rw [← hp.out]; exact hbm.out
  have p2 : IntKind.i64.wrap (p : Int) = (p : Int) := by have := hpn.out; have := nb.out; exact IntWalk.i64_in _ (by omega)
  obtain ⟨rr, hr⟩ : ∃ r, Hid (n' - p = r) := ⟨_, rfl⟩
  have p3 : (n' : Int) - (p : Int) = (rr : Int) := by have := hr.out; have := hpn.out; omega
  have p4 : IntKind.i64.wrap (rr : Int) = (rr : Int) := by have := hr.out; have := nb.out; exact IntWalk.i64_in _ (by omega)
  have hLr : Hid (L = min s' rr) := by show _ = _; rw [← hLn.out]; unfold blen; rw [hp.out, hr.out]
  have hmin : min (s' : Int) (rr : Int) = (L : Int) := by have := hLr.out; omega
  have dL : Hid (∀ W, Below w.heap.size w W → Calls Tryd.prog 18 #[.slice aX lx cx] W fun e w' => e = .returned (.string (Mk.leaf xs)) ∧ Below W.heap.size W w') := fun W hW =>
    refleaf_any aX lx cx xs hlen hX.out.lt hlx W (hX.out.bytes.below hW) hX.out.nil
  have hB0 := Below.refl w.heap.size w
  by_cases hxl : xs.length = L
  · have hv3 : Hid (ver (Mk.leaf xs) (b' : Int) (q1 : Int) P z = v) := by show _ = _; rw [← hv2, if_pos (by have := n1.out; have := s1.out; omega)]
    have t6 : ((lx : Int) == (L : Int)) = true := by have := hlen.out; simp; omega
    have dV : Hid (∀ W, Below w.heap.size w W → Calls Tryd.prog 28 #[.string (Mk.leaf xs), .int .i64 (b' : Int), .int .i64 (q1 : Int), .slice aP lp cp, .string z] W fun e w' => e = .returned (.bool v) ∧ Below W.heap.size W w') := fun W hW =>
      refverify_any aP lp cp P (Mk.leaf xs) z (b' : Int) (q1 : Int) v hv3 hSm (by rw [Mk.leaf_size]; decide) hlp (by have := bb.out; omega) (by have := hm.out; have := qm.out; have := hq1.out; have := nb.out; omega) W (hL.below hW hL.two) (hP.out.below hW)
    obtain ⟨lf, hlf⟩ : ∃ z, Hid (Mk.leaf xs = z) := ⟨_, rfl⟩
    rw [hlf.out] at dL dV
    clear hv2 hv3 hX hP hxl hbq
    go_enter Tryd.func48, Tryd.ntmps48
    go_wp2_with (fail)
    go_region_held3 (fun W => Below w.heap.size w W)
      (first | assumption | exact Below.drew (by assumption) | exact below_then (by assumption) (by assumption))
      (first
        | (go_at_call 18; (with_reducible refine Calls.mono (dL.out _ ?_) ?_); (focus assumption); rintro e w7 ⟨rfl, hb7⟩)
        | (go_at_call 28; (with_reducible refine Calls.mono (dV.out _ ?_) ?_); (focus assumption); rintro e w8 ⟨rfl, hb8⟩))
    all_goals first
      | (exfalso; have := s1.out; omega)
      | (have hB8 : Hid (Below w.heap.size w w8) := by show Below _ _ _; assumption
         go_wp2
         go_ret
         exact ⟨rfl, hB8.out⟩)
  · have hv3 : v = false := by rw [← hv2, if_neg (by omega)]
    subst hv3
    have t6 : ((lx : Int) == (L : Int)) = false := by have := hlen.out; simp; omega
    clear hv2 hX hP dL hxl
    go_enter Tryd.func48, Tryd.ntmps48
    go_wp2_with (fail)
    go_quiet (fail)
    go_wp2_with (fail)
    go_ret
    exact ⟨rfl, below_drewN (Below.refl _ _) _⟩
end Go.Proofs.YtgkomejckbccdaaDoor
