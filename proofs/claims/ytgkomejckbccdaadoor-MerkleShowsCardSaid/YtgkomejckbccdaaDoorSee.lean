import Derived.Test.YtgkomejckbccdaaDoorLawA
import Derived.Test.YtgkomejckbccdaaDoorRefC
namespace Go.Proofs.YtgkomejckbccdaaDoor
open Go.RowKit
/-- the length of a block -/
def blen (n size b : Nat) : Nat := min size (n - b * size)
theorem blen_any (n size b : Nat) (hn : n < 9223372036854775808) (h : b * size ≤ n) (w : World) :
    Calls Tryd.prog 76 #[.int .i64 (n : Int), .int .i64 (size : Int), .int .i64 (b : Int)] w fun e w' => e = .returned (.int .i64 (blen n size b : Int)) ∧ w = w' := by
  obtain ⟨p, hp⟩ : ∃ p, Hid (b * size = p) := ⟨_, rfl⟩
  have e1 : (b : Int) * (size : Int) = (p : Int) := by rw [← hp.out]; simp
  have e1' : (size : Int) * (b : Int) = (p : Int) := by rw [Int.mul_comm]; exact e1
  have hpn : Hid (p ≤ n) := by show _ ≤ _; rw [← hp.out]; exact h
  have e2 : IntKind.i64.wrap (p : Int) = (p : Int) := by have := hpn.out; exact IntWalk.i64_in _ (by omega)
  obtain ⟨r, hr⟩ : ∃ r, Hid (n - p = r) := ⟨_, rfl⟩
  have e3 : (n : Int) - (p : Int) = (r : Int) := by have := hr.out; have := hpn.out; omega
  have e4 : IntKind.i64.wrap (r : Int) = (r : Int) := by have := hr.out; exact IntWalk.i64_in _ (by omega)
  have hres : Hid (blen n size b = min size r) := by show _ = _; unfold blen; rw [hp.out, hr.out]
  rw [hres.out]
  clear hres h
  by_cases hm : size ≤ r
  · have t1 : Hid (min size r = size) := by show _ = _; omega
    rw [t1.out]
    have t2 : (size : Int) ≤ (r : Int) := by omega
    have t3 : ¬ (r : Int) < (size : Int) := by omega
    go_enter Tryd.func76, Tryd.ntmps76
    go_wp2
    go_ret
    exact ⟨ret_int (by first | rfl | omega | (simp; omega) | (rw [e4]; omega)), rfl⟩
  · have t1 : Hid (min size r = r) := by show _ = _; omega
    rw [t1.out]
    have t2 : ¬ (size : Int) ≤ (r : Int) := by omega
    have t3 : (r : Int) < (size : Int) := by omega
    go_enter Tryd.func76, Tryd.ntmps76
    go_wp2
    go_ret
    exact ⟨ret_int (by first | rfl | omega | (simp; omega) | (rw [e4]; omega)), rfl⟩
/-- what See answers -/
def seeB (z : ByteArray) (n size b : Int) (xs : List Nat) (P : List ByteArray) : Bool :=
  if 1 ≤ n ∧ 1 ≤ size ∧ 0 ≤ b ∧ b.toNat ≤ (n.toNat - 1) / size.toNat ∧ xs.length = blen n.toNat size.toNat b.toNat then ver (Mk.leaf xs) b (((n.toNat - 1) / size.toNat + 1 : Nat) : Int) P z else false
theorem block_in {n size b : Nat} (h : b ≤ (n - 1) / size) : b * size ≤ n - 1 := Nat.le_trans (Nat.mul_le_mul_right size h) (Nat.div_mul_le_self _ _)
set_option maxRecDepth 100000 in
theorem see_any (z : ByteArray) (n size b : Int) (aX aP : Option Addr) (lx cx lp cp : Nat) (xs : List Nat) (P : List ByteArray) (v : Bool) (hv : Hid (seeB z n size b xs P = v)) (hSm : Sm P) (hlp : lp ≤ 1000000000) (hlx : xs.length ≤ 1000) (bn : Hid (-9223372036854775808 ≤ n ∧ n ≤ 9223372036854775807)) (bs : Hid (-9223372036854775808 ≤ size ∧ size ≤ 9223372036854775807)) (bb : Hid (-9223372036854775808 ≤ b ∧ b ≤ 9223372036854775807)) (w : World) (hL : Laid w) (hX : Hid (RowB w aX lx cx xs)) (hP : Hid (RdS w aP lp cp P)) :
    Calls Tryd.prog 47 #[.string z, .int .i64 n, .int .i64 size, .int .i64 b, .slice aX lx cx, .slice aP lp cp] w fun e w' => e = .returned (.bool v) ∧ Below w.heap.size w w' := by
  have hbn := bn.out
  have hbs := bs.out
  by_cases hn1 : n < 1
  · have hv2 : v = false := by rw [← hv.out, seeB, if_neg (by omega)]
    subst hv2
    clear hP hX
    go_enter Tryd.func47, Tryd.ntmps47
    go_wp2_with (fail)
    go_ret
    exact ⟨rfl, Below.refl _ _⟩
  by_cases hs1 : size < 1
  · have hv2 : v = false := by rw [← hv.out, seeB, if_neg (by omega)]
    subst hv2
    clear hP hX
    go_enter Tryd.func47, Tryd.ntmps47
    go_wp2_with (fail)
    go_ret
    exact ⟨rfl, Below.refl _ _⟩
  obtain ⟨n', rfl⟩ := Int.eq_ofNat_of_zero_le (show 0 ≤ n by omega)
  obtain ⟨s', rfl⟩ := Int.eq_ofNat_of_zero_le (show 0 ≤ size by omega)
  have n1 : Hid (1 ≤ n') := by show _ ≤ _; omega
  have s1 : Hid (1 ≤ s') := by show _ ≤ _; omega
  have nb : Hid (n' < 9223372036854775808) := by show _ < _; omega
  have sb : Hid (s' < 9223372036854775808) := by show _ < _; omega
  have g1 : decide ((n' : Int) < 1) = false := by rw [decide_eq_false_iff_not]; exact hn1
  have g2 : ((s' : Int) == 0) = false := by simp; omega
  have g3 : ¬ (n' : Int) < 1 := hn1
  have g4 : ¬ (s' : Int) < 1 := hs1
  have g5 : ¬ (s' : Int) = 0 := by omega
  have g6 : ¬ s' = 0 := by omega
  obtain ⟨m, hm⟩ : ∃ m, Hid (n' - 1 = m) := ⟨_, rfl⟩
  obtain ⟨q, hq⟩ : ∃ q, Hid (m / s' = q) := ⟨_, rfl⟩
  have qm : Hid (q ≤ m) := by show _ ≤ _; rw [← hq.out]; exact Nat.div_le_self _ _
  have e1 : (n' : Int) - 1 = (m : Int) := by have := hm.out; omega
  have e1' : IntKind.i64.wrap (m : Int) = (m : Int) := by have := hm.out; exact IntWalk.i64_in _ (by omega)
  have e2 : (m : Int).tdiv (s' : Int) = (q : Int) := by rw [← hq.out]; simp
  have e3 : (m : Int) / (s' : Int) = (q : Int) := by rw [← hq.out]; simp
  have e2' : IntKind.i64.wrap (q : Int) = (q : Int) := by have := hm.out; have := qm.out; exact IntWalk.i64_in _ (by omega)
  have e4 : (q : Int) + 1 = ((q + 1 : Nat) : Int) := by omega
  by_cases hb0 : b < 0
  · have hv2 : v = false := by rw [← hv.out, seeB, if_neg (by omega)]
    subst hv2
    clear hP hX e4
    go_enter Tryd.func47, Tryd.ntmps47
    go_wp2_with (fail)
    go_ret
    exact ⟨rfl, Below.refl _ _⟩
  obtain ⟨b', rfl⟩ := Int.eq_ofNat_of_zero_le (show 0 ≤ b by omega)
  have hv2 := hv.out
  unfold seeB at hv2
  rw [Int.toNat_natCast, Int.toNat_natCast, Int.toNat_natCast, hm.out, hq.out] at hv2
  clear hv
  have h0b : ¬ (b' : Int) < 0 := hb0
  have h0d : decide ((b' : Int) < 0) = false := by rw [decide_eq_false_iff_not]; exact hb0
  obtain ⟨q1, hq1⟩ : ∃ q1, Hid (q + 1 = q1) := ⟨_, rfl⟩
  have e5 : (q : Int) + 1 = (q1 : Int) := by have := hq1.out; omega
  have e5' : IntKind.i64.wrap (q1 : Int) = (q1 : Int) := by have := hm.out; have := qm.out; have := hq1.out; exact IntWalk.i64_in _ (by omega)
  clear e4
  by_cases hbq : q < b'
  · have hv3 : v = false := by rw [← hv2, if_neg (by omega)]
    subst hv3
    have h1b : (q1 : Int) ≤ (b' : Int) := by have := hq1.out; omega
    clear hP hX hv2 hbq
    go_enter Tryd.func47, Tryd.ntmps47
    go_wp2_with (fail)
    go_ret
    exact ⟨rfl, Below.refl _ _⟩
  obtain ⟨L, hLn⟩ : ∃ L, Hid (blen n' s' b' = L) := ⟨_, rfl⟩
  rw [hLn.out] at hv2
  have hbm : Hid (b' * s' ≤ n') := by
    show _ ≤ _
    have := block_in (n := n') (size := s') (b := b') (by rw [hm.out, hq.out]; omega)
    omega
  have h1c : ¬ (q1 : Int) ≤ (b' : Int) := by have := hq1.out; omega
  rw [hq1.out] at hv2
  have hlen : Hid (lx = xs.length) := hX.out.len
  clear hbq
  by_cases hxl : xs.length = L
  · have hv3 : Hid (ver (Mk.leaf xs) (b' : Int) (q1 : Int) P z = v) := by show _ = _; rw [← hv2, if_pos (by have := n1.out; have := s1.out; omega)]
    have t6 : ((lx : Int) != (L : Int)) = false := by have := hlen.out; simp; omega
    clear hv2
    go_enter Tryd.func47, Tryd.ntmps47
    go_wp2_with (fail)
    refine (blen_any n' s' b' nb.out hbm.out _).mono ?_
    rintro e w1 ⟨rfl, rfl⟩
    rw [hLn.out]
    go_wp2_with (fail)
    refine (leaf_any aX lx cx xs hlen.out hX.out.lt (by omega) hX.out.lecap _ hL hX.out.bytes).mono ?_
    rintro e w2 ⟨rfl, hb2⟩
    have B2 := hidIt hb2
    clear hb2
    go_wp2_with (fail)
    refine (verify_any aP lp cp P (Mk.leaf xs) z (b' : Int) (q1 : Int) v hv3 hSm (by rw [Mk.leaf_size]; decide) hlp (by have := bb.out; omega) (by have := hm.out; have := qm.out; have := hq1.out; have := nb.out; omega) _ (hL.below B2.out hL.two) (hP.out.below B2.out)).mono ?_
    rintro e w3 ⟨rfl, hb3⟩
    go_wp2_with (fail)
    go_ret
    exact ⟨rfl, below_then B2.out hb3⟩
  · have hv3 : v = false := by rw [← hv2, if_neg (by omega)]
    subst hv3
    have t6 : ((lx : Int) != (L : Int)) = true := by have := hlen.out; simp; omega
    clear hv2
    go_enter Tryd.func47, Tryd.ntmps47
    go_wp2_with (fail)
    refine (blen_any n' s' b' nb.out hbm.out _).mono ?_
    rintro e w1 ⟨rfl, rfl⟩
    rw [hLn.out]
    go_wp2_with (fail)
    go_ret
    exact ⟨rfl, Below.refl _ _⟩
end Go.Proofs.YtgkomejckbccdaaDoor
