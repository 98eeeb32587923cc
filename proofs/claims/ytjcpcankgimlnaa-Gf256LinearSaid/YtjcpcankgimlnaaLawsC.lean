import Derived.Test.YtjcpcankgimlnaaRef
namespace Go.Proofs.Ytjcpcankgimlnaa
open Go.RowKit
theorem pow_at0 {a : Int} (x : Nat) (n : Int) (z : Int) (ha : a = x) (hx : x < 256) (h0 : x ≠ 0) (h : (Gf.zpw x n : Int) = z) (w : World) :
    Calls Try.prog 18 #[.int .u8 a, .int .i64 n] w fun e w' => e = .returned (.tuple #[.int .u8 z, .int .i64 0]) ∧ Below w.heap.size w w' := by
  by_cases hn : n = 0
  · subst hn
    refine (pow_zero_any a w).mono ?_
    rintro e w' ⟨rfl, rfl⟩
    refine ⟨?_, Below.refl _ _⟩
    rw [← h]
    unfold Gf.zpw
    rw [show Gf.res 0 = 0 by decide, Nat.mul_zero]
    rfl
  · exact pow_at x n z ha hx h0 hn h w
theorem below_then {B : Nat} {w w1 w2 : World} (h : Below B w w1) (k : Below w1.heap.size w1 w2) (hB : B ≤ w.heap.size := by exact Nat.le_refl _) : Below B w w2 := h.trans (k.mono (Nat.le_trans hB h.size))
theorem exp_at (n : Int) (z : Int) (h : (Gf.E (Gf.res n) : Int) = z) (w : World) : Calls Try.prog 21 #[.int .i64 n] w fun e w' => e = .returned (.int .u8 z) ∧ Below w.heap.size w w' := by
  subst h; exact exp_any n w
theorem i64_bd {n : Int} (h : (Lit.int .i64 n).wf = true) : -9223372036854775808 ≤ n ∧ n ≤ 9223372036854775807 := bounds_i64 h
set_option maxRecDepth 100000 in
set_option maxHeartbeats 1000000 in
theorem exponents_walk (a0 m n : Int) (w0 : (Lit.int .u8 a0).wf = true) (_w1 : (Lit.int .i64 m).wf = true) (_w2 : (Lit.int .i64 n).wf = true) (w : World) :
    Calls Try.prog 8 #[.int .u8 a0, .int .i64 m, .int .i64 n] w fun e w' => e = .returned (.bool true) ∧ Below w.heap.size w w' := by
  obtain ⟨a, ha, rfl⟩ := nat_u8 w0
  clear w0
  by_cases hc : a = 0 ∨ m < -1000000 ∨ 1000000 < m ∨ n < -1000000 ∨ 1000000 < n
  · go_enter Try.func8, Try.ntmps8
    go_wp2_with (fail)
    refine (awake_any _).mono ?_
    rintro e w1 ⟨rfl, hb1⟩
    go_wp2_with (fail)
    all_goals (go_ret; exact ⟨rfl, hb1⟩)
  · have h0 : a ≠ 0 := by omega
    have m1 : -1000000 ≤ m := by omega
    have m2 : m ≤ 1000000 := by omega
    have n1 : -1000000 ≤ n := by omega
    have n2 : n ≤ 1000000 := by omega
    have hae : ((a : Int) == 0) = false := by simp; omega
    have hl := Gf.lg_lt ha h0
    have ho1 := Gf.order_pos a
    have ho2 := Gf.order_le a
    have E1 := hidIt (Gf.zpw_add ha h0 m n)
    have E2 := hidIt (Gf.E_lt255 ha h0)
    have E3 := hidIt (Gf.E_res m n)
    have E4 := hidIt (Gf.zpw_order (a := a))
    have E5 : ((255 : Int) % (Gf.order a : Int) == 0) = true := by
      have := Gf.order_dvd a
      rw [beq_iff_eq, show (255 : Int) = ((255 : Nat) : Int) from rfl, ← Int.natCast_emod, Nat.mod_eq_zero_of_dvd this]; rfl
    have z1 : Gf.zpw a m < 256 := Gf.E_lt _
    have z2 : Gf.zpw a n < 256 := Gf.E_lt _
    have z3 := Gf.E_lt (Gf.res m)
    have z4 := Gf.E_lt (Gf.res n)
    have hz0 := hidIt h0
    clear hc h0
    go_enter Try.func8, Try.ntmps8
    go_wp2_with (fail)
    refine (awake_any _).mono ?_
    rintro e w1 ⟨rfl, hb1⟩
    go_wp2_with (fail)
    refine (pow_at0 a m _ rfl ha hz0.out rfl _).mono ?_
    rintro e w2 ⟨rfl, hb2⟩
    go_wp2_with (fail)
    refine (pow_at0 a n _ rfl ha hz0.out rfl _).mono ?_
    rintro e w3 ⟨rfl, hb3⟩
    go_wp2_with (fail)
    refine (pow_at0 a (m + n) _ rfl ha hz0.out rfl _).mono ?_
    rintro e w4 ⟨rfl, hb4⟩
    go_wp2_with (fail)
    refine (log_pos a ha hz0.out _).mono ?_
    rintro e w5 ⟨rfl, hb5⟩
    go_wp2_with (fail)
    refine (order_pos a ha hz0.out _).mono ?_
    rintro e w6 ⟨rfl, hb6⟩
    go_wp2_with (fail)
    refine (pow_at0 a (Gf.order a : Int) 1 rfl ha hz0.out (by rw [E4.out]; rfl) _).mono ?_
    rintro e w7 ⟨rfl, hb7⟩
    go_wp2_with (fail)
    refine (mul_at (Gf.zpw a m) (Gf.zpw a n) ((Gf.zpw a (m + n) : Nat) : Int) rfl rfl z1 z2 (by rw [E1.out]) _).mono ?_
    rintro e w' ⟨rfl, rfl⟩
    go_wp2_with (fail)
    refine (exp_at (Gf.lg a : Int) (a : Int) (by rw [E2.out]) _).mono ?_
    rintro e w8 ⟨rfl, hb8⟩
    go_wp2_with (fail)
    refine (exp_at m _ rfl _).mono ?_
    rintro e w9 ⟨rfl, hb9⟩
    go_wp2_with (fail)
    refine (exp_at n _ rfl _).mono ?_
    rintro e w10 ⟨rfl, hb10⟩
    go_wp2_with (fail)
    refine (mul_at (Gf.E (Gf.res m)) (Gf.E (Gf.res n)) ((Gf.E (Gf.res (m + n)) : Nat) : Int) rfl rfl z3 z4 (by rw [E3.out]) _).mono ?_
    rintro e w' ⟨rfl, rfl⟩
    go_wp2_with (fail)
    refine (exp_at (m + n) _ rfl _).mono ?_
    rintro e w11 ⟨rfl, hb11⟩
    go_wp2_with (fail)
    go_ret
    exact ⟨rfl, (below_then (below_then (below_then (below_then (below_then (below_then (below_then (below_then (below_then (below_then hb1 hb2) hb3) hb4) hb5) hb6) hb7) hb8) hb9) hb10) hb11)⟩
end Go.Proofs.Ytjcpcankgimlnaa
