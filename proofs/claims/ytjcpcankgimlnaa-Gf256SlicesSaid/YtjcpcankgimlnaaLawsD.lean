import Derived.Test.YtjcpcankgimlnaaLawsC
namespace Go.Proofs.Ytjcpcankgimlnaa
open Go.RowKit
theorem refinv_at {a : Int} (x : Nat) (z : Int) (ha : a = x) (hx : x < 256) (h0 : x ≠ 0) (h : (Gf.inv x : Int) = z) (w : World) :
    Calls Try.prog 17 #[.int .u8 a] w fun e w' => e = .returned (.int .u8 z) ∧ w = w' := by
  subst ha h; exact refinv_any x hx h0 w
theorem refpow_at {a : Int} (x : Nat) (n : Int) (z : Int) (ha : a = x) (hx : x < 256) (h0 : x ≠ 0) (h : (Gf.pw x (Gf.res n) : Int) = z) (w : World) :
    Calls Try.prog 22 #[.int .u8 a, .int .i64 n] w fun e w' => e = .returned (.int .u8 z) ∧ w = w' := by
  subst ha h; exact refpow_pos x n hx h0 w
theorem refsqrt_at {a : Int} (x : Nat) (ha : a = x) (hx : x < 256) (w : World) :
    Calls Try.prog 24 #[.int .u8 a] w fun e w' => e = .returned (.int .u8 (Gf.sqrt x)) ∧ w = w' := by
  subst ha; exact refsqrt_any x hx w
set_option maxRecDepth 100000 in
set_option maxHeartbeats 1000000 in
theorem products_walk (a0 a1 : Int) (w0 : (Lit.int .u8 a0).wf = true) (w1 : (Lit.int .u8 a1).wf = true) (w : World) :
    Calls Try.prog 3 #[.int .u8 a0, .int .u8 a1] w fun e w' => e = .returned (.bool true) ∧ Below w.heap.size w w' := by
  obtain ⟨a, ha, rfl⟩ := nat_u8 w0
  obtain ⟨b, hb, rfl⟩ := nat_u8 w1
  have E1 := hidIt (u8_xor_nat a b ha hb)
  clear w0 w1
  by_cases h0 : b = 0
  · subst h0
    go_enter Try.func3, Try.ntmps3
    go_wp2_with (fail)
    refine (awake_any _).mono ?_
    rintro e w1 ⟨rfl, hb1⟩
    go_wp2_with (fail)
    refine (div_zero_any _ _).mono ?_
    rintro e w' ⟨rfl, rfl⟩
    go_wp2_with (fail)
    refine (inv_zero _).mono ?_
    rintro e w' ⟨rfl, rfl⟩
    go_wp2_with (fail)
    refine (add_at a 0 (bits BinOp.xor IntKind.u8 (a : Int) (0 : Int)) rfl rfl ha hb (by first | exact E1.out.symm | (rw [E1.out])) _).mono ?_
    rintro e w' ⟨rfl, rfl⟩
    go_wp2_with (fail)
    refine (mul_at a 0 _ rfl rfl ha hb rfl _).mono ?_
    rintro e w' ⟨rfl, rfl⟩
    go_wp2_with (fail)
    refine (refmul_at a 0 _ rfl rfl ha hb rfl _).mono ?_
    rintro e w' ⟨rfl, rfl⟩
    go_wp2_with (fail)
    go_ret
    exact ⟨rfl, hb1⟩
  · have hne : ((b : Int) == 0) = false := by simp; omega
    have hi : Gf.inv b < 256 := Gf.pw_lt b 254
    have hz0 := hidIt h0
    clear h0
    go_enter Try.func3, Try.ntmps3
    go_wp2_with (fail)
    refine (awake_any _).mono ?_
    rintro e w1 ⟨rfl, hb1⟩
    go_wp2_with (fail)
    refine (div_at a b _ rfl rfl ha hb hz0.out rfl _).mono ?_
    rintro e w' ⟨rfl, rfl⟩
    go_wp2_with (fail)
    refine (inv_pos b hb hz0.out _).mono ?_
    rintro e w' ⟨rfl, rfl⟩
    go_wp2_with (fail)
    refine (add_at a b (bits BinOp.xor IntKind.u8 (a : Int) (b : Int)) rfl rfl ha hb (by first | exact E1.out.symm | (rw [E1.out])) _).mono ?_
    rintro e w' ⟨rfl, rfl⟩
    go_wp2_with (fail)
    refine (mul_at a b _ rfl rfl ha hb rfl _).mono ?_
    rintro e w' ⟨rfl, rfl⟩
    go_wp2_with (fail)
    refine (refmul_at a b _ rfl rfl ha hb rfl _).mono ?_
    rintro e w' ⟨rfl, rfl⟩
    go_wp2_with (fail)
    refine (refinv_at b _ rfl hb hz0.out rfl _).mono ?_
    rintro e w' ⟨rfl, rfl⟩
    go_wp2_with (fail)
    refine (refinv_at b _ rfl hb hz0.out rfl _).mono ?_
    rintro e w' ⟨rfl, rfl⟩
    go_wp2_with (fail)
    refine (refmul_at a (Gf.inv b) _ rfl rfl ha hi rfl _).mono ?_
    rintro e w' ⟨rfl, rfl⟩
    go_wp2_with (fail)
    go_ret
    exact ⟨rfl, hb1⟩
set_option maxRecDepth 100000 in
set_option maxHeartbeats 1000000 in
theorem powers_walk (a0 n : Int) (w0 : (Lit.int .u8 a0).wf = true) (_w1 : (Lit.int .i64 n).wf = true) (w : World) :
    Calls Try.prog 4 #[.int .u8 a0, .int .i64 n] w fun e w' => e = .returned (.bool true) ∧ Below w.heap.size w w' := by
  obtain ⟨a, ha, rfl⟩ := nat_u8 w0
  have E1 := hidIt (Gf.zpw_two n)
  clear w0
  by_cases h0 : a = 0
  · subst h0
    rcases Int.lt_trichotomy n 0 with hn | hn | hn
    · have hlt : ((n : Int) < 0) := hn
      go_enter Try.func4, Try.ntmps4
      go_wp2_with (fail)
      refine (awake_any _).mono ?_
      rintro e w1 ⟨rfl, hb1⟩
      go_wp2_with (fail)
      refine (pow_zero_neg n hlt _).mono ?_
      rintro e w' ⟨rfl, rfl⟩
      go_wp2_with (fail)
      refine (log_zero _).mono ?_
      rintro e w' ⟨rfl, rfl⟩
      go_wp2_with (fail)
      refine (order_zero _).mono ?_
      rintro e w' ⟨rfl, rfl⟩
      go_wp2_with (fail)
      refine (exp_at n _ rfl _).mono ?_
      rintro e w2 ⟨rfl, hb2⟩
      go_wp2_with (fail)
      refine (refpow_at 2 n ((Gf.E (Gf.res n) : Nat) : Int) rfl (by decide) (by decide) (by rw [E1.out]) _).mono ?_
      rintro e w' ⟨rfl, rfl⟩
      go_wp2_with (fail)
      refine (sqrt_at 0 _ rfl ha rfl _).mono ?_
      rintro e w' ⟨rfl, rfl⟩
      go_wp2_with (fail)
      refine (refsqrt_at 0 rfl ha _).mono ?_
      rintro e w' ⟨rfl, rfl⟩
      go_wp2_with (fail)
      go_ret
      exact ⟨rfl, below_then hb1 hb2⟩
    · subst hn
      go_enter Try.func4, Try.ntmps4
      go_wp2_with (fail)
      refine (awake_any _).mono ?_
      rintro e w1 ⟨rfl, hb1⟩
      go_wp2_with (fail)
      refine (pow_zero_any _ _).mono ?_
      rintro e w' ⟨rfl, rfl⟩
      go_wp2_with (fail)
      refine (log_zero _).mono ?_
      rintro e w' ⟨rfl, rfl⟩
      go_wp2_with (fail)
      refine (order_zero _).mono ?_
      rintro e w' ⟨rfl, rfl⟩
      go_wp2_with (fail)
      refine (exp_at 0 _ rfl _).mono ?_
      rintro e w2 ⟨rfl, hb2⟩
      go_wp2_with (fail)
      refine (refpow_at 2 0 ((Gf.E (Gf.res 0) : Nat) : Int) rfl (by decide) (by decide) (by rw [E1.out]) _).mono ?_
      rintro e w' ⟨rfl, rfl⟩
      go_wp2_with (fail)
      refine (sqrt_at 0 _ rfl ha rfl _).mono ?_
      rintro e w' ⟨rfl, rfl⟩
      go_wp2_with (fail)
      refine (refsqrt_at 0 rfl ha _).mono ?_
      rintro e w' ⟨rfl, rfl⟩
      go_wp2_with (fail)
      refine (refpow_zero 0 1 (by decide) _).mono ?_
      rintro e w' ⟨rfl, rfl⟩
      go_wp2_with (fail)
      go_ret
      exact ⟨rfl, below_then hb1 hb2⟩
    · have hge : ¬ (n : Int) < 0 := by omega
      go_enter Try.func4, Try.ntmps4
      go_wp2_with (fail)
      refine (awake_any _).mono ?_
      rintro e w1 ⟨rfl, hb1⟩
      go_wp2_with (fail)
      refine (pow_zero_pos n hn _).mono ?_
      rintro e w' ⟨rfl, rfl⟩
      go_wp2_with (fail)
      refine (log_zero _).mono ?_
      rintro e w' ⟨rfl, rfl⟩
      go_wp2_with (fail)
      refine (order_zero _).mono ?_
      rintro e w' ⟨rfl, rfl⟩
      go_wp2_with (fail)
      refine (exp_at n _ rfl _).mono ?_
      rintro e w2 ⟨rfl, hb2⟩
      go_wp2_with (fail)
      refine (refpow_at 2 n ((Gf.E (Gf.res n) : Nat) : Int) rfl (by decide) (by decide) (by rw [E1.out]) _).mono ?_
      rintro e w' ⟨rfl, rfl⟩
      go_wp2_with (fail)
      refine (sqrt_at 0 _ rfl ha rfl _).mono ?_
      rintro e w' ⟨rfl, rfl⟩
      go_wp2_with (fail)
      refine (refsqrt_at 0 rfl ha _).mono ?_
      rintro e w' ⟨rfl, rfl⟩
      go_wp2_with (fail)
      refine (refpow_zero n 0 (by rw [if_neg (by omega)]) _).mono ?_
      rintro e w' ⟨rfl, rfl⟩
      go_wp2_with (fail)
      go_ret
      exact ⟨rfl, below_then hb1 hb2⟩
  · have hne : ((a : Int) == 0) = false := by simp; omega
    have E2 := hidIt (Gf.zpw_pw ha h0 n)
    have hz0 := hidIt h0
    clear h0
    go_enter Try.func4, Try.ntmps4
    go_wp2_with (fail)
    refine (awake_any _).mono ?_
    rintro e w1 ⟨rfl, hb1⟩
    go_wp2_with (fail)
    refine (pow_at0 a n _ rfl ha hz0.out rfl _).mono ?_
    rintro e w2 ⟨rfl, hb2⟩
    go_wp2_with (fail)
    refine (log_pos a ha hz0.out _).mono ?_
    rintro e w3 ⟨rfl, hb3⟩
    go_wp2_with (fail)
    refine (order_pos a ha hz0.out _).mono ?_
    rintro e w4 ⟨rfl, hb4⟩
    go_wp2_with (fail)
    refine (exp_at n _ rfl _).mono ?_
    rintro e w5 ⟨rfl, hb5⟩
    go_wp2_with (fail)
    refine (refpow_at 2 n ((Gf.E (Gf.res n) : Nat) : Int) rfl (by decide) (by decide) (by rw [E1.out]) _).mono ?_
    rintro e w' ⟨rfl, rfl⟩
    go_wp2_with (fail)
    refine (sqrt_at a _ rfl ha rfl _).mono ?_
    rintro e w' ⟨rfl, rfl⟩
    go_wp2_with (fail)
    refine (refsqrt_at a rfl ha _).mono ?_
    rintro e w' ⟨rfl, rfl⟩
    go_wp2_with (fail)
    refine (refpow_at a n ((Gf.zpw a n : Nat) : Int) rfl ha hz0.out (by rw [E2.out]) _).mono ?_
    rintro e w' ⟨rfl, rfl⟩
    go_wp2_with (fail)
    refine (reflog_any a ha hz0.out _).mono ?_
    rintro e w' ⟨rfl, rfl⟩
    go_wp2_with (fail)
    refine (reforder_any a ha hz0.out _).mono ?_
    rintro e w' ⟨rfl, rfl⟩
    go_wp2_with (fail)
    go_ret
    exact ⟨rfl, below_then (below_then (below_then (below_then hb1 hb2) hb3) hb4) hb5⟩
end Go.Proofs.Ytjcpcankgimlnaa
