import Derived.Test.YtjcpcankgimlnaaLawsA
namespace Go.Proofs.Ytjcpcankgimlnaa
open Go.RowKit
theorem inv_zero_at {a : Int} (ha : a = 0) (w : World) :
    Calls Try.prog 13 #[.int .u8 a] w fun e w' => e = .returned (.tuple #[.int .u8 0, .int .i64 1]) ∧ w = w' := by
  subst ha; exact inv_zero w
theorem div_zero_at {a b : Int} (hb : b = 0) (w : World) :
    Calls Try.prog 12 #[.int .u8 a, .int .u8 b] w fun e w' => e = .returned (.tuple #[.int .u8 0, .int .i64 1]) ∧ w = w' := by
  subst hb; exact div_zero_any a w
theorem pow_zero_at {a : Int} (n : Int) (z : Int) (ha : a = 0) (hz : a = z) (hn : 0 < n) (w : World) :
    Calls Try.prog 18 #[.int .u8 a, .int .i64 n] w fun e w' => e = .returned (.tuple #[.int .u8 z, .int .i64 0]) ∧ w = w' := by
  subst ha; subst hz; exact pow_zero_pos n hn w
theorem div_at {a b : Int} (x y : Nat) (z : Int) (ha : a = x) (hb : b = y) (hx : x < 256) (hy : y < 256) (h0 : y ≠ 0) (h : (Gf.mul x (Gf.inv y) : Int) = z) (w : World) :
    Calls Try.prog 12 #[.int .u8 a, .int .u8 b] w fun e w' => e = .returned (.tuple #[.int .u8 z, .int .i64 0]) ∧ w = w' := by
  subst ha hb h; exact div_pos x y hx hy h0 w
set_option maxRecDepth 100000 in
set_option maxHeartbeats 1000000 in
theorem field_walk (a0 a1 a2 : Int) (w0 : (Lit.int .u8 a0).wf = true) (w1 : (Lit.int .u8 a1).wf = true) (w2 : (Lit.int .u8 a2).wf = true) (w : World) :
    Calls Try.prog 6 #[.int .u8 a0, .int .u8 a1, .int .u8 a2] w fun e w' => e = .returned (.bool true) ∧ Below w.heap.size w w' := by
  obtain ⟨a, ha, rfl⟩ := nat_u8 w0
  obtain ⟨b, hb, rfl⟩ := nat_u8 w1
  obtain ⟨c, hc, rfl⟩ := nat_u8 w2
  have E1 := hidIt (Gf.mul_assoc ha hb hc).symm
  have E2 := hidIt (Nat.xor_assoc a b c)
  have E3 := hidIt (Gf.mul_comm hb ha)
  have E4 := hidIt (Nat.xor_comm b a)
  have E5 := hidIt (Gf.mul_xor ha hb hc).symm
  have E6 := hidIt (Gf.mul_one ha)
  clear w0 w1 w2
  by_cases h0 : a = 0
  · have hz0 : Hid ((a : Int) = 0) := hidIt (by omega)
    clear h0
    go_enter Try.func6, Try.ntmps6
    go_wp2_with (fail)
    refine (awake_any _).mono ?_
    rintro e w1 ⟨rfl, hb1⟩
    go_wp2_with (fail)
    refine (mul_at b c _ rfl rfl hb hc rfl _).mono ?_
    rintro e w' ⟨rfl, rfl⟩
    go_wp2_with (fail)
    refine (mul_at a (Gf.mul b c) _ rfl rfl ha (Gf.mul_lt _ hb) rfl _).mono ?_
    rintro e w' ⟨rfl, rfl⟩
    go_wp2_with (fail)
    refine (mul_at a b _ rfl rfl ha hb rfl _).mono ?_
    rintro e w' ⟨rfl, rfl⟩
    go_wp2_with (fail)
    refine (mul_at (Gf.mul a b) c (((Gf.mul a (Gf.mul b c)) : Nat) : Int) rfl rfl (Gf.mul_lt _ ha) hc (by rw [E1.out]) _).mono ?_
    rintro e w' ⟨rfl, rfl⟩
    go_wp2_with (fail)
    refine (add_at b c _ rfl rfl hb hc rfl _).mono ?_
    rintro e w' ⟨rfl, rfl⟩
    go_wp2_with (fail)
    refine (add_at a (b ^^^ c) _ rfl rfl ha (Gf.xor_lt hb hc) rfl _).mono ?_
    rintro e w' ⟨rfl, rfl⟩
    go_wp2_with (fail)
    refine (add_at a b _ rfl rfl ha hb rfl _).mono ?_
    rintro e w' ⟨rfl, rfl⟩
    go_wp2_with (fail)
    refine (add_at (a ^^^ b) c (((a ^^^ (b ^^^ c)) : Nat) : Int) rfl rfl (Gf.xor_lt ha hb) hc (by rw [E2.out]) _).mono ?_
    rintro e w' ⟨rfl, rfl⟩
    go_wp2_with (fail)
    refine (mul_at a b _ rfl rfl ha hb rfl _).mono ?_
    rintro e w' ⟨rfl, rfl⟩
    go_wp2_with (fail)
    refine (mul_at b a (((Gf.mul a b) : Nat) : Int) rfl rfl hb ha (by rw [E3.out]) _).mono ?_
    rintro e w' ⟨rfl, rfl⟩
    go_wp2_with (fail)
    refine (add_at a b _ rfl rfl ha hb rfl _).mono ?_
    rintro e w' ⟨rfl, rfl⟩
    go_wp2_with (fail)
    refine (add_at b a (((a ^^^ b) : Nat) : Int) rfl rfl hb ha (by rw [E4.out]) _).mono ?_
    rintro e w' ⟨rfl, rfl⟩
    go_wp2_with (fail)
    refine (add_at b c _ rfl rfl hb hc rfl _).mono ?_
    rintro e w' ⟨rfl, rfl⟩
    go_wp2_with (fail)
    refine (mul_at a (b ^^^ c) _ rfl rfl ha (Gf.xor_lt hb hc) rfl _).mono ?_
    rintro e w' ⟨rfl, rfl⟩
    go_wp2_with (fail)
    refine (mul_at a b _ rfl rfl ha hb rfl _).mono ?_
    rintro e w' ⟨rfl, rfl⟩
    go_wp2_with (fail)
    refine (mul_at a c _ rfl rfl ha hc rfl _).mono ?_
    rintro e w' ⟨rfl, rfl⟩
    go_wp2_with (fail)
    refine (add_at (Gf.mul a b) (Gf.mul a c) (((Gf.mul a (b ^^^ c)) : Nat) : Int) rfl rfl (Gf.mul_lt _ ha) (Gf.mul_lt _ ha) (by rw [E5.out]) _).mono ?_
    rintro e w' ⟨rfl, rfl⟩
    go_wp2_with (fail)
    refine (inv_zero_at hz0.out _).mono ?_
    rintro e w' ⟨rfl, rfl⟩
    go_wp2_with (fail)
    refine (add_at a 0 (a : Int) rfl rfl ha (by decide) (by rw [Nat.xor_zero]) _).mono ?_
    rintro e w' ⟨rfl, rfl⟩
    go_wp2_with (fail)
    refine (mul_at a 1 (a : Int) rfl rfl ha (by decide) (by rw [E6.out]) _).mono ?_
    rintro e w' ⟨rfl, rfl⟩
    go_wp2_with (fail)
    refine (add_at a a 0 rfl rfl ha ha (by rw [Nat.xor_self]; rfl) _).mono ?_
    rintro e w' ⟨rfl, rfl⟩
    obtain rfl : a = 0 := by have := hz0.out; omega
    go_wp2_with (fail)
    refine (mul_at b 0 _ rfl rfl hb ha rfl _).mono ?_
    rintro e w' ⟨rfl, rfl⟩
    go_wp2_with (fail)
    refine (div_zero_any _ _).mono ?_
    rintro e w' ⟨rfl, rfl⟩
    go_wp2_with (fail)
    go_ret
    exact ⟨rfl, hb1⟩
  · have hne : ((a : Int) == 0) = false := by simp; omega
    have hne' : ((a : Int) != 0) = true := by simp; omega
    have E8 := hidIt (Gf.mul_inv ha h0)
    have E7 : Hid (Gf.mul (Gf.mul b a) (Gf.inv a) = b) := by
      show _ = _
      rw [← Gf.mul_assoc hb ha (show Gf.inv a < 256 from Gf.pw_lt _ _), E8.out, Gf.mul_one hb]
    have hz0 := hidIt h0
    clear h0
    go_enter Try.func6, Try.ntmps6
    go_wp2_with (fail)
    refine (awake_any _).mono ?_
    rintro e w1 ⟨rfl, hb1⟩
    go_wp2_with (fail)
    refine (mul_at b c _ rfl rfl hb hc rfl _).mono ?_
    rintro e w' ⟨rfl, rfl⟩
    go_wp2_with (fail)
    refine (mul_at a (Gf.mul b c) _ rfl rfl ha (Gf.mul_lt _ hb) rfl _).mono ?_
    rintro e w' ⟨rfl, rfl⟩
    go_wp2_with (fail)
    refine (mul_at a b _ rfl rfl ha hb rfl _).mono ?_
    rintro e w' ⟨rfl, rfl⟩
    go_wp2_with (fail)
    refine (mul_at (Gf.mul a b) c (((Gf.mul a (Gf.mul b c)) : Nat) : Int) rfl rfl (Gf.mul_lt _ ha) hc (by rw [E1.out]) _).mono ?_
    rintro e w' ⟨rfl, rfl⟩
    go_wp2_with (fail)
    refine (add_at b c _ rfl rfl hb hc rfl _).mono ?_
    rintro e w' ⟨rfl, rfl⟩
    go_wp2_with (fail)
    refine (add_at a (b ^^^ c) _ rfl rfl ha (Gf.xor_lt hb hc) rfl _).mono ?_
    rintro e w' ⟨rfl, rfl⟩
    go_wp2_with (fail)
    refine (add_at a b _ rfl rfl ha hb rfl _).mono ?_
    rintro e w' ⟨rfl, rfl⟩
    go_wp2_with (fail)
    refine (add_at (a ^^^ b) c (((a ^^^ (b ^^^ c)) : Nat) : Int) rfl rfl (Gf.xor_lt ha hb) hc (by rw [E2.out]) _).mono ?_
    rintro e w' ⟨rfl, rfl⟩
    go_wp2_with (fail)
    refine (mul_at a b _ rfl rfl ha hb rfl _).mono ?_
    rintro e w' ⟨rfl, rfl⟩
    go_wp2_with (fail)
    refine (mul_at b a (((Gf.mul a b) : Nat) : Int) rfl rfl hb ha (by rw [E3.out]) _).mono ?_
    rintro e w' ⟨rfl, rfl⟩
    go_wp2_with (fail)
    refine (add_at a b _ rfl rfl ha hb rfl _).mono ?_
    rintro e w' ⟨rfl, rfl⟩
    go_wp2_with (fail)
    refine (add_at b a (((a ^^^ b) : Nat) : Int) rfl rfl hb ha (by rw [E4.out]) _).mono ?_
    rintro e w' ⟨rfl, rfl⟩
    go_wp2_with (fail)
    refine (add_at b c _ rfl rfl hb hc rfl _).mono ?_
    rintro e w' ⟨rfl, rfl⟩
    go_wp2_with (fail)
    refine (mul_at a (b ^^^ c) _ rfl rfl ha (Gf.xor_lt hb hc) rfl _).mono ?_
    rintro e w' ⟨rfl, rfl⟩
    go_wp2_with (fail)
    refine (mul_at a b _ rfl rfl ha hb rfl _).mono ?_
    rintro e w' ⟨rfl, rfl⟩
    go_wp2_with (fail)
    refine (mul_at a c _ rfl rfl ha hc rfl _).mono ?_
    rintro e w' ⟨rfl, rfl⟩
    go_wp2_with (fail)
    refine (add_at (Gf.mul a b) (Gf.mul a c) (((Gf.mul a (b ^^^ c)) : Nat) : Int) rfl rfl (Gf.mul_lt _ ha) (Gf.mul_lt _ ha) (by rw [E5.out]) _).mono ?_
    rintro e w' ⟨rfl, rfl⟩
    go_wp2_with (fail)
    refine (inv_pos a ha hz0.out _).mono ?_
    rintro e w' ⟨rfl, rfl⟩
    go_wp2_with (fail)
    refine (add_at a 0 (a : Int) rfl rfl ha (by decide) (by rw [Nat.xor_zero]) _).mono ?_
    rintro e w' ⟨rfl, rfl⟩
    go_wp2_with (fail)
    refine (mul_at a 1 (a : Int) rfl rfl ha (by decide) (by rw [E6.out]) _).mono ?_
    rintro e w' ⟨rfl, rfl⟩
    go_wp2_with (fail)
    refine (add_at a a 0 rfl rfl ha ha (by rw [Nat.xor_self]; rfl) _).mono ?_
    rintro e w' ⟨rfl, rfl⟩
    go_wp2_with (fail)
    refine (mul_at b a _ rfl rfl hb ha rfl _).mono ?_
    rintro e w' ⟨rfl, rfl⟩
    go_wp2_with (fail)
    refine (div_at (Gf.mul b a) a (b : Int) rfl rfl (Gf.mul_lt _ hb) ha hz0.out (by rw [E7.out]) _).mono ?_
    rintro e w' ⟨rfl, rfl⟩
    go_wp2_with (fail)
    refine (mul_at a (Gf.inv a) 1 rfl rfl ha (Gf.pw_lt _ _) (by rw [E8.out]; rfl) _).mono ?_
    rintro e w' ⟨rfl, rfl⟩
    go_wp2_with (fail)
    go_ret
    exact ⟨rfl, hb1⟩
theorem pow_at {a : Int} (x : Nat) (n : Int) (z : Int) (ha : a = x) (hx : x < 256) (h0 : x ≠ 0) (hn : n ≠ 0) (h : (Gf.zpw x n : Int) = z) (w : World) :
    Calls Try.prog 18 #[.int .u8 a, .int .i64 n] w fun e w' => e = .returned (.tuple #[.int .u8 z, .int .i64 0]) ∧ Below w.heap.size w w' := by
  subst ha h; exact pow_pos x n hx h0 hn w
set_option maxRecDepth 100000 in
set_option maxHeartbeats 1000000 in
theorem squares_walk (a0 a1 : Int) (w0 : (Lit.int .u8 a0).wf = true) (w1 : (Lit.int .u8 a1).wf = true) (w : World) :
    Calls Try.prog 9 #[.int .u8 a0, .int .u8 a1] w fun e w' => e = .returned (.bool true) ∧ Below w.heap.size w w' := by
  obtain ⟨a, ha, rfl⟩ := nat_u8 w0
  obtain ⟨b, hb, rfl⟩ := nat_u8 w1
  have E1 := hidIt (Gf.sq_xor ha hb).symm
  have E2 := hidIt (Gf.mul_sqrt ha)
  have E3 := hidIt (Gf.sqrt_mul ha)
  clear w0 w1
  by_cases h0 : a = 0
  · have hz0 : Hid ((a : Int) = 0) := hidIt (by omega)
    clear h0
    go_enter Try.func9, Try.ntmps9
    go_wp2_with (fail)
    refine (awake_any _).mono ?_
    rintro e w1 ⟨rfl, hb1⟩
    go_wp2_with (fail)
    refine (add_at a b _ rfl rfl ha hb rfl _).mono ?_
    rintro e w' ⟨rfl, rfl⟩
    go_wp2_with (fail)
    refine (pow_zero_at 256 (a : Int) hz0.out rfl (by decide) _).mono ?_
    rintro e w' ⟨rfl, rfl⟩
    go_wp2_with (fail)
    refine (sqrt_at a _ rfl ha rfl _).mono ?_
    rintro e w' ⟨rfl, rfl⟩
    go_wp2_with (fail)
    refine (mul_at (a ^^^ b) (a ^^^ b) _ rfl rfl (Gf.xor_lt ha hb) (Gf.xor_lt ha hb) rfl _).mono ?_
    rintro e w' ⟨rfl, rfl⟩
    go_wp2_with (fail)
    refine (mul_at a a _ rfl rfl ha ha rfl _).mono ?_
    rintro e w' ⟨rfl, rfl⟩
    go_wp2_with (fail)
    refine (mul_at b b _ rfl rfl hb hb rfl _).mono ?_
    rintro e w' ⟨rfl, rfl⟩
    go_wp2_with (fail)
    refine (add_at (Gf.mul a a) (Gf.mul b b) (((Gf.mul (a ^^^ b) (a ^^^ b)) : Nat) : Int) rfl rfl (Gf.mul_lt _ ha) (Gf.mul_lt _ hb) (by rw [E1.out]) _).mono ?_
    rintro e w' ⟨rfl, rfl⟩
    go_wp2_with (fail)
    refine (mul_at a a _ rfl rfl ha ha rfl _).mono ?_
    rintro e w' ⟨rfl, rfl⟩
    go_wp2_with (fail)
    refine (sqrt_at (Gf.mul a a) (a : Int) rfl (Gf.mul_lt _ ha) (by rw [E2.out]) _).mono ?_
    rintro e w' ⟨rfl, rfl⟩
    go_wp2_with (fail)
    refine (mul_at (Gf.sqrt a) (Gf.sqrt a) (a : Int) rfl rfl (Gf.sq_lt ha 7) (Gf.sq_lt ha 7) (by rw [E3.out]) _).mono ?_
    rintro e w' ⟨rfl, rfl⟩
    go_wp2_with (fail)
    go_ret
    exact ⟨rfl, hb1⟩
  · have E6 := hidIt (Gf.zpw_256 ha h0)
    have hz0 := hidIt h0
    clear h0
    go_enter Try.func9, Try.ntmps9
    go_wp2_with (fail)
    refine (awake_any _).mono ?_
    rintro e w1 ⟨rfl, hb1⟩
    go_wp2_with (fail)
    refine (add_at a b _ rfl rfl ha hb rfl _).mono ?_
    rintro e w' ⟨rfl, rfl⟩
    go_wp2_with (fail)
    refine (pow_at a 256 (a : Int) rfl ha hz0.out (by decide) (by rw [E6.out]) _).mono ?_
    rintro e w2 ⟨rfl, hb2⟩
    go_wp2_with (fail)
    refine (sqrt_at a _ rfl ha rfl _).mono ?_
    rintro e w' ⟨rfl, rfl⟩
    go_wp2_with (fail)
    refine (mul_at (a ^^^ b) (a ^^^ b) _ rfl rfl (Gf.xor_lt ha hb) (Gf.xor_lt ha hb) rfl _).mono ?_
    rintro e w' ⟨rfl, rfl⟩
    go_wp2_with (fail)
    refine (mul_at a a _ rfl rfl ha ha rfl _).mono ?_
    rintro e w' ⟨rfl, rfl⟩
    go_wp2_with (fail)
    refine (mul_at b b _ rfl rfl hb hb rfl _).mono ?_
    rintro e w' ⟨rfl, rfl⟩
    go_wp2_with (fail)
    refine (add_at (Gf.mul a a) (Gf.mul b b) (((Gf.mul (a ^^^ b) (a ^^^ b)) : Nat) : Int) rfl rfl (Gf.mul_lt _ ha) (Gf.mul_lt _ hb) (by rw [E1.out]) _).mono ?_
    rintro e w' ⟨rfl, rfl⟩
    go_wp2_with (fail)
    refine (mul_at a a _ rfl rfl ha ha rfl _).mono ?_
    rintro e w' ⟨rfl, rfl⟩
    go_wp2_with (fail)
    refine (sqrt_at (Gf.mul a a) (a : Int) rfl (Gf.mul_lt _ ha) (by rw [E2.out]) _).mono ?_
    rintro e w' ⟨rfl, rfl⟩
    go_wp2_with (fail)
    refine (mul_at (Gf.sqrt a) (Gf.sqrt a) (a : Int) rfl rfl (Gf.sq_lt ha 7) (Gf.sq_lt ha 7) (by rw [E3.out]) _).mono ?_
    rintro e w' ⟨rfl, rfl⟩
    go_wp2_with (fail)
    go_ret
    exact ⟨rfl, hb1.trans (hb2.mono hb1.size)⟩
end Go.Proofs.Ytjcpcankgimlnaa
