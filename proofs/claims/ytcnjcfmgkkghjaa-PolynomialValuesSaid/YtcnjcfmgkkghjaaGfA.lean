import Derived.Test.YtcnjcfmgkkghjaaRowA
import Derived.Test.YtcnjcfmgkkghjaaBy2
import Derived.Test.YtcnjcfmgkkghjaaGf2
namespace Go.Proofs.Ytcnjcfmgkkghjaa
open Go.RowKit
theorem ret_u8 {a b : Int} (h : a = b) : Ending.returned (.int .u8 a) = .returned (.int .u8 b) := by rw [h]
theorem dbl_all : ∀ a : Fin 256, bits BinOp.xor IntKind.u8 ((a.val : Int) * 2 % 256) (bits BinOp.and IntKind.u8 29 (-((a.val : Int) / 128) % 256)) = (Gf.X a.val : Int) := by decide +kernel
theorem dbl {a : Nat} (h : a < 256) : bits BinOp.xor IntKind.u8 ((a : Int) * 2 % 256) (bits BinOp.and IntKind.u8 29 (-((a : Int) / 128) % 256)) = (Gf.X a : Int) := dbl_all ⟨a, h⟩
theorem double_any (a : Nat) (h : a < 256) (w : World) :
    Calls Try.prog 55 #[.int .u8 a] w fun e w' => e = .returned (.int .u8 (Gf.X a)) ∧ w = w' := by
  go_enter Try.func55, Try.ntmps55
  go_wp2
  go_ret
  exact ⟨ret_u8 (dbl h), rfl⟩
theorem pick {x y : Nat} (hx : x < 256) (hy : y < 256) : bits BinOp.and IntKind.u8 (x : Int) (-bits BinOp.and IntKind.u8 (y : Int) 1 % 256) = ((if y % 2 = 1 then x else 0 : Nat) : Int) := by
  have h1 : bits BinOp.and IntKind.u8 (y : Int) 1 = ((y % 2 : Nat) : Int) := by
    have := u8_and_nat y 1 hy (by decide)
    rw [nat_mask1] at this; exact this
  rw [h1]
  by_cases h : y % 2 = 1
  · rw [h, if_pos rfl]
    have := u8_and_nat x 255 hx (by decide)
    rw [nat_mask8, Nat.mod_eq_of_lt hx] at this; exact this
  · rw [if_neg h, show y % 2 = 0 by omega]
    have := u8_and_nat x 0 hx (by decide)
    rw [Nat.and_zero] at this; exact this
theorem mul_any (a b : Nat) (ha : a < 256) (hb : b < 256) (w : World) :
    Calls Try.prog 40 #[.int .u8 a, .int .u8 b] w fun e w' => e = .returned (.int .u8 (Gf.mul a b)) ∧ w = w' := by
  go_enter Try.func40, Try.ntmps40
  go_wp2
  go_loop [5, 0, 1] (fun p x y => ∃ n pv xv yv : Nat, yv < 2 ^ n ∧ yv < 256 ∧ pv < 256 ∧ xv < 256 ∧ p = .int .u8 pv ∧ x = .int .u8 xv ∧ y = .int .u8 yv ∧ Hid (pv ^^^ Gf.gm n xv yv = Gf.mul a b)) (fun _ _ y => (intOf y).toNat)
  case atStart => exact ⟨8, 0, a, b, hb, hb, by omega, ha, rfl, rfl, rfl, (by simp [Gf.mul] : _ = _)⟩
  case round =>
    obtain ⟨n, pv, xv, yv, hy, hy8, hp, hx, rfl, rfl, rfl, hrel⟩ := hrel
    by_cases h0 : yv = 0
    · subst h0
      go_wp2
      go_ret
      exact ⟨ret_u8 (by have := hrel.out; rw [Gf.gm_zero_right] at this; simp at this; omega), rfl⟩
    · have hne : ((yv : Int) != 0) = true := by simp; omega
      go_wp2_with (go_at_call 55; refine (double_any _ hx _).mono ?_; rintro e w' ⟨rfl, rfl⟩)
      go_round
      case rel =>
        obtain ⟨m, rfl⟩ : ∃ m, n = m + 1 := ⟨n - 1, by cases n <;> simp_all⟩
        have hlt : (if yv % 2 = 1 then xv else 0) < 256 := by split <;> omega
        refine ⟨m, pv ^^^ (if yv % 2 = 1 then xv else 0), Gf.X xv, yv / 2, by rw [Nat.pow_succ] at hy; omega, by omega, Gf.xor_lt hp hlt, Gf.X_lt hx, ?_, rfl, by simp, ?_⟩
        · rw [pick hx hy8, u8_xor_nat _ _ hp hlt]
        · show _ = _
          rw [← hrel.out, Gf.gm_step, Nat.xor_assoc]
      case measure => simp [intOf]; omega
theorem add_any (a b : Nat) (ha : a < 256) (hb : b < 256) (w : World) :
    Calls Try.prog 39 #[.int .u8 a, .int .u8 b] w fun e w' => e = .returned (.int .u8 ((a ^^^ b : Nat) : Int)) ∧ w = w' := by
  go_enter Try.func39, Try.ntmps39
  go_wp2
  go_ret
  exact ⟨ret_u8 (u8_xor_nat _ _ ha hb), rfl⟩
theorem inv_zero (w : World) :
    Calls Try.prog 51 #[.int .u8 0] w fun e w' => e = .returned (.tuple #[.int .u8 0, .int .i64 1]) ∧ w = w' := by
  go_enter Try.func51, Try.ntmps51
  go_wp2
  go_ret2
  exact ⟨rfl, rfl⟩
theorem inv_pos (a : Nat) (ha : a < 256) (h0 : a ≠ 0) (w : World) :
    Calls Try.prog 51 #[.int .u8 a] w fun e w' => e = .returned (.tuple #[.int .u8 (Gf.inv a), .int .i64 0]) ∧ w = w' := by
  have hne : ((a : Int) == 0) = false := by simp; omega
  have h6 := hidIt (Gf.ip_6 ha)
  clear h0
  go_enter Try.func51, Try.ntmps51
  go_wp2
  go_loop [4, 8] (fun p i => ∃ k : Nat, k ≤ 6 ∧ i = .int .i64 k ∧ p = .int .u8 (Gf.ip a k)) (fun _ i => 6 - (intOf i).toNat)
  case atStart => exact ⟨0, by omega, rfl, rfl⟩
  case round =>
    obtain ⟨k, hk, rfl, rfl⟩ := hrel
    have hl := Gf.ip_lt ha k
    by_cases hlt : k < 6
    · go_wp2_with (fail)
      refine (mul_any _ _ hl hl _).mono ?_
      rintro e w' ⟨rfl, rfl⟩
      go_wp2_with (fail)
      refine (mul_any _ _ (Gf.mul_lt _ hl) ha _).mono ?_
      rintro e w' ⟨rfl, rfl⟩
      go_wp2_with (fail)
      go_round
      case rel => exact ⟨k + 1, by omega, by go_num, rfl⟩
      case measure => simp [intOf]; omega
    · obtain rfl : k = 6 := by omega
      go_wp2_with (fail)
      refine (mul_any _ _ hl hl _).mono ?_
      rintro e w' ⟨rfl, rfl⟩
      go_wp2_with (fail)
      go_ret2
      exact ⟨by rw [h6.out]; rfl, rfl⟩
theorem div_zero_any (a : Int) (w : World) :
    Calls Try.prog 47 #[.int .u8 a, .int .u8 0] w fun e w' => e = .returned (.tuple #[.int .u8 0, .int .i64 1]) ∧ w = w' := by
  go_enter Try.func47, Try.ntmps47
  go_wp2_with (go_at_call 51; refine (inv_zero _).mono ?_; rintro e w' ⟨rfl, rfl⟩)
  go_ret2
  exact ⟨rfl, rfl⟩
theorem div_pos (a b : Nat) (ha : a < 256) (hb : b < 256) (h0 : b ≠ 0) (w : World) :
    Calls Try.prog 47 #[.int .u8 a, .int .u8 b] w fun e w' => e = .returned (.tuple #[.int .u8 (Gf.mul a (Gf.inv b)), .int .i64 0]) ∧ w = w' := by
  have hi : Gf.inv b < 256 := Gf.pw_lt b 254
  go_enter Try.func47, Try.ntmps47
  go_wp2_with (first | (go_at_call 51; refine (inv_pos b hb h0 _).mono ?_; rintro e w' ⟨rfl, rfl⟩) | (go_at_call 40; refine (mul_any _ _ ha hi _).mono ?_; rintro e w' ⟨rfl, rfl⟩))
  go_ret2
  exact ⟨rfl, rfl⟩
theorem mul_at {a b : Int} (x y : Nat) (z : Int) (ha : a = x) (hb : b = y) (hx : x < 256) (hy : y < 256) (h : (Gf.mul x y : Int) = z) (w : World) :
    Calls Try.prog 40 #[.int .u8 a, .int .u8 b] w fun e w' => e = .returned (.int .u8 z) ∧ w = w' := by
  subst ha hb h; exact mul_any x y hx hy w
theorem add_at {a b : Int} (x y : Nat) (z : Int) (ha : a = x) (hb : b = y) (hx : x < 256) (hy : y < 256) (h : ((x ^^^ y : Nat) : Int) = z) (w : World) :
    Calls Try.prog 39 #[.int .u8 a, .int .u8 b] w fun e w' => e = .returned (.int .u8 z) ∧ w = w' := by
  subst ha hb h; exact add_any x y hx hy w
end Go.Proofs.Ytcnjcfmgkkghjaa
