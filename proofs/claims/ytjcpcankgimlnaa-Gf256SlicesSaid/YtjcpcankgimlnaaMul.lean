import Derived.Test.YtjcpcankgimlnaaRows
import Derived.Test.YtjcpcankgimlnaaGf
import Derived.WalkKit
import Derived.ProofKit
import Derived.Outline
import Derived.WalkLawsBesides
import Derived.Laws.BitsAllLaws
namespace Go.Proofs.Ytjcpcankgimlnaa
open Go.RowKit
theorem hidIt {p : Prop} (h : p) : Hid p := h
theorem ret_u8 {a b : Int} (h : a = b) : Ending.returned (.int .u8 a) = .returned (.int .u8 b) := by rw [h]
theorem dbl_all : ∀ a : Fin 256, bits BinOp.xor IntKind.u8 ((a.val : Int) * 2 % 256) (bits BinOp.and IntKind.u8 29 (-((a.val : Int) / 128) % 256)) = (Gf.X a.val : Int) := by decide +kernel
theorem dbl {a : Nat} (h : a < 256) : bits BinOp.xor IntKind.u8 ((a : Int) * 2 % 256) (bits BinOp.and IntKind.u8 29 (-((a : Int) / 128) % 256)) = (Gf.X a : Int) := dbl_all ⟨a, h⟩
theorem double_any (a : Nat) (h : a < 256) (w : World) :
    Calls Try.prog 33 #[.int .u8 a] w fun e w' => e = .returned (.int .u8 (Gf.X a)) ∧ w = w' := by
  go_enter Try.func33, Try.ntmps33
  go_wp2
  go_ret
  exact ⟨ret_u8 (dbl h), rfl⟩
theorem pick {x y : Nat} (hx : x < 256) (hy : y < 256) : bits BinOp.and IntKind.u8 (x : Int) (-bits BinOp.and IntKind.u8 (y : Int) 1 % 256) = ((if y % 2 = 1 then x else 0 : Nat) : Int) := by
  have h1 : bits BinOp.and IntKind.u8 (y : Int) 1 = ((y % 2 : Nat) : Int) := by
    have := u8_and_nat y 1 hy (by decide)
    rw [nat_mask1] at this; exact this
  rw [h1]
  by_cases h : y % 2 = 1
  · rw [h, if_pos rfl]
    have := u8_and_nat x 255 hx (by decide)
    rw [nat_mask8, Nat.mod_eq_of_lt hx] at this; exact this
  · rw [if_neg h, show y % 2 = 0 by omega]
    have := u8_and_nat x 0 hx (by decide)
    rw [Nat.and_zero] at this; exact this
theorem mul_any (a b : Nat) (ha : a < 256) (hb : b < 256) (w : World) :
    Calls Try.prog 15 #[.int .u8 a, .int .u8 b] w fun e w' => e = .returned (.int .u8 (Gf.mul a b)) ∧ w = w' := by
  go_enter Try.func15, Try.ntmps15
  go_wp2
  go_loop [5, 0, 1] (fun p x y => ∃ n pv xv yv : Nat, yv < 2 ^ n ∧ yv < 256 ∧ pv < 256 ∧ xv < 256 ∧ p = .int .u8 pv ∧ x = .int .u8 xv ∧ y = .int .u8 yv ∧ Hid (pv ^^^ Gf.gm n xv yv = Gf.mul a b)) (fun _ _ y => (intOf y).toNat)
  case atStart => exact ⟨8, 0, a, b, hb, hb, by omega, ha, rfl, rfl, rfl, (by simp [Gf.mul] : _ = _)⟩
  case round =>
    obtain ⟨n, pv, xv, yv, hy, hy8, hp, hx, rfl, rfl, rfl, hrel⟩ := hrel
    by_cases h0 : yv = 0
    · subst h0
      go_wp2
      go_ret
      exact ⟨ret_u8 (by have := hrel.out; rw [Gf.gm_zero_right] at this; simp at this; omega), rfl⟩
    · have hne : ((yv : Int) != 0) = true := by simp; omega
      go_wp2_with (go_at_call 33; refine (double_any _ hx _).mono ?_; rintro e w' ⟨rfl, rfl⟩)
      go_round
      case rel =>
        obtain ⟨m, rfl⟩ : ∃ m, n = m + 1 := ⟨n - 1, by cases n <;> simp_all⟩
        have hlt : (if yv % 2 = 1 then xv else 0) < 256 := by split <;> omega
        refine ⟨m, pv ^^^ (if yv % 2 = 1 then xv else 0), Gf.X xv, yv / 2, by rw [Nat.pow_succ] at hy; omega, by omega, Gf.xor_lt hp hlt, Gf.X_lt hx, ?_, rfl, by simp, ?_⟩
        · rw [pick hx hy8, u8_xor_nat _ _ hp hlt]
        · show _ = _
          rw [← hrel.out, Gf.gm_step, Nat.xor_assoc]
      case measure => simp [intOf]; omega
end Go.Proofs.Ytjcpcankgimlnaa
