import Derived.Test.YtneiglhcfgnclaaDoorBy3
import Derived.Test.YtneiglhcfgnclaaDoorRh
import Derived.Lib.TrailingZeros
namespace Go.Proofs.YtneiglhcfgnclaaDoor
open Go.RowKit
set_option maxRecDepth 100000 in
theorem rotl_any (x n : Nat) (k : Int) (hk : k = n) (hx : x < 18446744073709551616) (h1 : 1 ≤ n) (h2 : n ≤ 64) (w : World) :
    Calls Tryd.prog 28 #[.int .u64 x, .int .i64 k] w fun e w' => e = .returned (.int .u64 (Rh.rot x n)) ∧ w = w' := by
  subst hk
  have hor := hidIt (Rh.rl_eq hx (n := n) h2)
  by_cases h64 : n = 64
  · have h0 := hidIt (Rh.rot_64 hx)
    have hr : Hid (Rh.rot x n = x) := by show _ = _; rw [h64]; exact h0.out
    subst h64
    have e1 : (x : Int) / 18446744073709551616 = 0 := by omega
    have e2 : bits BinOp.or IntKind.u64 (x : Int) 0 = (x : Int) := by
      have := u64_or_nat x 0 hx (by decide)
      rw [Nat.or_zero] at this; exact this
    have e3 : (x : Int) % 18446744073709551616 = (x : Int) := by omega
    have hA : bits BinOp.and IntKind.u64 64 63 = 0 := by rfl
    clear hor h1 h2 h0
    go_enter Tryd.func28, Tryd.ntmps28
    go_wp2
    go_ret
    refine ⟨ret_int ?_, rfl⟩
    rw [hr.out]
    try simp only [e1, e2, e3]
  · obtain ⟨s, hs⟩ : ∃ s, s + n = 64 := ⟨64 - n, by omega⟩
    have ha : bits BinOp.and IntKind.u64 (n : Int) 63 = (n : Int) := by
      have e2 := u64_and_nat n 63 (by omega) (by decide)
      rw [show (63 : Int) = ((63 : Nat) : Int) from rfl, e2, show (63 : Nat) = 2 ^ 6 - 1 from rfl, Nat.and_two_pow_sub_one_eq_mod]
      omega
    have hn : (64 : Int) - (n : Int) = (s : Int) := by omega
    have hb1 : 1 ≤ s := by omega
    have hb2 : s ≤ 63 := by omega
    have hsn : Hid (s = 64 - n) := by show _ = _; omega
    clear hs
    go_enter Tryd.func28, Tryd.ntmps28
    go_wp2
    go_ret
    refine ⟨ret_int ?_, rfl⟩
    have e1 : IntKind.u64.wrap ((x : Int) * 2 ^ n) = ((x * 2 ^ n % 18446744073709551616 : Nat) : Int) := by rw [IntKind.wrap_u64, Int.natCast_emod, Int.natCast_mul, Int.natCast_pow]; rfl
    have e2 : (x : Int) / 2 ^ s = ((x / 2 ^ s : Nat) : Int) := by rw [Int.natCast_ediv, Int.natCast_pow]; rfl
    rw [e1, e2, u64_or_nat _ _ (Nat.mod_lt _ (by decide)) (Nat.lt_of_le_of_lt (Nat.div_le_self _ _) hx), hsn.out, hor.out]
theorem rot1_int {x : Nat} (hx : x < 18446744073709551616) : bits BinOp.or IntKind.u64 (IntKind.u64.wrap ((x : Int) * 2)) ((x : Int) / 9223372036854775808) = (Rh.rot1 x : Int) := by
  have e1 : IntKind.u64.wrap ((x : Int) * 2) = ((x * 2 % 18446744073709551616 : Nat) : Int) := by rw [IntKind.wrap_u64]; omega
  have e2 : (x : Int) / 9223372036854775808 = ((x / 2 ^ 63 : Nat) : Int) := by omega
  rw [e1, e2, u64_or_nat _ _ (Nat.mod_lt _ (by decide)) (by omega)]
  rfl
set_option maxRecDepth 100000 in
theorem refrot_any (x n : Nat) (hx : x < 18446744073709551616) (h2 : n ≤ 64) (w : World) :
    Calls Tryd.prog 24 #[.int .u64 x, .int .i64 n] w fun e w' => e = .returned (.int .u64 (Rh.rot x n)) ∧ w = w' := by
  go_enter Tryd.func24, Tryd.ntmps24
  go_wp2
  go_loopw [0, 5] (fun x' i wr => ∃ k y : Nat, k ≤ n ∧ i = .int .i64 k ∧ x' = .int .u64 (y : Int) ∧ Hid (y = Rh.rot x k) ∧ wr = w) (fun _ i _ => n - (intOf i).toNat)
  case atStart => exact ⟨0, x, by omega, rfl, rfl, rfl, rfl⟩
  case round =>
    obtain ⟨k, y, hk, rfl, rfl, hy, rfl⟩ := hrel
    by_cases hlt : k < n
    · have hyl : y < 18446744073709551616 := by rw [hy.out]; exact Rh.rot_lt hx k
      have hz := rot1_int hyl
      have hz2 : Hid (Rh.rot1 y = Rh.rot x (k + 1)) := by show _ = _; rw [hy.out]; rfl
      generalize Rh.rot1 y = z at *
      go_wp2
      go_roundw
      case rel => exact ⟨k + 1, z, by omega, by go_num, rfl, hz2, trivial⟩
      case measure => simp [intOf]; omega
    · obtain rfl : k = n := by omega
      have hy2 := hidIt hy.out
      go_wp2
      go_ret
      exact ⟨by rw [hy2.out]; rfl, rfl⟩
end Go.Proofs.YtneiglhcfgnclaaDoor
