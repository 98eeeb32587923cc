import Derived.Test.YtgkomejckbccdaaDoorStr
import Derived.Shelf.Strconv.Itoa0
namespace Go.Proofs.YtgkomejckbccdaaDoor
open Go.RowKit Go.Shelf
def lays129_ren : Go.Shelf.Ren := ⟨fun | 129 => 93 | n => n, fun | 53 => 101 | 3 => 3 | 4 => 4 | 46 => 84 | 5 => 5 | 9 => 9 | n => n, fun | n => n⟩
theorem lays129 : Go.Proofs.Lays.n129 Tryd.prog lays129_ren := {
  mixed := by kernel_rfl
  f129 := Tryd.func93.trans (congrArg some (by kernel_rfl))
  t3 := Tryd.underlying3
  a3 := Tryd.isAgg3
  z3 := Tryd.sizeOf3
  v3 := Tryd.zeroValue3
  t4 := Tryd.underlying4
  a4 := Tryd.isAgg4
  z4 := Tryd.sizeOf4
  v4 := Tryd.zeroValue4
  t5 := Tryd.underlying5
  a5 := Tryd.isAgg5
  z5 := Tryd.sizeOf5
  v5 := Tryd.zeroValue5
  t9 := Tryd.underlying9
  a9 := Tryd.isAgg9
  z9 := Tryd.sizeOf9
  v9 := Tryd.zeroValue9
  t46 := Tryd.underlying84
  a46 := Tryd.isAgg84
  z46 := Tryd.sizeOf84
  v46 := Tryd.zeroValue84
  t53 := Tryd.underlying101
  a53 := Tryd.isAgg101
  z53 := Tryd.sizeOf101
  v53 := Tryd.zeroValue101 }
theorem bitLenAux_log (f : Nat) : ∀ x, x < 2 ^ f → Lib.bitLenAux f x = if x = 0 then 0 else Nat.log2 x + 1 := by
  induction f with
  | zero => intro x h; have : x = 0 := by simpa using h
            subst this; rfl
  | succ f ih =>
    intro x h
    unfold Lib.bitLenAux
    by_cases hx : x = 0
    · subst hx; rfl
    · rw [if_neg hx, if_neg hx, ih (x / 2) (by rw [Nat.pow_succ] at h; omega)]
      rw [Nat.log2_def x]
      by_cases h1 : x = 1
      · subst h1; rfl
      · rw [if_pos (show 2 ≤ x by omega), if_neg (show ¬ x / 2 = 0 by omega)]; omega
theorem len64_any (n : Nat) (h0 : 0 < n) (h : n < 18446744073709551616) (w : World) :
    Calls Tryd.prog 93 #[.int .u64 n] w fun e w' => e = .returned (.int .i64 ((Nat.log2 n + 1 : Nat) : Int)) ∧ w = w' := by
  refine (Any.bits_Len64 lays129 (n : Int) w (by omega) (by omega)).mono ?_
  rintro e w' ⟨rfl, rfl⟩
  refine ⟨?_, rfl⟩
  unfold Lib.bitLen
  rw [Int.toNat_natCast, bitLenAux_log 64 n (by simpa using h), if_neg (by omega)]
theorem len_uint (n : Nat) (h0 : 0 < n) (h : n < 18446744073709551616) (w : World) :
    Calls Tryd.prog 82 #[.int .u64 n] w fun e w' => e = .returned (.int .i64 ((Nat.log2 n + 1 : Nat) : Int)) ∧ w = w' := by
  go_enter Tryd.func82, Tryd.ntmps82
  go_wp2_with (fail)
  refine (len64_any n h0 h _).mono ?_
  rintro e w' ⟨rfl, rfl⟩
  go_wp2_with (fail)
  go_ret
  exact ⟨rfl, rfl⟩
theorem log2_small {n : Nat} (h : n < 9223372036854775808) (h0 : 0 < n) : Nat.log2 n < 63 := by
  have h1 := Nat.log2_self_le (n := n) (by omega)
  have h2 : (2 : Nat) ^ Nat.log2 n < 2 ^ 63 := Nat.lt_of_le_of_lt h1 h
  exact (Nat.pow_lt_pow_iff_right (by decide : 1 < 2)).1 h2
theorem split_any (n : Nat) (h2 : 2 ≤ n) (h : n < 9223372036854775808) (w : World) :
    Calls Tryd.prog 58 #[.int .i64 n] w fun e w' => e = .returned (.int .i64 (Mk.spl n)) ∧ w = w' := by
  obtain ⟨m, hm⟩ : ∃ m, Hid (n - 1 = m) := ⟨_, rfl⟩
  obtain ⟨j, hj⟩ : ∃ j, Hid (Nat.log2 m = j) := ⟨_, rfl⟩
  have hm0 : Hid (0 < m) := by have := hm.out; show _ < _; omega
  have e1 : (n : Int) - 1 = (m : Int) := by have := hm.out; omega
  have j63 : j < 63 := by rw [← hj.out]; exact log2_small (by have := hm.out; omega) hm0.out
  have e2 : ((j + 1 : Nat) : Int) - 1 = (j : Int) := by omega
  have hres : Hid (Mk.spl n = 2 ^ j) := by show _ = _; unfold Mk.spl; rw [hm.out, hj.out]
  rw [hres.out]
  go_enter Tryd.func58, Tryd.ntmps58
  go_wp2_with (fail)
  refine (len_uint m hm0.out (by have := hm.out; omega) _).mono ?_
  rintro e w' ⟨rfl, rfl⟩
  rw [hj.out]
  go_wp2_with (fail)
  go_ret
  have h3 : 2 ^ j < 9223372036854775808 := Nat.lt_of_lt_of_le ((Nat.pow_lt_pow_iff_right (by decide : 1 < 2)).2 j63) (by decide)
  have h4 : ((2 : Int) ^ j) = ((2 ^ j : Nat) : Int) := by simp
  exact ⟨ret_int (by rw [h4]; clear h4; generalize (2 ^ j : Nat) = p at h3 ⊢; unfold wrap64; omega), rfl⟩
end Go.Proofs.YtgkomejckbccdaaDoor
