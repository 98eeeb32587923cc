import Derived.Test.YtfdbdhknamkipaaBase
import Derived.Test.YtfdbdhknamkipaaEnc2
import Derived.Shelf.Strconv.Itoa0
namespace Go.Proofs.Ytfdbdhknamkipaa
open Go.RowKit Go.Shelf
def lays129_ren : Go.Shelf.Ren := ⟨fun | 129 => 50 | n => n, fun | 53 => 35 | 3 => 3 | 4 => 4 | 46 => 76 | 5 => 5 | 9 => 9 | n => n, fun | n => n⟩
theorem lays129 : Go.Proofs.Lays.n129 Try.prog lays129_ren := {
  mixed := by kernel_rfl
  f129 := Try.func50.trans (congrArg some (by kernel_rfl))
  t3 := Try.underlying3
  a3 := Try.isAgg3
  z3 := Try.sizeOf3
  v3 := Try.zeroValue3
  t4 := Try.underlying4
  a4 := Try.isAgg4
  z4 := Try.sizeOf4
  v4 := Try.zeroValue4
  t5 := Try.underlying5
  a5 := Try.isAgg5
  z5 := Try.sizeOf5
  v5 := Try.zeroValue5
  t9 := Try.underlying9
  a9 := Try.isAgg9
  z9 := Try.sizeOf9
  v9 := Try.zeroValue9
  t46 := Try.underlying76
  a46 := Try.isAgg76
  z46 := Try.sizeOf76
  v46 := Try.zeroValue76
  t53 := Try.underlying35
  a53 := Try.isAgg35
  z53 := Try.sizeOf35
  v53 := Try.zeroValue35 }
theorem bitLenAux_bl (f : Nat) : ∀ x, x < 2 ^ f → Lib.bitLenAux f x = En.bl x := by
  induction f with
  | zero => intro x h; have : x = 0 := by simpa using h
            subst this; rfl
  | succ f ih =>
    intro x h
    unfold Lib.bitLenAux
    by_cases hx : x = 0
    · subst hx; rfl
    · rw [if_neg hx, ih (x / 2) (by rw [Nat.pow_succ] at h; omega)]
      by_cases h1 : x = 1
      · subst h1; rfl
      · have := En.bl_div x 1 (by omega)
        rw [this]; simp [Nat.add_comm]
theorem len64_any (n : Nat) (h : n < 18446744073709551616) (w : World) :
    Calls Try.prog 50 #[.int .u64 n] w fun e w' => e = .returned (.int .i64 (En.bl n)) ∧ w = w' := by
  refine (Any.bits_Len64 lays129 (n : Int) w (by omega) (by omega)).mono ?_
  rintro e w' ⟨rfl, rfl⟩
  refine ⟨?_, rfl⟩
  unfold Lib.bitLen
  rw [Int.toNat_natCast, bitLenAux_bl 64 n (by simpa using h)]
theorem uintSize_any (n : Nat) (h : n < 18446744073709551616) (w : World) :
    Calls Try.prog 30 #[.int .u64 n] w fun e w' => e = .returned (.int .i64 (En.enc n).length) ∧ w = w' := by
  have hb : En.bl n ≤ 64 := En.bl_le (by simpa using h)
  have he := hidIt (En.enc_bl (n := n) (by simpa using h))
  go_enter Try.func30, Try.ntmps30
  go_wp2_with (fail)
  refine (len64_any n h _).mono ?_
  rintro e w' ⟨rfl, rfl⟩
  go_wp2_with (fail)
  go_ret
  exact ⟨ret_int (by rw [he.out]; omega), rfl⟩
/-- the zigzag number of an int -/
def zig (n : Int) : Nat := if n < 0 then (-2 * n - 1).toNat else (2 * n).toNat
theorem zig_lt {n : Int} (h1 : -9223372036854775808 ≤ n) (h2 : n ≤ 9223372036854775807) : zig n < 18446744073709551616 := by unfold zig; split <;> omega
theorem not_i64 (m : Int) (h1 : -9223372036854775808 ≤ m) (h2 : m ≤ 9223372036854775807) : bits BinOp.xor IntKind.i64 (-1) m = -m - 1 := by
  have h3 : BitVec.ofInt 64 (-1) = BitVec.allOnes 64 := by decide
  show IntKind.i64.wrap ((BitVec.ofInt 64 (-1) ^^^ BitVec.ofInt 64 m).toNat : Nat) = _
  rw [h3, BitVec.allOnes_xor, BitVec.toNat_not, BitVec.toNat_ofInt, IntKind.wrap_i64]
  omega
theorem or_one (m : Nat) (h : 2 * m + 1 < 18446744073709551616) : bits BinOp.or IntKind.u64 ((m : Int) * 2) 1 = ((2 * m + 1 : Nat) : Int) := by
  have h1 := u64_or_nat (m * 2) 1 (by omega) (by omega)
  have h2 : m * 2 ||| 1 = m * 2 + 1 := by
    have := En.or_add (acc := 1) (b := m) (s := 1) (by decide)
    rw [Nat.or_comm, show m * 2 = m * 2 ^ 1 by simp, this]; omega
  rw [h2] at h1
  rw [show ((m : Int) * 2) = ((m * 2 : Nat) : Int) by simp, show (1 : Int) = ((1 : Nat) : Int) by rfl, h1]
  omega
theorem zigzag_any (n : Int) (h1 : -9223372036854775808 ≤ n) (h2 : n ≤ 9223372036854775807) (w : World) :
    Calls Try.prog 29 #[.int .i64 n] w fun e w' => e = .returned (.int .u64 (zig n)) ∧ w = w' := by
  by_cases hn : n < 0
  · obtain ⟨m, hm⟩ : ∃ m : Nat, -n - 1 = m := ⟨(-n - 1).toNat, by omega⟩
    have hx : bits BinOp.xor IntKind.i64 (-1) n = (m : Int) := by rw [not_i64 n h1 h2, hm]
    have hw1 : IntKind.u64.wrap (m : Int) = (m : Int) := by rw [IntKind.wrap_u64]; omega
    have hw2 : IntKind.u64.wrap ((m : Int) * 2) = (m : Int) * 2 := by rw [IntKind.wrap_u64]; omega
    have ho := or_one m (by omega)
    have hz : Hid (zig n = 2 * m + 1) := by show _ = _; unfold zig; rw [if_pos hn]; omega
    clear hm
    go_enter Try.func29, Try.ntmps29
    go_wp2_with (fail)
    all_goals (go_ret; exact ⟨ret_int (by rw [hz.out]; simp), rfl⟩)
  · have hz : Hid ((zig n : Int) = n * 2) := by show _ = _; unfold zig; rw [if_neg hn]; omega
    go_enter Try.func29, Try.ntmps29
    go_wp2_with (fail)
    go_ret
    exact ⟨ret_int (by rw [hz.out]), rfl⟩
def unzig (n : Nat) : Int := if n % 2 = 1 then -((n / 2 : Nat) : Int) - 1 else ((n / 2 : Nat) : Int)
theorem and_one (n : Nat) (h : n < 18446744073709551616) : bits BinOp.and IntKind.u64 (n : Int) 1 = ((n % 2 : Nat) : Int) := by
  have h1 := u64_and_nat n 1 h (by omega)
  rw [nat_mask1] at h1
  exact h1
theorem unzigzag_any (n : Nat) (h : n < 18446744073709551616) (w : World) :
    Calls Try.prog 51 #[.int .u64 n] w fun e w' => e = .returned (.int .i64 (unzig n)) ∧ w = w' := by
  by_cases hn : n % 2 = 1
  · have ha : bits BinOp.and IntKind.u64 (n : Int) 1 = 1 := by rw [and_one n h, hn]; rfl
    have hx : bits BinOp.xor IntKind.i64 (-1) ((n : Int) / 2) = -((n : Int) / 2) - 1 := not_i64 _ (by omega) (by omega)
    have hz : Hid (unzig n = -((n : Int) / 2) - 1) := by show _ = _; unfold unzig; rw [if_pos hn]; simp
    clear hn
    go_enter Try.func51, Try.ntmps51
    go_wp2_with (fail)
    all_goals (go_ret; exact ⟨ret_int (by rw [hz.out]), rfl⟩)
  · have ha : bits BinOp.and IntKind.u64 (n : Int) 1 = 0 := by rw [and_one n h, show n % 2 = 0 by omega]; rfl
    have hz : Hid (unzig n = (n : Int) / 2) := by show _ = _; unfold unzig; rw [if_neg hn]; simp
    clear hn
    go_enter Try.func51, Try.ntmps51
    go_wp2_with (fail)
    all_goals (go_ret; exact ⟨ret_int (by rw [hz.out]), rfl⟩)
end Go.Proofs.Ytfdbdhknamkipaa
