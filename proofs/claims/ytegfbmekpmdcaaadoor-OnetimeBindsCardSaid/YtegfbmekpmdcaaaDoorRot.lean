import Derived.Test.YtegfbmekpmdcaaaDoorBy
import Derived.Test.YtegfbmekpmdcaaaDoorSha
namespace Go.Proofs.YtegfbmekpmdcaaaDoor
open Go.RowKit
theorem rotl_any (x n : Nat) (hx : x < 4294967296) (h1 : 1 ≤ n) (h2 : n ≤ 31) (w : World) :
    Calls Tryd.prog 87 #[.int .u32 x, .int .i64 (-(n : Int))] w fun e w' => e = .returned (.int .u32 (Sh.rr x n)) ∧ w = w' := by
  obtain ⟨s, hs⟩ : ∃ s, s + n = 32 := ⟨32 - n, by omega⟩
  have ha : bits BinOp.and IntKind.u64 (IntKind.u64.wrap (-(n : Int))) 31 = (s : Int) := by
    have e1 : IntKind.u64.wrap (-(n : Int)) = ((18446744073709551616 - n : Nat) : Int) := by rw [IntKind.wrap_u64]; omega
    rw [e1]
    have e2 := u64_and_nat (18446744073709551616 - n) 31 (by omega) (by decide)
    rw [show (31 : Int) = ((31 : Nat) : Int) from rfl, e2, show (31 : Nat) = 2 ^ 5 - 1 from rfl, Nat.and_two_pow_sub_one_eq_mod]
    omega
  have hn : (32 : Int) - (s : Int) = (n : Int) := by omega
  have hb : 1 ≤ s ∧ s ≤ 31 := by omega
  have hsn : Hid (s = 32 - n) := by show _ = _; omega
  have hb1 := hb.1
  have hb2 := hb.2
  clear hs hb
  go_enter Tryd.func87, Tryd.ntmps87
  go_wp2
  go_ret
  refine ⟨ret_int ?_, rfl⟩
  have e1 : (x : Int) * 2 ^ s % 4294967296 = ((x * 2 ^ s % 4294967296 : Nat) : Int) := by rw [Int.natCast_emod, Int.natCast_mul, Int.natCast_pow]; rfl
  have e2 : (x : Int) / 2 ^ n = ((x / 2 ^ n : Nat) : Int) := by rw [Int.natCast_ediv, Int.natCast_pow]; rfl
  rw [e1, e2, u32_or_nat _ _ (Nat.mod_lt _ (by decide)) (Nat.lt_of_le_of_lt (Nat.div_le_self _ _) hx), Nat.or_comm, hsn.out]
  rfl
theorem rot_any (x n : Nat) (k : Int) (hk : k = n) (hx : x < 4294967296) (h1 : 1 ≤ n) (h2 : n ≤ 31) (w : World) :
    Calls Tryd.prog 86 #[.int .u32 x, .int .i64 k] w fun e w' => e = .returned (.int .u32 (Sh.rr x n)) ∧ w = w' := by
  subst hk
  go_enter Tryd.func86, Tryd.ntmps86
  go_wp2_with (fail)
  refine (rotl_any x n hx h1 h2 _).mono ?_
  rintro e w' ⟨rfl, rfl⟩
  go_wp2_with (fail)
  go_ret
  exact ⟨rfl, rfl⟩
end Go.Proofs.YtegfbmekpmdcaaaDoor
