import Derived.Test.YtjcpcankgimlnaaFill
import Derived.Deep.QuietTactic
import Derived.BigQuiet
namespace Go.Proofs.Ytjcpcankgimlnaa
open Go.RowKit
theorem ret_i64 {a b : Int} (h : a = b) : Ending.returned (.int .i64 a) = .returned (.int .i64 b) := by rw [h]
theorem fieldPow (T : Array Value) (w : World) : (Instr.field 53 (.agg T) 0).run Try.prog w = .ok (.agg (T.extract 0 255)) w := by kernel_rfl
theorem fieldLog (T : Array Value) (w : World) : (Instr.field 53 (.agg T) 1).run Try.prog w = .ok (.agg (T.extract 255 511)) w := by kernel_rfl
theorem partU8 (cs : Array Value) (off : Nat) (w : World) : (part 5 cs off).run Try.prog w = (match cs[off]? with | some v => (pure v : Sem Value) | none => stuck "part: no such cell").run Try.prog w := by kernel_rfl
theorem partInt (cs : Array Value) (off : Nat) (w : World) : (part 3 cs off).run Try.prog w = (match cs[off]? with | some v => (pure v : Sem Value) | none => stuck "part: no such cell").run Try.prog w := by kernel_rfl
theorem getExtract {T : Array Value} {a b i : Nat} {v : Value} (hb : b ≤ T.size) (h : i < b - a) (hv : T[a + i]? = some v) : (T.extract a b)[i]? = some v := by
  rw [Array.getElem?_extract, if_pos (by omega)]; exact hv
theorem indexPow (cs : Array Value) (i : Nat) (v : Value) (h : i < 255) (hv : cs[i]? = some v) (w : World) : (Instr.index 50 (.agg cs) (.int .i64 i)).run Try.prog w = .ok v w := by
  have h1 : (0 ≤ (i : Int) ∧ (i : Int) < 255) := by omega
  simp [Instr.index, asIntOf, run_underlying Try.underlying50, h1, partU8, hv]
  omega
theorem indexLog (cs : Array Value) (i : Nat) (v : Value) (h : i < 256) (hv : cs[i]? = some v) (w : World) : (Instr.index 51 (.agg cs) (.int .u8 i)).run Try.prog w = .ok v w := by
  have h1 : (0 ≤ (i : Int) ∧ (i : Int) < 256) := by omega
  simp [Instr.index, asIntOf, run_underlying Try.underlying51, h1, partInt, hv]
  omega
theorem add_any (a b : Nat) (ha : a < 256) (hb : b < 256) (w : World) :
    Calls Try.prog 14 #[.int .u8 a, .int .u8 b] w fun e w' => e = .returned (.int .u8 ((a ^^^ b : Nat) : Int)) ∧ w = w' := by
  go_enter Try.func14, Try.ntmps14
  go_wp2
  go_ret
  exact ⟨ret_u8 (u8_xor_nat _ _ ha hb), rfl⟩
theorem inv_zero (w : World) :
    Calls Try.prog 13 #[.int .u8 0] w fun e w' => e = .returned (.tuple #[.int .u8 0, .int .i64 1]) ∧ w = w' := by
  go_enter Try.func13, Try.ntmps13
  go_wp2
  go_ret2
  exact ⟨rfl, rfl⟩
theorem inv_pos (a : Nat) (ha : a < 256) (h0 : a ≠ 0) (w : World) :
    Calls Try.prog 13 #[.int .u8 a] w fun e w' => e = .returned (.tuple #[.int .u8 (Gf.inv a), .int .i64 0]) ∧ w = w' := by
  have hne : ((a : Int) == 0) = false := by simp; omega
  have h6 := hidIt (Gf.ip_6 ha)
  clear h0
  go_enter Try.func13, Try.ntmps13
  go_wp2
  go_loop [4, 8] (fun p i => ∃ k : Nat, k ≤ 6 ∧ i = .int .i64 k ∧ p = .int .u8 (Gf.ip a k)) (fun _ i => 6 - (intOf i).toNat)
  case atStart => exact ⟨0, by omega, rfl, rfl⟩
  case round =>
    obtain ⟨k, hk, rfl, rfl⟩ := hrel
    have hl := Gf.ip_lt ha k
    by_cases hlt : k < 6
    · go_wp2_with (fail)
      refine (mul_any _ _ hl hl _).mono ?_
      rintro e w' ⟨rfl, rfl⟩
      go_wp2_with (fail)
      refine (mul_any _ _ (Gf.mul_lt _ hl) ha _).mono ?_
      rintro e w' ⟨rfl, rfl⟩
      go_wp2_with (fail)
      go_round
      case rel => exact ⟨k + 1, by omega, by go_num, rfl⟩
      case measure => simp [intOf]; omega
    · obtain rfl : k = 6 := by omega
      go_wp2_with (fail)
      refine (mul_any _ _ hl hl _).mono ?_
      rintro e w' ⟨rfl, rfl⟩
      go_wp2_with (fail)
      go_ret2
      exact ⟨by rw [h6.out]; rfl, rfl⟩
theorem div_zero_any (a : Int) (w : World) :
    Calls Try.prog 12 #[.int .u8 a, .int .u8 0] w fun e w' => e = .returned (.tuple #[.int .u8 0, .int .i64 1]) ∧ w = w' := by
  go_enter Try.func12, Try.ntmps12
  go_wp2_with (go_at_call 13; refine (inv_zero _).mono ?_; rintro e w' ⟨rfl, rfl⟩)
  go_ret2
  exact ⟨rfl, rfl⟩
theorem div_pos (a b : Nat) (ha : a < 256) (hb : b < 256) (h0 : b ≠ 0) (w : World) :
    Calls Try.prog 12 #[.int .u8 a, .int .u8 b] w fun e w' => e = .returned (.tuple #[.int .u8 (Gf.mul a (Gf.inv b)), .int .i64 0]) ∧ w = w' := by
  have hi : Gf.inv b < 256 := Gf.pw_lt b 254
  go_enter Try.func12, Try.ntmps12
  go_wp2_with (first | (go_at_call 13; refine (inv_pos b hb h0 _).mono ?_; rintro e w' ⟨rfl, rfl⟩) | (go_at_call 15; refine (mul_any _ _ ha hi _).mono ?_; rintro e w' ⟨rfl, rfl⟩))
  go_ret2
  exact ⟨rfl, rfl⟩
theorem sqrt_any (a : Nat) (ha : a < 256) (w : World) :
    Calls Try.prog 23 #[.int .u8 a] w fun e w' => e = .returned (.int .u8 (Gf.sqrt a)) ∧ w = w' := by
  go_enter Try.func23, Try.ntmps23
  go_wp2
  go_loop [0, 3] (fun p i => ∃ k : Nat, k ≤ 7 ∧ i = .int .i64 k ∧ p = .int .u8 (Gf.sq a k)) (fun _ i => 7 - (intOf i).toNat)
  case atStart => exact ⟨0, by omega, rfl, rfl⟩
  case round =>
    obtain ⟨k, hk, rfl, rfl⟩ := hrel
    have hl := Gf.sq_lt ha k
    by_cases hlt : k < 7
    · go_wp2_with (go_at_call 15; refine (mul_any _ _ hl hl _).mono ?_; rintro e w' ⟨rfl, rfl⟩)
      go_round
      case rel => exact ⟨k + 1, by omega, by go_num, rfl⟩
      case measure => simp [intOf]; omega
    · obtain rfl : k = 7 := by omega
      go_wp2
      go_ret
      exact ⟨rfl, rfl⟩
theorem residue_any (n : Int) (w : World) :
    Calls Try.prog 35 #[.int .i64 n] w fun e w' => e = .returned (.int .i64 (Gf.res n)) ∧ w = w' := by
  have ⟨hb1, hb2⟩ := Gf.tmod_bd n
  go_enter Try.func35, Try.ntmps35
  go_wp2
  go_ret
  exact ⟨ret_i64 (Gf.res_eq2 n), rfl⟩
theorem exp_any (n : Int) (w : World) :
    Calls Try.prog 21 #[.int .i64 n] w fun e w' => e = .returned (.int .u8 (Gf.E (Gf.res n))) ∧ Below w.heap.size w w' := by
  have hr := Gf.res_lt n
  have hv := tab_pow 255 (Gf.res n) hr (by omega)
  have hf := fieldPow (tab 255)
  have hx := indexPow ((tab 255).extract 0 255) (Gf.res n) (.int .u8 (Gf.E (Gf.res n))) hr (getExtract (by rw [tab_size]; omega) (by omega) (by rw [Nat.zero_add]; exact hv))
  clear hv
  go_enter Try.func21, Try.ntmps21
  go_wp2_with (first | (go_at_call 34; refine (fill_any _).mono ?_; rintro e w' ⟨rfl, rfl⟩) | (go_at_call 35; refine (residue_any n _).mono ?_; rintro e w' ⟨rfl, rfl⟩))
  go_ret
  exact ⟨rfl, (Below.refl _ _).alloc (Nat.le_refl _) _⟩
theorem log_zero (w : World) :
    Calls Try.prog 19 #[.int .u8 0] w fun e w' => e = .returned (.tuple #[.int .i64 0, .int .i64 1]) ∧ w = w' := by
  go_enter Try.func19, Try.ntmps19
  go_wp2
  go_ret2
  exact ⟨rfl, rfl⟩
theorem log_pos (a : Nat) (ha : a < 256) (h0 : a ≠ 0) (w : World) :
    Calls Try.prog 19 #[.int .u8 a] w fun e w' => e = .returned (.tuple #[.int .i64 (Gf.lg a), .int .i64 0]) ∧ Below w.heap.size w w' := by
  have hv := tab_lg ha h0
  have hf := fieldLog (tab 255)
  have hx := indexLog ((tab 255).extract 255 511) a (.int .i64 (Gf.lg a)) ha (getExtract (by rw [tab_size]; omega) (by omega) hv)
  have hne : ((a : Int) == 0) = false := by simp; omega
  clear hv h0
  go_enter Try.func19, Try.ntmps19
  go_wp2_with (go_at_call 34; refine (fill_any _).mono ?_; rintro e w' ⟨rfl, rfl⟩)
  go_ret2
  exact ⟨rfl, (Below.refl _ _).alloc (Nat.le_refl _) _⟩
end Go.Proofs.Ytjcpcankgimlnaa
