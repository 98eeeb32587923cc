import Derived.Test.YtneiglhcfgnclaaDoorRo1
namespace Go.Proofs.YtneiglhcfgnclaaDoor
open Go.RowKit
theorem n0_int (s i : Nat) : IntKind.u64.wrap ((s : Int) + IntKind.u64.wrap (((i : Int) + 1) * 11400714819323198485)) = (Rh.n0 s i : Int) := by
  unfold Rh.n0; rw [IntKind.wrap_u64, IntKind.wrap_u64]; omega
theorem n1_int {z : Nat} (h : z < 18446744073709551616) : IntKind.u64.wrap (bits BinOp.xor IntKind.u64 (z : Int) ((z : Int) / 1073741824) * 13787848793156543929) = (Rh.n1 z : Int) := by
  rw [show (z : Int) / 1073741824 = ((z / 2 ^ 30 : Nat) : Int) by omega, u64_xor_nat _ _ h (by omega), IntKind.wrap_u64]
  unfold Rh.n1
  generalize z ^^^ (z / 2 ^ 30) = q
  omega
theorem n2_int {z : Nat} (h : z < 18446744073709551616) : IntKind.u64.wrap (bits BinOp.xor IntKind.u64 (z : Int) ((z : Int) / 134217728) * 10723151780598845931) = (Rh.n2 z : Int) := by
  rw [show (z : Int) / 134217728 = ((z / 2 ^ 27 : Nat) : Int) by omega, u64_xor_nat _ _ h (by omega), IntKind.wrap_u64]
  unfold Rh.n2
  generalize z ^^^ (z / 2 ^ 27) = q
  omega
theorem n3_int {z : Nat} (h : z < 18446744073709551616) : bits BinOp.xor IntKind.u64 (z : Int) ((z : Int) / 2147483648) = (Rh.n3 z : Int) := by
  rw [show (z : Int) / 2147483648 = ((z / 2 ^ 31 : Nat) : Int) by omega, u64_xor_nat _ _ h (by omega)]
  rfl
/-- the steps of a number, each with a name -/
theorem num_steps (s i : Nat) : ∃ a b c d : Nat, IntKind.u64.wrap ((s : Int) + IntKind.u64.wrap (((i : Int) + 1) * 11400714819323198485)) = (a : Int) ∧ IntKind.u64.wrap (bits BinOp.xor IntKind.u64 (a : Int) ((a : Int) / 1073741824) * 13787848793156543929) = (b : Int) ∧ IntKind.u64.wrap (bits BinOp.xor IntKind.u64 (b : Int) ((b : Int) / 134217728) * 10723151780598845931) = (c : Int) ∧ bits BinOp.xor IntKind.u64 (c : Int) ((c : Int) / 2147483648) = (d : Int) ∧ Hid (d = Rh.num s i) :=
  ⟨_, _, _, _, n0_int s i, n1_int (Nat.mod_lt _ (by decide)), n2_int (Nat.mod_lt _ (by decide)), n3_int (Nat.mod_lt _ (by decide)), rfl⟩
set_option maxRecDepth 100000 in
theorem refnum_any (s i : Nat) (hi : i ≤ 255) (w : World) :
    Calls Tryd.prog 12 #[.int .u64 s, .int .i64 i] w fun e w' => e = .returned (.int .u64 (Rh.num s i)) ∧ w = w' := by
  obtain ⟨a, b, c, d, ha, hb, hc, hd, hn⟩ := num_steps s i
  go_enter Tryd.func12, Tryd.ntmps12
  go_wp2
  go_ret
  exact ⟨by rw [← hn.out]; rfl, rfl⟩
theorem zero256 (w : World) : (zeroValue 47).run Tryd.prog w = .ok (.agg (rowA .u64 (fun _ => 0) 256 0)) w := by kernel_rfl
theorem info256 {f : Nat → Nat} : (Tryd.prog.info? 47).map (·.size) = some (rowA .u64 f 256 256).size := by rw [rowA_size]; kernel_rfl
/-- the table of a seed, as a value -/
def tabV (s : Nat) : Array Value := rowA .u64 (Rh.num s) 256 256
set_option maxRecDepth 100000 in
theorem table_any (s : Nat) (w : World) :
    Calls Tryd.prog 27 #[.int .u64 s] w fun e w' => e = .returned (.agg (tabV s)) ∧ Below w.heap.size w w' := by
  have hz := zero256
  go_enter Tryd.func27, Tryd.ntmps27
  go_wp2
  go_loopw [5, 3, 4] (fun i _ _ wr => ∃ k : Nat, k ≤ 256 ∧ i = .int .i64 k ∧ Blk wr w.heap.size 47 (rowA .u64 (Rh.num s) 256 k) ∧ Below w.heap.size w wr) (fun i _ _ _ => 256 - (intOf i).toNat)
  case atStart => exact ⟨0, by omega, rfl, by rw [rowA_zero _ (Rh.num s) (fun _ => 0)]; exact Blk.new _ _ _, (Below.refl _ _).alloc (Nat.le_refl _) _⟩
  case round =>
    obtain ⟨k, hk, rfl, R, hb⟩ := hrel
    by_cases hlt : k < 256
    · obtain ⟨a, b, c, d, ha, hbb, hc, hd, hn⟩ := num_steps s k
      have c0 := R.cell k
      rw [rowA_at _ _ _ _ hlt] at c0
      have f0 := R.frozen k
      have z1 : (k : Int) < 256 := by omega
      go_wp2
      go_roundw
      case rel => exact ⟨k + 1, by omega, by go_num, by rw [← rowA_set .u64 (Rh.num s) 256 k (d : Int) (by rw [hn.out])]; exact R.set_ _ _, hb.setCell (by simp) _⟩
      case measure => simp [intOf]; omega
    · obtain rfl : k = 256 := by omega
      go_wp2_with (first | (refine wpList_load_row rfl 47 _ rfl w.heap.size rfl 47 (rowA .u64 (Rh.num s) 256 256) (0, 0) _ R Tryd.underlying47 rfl info256 ?_) | (refine wpList_store_row rfl 47 _ _ rfl w.heap.size (rowA .u64 (Rh.num s) 256 256) rfl rfl 47 (rowA .u64 (Rh.num s) 256 256) R info256 rfl (rowA_one _ _ _ _) ?_))
      rw [setRow_self _ _ _ 47 (0, 0) R]
      exact bodyPost_ret (v := .agg (rowA .u64 (Rh.num s) 256 256)) (results_cell_row (g := w.heap.size) Tryd.results27 _ _ _ _ _ _ rfl R Tryd.underlying47 rfl info256) rfl ⟨rfl, hb⟩
end Go.Proofs.YtneiglhcfgnclaaDoor
