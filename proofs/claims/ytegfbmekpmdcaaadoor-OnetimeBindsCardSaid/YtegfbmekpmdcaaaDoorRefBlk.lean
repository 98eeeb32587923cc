import Derived.Test.YtegfbmekpmdcaaaDoorState
namespace Go.Proofs.YtegfbmekpmdcaaaDoor
open Go.RowKit
theorem rotr_any (x n : Nat) (k : Int) (hk : k = n) (hx : x < 4294967296) (h1 : 1 ≤ n) (h2 : n ≤ 31) (w : World) :
    Calls Tryd.prog 78 #[.int .u32 x, .int .i64 k] w fun e w' => e = .returned (.int .u32 (Sh.rr x n)) ∧ ∃ m, w' = w.drewN m := by
  subst hk
  obtain ⟨s, hs⟩ : ∃ s, s + n = 32 := ⟨32 - n, by omega⟩
  have hn : (32 : Int) - (n : Int) = (s : Int) := by omega
  have hw : IntKind.i64.wrap (s : Int) = (s : Int) := IntWalk.i64_in _ (by omega)
  have z1 : (0 : Int) ≤ (n : Int) := by omega
  have z2 : (0 : Int) ≤ (s : Int) := by omega
  have hsn : Hid (s = 32 - n) := by show _ = _; omega
  have b1 : 1 ≤ s ∧ s ≤ 31 := by omega
  have b2 := b1.1
  have b3 := b1.2
  have hv : Hid (bits BinOp.or IntKind.u32 ((x : Int) / 2 ^ n) ((x : Int) * 2 ^ s % 4294967296) = ((Sh.rr x n : Nat) : Int)) := by
    show _ = _
    have e1 : (x : Int) * 2 ^ s % 4294967296 = ((x * 2 ^ s % 4294967296 : Nat) : Int) := by rw [Int.natCast_emod, Int.natCast_mul, Int.natCast_pow]; rfl
    have e2 : (x : Int) / 2 ^ n = ((x / 2 ^ n : Nat) : Int) := by rw [Int.natCast_ediv, Int.natCast_pow]; rfl
    rw [e1, e2, u32_or_nat _ _ (Nat.lt_of_le_of_lt (Nat.div_le_self _ _) hx) (Nat.mod_lt _ (by decide)), hsn.out]
    rfl
  clear hs b1
  go_enter Tryd.func78, Tryd.ntmps78
  go_wp2
  go_quiet (fail)
  go_wp2
  go_ret
  exact ⟨ret_int hv.out, _, rfl⟩
/-- rotated to the right by a literal number of places -/
def rrI (x : Nat) (k : Int) : Nat := Sh.rr x k.toNat
theorem rotr_all (x : Nat) (k : Int) (hx : x < 4294967296) (h1 : 1 ≤ k) (h2 : k ≤ 31) (w : World) :
    Calls Tryd.prog 78 #[.int .u32 x, .int .i64 k] w fun e w' => e = .returned (.int .u32 (rrI x k)) ∧ ∃ m, w' = w.drewN m :=
  rotr_any x k.toNat k (by omega) hx (by omega) (by omega) w
theorem sg0_intI {x : Nat} (h : x < 4294967296) : bits BinOp.xor IntKind.u32 (bits BinOp.xor IntKind.u32 (rrI x 7 : Int) (rrI x 18 : Int)) ((x : Int) / 8) = ((Sh.sg0 x : Nat) : Int) := sg0_int h
theorem sg1_intI {x : Nat} (h : x < 4294967296) : bits BinOp.xor IntKind.u32 (bits BinOp.xor IntKind.u32 (rrI x 17 : Int) (rrI x 19 : Int)) ((x : Int) / 1024) = ((Sh.sg1 x : Nat) : Int) := sg1_int h
theorem S0_intI {x : Nat} (h : x < 4294967296) : bits BinOp.xor IntKind.u32 (bits BinOp.xor IntKind.u32 (rrI x 2 : Int) (rrI x 13 : Int)) (rrI x 22 : Int) = ((Sh.S0 x : Nat) : Int) := S0_int h
theorem S1_intI {x : Nat} (h : x < 4294967296) : bits BinOp.xor IntKind.u32 (bits BinOp.xor IntKind.u32 (rrI x 6 : Int) (rrI x 11 : Int)) (rrI x 25 : Int) = ((Sh.S1 x : Nat) : Int) := S1_int h
theorem info64k : (Tryd.prog.info? 104).map (·.size) = some (rowA .u32 Sh.k 64 64).size := by rw [rowA_size]; kernel_rfl
set_option maxRecDepth 100000 in
theorem const_any (w : World) :
    Calls Tryd.prog 77 #[] w fun e w' => e = .returned (.agg (rowA .u32 Sh.k 64 64)) ∧ Below w.heap.size w w' := by
  have hz := zero64w
  go_enter Tryd.func77, Tryd.ntmps77
  go_wp2_with (first | (refine wpList_build_is rfl 104 _ rfl (rowA .u32 Sh.k 64 64) ?hb ?_) | (refine wpList_store_row rfl 104 _ _ rfl w.heap.size (rowA .u32 Sh.k 64 64) rfl rfl 104 (rowA .u32 (fun _ => 0) 64 0) (heap_alloc_new _ _) info64k ?c1 (rowA_one _ _ _ _) ?_))
  case hb => kernel_rfl
  case c1 => rw [rowA_size, rowA_size]
  have R : Blk ((w.alloc (.cells (rowA .u32 (fun _ => 0) 64 0) 104)).setRow w.heap.size (rowA .u32 Sh.k 64 64)) w.heap.size 104 (rowA .u32 Sh.k 64 64) := setRow_heap _ _ _ _ _ _ (heap_alloc_new _ _)
  exact bodyPost_ret (v := .agg (rowA .u32 Sh.k 64 64)) (results_cell_row (g := w.heap.size) Tryd.results77 _ _ _ _ _ _ rfl R Tryd.underlying104 rfl info64k) rfl ⟨rfl, below_setRow ((Below.refl _ _).alloc (Nat.le_refl _) _) (Nat.le_refl _) _⟩
end Go.Proofs.YtegfbmekpmdcaaaDoor
