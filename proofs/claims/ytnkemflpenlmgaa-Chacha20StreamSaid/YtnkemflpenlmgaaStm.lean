import Derived.Test.YtnkemflpenlmgaaBlkF
namespace Go.Proofs.Ytnkemflpenlmgaa
open Go.RowKit
theorem sliceFrom64 (B k : Nat) (hk : k < 64) (W : World) : (Instr.sliceAt 39 (.pointer (some ⟨B, 0, none⟩)) (some (.int .i64 (k : Int))) none none).run Try.prog W = .ok (.slice (some ⟨B, k, none⟩) (64 - k) (64 - k)) W := by
  have ha : Try.prog.arrayLen 39 = 64 := by kernel_rfl
  have h := run_sliceAt_array_l (P := Try.prog) W 39 ⟨B, 0, none⟩ (by kernel_rfl) .i64 (k : Int) (by omega) (by rw [ha]; omega)
  have e2 : (sizeOf (Try.prog.elem 39)).run Try.prog W = .ok 1 W := by kernel_rfl
  rw [h, e2, ha]
  simp only [Result.andThen, slicedAt, Int.toNat_natCast]
  rw [if_neg (by omega)]
  simp [Addr.add]
  omega
/-- the key stream's bytes that have been written, from the offset o on -/
def stF (ks ns : List Nat) (o f i : Nat) : Nat := if i < f then Cc.ksb ks ns (o + i) else 0
structure StR (w : World) (S0 n : Nat) (F I : Nat → Nat) (wr : World) : Prop where
  res : Blk wr w.heap.size 5 (rowA .u8 F n n)
  st : Blk wr S0 41 (rowA .u32 I 16 16)
  bel : Below w.heap.size w wr
  lt : w.heap.size < S0
theorem stF_step {ks ns : List Nat} {o f b sk m i : Nat} (h : 64 * b + sk = o + f) (hb : b < 4294967296) (hm : sk + m ≤ 64) :
    (if f ≤ i ∧ i < f + m then ((Cc.block (Cc.init ks ns b)).drop sk).getD (i - f) 0 else stF ks ns o f i) = stF ks ns o (f + m) i := by
  unfold stF
  by_cases h1 : i < f
  · rw [if_neg (by omega), if_pos h1, if_pos (by omega)]
  · by_cases h2 : i < f + m
    · rw [if_pos ⟨by omega, h2⟩, if_pos h2, List.getD_eq_getElem?_getD, List.getElem?_drop, ← List.getD_eq_getElem?_getD]
      unfold Cc.ksb
      rw [show (o + i) / 64 = b by omega, Nat.mod_eq_of_lt hb, show (o + i) % 64 = sk + (i - f) by omega]
    · rw [if_neg (by omega), if_neg h1, if_neg h2]
theorem init_next (ks ns : List Nat) (b c k : Nat) (h : k < 16) : (if k = 12 then c else (Cc.init ks ns b).getD k 0) = (Cc.init ks ns c).getD k 0 := by
  rw [init_get _ _ _ _ h, init_get _ _ _ _ h]
  by_cases h12 : k = 12
  · rw [if_pos h12, if_neg (by omega), if_pos h12]
  · rw [if_neg h12]
    by_cases h13 : 13 ≤ k
    · rw [if_pos h13, if_pos h13]
    · rw [if_neg h13, if_neg h13, if_neg h12, if_neg h12]
end Go.Proofs.Ytnkemflpenlmgaa
