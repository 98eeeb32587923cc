import Derived.Test.YtnkemflpenlmgaaBlk
import Derived.Test.YtnkemflpenlmgaaCopyB
namespace Go.Proofs.Ytnkemflpenlmgaa
open Go.RowKit
theorem fit_ok (key nonce : ByteArray) (hk : key.size = 32) (hn : nonce.size = 12) (w : World) : Calls Try.prog 23 #[.string key, .string nonce] w fun e w' => e = .returned (.bool true) ∧ w = w' := by
  go_enter Try.func23, Try.ntmps23
  go_wp2
  go_ret
  exact ⟨rfl, rfl⟩
theorem fit_no (key nonce : ByteArray) (h : ¬ (key.size = 32 ∧ nonce.size = 12)) (w : World) : Calls Try.prog 23 #[.string key, .string nonce] w fun e w' => e = .returned (.bool false) ∧ w = w' := by
  by_cases hk : key.size = 32
  · have hn : ((nonce.size : Int) == 12) = false := by simp; omega
    clear h
    go_enter Try.func23, Try.ntmps23
    go_wp2
    go_ret
    exact ⟨rfl, rfl⟩
  · have hk2 : ¬ (key.size : Int) = 32 := by omega
    clear h hk
    go_enter Try.func23, Try.ntmps23
    go_wp2
    go_ret
    exact ⟨rfl, rfl⟩
theorem sliceAll64 (B : Nat) (W : World) : (Instr.sliceAt 39 (.pointer (some ⟨B, 0, none⟩)) none none none).run Try.prog W = .ok (.slice (some ⟨B, 0, none⟩) 64 64) W := by kernel_rfl
theorem bytes_of {w : World} {g : Nat} {t : TypeId} {xs : List Nat} (h : Blk w g t (rowA .u8 (fun k => xs.getD k 0) xs.length xs.length)) : Bytes w (some ⟨g, 0, none⟩) xs := by
  intro i hi
  exact ⟨g, 0, rfl, by rw [Nat.zero_add, h.cell, rowA_all _ _ _ _ hi]⟩
set_option maxRecDepth 100000 in
theorem blockF_ok (key nonce : ByteArray) (c : Nat) (hk : key.size = 32) (hn : nonce.size = 12) (hc : c < 4294967296) (w : World) :
    Calls Try.prog 15 #[.string key, .string nonce, .int .u32 c] w fun e w' => ∃ g, w.heap.size ≤ g ∧ e = .returned (.tuple #[.slice (some ⟨g, 0, none⟩) 64 64, .int .i64 0]) ∧
      Bytes w' (some ⟨g, 0, none⟩) (Cc.block (Cc.init (ofStr key) (ofStr nonce) c)) ∧ Below w.heap.size w w' := by
  have hS := Cc.init_ok (ks := ofStr key) (ns := ofStr nonce) (c := c) (ofStr_getD_lt key) (ofStr_getD_lt nonce) hc
  have hm := fun W => block_any _ hS W
  obtain ⟨F, hF⟩ : ∃ F : Nat → Nat, Hid ((fun k => (Cc.init (ofStr key) (ofStr nonce) c).getD k 0) = F) := ⟨_, rfl⟩
  obtain ⟨H, hH⟩ : ∃ H : Nat → Nat, Hid ((fun k => (Cc.block (Cc.init (ofStr key) (ofStr nonce) c)).getD k 0) = H) := ⟨_, rfl⟩
  rw [hF.out, hH.out] at hm
  have hb := fun W => begin_any key nonce c hk hn hc W
  rw [hF.out] at hb
  have hf := fun W => fit_ok key nonce hk hn W
  have hz2 := zero64
  have hsl := sliceAll64
  have hc2 := hidIt hc
  clear hk hn hc hS
  go_enter Try.func15, Try.ntmps15
  go_wp2_with (fail)
  refine (hf _).mono ?_
  rintro e w1 ⟨rfl, rfl⟩
  go_wp2_with (fail)
  refine (hb _).mono ?_
  rintro e w1 ⟨rfl, hb1⟩
  go_wp2_with (fail)
  refine (hm _).mono ?_
  rintro e w2 ⟨rfl, hb2⟩
  have hN := hidIt (Blk.new w2 39 (rowA .u8 (fun _ => 0) 64 0))
  have hB2 := hidIt (below_then hb1 hb2)
  clear hb1 hb2 hm hb hf
  go_wp2_with (refine wpList_store_row rfl 39 _ _ rfl w2.heap.size (rowA .u8 H 64 64) rfl rfl 39 (rowA .u8 (fun _ => 0) 64 0) hN.out info64 ?c1 (rowA_one _ _ _ _) ?_)
  case c1 => rw [rowA_size, rowA_size]
  have hR : Blk ((w2.alloc (.cells (rowA .u8 (fun _ => 0) 64 0) 39)).setRow w2.heap.size (rowA .u8 H 64 64)) w2.heap.size 39 (rowA .u8 H 64 64) := setRow_heap _ _ _ _ _ _ hN.out
  go_ret2
  refine ⟨w2.heap.size, hB2.out.size, rfl, bytes_of (t := 39) ?_, below_setRow (hB2.out.alloc hB2.out.size _) hB2.out.size _⟩
  rw [Cc.block_len, hH.out]
  exact hR
set_option maxRecDepth 100000 in
theorem blockF_err (key nonce : ByteArray) (c : Nat) (h : ¬ (key.size = 32 ∧ nonce.size = 12)) (w : World) :
    Calls Try.prog 15 #[.string key, .string nonce, .int .u32 c] w fun e w' => e = .returned (.tuple #[.slice none 0 0, .int .i64 1]) ∧ w = w' := by
  have hf := fun W => fit_no key nonce h W
  clear h
  go_enter Try.func15, Try.ntmps15
  go_wp2_with (fail)
  refine (hf _).mono ?_
  rintro e w1 ⟨rfl, rfl⟩
  go_wp2_with (fail)
  go_ret2
  exact ⟨rfl, rfl⟩
end Go.Proofs.Ytnkemflpenlmgaa
