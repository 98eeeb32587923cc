import Derived.Test.YtnkemflpenlmgaaStmG
import Derived.Test.YtnkemflpenlmgaaAppB
namespace Go.Proofs.Ytnkemflpenlmgaa
open Go.RowKit
theorem ofStr_str (xs : List Nat) (h : ∀ x ∈ xs, x < 256) : ofStr (str xs) = xs := by
  unfold ofStr str
  rw [List.toList_toArray, List.map_map]
  conv => rhs; rw [← List.map_id xs]
  apply List.map_congr_left
  intro x hx
  have := h x hx
  simp only [Function.comp, id]
  rw [UInt8.toNat_ofNat']
  omega
theorem str_size (xs : List Nat) : (str xs).size = xs.length := by simp [str, ByteArray.size]
theorem emptyOwn (w : World) : (w.alloc (.cells #[] 5)).ownsRow w.heap.size 5 1 (.slice (some ⟨w.heap.size, 0, none⟩) 0 0) 0 (vals []) := by
  refine ⟨by simp [vals], .inr ⟨w.heap.size, 0, _, rfl, Nat.le_refl _, heap_alloc_new _ _, by omega, by unfold maxLen; omega, by simp, by simp [vals]⟩⟩
theorem exNonce_is : ofStr { data := #[0, 0, 0, 9, 0, 0, 0, 74, 0, 0, 0, 0] } = Cc.exNonce := rfl
theorem ex_key (W : World) : Calls Try.prog 15 #[.string (str (List.range 32)), .string { data := #[0, 0, 0, 9, 0, 0, 0, 74, 0, 0, 0, 0] }, .int .u32 1] W fun e w' => ∃ g, W.heap.size ≤ g ∧ e = .returned (.tuple #[.slice (some ⟨g, 0, none⟩) 64 64, .int .i64 0]) ∧
      (convert 28 9 (.slice (some ⟨g, 0, none⟩) 8 64)).run Try.prog w' = .ok (.string { data := #[16, 241, 231, 228, 209, 59, 89, 21] }) w' ∧ Below W.heap.size W w' := by
  have h := blockF_ok (str (List.range 32)) { data := #[0, 0, 0, 9, 0, 0, 0, 74, 0, 0, 0, 0] } 1 (by rw [str_size]; rfl) rfl (by decide) W
  refine h.mono ?_
  rintro e w' ⟨g, hg, he, hb, hbel⟩
  refine ⟨g, hg, he, ?_, hbel⟩
  rw [ofStr_str _ (fun x hx => by have := List.mem_range.1 hx; omega), exNonce_is] at hb
  have h8 := sub_bytes hb 0 8
  rw [List.drop_zero, show List.range 32 = Cc.exKey from rfl, Cc.ex_block] at h8
  have := conv_str w' _ 8 64 _ rfl h8
  exact this
set_option maxRecDepth 100000 in
theorem awake_any (w : World) : Calls Try.prog 13 #[] w fun e w' => e = .returned (.bool true) ∧ Below w.heap.size w w' := by
  have hq := fun W => quarter_any ⟨286331153, 16909060, 2609737539, 19088743⟩ ⟨by decide, by decide, by decide, by decide⟩ W
  rw [Cc.ex_quarter] at hq
  simp only at hq
  have hob0 := hidIt (emptyOwn w)
  have hb0 := hidIt ((Below.refl _ w).alloc (Nat.le_refl _) (.cells #[] 5))
  go_enter Try.func13, Try.ntmps13
  go_wp2_with (fail)
  refine (hq _).mono ?_
  rintro e w1 ⟨rfl, rfl⟩
  clear hq
  go_wp2_with (fail)
  generalize w.alloc (.cells #[] 5) = wA at *
  go_loopw [6, 5] (fun i v wr => ∃ (k : Nat) (a : Option Addr) (c : Nat), k ≤ 32 ∧ i = .int .u8 k ∧ v = .slice a k c ∧ Hid (wr.ownsRow w.heap.size 5 1 (.slice a k c) k (vals (List.range k))) ∧ Hid (Below w.heap.size w wr)) (fun i _ _ => 32 - (intOf i).toNat)
  case atStart => exact ⟨0, _, 0, by omega, rfl, rfl, hob0, hb0⟩
  case round =>
    clear hob0 hb0
    obtain ⟨k, a, c, hk, rfl, rfl, hown, hb⟩ := hrel
    by_cases hlt : k < 32
    · have t1 : (k : Int) < 32 := by omega
      have v1 : IntKind.u8.wrap ((k : Int) + 1) = ((k + 1 : Nat) : Int) := by rw [IntKind.wrap_u8]; omega
      have hl : Hid (k = (List.range k).length) := by show _ = _; rw [List.length_range]
      go_wp2_with (refine wpList_append_byte w wr rfl _ _ rfl (.slice a k c) k (List.range k) rfl hl.out hown.out (k : Int) k rfl rfl (by omega) hb.out ?_; intro a' c' w' hown' hb'; replace hown' := hidIt hown'; replace hb' := hidIt hb')
      clear hown hb
      go_roundw
      case rel => exact ⟨k + 1, a', c', by omega, by go_num, rfl, by rw [List.range_succ]; exact hown', hb'⟩
      case measure => simp [intOf]; omega
    · obtain rfl : k = 32 := by omega
      obtain ⟨a', c', hv, hby, _⟩ := owned_bytes hown.out (by simp)
      have hcv := conv_str wr a 32 c (List.range 32) rfl (by simp only [Value.slice.injEq] at hv; rw [hv.1]; exact hby)
      obtain ⟨key, hkey⟩ : ∃ key, Hid (str (List.range 32) = key) := ⟨_, rfl⟩
      have hex := hidIt (ex_key wr)
      rw [hkey.out] at hcv hex
      clear hown hby hv hlt hk
      go_wp2_with (fail)
      refine hex.out.mono ?_
      rintro e w2 ⟨g, hg, rfl, hc2, hb2⟩
      have H2 := hidIt (below_then hb.out hb2)
      clear hcv hb hb2 hex hg
      have hs8 := fun W => sliceHead g 0 64 64 8 (by omega) W
      go_wp2_with (fail)
      go_ret
      exact ⟨rfl, H2.out⟩
end Go.Proofs.Ytnkemflpenlmgaa
