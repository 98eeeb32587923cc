import Derived.Test.YtpfekbbmbdegbaaDoorTwo
import Derived.Test.YtpfekbbmbdegbaaDoorFromHex
import Derived.Lib.SlBytesConst
namespace Go.Proofs.YtpfekbbmbdegbaaDoor
open Go.RowKit
theorem abc_hex : Hx.hex (Sh.sum [97, 98, 99]) = [98, 97, 55, 56, 49, 54, 98, 102, 56, 102, 48, 49, 99, 102, 101, 97, 52, 49, 52, 49, 52, 48, 100, 101, 53, 100, 97, 101, 50, 50, 50, 51, 98, 48, 48, 51, 54, 49, 97, 51, 57, 54, 49, 55, 55, 97, 57, 99, 98, 52, 49, 48, 102, 102, 54, 49, 102, 50, 48, 48, 49, 53, 97, 100] := by decide +kernel
theorem nil_hex : Hx.hex (Sh.sum []) = [101, 51, 98, 48, 99, 52, 52, 50, 57, 56, 102, 99, 49, 99, 49, 52, 57, 97, 102, 98, 102, 52, 99, 56, 57, 57, 54, 102, 98, 57, 50, 52, 50, 55, 97, 101, 52, 49, 101, 52, 54, 52, 57, 98, 57, 51, 52, 99, 97, 52, 57, 53, 57, 57, 49, 98, 55, 56, 53, 50, 98, 56, 53, 53] := by decide +kernel
theorem lit_abc (w : World) : Calls Tryd.prog 38 #[.string (str (Sh.sum [97, 98, 99]))] w fun e w' => e = .returned (.string { data := #[98, 97, 55, 56, 49, 54, 98, 102, 56, 102, 48, 49, 99, 102, 101, 97, 52, 49, 52, 49, 52, 48, 100, 101, 53, 100, 97, 101, 50, 50, 50, 51, 98, 48, 48, 51, 54, 49, 97, 51, 57, 54, 49, 55, 55, 97, 57, 99, 98, 52, 49, 48, 102, 102, 54, 49, 102, 50, 48, 48, 49, 53, 97, 100] }) ∧ Below w.heap.size w w' := by
  have h := hex_any (str (Sh.sum [97, 98, 99])) (by rw [str_size, Sh.sum_len]; decide) w
  rw [ofStr_str _ (Sh.sum_lt _), abc_hex] at h
  exact h
theorem lit_nil (w : World) : Calls Tryd.prog 38 #[.string (str (Sh.sum []))] w fun e w' => e = .returned (.string { data := #[101, 51, 98, 48, 99, 52, 52, 50, 57, 56, 102, 99, 49, 99, 49, 52, 57, 97, 102, 98, 102, 52, 99, 56, 57, 57, 54, 102, 98, 57, 50, 52, 50, 55, 97, 101, 52, 49, 101, 52, 54, 52, 57, 98, 57, 51, 52, 99, 97, 52, 57, 53, 57, 57, 49, 98, 55, 56, 53, 50, 98, 56, 53, 53] }) ∧ Below w.heap.size w w' := by
  have h := hex_any (str (Sh.sum [])) (by rw [str_size, Sh.sum_len]; decide) w
  rw [ofStr_str _ (Sh.sum_lt _), nil_hex] at h
  exact h
theorem lit_00ab (w : World) : Calls Tryd.prog 37 #[.string { data := #[48, 48, 97, 98] }] w fun e w' => e = .returned (.tuple #[.string { data := #[0, 171] }, .int .i64 0]) ∧ Below w.heap.size w w' := by
  have h := fromHex_any { data := #[48, 48, 97, 98] } (by decide) w
  have e : Hx.un (ofStr { data := #[48, 48, 97, 98] }) = some [0, 171] := by decide +kernel
  rw [e] at h
  exact h
theorem lit_0A (w : World) : Calls Tryd.prog 37 #[.string { data := #[48, 65] }] w fun e w' => e = .returned (.tuple #[.string { data := #[] }, .int .i64 3]) ∧ Below w.heap.size w w' := by
  have h := fromHex_any { data := #[48, 65] } (by decide) w
  have e : Hx.un (ofStr { data := #[48, 65] }) = none := by decide +kernel
  rw [e] at h
  exact h
set_option maxRecDepth 100000 in
set_option maxHeartbeats 2000000 in
theorem awake_any (w : World) (hL : Laid w) :
    Calls Tryd.prog 14 #[] w fun e w' => e = .returned (.bool true) ∧ Below w.heap.size w w' := by
  have kc := fun (w : World) (C : Array Value) (n c : Nat) => Lib.run_convert_bytes_const (P := Tryd.prog) w 28 5 C n c Tryd.underlying28 Tryd.underlying5
  go_enter Tryd.func14, Tryd.ntmps14
  go_wp2_with (fail)
  refine (lit_00ab _).mono ?_
  rintro e w1 ⟨rfl, hb1⟩
  go_wp2_with (fail)
  refine (lit_0A _).mono ?_
  rintro e w2 ⟨rfl, hb2⟩
  have H2 := below_then hb1 hb2
  have L2 := hL.below H2 hL.two
  go_wp2_with (fail)
  have hb3 := (Below.refl w2.heap.size w2).alloc (Nat.le_refl _) (.cells #[.int .u8 97, .int .u8 98, .int .u8 99] 5 (3, 4))
  have H3 := below_then H2 hb3
  have L3 := hL.below H3 hL.two
  have y3 : Bytes (w2.alloc (.cells #[.int .u8 97, .int .u8 98, .int .u8 99] 5 (3, 4))) (some ⟨w2.heap.size, 0, none⟩) [97, 98, 99] := by
    intro i hi
    refine ⟨_, 0, rfl, ?_⟩
    rw [Nat.zero_add, cell_of_row _ _ _ _ _ _ (heap_alloc_new w2 _)]
    have hi3 : i < 3 := hi
    match i, hi3 with
    | 0, _ | 1, _ | 2, _ => rfl
  refine (sum_any (some ⟨w2.heap.size, 0, none⟩) 3 [97, 98, 99] (by decide) (by decide) (by decide) _ L3 y3 (fun _ x hx => by cases hx; simp)).mono ?_
  rintro e w4 ⟨rfl, hb4⟩
  have H4 := below_then H3 hb4
  obtain ⟨s1, hs1⟩ : ∃ s1, Hid (str (Sh.sum [97, 98, 99]) = s1) := ⟨_, rfl⟩
  rw [hs1.out]
  go_wp2_with (fail)
  have l1 := lit_abc w4
  rw [hs1.out] at l1
  refine l1.mono ?_
  clear l1
  rintro e w5 ⟨rfl, hb5⟩
  have H5 := below_then H4 hb5
  have L5 := hL.below H5 hL.two
  clear kc y3
  go_wp2_with (fail)
  refine (join_any none 0 [] (by decide) (by decide) _ L5 (fun i hi => by simp at hi)).mono ?_
  rintro e w6 ⟨rfl, hb6⟩
  have H6 := below_then H5 hb6
  obtain ⟨s2, hs2⟩ : ∃ s2, Hid (str (Sh.sum (cat [])) = s2) := ⟨_, rfl⟩
  rw [hs2.out]
  go_wp2_with (fail)
  have l2 := lit_nil w6
  rw [show str (Sh.sum []) = s2 from hs2.out] at l2
  refine l2.mono ?_
  clear l2
  rintro e w7 ⟨rfl, hb7⟩
  have H7 := below_then H6 hb7
  have L7 := hL.below H7 hL.two
  go_wp2_with (fail)
  refine (new_any _ L7).mono ?_
  rintro e w8 ⟨rfl, _, hb8⟩
  go_wp2_with (fail)
  go_ret
  exact ⟨rfl, below_then H7 hb8⟩
end Go.Proofs.YtpfekbbmbdegbaaDoor
