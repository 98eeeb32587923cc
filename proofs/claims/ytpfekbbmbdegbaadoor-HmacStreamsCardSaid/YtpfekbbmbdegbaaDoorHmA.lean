import Derived.Test.YtpfekbbmbdegbaaDoorHmK
namespace Go.Proofs.YtpfekbbmbdegbaaDoor
open Go.RowKit
theorem expand_42 (s t : ByteArray) (k info : List Nat) (hk : Hid (ofStr s = k)) (hi : Hid (ofStr t = info)) (hk32 : 32 ≤ k.length) (hkb : k.length ≤ 140737488355000) (hib : info.length ≤ 140737488000000) (w : World) (hL : LaidH w) :
    Calls Tryd.prog 31 #[.string s, .string t, .int .i64 42] w fun e w' => e = .returned (.tuple #[.string (str (Hm.expand k info 42)), .int .i64 0]) ∧ Below w.heap.size w w' :=
  expand_any s t k info hk hi hk32 hkb hib 42 (by decide) w hL
set_option maxRecDepth 100000 in
set_option maxHeartbeats 4000000 in
theorem awakeH_any (w : World) (hL : LaidH w) :
    Calls Tryd.prog 22 #[] w fun e w' => e = .returned (.bool true) ∧ Below w.heap.size w w' := by
  have kc := fun (w : World) (C : Array Value) (n c : Nat) => Lib.run_convert_bytes_const (P := Tryd.prog) w 28 5 C n c Tryd.underlying28 Tryd.underlying5
  go_enter Tryd.func22, Tryd.ntmps22
  go_wp2_with (fail)
  have hb0 := (Below.refl w.heap.size w).alloc (Nat.le_refl _) (.cells (vals want).toArray 5 (28, 29))
  have y0 : Bytes (w.alloc (.cells (vals want).toArray 5 (28, 29))) (some ⟨w.heap.size, 0, none⟩) want := vals_bytes w want _ _
  have L0 := hL.below hb0 hL.two
  refine (tag_any { data := #[74, 101, 102, 101] } jefe rfl (by decide) _ 28 28 want rfl (by decide) (by decide) (by decide) _ L0 y0).mono ?_
  rintro e w1 ⟨rfl, hb1⟩
  have H1 := below_then hb0 hb1
  have L1 := hL.below H1 hL.two
  have hD1 := hidIt tag_jefe
  obtain ⟨D1, hd1⟩ : ∃ D, Hid (Hm.tag jefe want = D) := ⟨_, rfl⟩
  have hD1l : Hid (D1.length = 32) := by rw [← hd1.out]; exact Hm.tag_len _ _
  obtain ⟨s1, hs1⟩ : ∃ s, Hid (str D1 = s) := ⟨_, rfl⟩
  have of1 : Hid (ofStr s1 = D1) := by show _ = _; rw [← hs1.out, ofStr_str]; rw [← hd1.out]; exact Hm.tag_lt _ _
  have z1 : (s1.size : Int) = 32 := by have e : s1.size = 32 := by rw [← ofStr_len, of1.out, hD1l.out]
                                       omega
  rw [hd1.out] at hD1 ⊢
  rw [hs1.out]
  clear y0 L0 hb0 hb1 kc
  go_wp2_with (fail)
  refine (extract_any { data := #[] } { data := #[11, 11, 11, 11, 11, 11, 11, 11, 11, 11, 11, 11, 11, 11, 11, 11, 11, 11, 11, 11, 11, 11] } [] secr rfl rfl (by decide) (by decide) _ L1).mono ?_
  rintro e w2 ⟨rfl, hb2⟩
  have H2 := below_then H1 hb2
  have L2 := hL.below H2 hL.two
  have hD2 := hidIt key_secr
  have hD3 := hidIt out_secr
  obtain ⟨D2, hd2⟩ : ∃ D, Hid (Hm.tag [] secr = D) := ⟨_, rfl⟩
  have hD2l : Hid (D2.length = 32) := by rw [← hd2.out]; exact Hm.tag_len _ _
  obtain ⟨s2, hs2⟩ : ∃ s, Hid (str D2 = s) := ⟨_, rfl⟩
  have of2 : Hid (ofStr s2 = D2) := by show _ = _; rw [← hs2.out, ofStr_str]; rw [← hd2.out]; exact Hm.tag_lt _ _
  rw [hd2.out] at hD2 hD3 ⊢
  rw [hs2.out]
  clear hb2 L1
  go_wp2_with (fail)
  refine (expand_42 s2 { data := #[] } D2 [] of2 rfl (by rw [hD2l.out]; decide) (by rw [hD2l.out]; decide) (by decide) _ L2).mono ?_
  rintro e w3 ⟨rfl, hb3⟩
  have H3 := below_then H2 hb3
  obtain ⟨D3, hd3⟩ : ∃ D, Hid (Hm.expand D2 [] 42 = D) := ⟨_, rfl⟩
  have hD3l : Hid (D3.length = 42) := by rw [← hd3.out]; exact Hm.expand_len _ _ _
  obtain ⟨s3, hs3⟩ : ∃ s, Hid (str D3 = s) := ⟨_, rfl⟩
  have of3 : Hid (ofStr s3 = D3) := by show _ = _; rw [← hs3.out, ofStr_str]; rw [← hd3.out]; exact Hm.expand_lt _ _ _
  have z3 : (s3.size : Int) = 42 := by have e : s3.size = 42 := by rw [← ofStr_len, of3.out, hD3l.out]
                                       omega
  rw [hd3.out] at hD3 ⊢
  rw [hs3.out]
  clear hb3 L2
  go_wp2_with (fail)
  have q4 := (Below.refl w3.heap.size w3).alloc (Nat.le_refl _) (.cells (vals [91, 220, 193, 70]).toArray 5)
  refine (begins_true s1 D1 of1 _ 4 4 [91, 220, 193, 70] rfl (by rw [hD1l.out]; decide) (by decide) hD1 _ (vals_bytes w3 [91, 220, 193, 70] _ _) (by decide)).mono ?_
  rintro e w4 ⟨rfl, hb4⟩
  have H4 := below_then (below_then H3 q4) hb4
  clear q4 hb4
  go_wp2_with (fail)
  have q5 := (Below.refl w4.heap.size w4).alloc (Nat.le_refl _) (.cells (vals [25, 239, 36, 163]).toArray 5)
  refine (begins_true s2 D2 of2 _ 4 4 [25, 239, 36, 163] rfl (by rw [hD2l.out]; decide) (by decide) hD2 _ (vals_bytes w4 [25, 239, 36, 163] _ _) (by decide)).mono ?_
  rintro e w5 ⟨rfl, hb5⟩
  have H5 := below_then (below_then H4 q5) hb5
  clear q5 hb5
  go_wp2_with (fail)
  have q6 := (Below.refl w5.heap.size w5).alloc (Nat.le_refl _) (.cells (vals [141, 164, 231, 117]).toArray 5)
  refine (begins_true s3 D3 of3 _ 4 4 [141, 164, 231, 117] rfl (by rw [hD3l.out]; decide) (by decide) hD3 _ (vals_bytes w5 [141, 164, 231, 117] _ _) (by decide)).mono ?_
  rintro e w6 ⟨rfl, hb6⟩
  have H6 := below_then (below_then H5 q6) hb6
  clear q6 hb6
  go_wp2_with (fail)
  go_ret
  exact ⟨rfl, H6⟩
end Go.Proofs.YtpfekbbmbdegbaaDoor
