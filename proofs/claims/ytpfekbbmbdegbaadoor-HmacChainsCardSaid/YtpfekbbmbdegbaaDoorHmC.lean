import Derived.Test.YtpfekbbmbdegbaaDoorHmE
namespace Go.Proofs.YtpfekbbmbdegbaaDoor
open Go.RowKit
theorem derive_arg (s t : ByteArray) (h : s.size ≠ 32 ∨ t.size < 1 ∨ 64 < t.size) (w : World) :
    Calls Tryd.prog 33 #[.string s, .string t] w fun e w' => e = .returned (.tuple #[.string { data := #[] }, .int .i64 1]) ∧ Below w.heap.size w w' := by
  by_cases hs : s.size = 32
  · have t0 : (s.size : Int) = 32 := by omega
    by_cases ht : t.size < 1
    · have t1 : (t.size : Int) < 1 := by omega
      go_enter Tryd.func33, Tryd.ntmps33
      go_wp2
      go_ret2
      exact ⟨rfl, Below.refl _ _⟩
    · have t1 : ¬ (t.size : Int) < 1 := by omega
      have t2 : (64 : Int) < (t.size : Int) := by omega
      go_enter Tryd.func33, Tryd.ntmps33
      go_wp2
      go_ret2
      exact ⟨rfl, Below.refl _ _⟩
  · have t0 : ¬ (s.size : Int) = 32 := by omega
    go_enter Tryd.func33, Tryd.ntmps33
    go_wp2
    go_ret2
    exact ⟨rfl, Below.refl _ _⟩
theorem expand_32 (s t : ByteArray) (k info : List Nat) (hk : Hid (ofStr s = k)) (hi : Hid (ofStr t = info)) (hk32 : 32 ≤ k.length) (hkb : k.length ≤ 140737488355000) (hib : info.length ≤ 140737488000000) (w : World) (hL : LaidH w) :
    Calls Tryd.prog 31 #[.string s, .string t, .int .i64 32] w fun e w' => e = .returned (.tuple #[.string (str (Hm.expand k info 32)), .int .i64 0]) ∧ Below w.heap.size w w' :=
  expand_any s t k info hk hi hk32 hkb hib 32 (by decide) w hL
set_option maxRecDepth 100000 in
theorem derive_any (s t : ByteArray) (m label : List Nat) (hk : Hid (ofStr s = m)) (hi : Hid (ofStr t = label)) (hm : m.length = 32) (h1 : 1 ≤ label.length) (h64 : label.length ≤ 64) (w : World) (hL : LaidH w) :
    Calls Tryd.prog 33 #[.string s, .string t] w fun e w' => e = .returned (.tuple #[.string (str (Hm.derive m label)), .int .i64 0]) ∧ Below w.heap.size w w' := by
  have z0 : s.size = m.length := by rw [← hk.out, ofStr_len]
  have z1 : t.size = label.length := by rw [← hi.out, ofStr_len]
  have t0 : (s.size : Int) = 32 := by omega
  have t1 : ¬ (t.size : Int) < 1 := by omega
  have t2 : ¬ (64 : Int) < (t.size : Int) := by omega
  have hm2 := hidIt hm
  clear z0 z1 hm
  go_enter Tryd.func33, Tryd.ntmps33
  go_wp2_with (fail)
  refine (extract_any { data := #[] } s [] m rfl hk (by decide) (by rw [hm2.out]; decide) _ hL).mono ?_
  rintro e w1 ⟨rfl, hb1⟩
  have L1 := hL.below hb1 hL.two
  obtain ⟨D, hD⟩ : ∃ D, Hid (Hm.tag [] m = D) := ⟨_, rfl⟩
  obtain ⟨s2, hs2⟩ : ∃ s2, Hid (str D = s2) := ⟨_, rfl⟩
  have hof : Hid (ofStr s2 = D) := by show _ = _; rw [← hs2.out, ofStr_str]; rw [← hD.out]; exact Hm.tag_lt _ _
  have hDl : Hid (D.length = 32) := by rw [← hD.out]; exact Hm.tag_len _ _
  rw [hD.out, hs2.out]
  clear t0 t1 t2
  go_wp2_with (fail)
  refine (expand_32 s2 t D label hof hi (by rw [hDl.out]; decide) (by rw [hDl.out]; decide) (by omega) _ L1).mono ?_
  rintro e w2 ⟨rfl, hb2⟩
  go_wp2
  go_ret2
  exact ⟨by unfold Hm.derive; rw [hD.out]; rfl, below_then hb1 hb2⟩
theorem chain_arg (s t : ByteArray) (z : Int) (h : s.size ≠ 32 ∨ z < 0) (w : World) :
    Calls Tryd.prog 35 #[.string s, .string t, .int .i64 z] w fun e w' => e = .returned (.tuple #[.string { data := #[] }, .int .i64 1]) ∧ Below w.heap.size w w' := by
  by_cases hs : s.size = 32
  · have t0 : (s.size : Int) = 32 := by omega
    have t1 : z < 0 := by omega
    go_enter Tryd.func35, Tryd.ntmps35
    go_wp2
    go_ret2
    exact ⟨rfl, Below.refl _ _⟩
  · have t0 : ¬ (s.size : Int) = 32 := by omega
    go_enter Tryd.func35, Tryd.ntmps35
    go_wp2
    go_ret2
    exact ⟨rfl, Below.refl _ _⟩
theorem chain_large (s t : ByteArray) (z : Int) (h : s.size = 32) (hz : 4096 < z) (w : World) :
    Calls Tryd.prog 35 #[.string s, .string t, .int .i64 z] w fun e w' => e = .returned (.tuple #[.string { data := #[] }, .int .i64 2]) ∧ Below w.heap.size w w' := by
  have t0 : (s.size : Int) = 32 := by omega
  have t1 : ¬ z < 0 := by omega
  go_enter Tryd.func35, Tryd.ntmps35
  go_wp2
  go_ret2
  exact ⟨rfl, Below.refl _ _⟩
set_option maxRecDepth 100000 in
set_option maxHeartbeats 2000000 in
theorem chain_any (s t : ByteArray) (k label : List Nat) (hk : Hid (ofStr s = k)) (hi : Hid (ofStr t = label)) (hk32 : k.length = 32) (hib : label.length ≤ 140737488000000) (n : Nat) (hn : n ≤ 4096) (w : World) (hL : LaidH w) :
    Calls Tryd.prog 35 #[.string s, .string t, .int .i64 (n : Int)] w fun e w' => e = .returned (.tuple #[.string (str (Hm.chain k label n)), .int .i64 0]) ∧ Below w.heap.size w w' := by
  have hsz : s.size = k.length := by rw [← hk.out, ofStr_len]
  have t0 : (s.size : Int) = 32 := by omega
  have t1 : ¬ (n : Int) < 0 := by omega
  have t2 : ¬ (4096 : Int) < (n : Int) := by omega
  obtain ⟨c, w1, hcv, hby, hb1, hc1, hlt1⟩ := conv_to t w
  rw [hi.out] at hby
  have htz : Hid (t.size = label.length) := by show _ = _; rw [← hi.out, ofStr_len]
  have hil : Hid (∀ x ∈ label, x < 256) := by rw [← hi.out]; exact ofStr_lt t
  have hkl : Hid (∀ x ∈ k, x < 256) := by rw [← hk.out]; exact ofStr_lt s
  have hk33 := hidIt hk32
  clear hsz hk32
  go_enter Tryd.func35, Tryd.ntmps35
  go_wp2
  clear t0 t1 t2 hcv
  have L1 := hL.below hb1 hL.two
  go_loopw [23, 0] (fun i key wr => ∃ (j : Nat) (st : ByteArray), j ≤ n ∧ i = .int .i64 (j : Int) ∧ key = .string st ∧ Hid (ofStr st = Hm.chain k label j) ∧ Below w1.heap.size w1 wr) (fun i _ _ => n - (intOf i).toNat)
  case atStart => exact ⟨0, s, by omega, rfl, rfl, hk, Below.refl _ _⟩
  case round =>
    obtain ⟨j, st, hj, rfl, rfl, hst, hb⟩ := hrel
    have Lr := L1.below hb L1.two
    by_cases hlt : j < n
    · have byr := hby.below hb
      obtain ⟨D, hD⟩ : ∃ D, Hid (Hm.chain k label j = D) := ⟨_, rfl⟩
      rw [hD.out] at hst
      have hD32 : Hid (D.length = 32) := by rw [← hD.out]; exact Hm.chain_len _ _ hk33.out _
      go_wp2_with (fail)
      refine (tag_any st D hst (by rw [hD32.out]; decide) _ t.size c label htz.out hil.out (by omega) (by have := htz.out; omega) _ Lr byr).mono ?_
      rintro e w2 ⟨rfl, hb2⟩
      obtain ⟨E, hE⟩ : ∃ E, Hid (Hm.tag D label = E) := ⟨_, rfl⟩
      obtain ⟨s2, hs2⟩ : ∃ s2, Hid (str E = s2) := ⟨_, rfl⟩
      have hof : Hid (ofStr s2 = Hm.chain k label (j + 1)) := by
        show _ = Hm.tag _ _
        rw [← hs2.out, ofStr_str _ (by rw [← hE.out]; exact Hm.tag_lt _ _), ← hE.out, hD.out]
      rw [hE.out, hs2.out]
      have H2 := below_then hb hb2
      clear byr hb Lr hb2
      go_wp2
      go_roundw
      case rel => exact ⟨j + 1, s2, by omega, by go_num, rfl, hof, H2⟩
      case measure => simp [intOf]; omega
    · obtain rfl : j = n := by omega
      have hfin := below_then hb1 hb
      have hst2 : Hid (st = str (Hm.chain k label j)) := by show _ = _; rw [← hst.out, str_ofStr]
      clear hst hby
      go_wp2
      go_ret2
      exact ⟨by rw [← hst2.out]; rfl, hfin⟩
end Go.Proofs.YtpfekbbmbdegbaaDoor
