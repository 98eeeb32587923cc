import Derived.Test.YtpfekbbmbdegbaaDoorHmR2
namespace Go.Proofs.YtpfekbbmbdegbaaDoor
open Go.RowKit
set_option maxRecDepth 100000 in
set_option maxHeartbeats 2000000 in
theorem tags_walk (a1 : Option Addr) (len1 cap1 : Nat) (xs : List Nat) (s : ByteArray) (w : World) (hL : LaidH w) (_h0 : s.size ≤ maxLen) (h1 : RowB w a1 len1 cap1 xs) :
    Calls Tryd.prog 4 #[.string s, .slice a1 len1 cap1] w fun e w' => e = .returned (.bool true) ∧ Below w.heap.size w w' := by
  clear _h0
  obtain rfl := h1.len
  by_cases hbig : 200 < s.size ∨ 400 < xs.length
  · clear h1
    go_enter Tryd.func4, Tryd.ntmps4
    go_wp2_with (fail)
    refine (awakeH_any _ hL).mono ?_
    rintro e w1 ⟨rfl, hb1⟩
    by_cases g0 : (200 : Int) < (s.size : Int)
    · go_wp2_with (fail)
      go_ret
      exact ⟨rfl, hb1⟩
    have g1 : (400 : Int) < (xs.length : Int) := by omega
    go_wp2_with (fail)
    go_ret
    exact ⟨rfl, hb1⟩
  have t0 : ¬ (200 : Int) < (s.size : Int) := by omega
  have t1 : ¬ (400 : Int) < (xs.length : Int) := by omega
  obtain ⟨k, hk⟩ : ∃ k, Hid (ofStr s = k) := ⟨_, rfl⟩
  have hks : Hid (s.size = k.length) := by show _ = _; rw [← hk.out, ofStr_len]
  have l0 : k.length ≤ 200 := by have := hks.out; omega
  have l1 : xs.length ≤ 400 := by omega
  have hx := h1.lt
  have hcap := h1.lecap
  have hby := h1.bytes
  have hnil := h1.nil
  clear hbig h1
  obtain ⟨st, hst⟩ : ∃ st, Hid (str (Hm.tag k xs) = st) := ⟨_, rfl⟩
  have v1 : (st.toList == st.toList) = true := by simp
  go_enter Tryd.func4, Tryd.ntmps4
  go_wp2_with (fail)
  refine (awakeH_any _ hL).mono ?_
  rintro e w1 ⟨rfl, hb1⟩
  have L1 := hL.below hb1 hL.two
  have y1 := hby.below hb1
  go_wp2_with (fail)
  refine (tag_any s k hk (by omega) _ _ cap1 xs rfl hx (by omega) hcap _ L1 y1).mono ?_
  rintro e w2 ⟨rfl, hb2⟩
  have H2 := below_then hb1 hb2
  rw [hst.out]
  clear t0 t1
  go_wp2_with (fail)
  refine (reftag_any s k hk (by omega) a1 cap1 xs hx (by omega) _ (hby.below H2) hnil).mono ?_
  rintro e w3 ⟨rfl, hb3⟩
  rw [hst.out]
  go_wp2_with (fail)
  go_ret
  exact ⟨rfl, below_then H2 hb3⟩
set_option maxRecDepth 100000 in
set_option maxHeartbeats 2000000 in
theorem derives_walk (s t : ByteArray) (w : World) (hL : LaidH w) (_h0 : s.size ≤ maxLen) (_h1 : t.size ≤ maxLen) :
    Calls Tryd.prog 11 #[.string s, .string t] w fun e w' => e = .returned (.bool true) ∧ Below w.heap.size w w' := by
  clear _h0 _h1
  by_cases hbig : 200 < s.size ∨ 200 < t.size
  · go_enter Tryd.func11, Tryd.ntmps11
    go_wp2_with (fail)
    refine (awakeH_any _ hL).mono ?_
    rintro e w1 ⟨rfl, hb1⟩
    by_cases g0 : (200 : Int) < (s.size : Int)
    · go_wp2_with (fail)
      go_ret
      exact ⟨rfl, hb1⟩
    have g1 : (200 : Int) < (t.size : Int) := by omega
    go_wp2_with (fail)
    go_ret
    exact ⟨rfl, hb1⟩
  have t0 : ¬ (200 : Int) < (s.size : Int) := by omega
  have t1 : ¬ (200 : Int) < (t.size : Int) := by omega
  by_cases hbad : s.size ≠ 32 ∨ t.size < 1 ∨ 64 < t.size
  · have hbad2 := hidIt hbad
    have v0 : (({ data := #[] } : ByteArray).toList == ({ data := #[] } : ByteArray).toList) = true := by simp
    go_enter Tryd.func11, Tryd.ntmps11
    go_wp2_with (fail)
    refine (awakeH_any _ hL).mono ?_
    rintro e w1 ⟨rfl, hb1⟩
    by_cases g0 : (s.size : Int) = 32
    · by_cases g1 : (t.size : Int) < 1
      · go_wp2_with (fail)
        refine (derive_arg s t hbad2.out _).mono ?_
        rintro e w2 ⟨rfl, hb2⟩
        go_wp2_with (fail)
        go_ret
        exact ⟨rfl, below_then hb1 hb2⟩
      · have g2 : (64 : Int) < (t.size : Int) := by omega
        go_wp2_with (fail)
        refine (derive_arg s t hbad2.out _).mono ?_
        rintro e w2 ⟨rfl, hb2⟩
        go_wp2_with (fail)
        go_ret
        exact ⟨rfl, below_then hb1 hb2⟩
    · go_wp2_with (fail)
      refine (derive_arg s t hbad2.out _).mono ?_
      rintro e w2 ⟨rfl, hb2⟩
      go_wp2_with (fail)
      go_ret
      exact ⟨rfl, below_then hb1 hb2⟩
  have z0 : s.size = 32 := by omega
  have g0 : (s.size : Int) = 32 := by omega
  have g1 : ¬ (t.size : Int) < 1 := by omega
  have g2 : ¬ (64 : Int) < (t.size : Int) := by omega
  obtain ⟨m, hm⟩ : ∃ m, Hid (ofStr s = m) := ⟨_, rfl⟩
  obtain ⟨l, hl⟩ : ∃ l, Hid (ofStr t = l) := ⟨_, rfl⟩
  have hm32 : Hid (m.length = 32) := by show _ = _; rw [← hm.out, ofStr_len]; exact z0
  have hll : Hid (l.length = t.size) := by show _ = _; rw [← hl.out, ofStr_len]
  have l1 : 1 ≤ l.length := by have := hll.out; omega
  have l64 : l.length ≤ 64 := by have := hll.out; omega
  clear z0 hbad hbig
  go_enter Tryd.func11, Tryd.ntmps11
  go_wp2_with (fail)
  refine (awakeH_any _ hL).mono ?_
  rintro e w1 ⟨rfl, hb1⟩
  have L1 := hL.below hb1 hL.two
  go_wp2_with (fail)
  refine (derive_any s t m l hm hl hm32.out l1 l64 _ L1).mono ?_
  rintro e w2 ⟨rfl, hb2⟩
  have H2 := below_then hb1 hb2
  obtain ⟨sd, hsd⟩ : ∃ sd, Hid (str (Hm.derive m l) = sd) := ⟨_, rfl⟩
  have v1 : (sd.toList == sd.toList) = true := by simp
  rw [hsd.out]
  go_wp2_with (fail)
  refine (refderive_any s t m l hm hl (by rw [hm32.out]; decide) (by omega) _).mono ?_
  rintro e w3 ⟨rfl, hb3⟩
  rw [hsd.out]
  go_wp2_with (fail)
  go_ret
  exact ⟨rfl, below_then H2 hb3⟩
set_option maxRecDepth 100000 in
set_option maxHeartbeats 2000000 in
theorem expands_walk (s t : ByteArray) (z : Int) (w : World) (hL : LaidH w) (_h0 : s.size ≤ maxLen) (_h1 : t.size ≤ maxLen) (_h2 : (Lit.int .i64 z).wf = true) :
    Calls Tryd.prog 9 #[.string s, .string t, .int .i64 z] w fun e w' => e = .returned (.bool true) ∧ Below w.heap.size w w' := by
  clear _h0 _h1 _h2
  by_cases hbig : 200 < s.size ∨ 200 < t.size ∨ (300 < z ∧ z ≤ 8160)
  · go_enter Tryd.func9, Tryd.ntmps9
    go_wp2_with (fail)
    refine (awakeH_any _ hL).mono ?_
    rintro e w1 ⟨rfl, hb1⟩
    by_cases g0 : (200 : Int) < (s.size : Int)
    · go_wp2_with (fail)
      go_ret
      exact ⟨rfl, hb1⟩
    by_cases g1 : (200 : Int) < (t.size : Int)
    · go_wp2_with (fail)
      go_ret
      exact ⟨rfl, hb1⟩
    have g2 : 300 < z := by omega
    have g3 : z ≤ 8160 := by omega
    go_wp2_with (fail)
    go_ret
    exact ⟨rfl, hb1⟩
  have t0 : ¬ (200 : Int) < (s.size : Int) := by omega
  have t1 : ¬ (200 : Int) < (t.size : Int) := by omega
  have hz : z ≤ 300 ∨ 8160 < z := by omega
  have v0 : (({ data := #[] } : ByteArray).toList == ({ data := #[] } : ByteArray).toList) = true := by simp
  by_cases hbad : s.size < 32 ∨ z < 0
  · have hbad2 := hidIt hbad
    go_enter Tryd.func9, Tryd.ntmps9
    go_wp2_with (fail)
    refine (awakeH_any _ hL).mono ?_
    rintro e w1 ⟨rfl, hb1⟩
    by_cases g2 : 300 < z
    · have g3 : ¬ z ≤ 8160 := by omega
      by_cases g4 : (s.size : Int) < 32
      · go_wp2_with (fail)
        refine (expand_arg s t z hbad2.out _).mono ?_
        rintro e w2 ⟨rfl, hb2⟩
        go_wp2_with (fail)
        go_ret
        exact ⟨rfl, below_then hb1 hb2⟩
      · exfalso; omega
    · by_cases g4 : (s.size : Int) < 32
      · go_wp2_with (fail)
        refine (expand_arg s t z hbad2.out _).mono ?_
        rintro e w2 ⟨rfl, hb2⟩
        go_wp2_with (fail)
        go_ret
        exact ⟨rfl, below_then hb1 hb2⟩
      · have g5 : z < 0 := by omega
        go_wp2_with (fail)
        refine (expand_arg s t z hbad2.out _).mono ?_
        rintro e w2 ⟨rfl, hb2⟩
        go_wp2_with (fail)
        go_ret
        exact ⟨rfl, below_then hb1 hb2⟩
  have g4 : ¬ (s.size : Int) < 32 := by omega
  have g5 : ¬ z < 0 := by omega
  have hs32 : ¬ s.size < 32 := by omega
  by_cases hlarge : 8160 < z
  · have g2 : 300 < z := by omega
    have g3 : ¬ z ≤ 8160 := by omega
    clear hbad hbig hz
    go_enter Tryd.func9, Tryd.ntmps9
    go_wp2_with (fail)
    refine (awakeH_any _ hL).mono ?_
    rintro e w1 ⟨rfl, hb1⟩
    go_wp2_with (fail)
    refine (expand_large s t z hs32 hlarge _).mono ?_
    rintro e w2 ⟨rfl, hb2⟩
    go_wp2_with (fail)
    go_ret
    exact ⟨rfl, below_then hb1 hb2⟩
  obtain ⟨n, rfl⟩ : ∃ n : Nat, z = (n : Int) := ⟨z.toNat, by omega⟩
  have hn : n ≤ 300 := by omega
  have g2 : ¬ (300 : Int) < (n : Int) := by omega
  obtain ⟨k, hk⟩ : ∃ k, Hid (ofStr s = k) := ⟨_, rfl⟩
  obtain ⟨l, hl⟩ : ∃ l, Hid (ofStr t = l) := ⟨_, rfl⟩
  have hks : Hid (s.size = k.length) := by show _ = _; rw [← hk.out, ofStr_len]
  have hls : Hid (t.size = l.length) := by show _ = _; rw [← hl.out, ofStr_len]
  have k1 : 32 ≤ k.length := by have := hks.out; omega
  have k2 : k.length ≤ 200 := by have := hks.out; omega
  have l2 : l.length ≤ 200 := by have := hls.out; omega
  clear hbad hbig hz hs32
  go_enter Tryd.func9, Tryd.ntmps9
  go_wp2_with (fail)
  refine (awakeH_any _ hL).mono ?_
  rintro e w1 ⟨rfl, hb1⟩
  have L1 := hL.below hb1 hL.two
  go_wp2_with (fail)
  refine (expand_any s t k l hk hl k1 (by omega) (by omega) n (by omega) _ L1).mono ?_
  rintro e w2 ⟨rfl, hb2⟩
  have H2 := below_then hb1 hb2
  obtain ⟨sd, hsd⟩ : ∃ sd, Hid (str (Hm.expand k l n) = sd) := ⟨_, rfl⟩
  have v1 : (sd.toList == sd.toList) = true := by simp
  rw [hsd.out]
  go_wp2_with (fail)
  refine (refexpand_any s t k l hk hl (by omega) (by omega) n hn _).mono ?_
  rintro e w3 ⟨rfl, hb3⟩
  rw [hsd.out]
  go_wp2_with (fail)
  go_ret
  exact ⟨rfl, below_then H2 hb3⟩
set_option maxRecDepth 100000 in
set_option maxHeartbeats 2000000 in
theorem chains_walk (s t : ByteArray) (z y : Int) (w : World) (hL : LaidH w) (_h0 : s.size ≤ maxLen) (_h1 : t.size ≤ maxLen) (_h2 : (Lit.int .i64 z).wf = true) (_h3 : (Lit.int .i64 y).wf = true) :
    Calls Tryd.prog 13 #[.string s, .string t, .int .i64 z, .int .i64 y] w fun e w' => e = .returned (.bool true) ∧ Below w.heap.size w w' := by
  clear _h0 _h1 _h2 _h3
  by_cases hbig : 200 < s.size ∨ 100 < t.size ∨ (30 < z ∧ z ≤ 4096) ∨ y < 0 ∨ 30 < y
  · go_enter Tryd.func13, Tryd.ntmps13
    go_wp2_with (fail)
    refine (awakeH_any _ hL).mono ?_
    rintro e w1 ⟨rfl, hb1⟩
    by_cases g0 : (200 : Int) < (s.size : Int)
    · go_wp2_with (fail)
      go_ret
      exact ⟨rfl, hb1⟩
    by_cases g1 : (100 : Int) < (t.size : Int)
    · go_wp2_with (fail)
      go_ret
      exact ⟨rfl, hb1⟩
    by_cases g2 : 30 < z
    · by_cases g3 : z ≤ 4096
      · go_wp2_with (fail)
        go_ret
        exact ⟨rfl, hb1⟩
      · by_cases g6 : y < 0
        · go_wp2_with (fail)
          go_ret
          exact ⟨rfl, hb1⟩
        have g7 : 30 < y := by omega
        go_wp2_with (fail)
        go_ret
        exact ⟨rfl, hb1⟩
    by_cases g6 : y < 0
    · go_wp2_with (fail)
      go_ret
      exact ⟨rfl, hb1⟩
    have g7 : 30 < y := by omega
    go_wp2_with (fail)
    go_ret
    exact ⟨rfl, hb1⟩
  have t0 : ¬ (200 : Int) < (s.size : Int) := by omega
  have t1 : ¬ (100 : Int) < (t.size : Int) := by omega
  have hz : z ≤ 30 ∨ 4096 < z := by omega
  have g6 : ¬ y < 0 := by omega
  have g7 : ¬ 30 < y := by omega
  have v0 : (({ data := #[] } : ByteArray).toList == ({ data := #[] } : ByteArray).toList) = true := by simp
  by_cases hbad : s.size ≠ 32 ∨ z < 0
  · have hbad2 := hidIt hbad
    go_enter Tryd.func13, Tryd.ntmps13
    go_wp2_with (fail)
    refine (awakeH_any _ hL).mono ?_
    rintro e w1 ⟨rfl, hb1⟩
    by_cases g2 : 30 < z
    · have g3 : ¬ z ≤ 4096 := by omega
      have g4 : ¬ (s.size : Int) = 32 := by omega
      go_wp2_with (fail)
      refine (chain_arg s t z hbad2.out _).mono ?_
      rintro e w2 ⟨rfl, hb2⟩
      go_wp2_with (fail)
      go_ret
      exact ⟨rfl, below_then hb1 hb2⟩
    · by_cases g4 : (s.size : Int) = 32
      · have g5 : z < 0 := by omega
        go_wp2_with (fail)
        refine (chain_arg s t z hbad2.out _).mono ?_
        rintro e w2 ⟨rfl, hb2⟩
        go_wp2_with (fail)
        go_ret
        exact ⟨rfl, below_then hb1 hb2⟩
      · go_wp2_with (fail)
        refine (chain_arg s t z hbad2.out _).mono ?_
        rintro e w2 ⟨rfl, hb2⟩
        go_wp2_with (fail)
        go_ret
        exact ⟨rfl, below_then hb1 hb2⟩
  have z32 : s.size = 32 := by omega
  have g4 : (s.size : Int) = 32 := by omega
  have g5 : ¬ z < 0 := by omega
  by_cases hlarge : 4096 < z
  · have g2 : 30 < z := by omega
    have g3 : ¬ z ≤ 4096 := by omega
    have z33 := hidIt z32
    clear hbad hbig hz z32
    go_enter Tryd.func13, Tryd.ntmps13
    go_wp2_with (fail)
    refine (awakeH_any _ hL).mono ?_
    rintro e w1 ⟨rfl, hb1⟩
    go_wp2_with (fail)
    refine (chain_large s t z z33.out hlarge _).mono ?_
    rintro e w2 ⟨rfl, hb2⟩
    go_wp2_with (fail)
    go_ret
    exact ⟨rfl, below_then hb1 hb2⟩
  obtain ⟨n, rfl⟩ : ∃ n : Nat, z = (n : Int) := ⟨z.toNat, by omega⟩
  obtain ⟨m, rfl⟩ : ∃ m : Nat, y = (m : Int) := ⟨y.toNat, by omega⟩
  have hn : n ≤ 30 := by omega
  have hm : m ≤ 30 := by omega
  have g2 : ¬ (30 : Int) < (n : Int) := by omega
  obtain ⟨k, hk⟩ : ∃ k, Hid (ofStr s = k) := ⟨_, rfl⟩
  obtain ⟨l, hl⟩ : ∃ l, Hid (ofStr t = l) := ⟨_, rfl⟩
  have hk32 : Hid (k.length = 32) := by show _ = _; rw [← hk.out, ofStr_len]; exact z32
  have hkl : Hid (∀ x ∈ k, x < 256) := by rw [← hk.out]; exact ofStr_lt s
  have hls : Hid (t.size = l.length) := by show _ = _; rw [← hl.out, ofStr_len]
  have l2 : l.length ≤ 100 := by have := hls.out; omega
  obtain ⟨nm, hnm⟩ : ∃ nm, Hid (n + m = nm) := ⟨_, rfl⟩
  have e1 : IntKind.i64.wrap ((n : Int) + (m : Int)) = (nm : Int) := by
    have h : (n : Int) + (m : Int) = (nm : Int) := by have := hnm.out; omega
    rw [h]; exact IntWalk.i64_in _ (by have := hnm.out; omega)
  have e2 : (n : Int) + (m : Int) = (nm : Int) := by have := hnm.out; omega
  clear hbad hbig hz z32
  go_enter Tryd.func13, Tryd.ntmps13
  go_wp2_with (fail)
  refine (awakeH_any _ hL).mono ?_
  rintro e w1 ⟨rfl, hb1⟩
  have L1 := hL.below hb1 hL.two
  go_wp2_with (fail)
  refine (chain_any s t k l hk hl hk32.out (by omega) n (by omega) _ L1).mono ?_
  rintro e w2 ⟨rfl, hb2⟩
  have H2 := below_then hb1 hb2
  have L2 := hL.below H2 hL.two
  obtain ⟨C, hC⟩ : ∃ C, Hid (Hm.chain k l n = C) := ⟨_, rfl⟩
  have hC32 : Hid (C.length = 32) := by rw [← hC.out]; exact Hm.chain_len _ _ hk32.out _
  obtain ⟨sc, hsc⟩ : ∃ sd, Hid (str C = sd) := ⟨_, rfl⟩
  have hofC : Hid (ofStr sc = C) := by show _ = _; rw [← hsc.out, ofStr_str]; rw [← hC.out]; exact Hm.chain_lt _ _ hkl.out _
  have v1 : (sc.toList == sc.toList) = true := by simp
  rw [hC.out, hsc.out]
  clear t0 t1 g6 g7
  go_wp2_with (fail)
  refine (chain_any sc t C l hofC hl hC32.out (by omega) m (by omega) _ L2).mono ?_
  rintro e w3 ⟨rfl, hb3⟩
  have H3 := below_then H2 hb3
  have L3 := hL.below H3 hL.two
  have hE : Hid (Hm.chain C l m = Hm.chain k l nm) := by show _ = _; rw [← hC.out, Hm.chain_add, hnm.out]
  obtain ⟨se, hse⟩ : ∃ sd, Hid (str (Hm.chain k l nm) = sd) := ⟨_, rfl⟩
  have v2 : (se.toList == se.toList) = true := by simp
  rw [hE.out, hse.out]
  go_wp2_with (fail)
  refine (chain_any s t k l hk hl hk32.out (by omega) nm (by have := hnm.out; omega) _ L3).mono ?_
  rintro e w4 ⟨rfl, hb4⟩
  have H4 := below_then H3 hb4
  rw [hse.out]
  go_wp2_with (fail)
  refine (refchain_any s t k l hk hl hk32.out (by omega) n (by omega) _).mono ?_
  rintro e w5 ⟨rfl, hb5⟩
  rw [hC.out, hsc.out]
  go_wp2_with (fail)
  go_ret
  exact ⟨rfl, below_then H4 hb5⟩
end Go.Proofs.YtpfekbbmbdegbaaDoor
