import Derived.Test.YtpfekbbmbdegbaaDoorHmL1
namespace Go.Proofs.YtpfekbbmbdegbaaDoor
open Go.RowKit
theorem ofStr_add' (s t : ByteArray) : ofStr (s ++ t) = ofStr s ++ ofStr t := by
  unfold ofStr
  rw [ByteArray.data_append, Array.toList_append, List.map_append]
theorem addStr (s t : ByteArray) (h : s.size + t.size ≤ 1000000000) : ∃ st, Hid (∀ W, (Op.stringOp .add s t).run Tryd.prog W = .ok (.string st) W) ∧ Hid (ofStr st = ofStr s ++ ofStr t) :=
  ⟨s ++ t, fun W => run_string_add_sum W s t (by omega), ofStr_add' s t⟩
set_option maxRecDepth 100000 in
set_option maxHeartbeats 2000000 in
theorem keys_walk (a1 : Option Addr) (len1 cap1 : Nat) (xs : List Nat) (s : ByteArray) (w : World) (hL : LaidH w) (_h0 : s.size ≤ maxLen) (h1 : RowB w a1 len1 cap1 xs) :
    Calls Tryd.prog 6 #[.string s, .slice a1 len1 cap1] w fun e w' => e = .returned (.bool true) ∧ Below w.heap.size w w' := by
  clear _h0
  obtain rfl := h1.len
  by_cases hbig : 200 < s.size ∨ 200 < xs.length
  · clear h1
    go_enter Tryd.func6, Tryd.ntmps6
    go_wp2_with (fail)
    refine (awakeH_any _ hL).mono ?_
    rintro e w1 ⟨rfl, hb1⟩
    by_cases h0 : 200 < s.size
    · have t0 : (200 : Int) < (s.size : Int) := by omega
      go_wp2_with (fail)
      go_ret
      exact ⟨rfl, hb1⟩
    · have t0 : ¬ (200 : Int) < (s.size : Int) := by omega
      have t1 : (200 : Int) < (xs.length : Int) := by omega
      go_wp2_with (fail)
      go_ret
      exact ⟨rfl, hb1⟩
  have t0 : ¬ (200 : Int) < (s.size : Int) := by omega
  have t1 : ¬ (200 : Int) < (xs.length : Int) := by omega
  obtain ⟨k, hk⟩ : ∃ k, Hid (ofStr s = k) := ⟨_, rfl⟩
  have hks : Hid (s.size = k.length) := by show _ = _; rw [← hk.out, ofStr_len]
  have l0 : k.length ≤ 200 := by have := hks.out; omega
  have l1 : xs.length ≤ 200 := by omega
  have hx := h1.lt
  have hcap := h1.lecap
  have hby := h1.bytes
  clear hbig h1
  obtain ⟨st, hst⟩ : ∃ st, Hid (str (Hm.tag k xs) = st) := ⟨_, rfl⟩
  have hst32 : (st.size : Int) = 32 := by have e : st.size = 32 := by rw [← hst.out, str_size, Hm.tag_len]
                                          omega
  have v1 : (st.toList == st.toList) = true := by simp
  go_enter Tryd.func6, Tryd.ntmps6
  go_wp2_with (fail)
  refine (awakeH_any _ hL).mono ?_
  rintro e w1 ⟨rfl, hb1⟩
  have L1 := hL.below hb1 hL.two
  have y1 := hby.below hb1
  by_cases hshort : k.length < 64
  · have t2 : (s.size : Int) < 64 := by have := hks.out; omega
    have t3 : ¬ (64 : Int) < (s.size : Int) := by have := hks.out; omega
    obtain ⟨s2, hadd, hs2⟩ := addStr s { data := #[0] } (by have := hks.out; show s.size + 1 ≤ _; omega)
    have hadd2 := fun W => hadd.out W
    have hk2 : Hid (ofStr s2 = k ++ [0]) := by show _ = _; rw [hs2.out, hk.out]; rfl
    have e1 : Hid (Hm.tag (k ++ [0]) xs = Hm.tag k xs) := Hm.tag_zero k xs hshort
    clear hs2
    go_wp2_with (fail)
    refine (tag_any s2 _ hk2 (by rw [List.length_append]; simp only [List.length_singleton]; omega) _ _ cap1 xs rfl hx (by omega) hcap _ L1 y1).mono ?_
    rintro e w2 ⟨rfl, hb2⟩
    have H2 := below_then hb1 hb2
    rw [e1.out, hst.out]
    clear hadd2 t0 t1
    go_wp2_with (fail)
    refine (tag_any s k hk (by omega) _ _ cap1 xs rfl hx (by omega) hcap _ (hL.below H2 hL.two) (hby.below H2)).mono ?_
    rintro e w3 ⟨rfl, hb3⟩
    have H3 := below_then H2 hb3
    rw [hst.out]
    go_wp2_with (fail)
    refine (tag_any s k hk (by omega) _ _ cap1 xs rfl hx (by omega) hcap _ (hL.below H3 hL.two) (hby.below H3)).mono ?_
    rintro e w4 ⟨rfl, hb4⟩
    rw [hst.out]
    go_wp2_with (fail)
    go_ret
    exact ⟨rfl, below_then H3 hb4⟩
  · have t2 : ¬ (s.size : Int) < 64 := by have := hks.out; omega
    by_cases hlong : 64 < k.length
    · have t3 : (64 : Int) < (s.size : Int) := by have := hks.out; omega
      obtain ⟨c, w2, hcv, hby2, hb2, hc2, hlt2⟩ := conv_to s w1
      rw [hk.out] at hby2
      have H2 := below_then hb1 hb2
      have L2 := hL.below H2 hL.two
      have hkl : ∀ x ∈ k, x < 256 := by rw [← hk.out]; exact ofStr_lt s
      have e1 : Hid (Hm.tag (Sh.sum k) xs = Hm.tag k xs) := Hm.tag_sum k xs hlong
      go_wp2_with (fail)
      refine (sum_at _ s.size c k hks.out hkl (by omega) (by have := hks.out; omega) _ L2.l hby2 (fun _ x hx => by cases hx; exact hlt2)).mono ?_
      rintro e w3 ⟨rfl, hb3⟩
      have H3 := below_then H2 hb3
      obtain ⟨s2, hs2⟩ : ∃ s2, Hid (str (Sh.sum k) = s2) := ⟨_, rfl⟩
      have hk2 : Hid (ofStr s2 = Sh.sum k) := by show _ = _; rw [← hs2.out, ofStr_str _ (Sh.sum_lt _)]
      rw [hs2.out]
      clear hcv hby2 t0 t1
      go_wp2_with (fail)
      refine (tag_any s2 _ hk2 (by rw [Sh.sum_len]; decide) _ _ cap1 xs rfl hx (by omega) hcap _ (hL.below H3 hL.two) (hby.below H3)).mono ?_
      rintro e w4 ⟨rfl, hb4⟩
      have H4 := below_then H3 hb4
      rw [e1.out, hst.out]
      go_wp2_with (fail)
      refine (tag_any s k hk (by omega) _ _ cap1 xs rfl hx (by omega) hcap _ (hL.below H4 hL.two) (hby.below H4)).mono ?_
      rintro e w5 ⟨rfl, hb5⟩
      have H5 := below_then H4 hb5
      rw [hst.out]
      go_wp2_with (fail)
      refine (tag_any s k hk (by omega) _ _ cap1 xs rfl hx (by omega) hcap _ (hL.below H5 hL.two) (hby.below H5)).mono ?_
      rintro e w6 ⟨rfl, hb6⟩
      rw [hst.out]
      go_wp2_with (fail)
      go_ret
      exact ⟨rfl, below_then H5 hb6⟩
    · have t3 : ¬ (64 : Int) < (s.size : Int) := by have := hks.out; omega
      go_wp2_with (fail)
      refine (tag_any s k hk (by omega) _ _ cap1 xs rfl hx (by omega) hcap _ L1 y1).mono ?_
      rintro e w2 ⟨rfl, hb2⟩
      rw [hst.out]
      go_wp2_with (fail)
      go_ret
      exact ⟨rfl, below_then hb1 hb2⟩
set_option maxRecDepth 100000 in
set_option maxHeartbeats 2000000 in
theorem labels_walk (s t : ByteArray) (w : World) (hL : LaidH w) (_h0 : s.size ≤ maxLen) (_h1 : t.size ≤ maxLen) :
    Calls Tryd.prog 12 #[.string s, .string t] w fun e w' => e = .returned (.bool true) ∧ Below w.heap.size w w' := by
  clear _h0 _h1
  by_cases hbad : s.size ≠ 32 ∨ t.size < 1 ∨ 64 < t.size
  · go_enter Tryd.func12, Tryd.ntmps12
    go_wp2_with (fail)
    refine (awakeH_any _ hL).mono ?_
    rintro e w1 ⟨rfl, hb1⟩
    by_cases h0 : s.size = 32
    · have t0 : (s.size : Int) = 32 := by omega
      by_cases h1 : t.size < 1
      · have t1 : (t.size : Int) < 1 := by omega
        go_wp2_with (fail)
        go_ret
        exact ⟨rfl, hb1⟩
      · have t1 : ¬ (t.size : Int) < 1 := by omega
        have t2 : (64 : Int) < (t.size : Int) := by omega
        go_wp2_with (fail)
        go_ret
        exact ⟨rfl, hb1⟩
    · have t0 : ¬ (s.size : Int) = 32 := by omega
      go_wp2_with (fail)
      go_ret
      exact ⟨rfl, hb1⟩
  have z0 : s.size = 32 := by omega
  have t0 : (s.size : Int) = 32 := by omega
  have t1 : ¬ (t.size : Int) < 1 := by omega
  have t2 : ¬ (64 : Int) < (t.size : Int) := by omega
  obtain ⟨m, hm⟩ : ∃ m, Hid (ofStr s = m) := ⟨_, rfl⟩
  obtain ⟨l, hl⟩ : ∃ l, Hid (ofStr t = l) := ⟨_, rfl⟩
  have hm32 : Hid (m.length = 32) := by show _ = _; rw [← hm.out, ofStr_len]; exact z0
  have hll : Hid (l.length = t.size) := by show _ = _; rw [← hl.out, ofStr_len]
  have l1 : 1 ≤ l.length := by have := hll.out; omega
  have l64 : l.length ≤ 64 := by have := hll.out; omega
  clear z0 hbad
  go_enter Tryd.func12, Tryd.ntmps12
  go_wp2_with (fail)
  refine (awakeH_any _ hL).mono ?_
  rintro e w1 ⟨rfl, hb1⟩
  have L1 := hL.below hb1 hL.two
  go_wp2_with (fail)
  refine (derive_any s t m l hm hl hm32.out l1 l64 _ L1).mono ?_
  rintro e w2 ⟨rfl, hb2⟩
  have H2 := below_then hb1 hb2
  have L2 := hL.below H2 hL.two
  obtain ⟨D, hD⟩ : ∃ D, Hid (Hm.derive m l = D) := ⟨_, rfl⟩
  obtain ⟨sd, hsd⟩ : ∃ sd, Hid (str D = sd) := ⟨_, rfl⟩
  rw [hD.out, hsd.out]
  clear t0 t1 t2
  go_wp2_with (fail)
  refine (extract_any { data := #[] } s [] m rfl hm (by decide) (by rw [hm32.out]; decide) _ L2).mono ?_
  rintro e w3 ⟨rfl, hb3⟩
  have H3 := below_then H2 hb3
  have L3 := hL.below H3 hL.two
  obtain ⟨E, hE⟩ : ∃ D, Hid (Hm.tag [] m = D) := ⟨_, rfl⟩
  obtain ⟨s2, hs2⟩ : ∃ s2, Hid (str E = s2) := ⟨_, rfl⟩
  have hof : Hid (ofStr s2 = E) := by show _ = _; rw [← hs2.out, ofStr_str]; rw [← hE.out]; exact Hm.tag_lt _ _
  have hEl : Hid (E.length = 32) := by rw [← hE.out]; exact Hm.tag_len _ _
  have hEx : Hid (Hm.expand E l 32 = D) := by show _ = _; rw [← hE.out, ← hD.out]; rfl
  rw [hE.out, hs2.out]
  go_wp2_with (fail)
  refine (expand_32 s2 t E l hof hl (by rw [hEl.out]; decide) (by rw [hEl.out]; decide) (by omega) _ L3).mono ?_
  rintro e w4 ⟨rfl, hb4⟩
  have H4 := below_then H3 hb4
  rw [hEx.out, hsd.out]
  have v1 : (sd.toList == sd.toList) = true := by simp
  have hsz : Hid (sd.size = 32) := by show _ = _; rw [← hsd.out, str_size, ← hD.out]; exact Hm.expand_len _ _ _
  go_wp2_with (fail)
  refine (equal_is sd sd true (by simp [hsz.out]) _).mono ?_
  rintro e w5 ⟨rfl, hb5⟩
  go_wp2_with (fail)
  go_ret
  exact ⟨rfl, below_then H4 hb5⟩
end Go.Proofs.YtpfekbbmbdegbaaDoor
