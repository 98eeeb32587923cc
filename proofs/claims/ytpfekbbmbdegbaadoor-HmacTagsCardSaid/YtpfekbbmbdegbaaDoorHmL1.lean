import Derived.Test.YtpfekbbmbdegbaaDoorHmA
namespace Go.Proofs.YtpfekbbmbdegbaaDoor
open Go.RowKit
theorem equal_is (a b : ByteArray) (r : Bool) (hr : (decide (ofStr a = ofStr b) && decide (a.size = 32)) = r) (w : World) :
    Calls Tryd.prog 29 #[.string a, .string b] w fun e w' => e = .returned (.bool r) ∧ Below w.heap.size w w' := by
  rw [← hr]; exact equal_any a b w
set_option maxRecDepth 100000 in
theorem equal_walk (a b : ByteArray) (w : World) (hL : LaidH w) (_h0 : a.size ≤ maxLen) (_h1 : b.size ≤ maxLen) :
    Calls Tryd.prog 7 #[.string a, .string b] w fun e w' => e = .returned (.bool true) ∧ Below w.heap.size w w' := by
  clear _h0 _h1
  by_cases h : ofStr a = ofStr b
  · have v1 : (a.toList == b.toList) = true := by rw [str_beq]; simp [h]
    by_cases hs : a.size = 32
    · have hr : (decide (ofStr a = ofStr b) && decide (a.size = 32)) = true := by simp [h, hs]
      have t0 : (a.size : Int) = 32 := by omega
      have hr2 := hidIt hr
      clear hr h hs
      go_enter Tryd.func7, Tryd.ntmps7
      go_wp2_with (fail)
      refine (awakeH_any _ hL).mono ?_
      rintro e w1 ⟨rfl, hb1⟩
      go_wp2_with (fail)
      refine (equal_is a b _ hr2.out _).mono ?_
      rintro e w2 ⟨rfl, hb2⟩
      go_wp2_with (fail)
      go_ret
      exact ⟨rfl, below_then hb1 hb2⟩
    · have hr : (decide (ofStr a = ofStr b) && decide (a.size = 32)) = false := by simp [hs]
      have t0 : ((a.size : Int) == 32) = false := by simp; omega
      have hr2 := hidIt hr
      clear hr h hs
      go_enter Tryd.func7, Tryd.ntmps7
      go_wp2_with (fail)
      refine (awakeH_any _ hL).mono ?_
      rintro e w1 ⟨rfl, hb1⟩
      go_wp2_with (fail)
      refine (equal_is a b _ hr2.out _).mono ?_
      rintro e w2 ⟨rfl, hb2⟩
      go_wp2_with (fail)
      go_ret
      exact ⟨rfl, below_then hb1 hb2⟩
  · have v1 : (a.toList == b.toList) = false := by rw [str_beq]; simp [h]
    have hr : (decide (ofStr a = ofStr b) && decide (a.size = 32)) = false := by simp [h]
    have hr2 := hidIt hr
    clear hr h
    go_enter Tryd.func7, Tryd.ntmps7
    go_wp2_with (fail)
    refine (awakeH_any _ hL).mono ?_
    rintro e w1 ⟨rfl, hb1⟩
    go_wp2_with (fail)
    refine (equal_is a b _ hr2.out _).mono ?_
    rintro e w2 ⟨rfl, hb2⟩
    go_wp2_with (fail)
    go_ret
    exact ⟨rfl, below_then hb1 hb2⟩
set_option maxRecDepth 100000 in
set_option maxHeartbeats 2000000 in
theorem extracts_walk (a b : ByteArray) (w : World) (hL : LaidH w) (_h0 : a.size ≤ maxLen) (_h1 : b.size ≤ maxLen) :
    Calls Tryd.prog 8 #[.string a, .string b] w fun e w' => e = .returned (.bool true) ∧ Below w.heap.size w w' := by
  clear _h0 _h1
  by_cases hbig : 200 < a.size ∨ 200 < b.size
  · go_enter Tryd.func8, Tryd.ntmps8
    go_wp2_with (fail)
    refine (awakeH_any _ hL).mono ?_
    rintro e w1 ⟨rfl, hb1⟩
    by_cases h0 : 200 < a.size
    · have t0 : (200 : Int) < (a.size : Int) := by omega
      go_wp2_with (fail)
      go_ret
      exact ⟨rfl, hb1⟩
    · have t0 : ¬ (200 : Int) < (a.size : Int) := by omega
      have t1 : (200 : Int) < (b.size : Int) := by omega
      go_wp2_with (fail)
      go_ret
      exact ⟨rfl, hb1⟩
  · have t0 : ¬ (200 : Int) < (a.size : Int) := by omega
    have t1 : ¬ (200 : Int) < (b.size : Int) := by omega
    have l0 : (ofStr a).length ≤ 200 := by rw [ofStr_len]; omega
    have l1 : (ofStr b).length ≤ 200 := by rw [ofStr_len]; omega
    clear hbig
    go_enter Tryd.func8, Tryd.ntmps8
    go_wp2_with (fail)
    refine (awakeH_any _ hL).mono ?_
    rintro e w1 ⟨rfl, hb1⟩
    have L1 := hL.below hb1 hL.two
    go_wp2_with (fail)
    refine (extract_any a b _ _ rfl rfl (by omega) (by omega) _ L1).mono ?_
    rintro e w2 ⟨rfl, hb2⟩
    have H2 := below_then hb1 hb2
    obtain ⟨c, w3, hcv, hby, hb3, hc3, hlt3⟩ := conv_to b w2
    have H3 := below_then H2 hb3
    have L3 := hL.below H3 hL.two
    obtain ⟨xs, hxs⟩ : ∃ xs, Hid (ofStr b = xs) := ⟨_, rfl⟩
    have hsz : Hid (b.size = xs.length) := by show _ = _; rw [← hxs.out, ofStr_len]
    have hxl : ∀ x ∈ xs, x < 256 := by rw [← hxs.out]; exact ofStr_lt b
    rw [hxs.out] at hby l1 ⊢
    obtain ⟨st, hst⟩ : ∃ st, Hid (str (Hm.tag (ofStr a) xs) = st) := ⟨_, rfl⟩
    rw [hst.out]
    have v1 : (st.toList == st.toList) = true := by simp
    clear t0 t1
    go_wp2_with (fail)
    refine (tag_any a (ofStr a) rfl (by omega) _ b.size c xs hsz.out hxl (by omega) (by have := hsz.out; omega) _ L3 hby).mono ?_
    rintro e w4 ⟨rfl, hb4⟩
    rw [hst.out]
    go_wp2_with (fail)
    go_ret
    exact ⟨rfl, below_then H3 hb4⟩
end Go.Proofs.YtpfekbbmbdegbaaDoor
