import Derived.Test.YtmaifngoffmjnaaDoorAwake
import Derived.Test.YtmaifngoffmjnaaDoorBy3
namespace Go.Proofs.YtmaifngoffmjnaaDoor
open Go.RowKit
theorem hex_back (r : List Nat) (s : ByteArray) (h : ∀ x ∈ r, x < 256) (hs : Hid (Hx.hex r = ofStr s)) (hbig : r.length ≤ 35184372088832) (w : World) :
    Calls Tryd.prog 22 #[.string (str r)] w fun e w' => e = .returned (.string s) ∧ Below w.heap.size w w' := by
  have h1 := hex_any (str r) (by rw [str_size]; exact hbig) w
  rw [ofStr_str r h, hs.out, str_ofStr] at h1
  exact h1
theorem strs_one (w : World) (s : ByteArray) : Strs (w.alloc (.cells #[.string s] 9)) (some ⟨w.heap.size, 0, none⟩) [s] := by
  intro i hi
  have h0 : i = 0 := by simpa using hi
  subst h0
  exact ⟨_, 0, rfl, by rw [cell_of_row _ _ _ _ _ _ (heap_alloc_new w _)]; rfl⟩
set_option maxRecDepth 100000 in
set_option maxHeartbeats 2000000 in
theorem inverts_walk (s : ByteArray) (w : World) (hL : Laid w) (_hs : s.size ≤ maxLen) :
    Calls Tryd.prog 10 #[.string s] w fun e w' => e = .returned (.bool true) ∧ Below w.heap.size w w' := by
  clear _hs
  by_cases hbig : 300 < s.size
  · go_enter Tryd.func10, Tryd.ntmps10
    go_wp2_with (fail)
    refine (awake_any _ hL).mono ?_
    rintro e w1 ⟨rfl, hb1⟩
    have L1 := hL.below hb1 hL.two
    go_wp2_with (fail)
    refine (awake_any _ L1).mono ?_
    rintro e w2 ⟨rfl, hb2⟩
    go_wp2_with (fail)
    go_ret
    exact ⟨rfl, below_then hb1 hb2⟩
  · have hb : ¬ (300 : Int) < (s.size : Int) := by omega
    go_enter Tryd.func10, Tryd.ntmps10
    go_wp2_with (fail)
    refine (awake_any _ hL).mono ?_
    rintro e w1 ⟨rfl, hb1⟩
    have L1 := hL.below hb1 hL.two
    go_wp2_with (fail)
    refine (fromHex_any s (by omega) _).mono ?_
    rintro e w2 ⟨he, hb2⟩
    have H2 := below_then hb1 hb2
    have L2 := hL.below H2 hL.two
    cases hu : Hx.un (ofStr s) with
    | none =>
      rw [hu] at he
      obtain rfl := (show e = _ from he)
      clear hu he
      obtain ⟨c, w3, hcv, hy, hb3, hc, hz⟩ := conv_to s w2
      have H3 := below_then H2 hb3
      have L3 := hL.below H3 hL.two
      go_wp2_with (fail)
      refine (sum_at _ s.size c (ofStr s) (ofStr_len s).symm (ofStr_lt s) (by rw [ofStr_len]; omega) (by rw [ofStr_len]; exact hc) _ L3 hy (fun _ x hx => by cases hx; exact hz)).mono ?_
      rintro e w4 ⟨rfl, hb4⟩
      have H4 := below_then H3 hb4
      have z1 : (str (Sh.sum (ofStr s))).size = 32 := by rw [str_size, Sh.sum_len]
      generalize str (Sh.sum (ofStr s)) = s1 at *
      clear hcv hy hc hz
      go_wp2_with (fail)
      have hb5 := (Below.refl w4.heap.size w4).alloc (Nat.le_refl _) (.cells #[.string s] 9)
      have H5 := below_then H4 hb5
      have L5 := hL.below H5 hL.two
      refine (join_any (some ⟨w4.heap.size, 0, none⟩) 1 [s] (by simp [cat, ofStr_len]; omega) (by simp) _ L5 (strs_one w4 s)).mono ?_
      rintro e w6 ⟨rfl, hb6⟩
      have H6 := below_then H5 hb6
      go_wp2_with (fail)
      refine (hex_any _ (by rw [str_size, Sh.sum_len]; decide) _).mono ?_
      rintro e w7 ⟨rfl, hb7⟩
      have H7 := below_then H6 hb7
      have z2 : (str (Hx.hex (ofStr (str (Sh.sum (cat [s])))))).size = 64 := by rw [str_size, Hx.hex_len, ofStr_str _ (Sh.sum_lt _), Sh.sum_len]
      generalize str (Hx.hex (ofStr (str (Sh.sum (cat [s]))))) = s2 at *
      go_wp2_with (fail)
      go_ret
      exact ⟨rfl, H7⟩
    | some r =>
      rw [hu] at he
      obtain rfl := (show e = _ from he)
      obtain ⟨hr1, hr2⟩ := Hx.hex_un _ _ _ (Nat.le_refl _) hu
      have hr3 := hidIt hr1
      have hrl : r.length ≤ 300 := by
        have := Hx.hex_len r
        rw [hr1, ofStr_len] at this
        omega
      clear hu he hr1
      go_wp2_with (fail)
      refine (hex_back r s hr2 hr3 (by omega) _).mono ?_
      rintro e wh ⟨rfl, hbh⟩
      have Hh := below_then H2 hbh
      obtain ⟨c, w3, hcv, hy, hb3, hc, hz⟩ := conv_to s wh
      have H3 := below_then Hh hb3
      have L3 := hL.below H3 hL.two
      go_wp2_with (fail)
      refine (sum_at _ s.size c (ofStr s) (ofStr_len s).symm (ofStr_lt s) (by rw [ofStr_len]; omega) (by rw [ofStr_len]; exact hc) _ L3 hy (fun _ x hx => by cases hx; exact hz)).mono ?_
      rintro e w4 ⟨rfl, hb4⟩
      have H4 := below_then H3 hb4
      have z1 : (str (Sh.sum (ofStr s))).size = 32 := by rw [str_size, Sh.sum_len]
      generalize str (Sh.sum (ofStr s)) = s1 at *
      clear hcv hy hc hz
      go_wp2_with (fail)
      have hb5 := (Below.refl w4.heap.size w4).alloc (Nat.le_refl _) (.cells #[.string s] 9)
      have H5 := below_then H4 hb5
      have L5 := hL.below H5 hL.two
      refine (join_any (some ⟨w4.heap.size, 0, none⟩) 1 [s] (by simp [cat, ofStr_len]; omega) (by simp) _ L5 (strs_one w4 s)).mono ?_
      rintro e w6 ⟨rfl, hb6⟩
      have H6 := below_then H5 hb6
      go_wp2_with (fail)
      refine (hex_any _ (by rw [str_size, Sh.sum_len]; decide) _).mono ?_
      rintro e w7 ⟨rfl, hb7⟩
      have H7 := below_then H6 hb7
      have z2 : (str (Hx.hex (ofStr (str (Sh.sum (cat [s])))))).size = 64 := by rw [str_size, Hx.hex_len, ofStr_str _ (Sh.sum_lt _), Sh.sum_len]
      generalize str (Hx.hex (ofStr (str (Sh.sum (cat [s]))))) = s2 at *
      go_wp2_with (fail)
      go_ret
      exact ⟨rfl, H7⟩
end Go.Proofs.YtmaifngoffmjnaaDoor
