import Derived.Test.YtmaifngoffmjnaaDoorInverts
import Derived.Test.YtmaifngoffmjnaaDoorRefFrom
namespace Go.Proofs.YtmaifngoffmjnaaDoor
open Go.RowKit
set_option maxRecDepth 100000 in
set_option maxHeartbeats 2000000 in
theorem digits_walk (s : ByteArray) (w : World) (hL : Laid w) (_hs : s.size ≤ maxLen) :
    Calls Tryd.prog 9 #[.string s] w fun e w' => e = .returned (.bool true) ∧ Below w.heap.size w w' := by
  clear _hs
  by_cases hbig : 300 < s.size
  · go_enter Tryd.func9, Tryd.ntmps9
    go_wp2_with (fail)
    refine (awake_any _ hL).mono ?_
    rintro e w1 ⟨rfl, hb1⟩
    have L1 := hL.below hb1 hL.two
    go_wp2_with (fail)
    refine (awake_any _ L1).mono ?_
    rintro e w2 ⟨rfl, hb2⟩
    go_wp2_with (fail)
    go_ret
    exact ⟨rfl, below_then hb1 hb2⟩
  · have hb : ¬ (300 : Int) < (s.size : Int) := by omega
    go_enter Tryd.func9, Tryd.ntmps9
    go_wp2_with (fail)
    refine (awake_any _ hL).mono ?_
    rintro e w1 ⟨rfl, hb1⟩
    go_wp2_with (fail)
    refine (fromHex_any s (by omega) _).mono ?_
    rintro e w2 ⟨he, hb2⟩
    have H2 := below_then hb1 hb2
    have hr := fun W => reffrom_any s (by omega) W
    cases hu : Hx.un (ofStr s) with
    | none =>
      rw [hu] at he
      obtain rfl := (show e = _ from he)
      have hr2 := hidIt (hr w2)
      rw [hu] at hr2
      clear hu he hr
      go_wp2_with (fail)
      refine hr2.out.mono ?_
      rintro e w3 ⟨he, hb3⟩
      obtain rfl := (show e = _ from he)
      clear he
      go_wp2_with (fail)
      go_ret
      exact ⟨rfl, below_then H2 hb3⟩
    | some r =>
      rw [hu] at he
      obtain rfl := (show e = _ from he)
      have hr2 := hidIt (hr w2)
      rw [hu] at hr2
      clear hu he hr
      generalize hst : str r = st at *
      go_wp2_with (fail)
      refine hr2.out.mono ?_
      rintro e w3 ⟨he, hb3⟩
      obtain rfl := (show e = _ from he)
      clear he
      rw [hst]
      clear hst
      have v1 : (st.toList == st.toList) = true := by simp
      go_wp2_with (fail)
      go_ret
      exact ⟨rfl, below_then H2 hb3⟩
set_option maxRecDepth 100000 in
set_option maxHeartbeats 2000000 in
theorem hex_walk (s : ByteArray) (w : World) (hL : Laid w) (_hs : s.size ≤ maxLen) :
    Calls Tryd.prog 8 #[.string s] w fun e w' => e = .returned (.bool true) ∧ Below w.heap.size w w' := by
  clear _hs
  by_cases hbig : 300 < s.size
  · go_enter Tryd.func8, Tryd.ntmps8
    go_wp2_with (fail)
    refine (awake_any _ hL).mono ?_
    rintro e w1 ⟨rfl, hb1⟩
    have L1 := hL.below hb1 hL.two
    go_wp2_with (fail)
    refine (awake_any _ L1).mono ?_
    rintro e w2 ⟨rfl, hb2⟩
    go_wp2_with (fail)
    go_ret
    exact ⟨rfl, below_then hb1 hb2⟩
  · have hb : ¬ (300 : Int) < (s.size : Int) := by omega
    have hb2 : s.size ≤ 300 := by omega
    go_enter Tryd.func8, Tryd.ntmps8
    go_wp2_with (fail)
    refine (awake_any _ hL).mono ?_
    rintro e w1 ⟨rfl, hb1⟩
    go_wp2_with (fail)
    refine (hex_any s (by omega) _).mono ?_
    rintro e w2 ⟨rfl, hb2⟩
    have H2 := below_then hb1 hb2
    obtain ⟨st, hst⟩ : ∃ st, Hid (str (Hx.hex (ofStr s)) = st) := ⟨_, rfl⟩
    have hun : Hid (Hx.un (ofStr st) = some (ofStr s)) := by
      show _ = _
      rw [← hst.out, ofStr_str _ (Hx.hex_lt (ofStr_lt s)), Hx.un_hex (ofStr_lt s)]
    have hsz : st.size ≤ 600 := by rw [← hst.out, str_size, Hx.hex_len, ofStr_len]; omega
    rw [hst.out]
    go_wp2_with (fail)
    refine (fromHex_any st (by omega) _).mono ?_
    rintro e w3 ⟨he, hb3⟩
    have H3 := below_then H2 hb3
    rw [hun.out] at he
    obtain rfl := (show e = _ from he)
    clear he
    rw [str_ofStr]
    have v1 : (st.toList == st.toList) = true := by simp
    have v2 : (s.toList == s.toList) = true := by simp
    go_wp2_with (fail)
    refine (refhex_any s (by omega) _).mono ?_
    rintro e w4 ⟨rfl, hb4⟩
    rw [hst.out]
    go_wp2_with (fail)
    go_ret
    exact ⟨rfl, below_then H3 hb4⟩
end Go.Proofs.YtmaifngoffmjnaaDoor
