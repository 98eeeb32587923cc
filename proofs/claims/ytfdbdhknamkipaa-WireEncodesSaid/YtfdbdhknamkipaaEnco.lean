import Derived.Test.YtfdbdhknamkipaaEncA
namespace Go.Proofs.Ytfdbdhknamkipaa
open Go.RowKit
set_option maxRecDepth 100000 in
set_option maxHeartbeats 4000000 in
theorem wencodes_walk (a : Option Addr) (len cap : Nat) (V : Nat → RV) (w : World) (h1 : VR w a len V) (hc1 : len ≤ cap) (hl1 : len ≤ 140737488355328) :
    Calls Try.prog 3 #[.slice a len cap] w fun e w' => e = .returned (.bool true) ∧ Below w.heap.size w w' := by
  have Vh := hidIt h1
  clear h1
  go_enter Try.func3, Try.ntmps3
  go_wp2_with (fail)
  refine (awake_any _).mono ?_
  rintro e w1 ⟨rfl, hb1⟩
  have H1 := hidIt hb1
  have V1 := hidIt (Vh.out.below hb1)
  clear hb1
  go_wp2_with (fail)
  refine (small_any a len cap V hc1 hl1 _ V1.out).mono ?_
  rintro e w2 ⟨⟨b, rfl, hs⟩, rfl⟩
  have S1 := hidIt hs
  clear hs
  cases b with
  | false =>
    go_wp2_with (fail)
    go_ret
    exact ⟨rfl, H1.out⟩
  | true =>
    have SX := hidIt (S1.out (by simp))
    clear S1 hl1
    go_wp2_with (fail)
    refine (encoded_any a len cap V hc1 SX.out _ V1.out).mono ?_
    rintro e w3 ⟨hb3, hpost⟩
    have H3 := hidIt (below_then H1.out hb3)
    have V3 := hidIt (V1.out.below hb3)
    have P3 := hidIt (putAll_len SX.out.2 len (Nat.le_refl _))
    have L40 := SX.out.1
    have RE : Hid (Calls Try.prog 12 #[.slice a len cap] w3 (EncPost w3 (encV (putAll V len)))) := refEncode_any a len cap V hc1 SX.out _ V3.out
    clear H1 V1 V3 SX hb3
    cases henc : encV (putAll V len) with
    | inl er =>
      rw [henc] at hpost RE
      obtain rfl := hpost
      clear henc
      go_wp2_with (fail)
      refine RE.out.mono ?_
      rintro e w4 ⟨hb4, hpost4⟩
      obtain rfl := hpost4
      have H4 := hidIt (below_then H3.out hb4)
      clear hb4 RE H3
      go_wp2_with (fail)
      refine (same_any none none 0 0 [] [] true rfl _ (fun i hi => by cases hi) (fun i hi => by cases hi) (by simp)).mono ?_
      rintro e w5 ⟨rfl, m5, rfl⟩
      have H5 := hidIt (below_drewN H4.out m5)
      go_wp2_with (fail)
      go_ret
      exact ⟨by simp, H5.out⟩
    | inr bs =>
      rw [henc] at hpost RE
      obtain ⟨a5, c5, rfl, ho5⟩ := hpost
      obtain ⟨-, hbs⟩ := encV_ok henc
      have hlb : bs.length ≤ 16400 := by rw [hbs]; have := P3.out; omega
      have O5 : Hid (Bytes w3 a5 bs) := by
        obtain ⟨a6, c6, hv6, hB6, -⟩ := owned_bytes ho5 rfl
        cases hv6
        exact hB6
      clear henc hbs ho5 P3
      go_wp2_with (fail)
      refine RE.out.mono ?_
      rintro e w4 ⟨hb4, hpost4⟩
      obtain ⟨a7, c7, rfl, ho7⟩ := hpost4
      have O7 : Hid (Bytes w4 a7 bs) := by
        obtain ⟨a6, c6, hv6, hB6, -⟩ := owned_bytes ho7 rfl
        cases hv6
        exact hB6
      have B4 := hidIt (Bytes.below O5.out hb4)
      have H4 := hidIt (below_then H3.out hb4)
      clear hb4 RE H3 ho7 O5
      go_wp2_with (fail)
      refine (same_any a5 a7 c5 c7 bs bs true (by simp) _ B4.out O7.out (by omega)).mono ?_
      rintro e w5 ⟨rfl, m5, rfl⟩
      have H5 := hidIt (below_drewN H4.out m5)
      go_wp2_with (fail)
      go_ret
      exact ⟨rfl, H5.out⟩
end Go.Proofs.Ytfdbdhknamkipaa
