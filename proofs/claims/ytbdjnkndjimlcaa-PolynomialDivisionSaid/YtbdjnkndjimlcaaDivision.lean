import Derived.Test.YtbdjnkndjimlcaaRefGcd
import Derived.Test.YtbdjnkndjimlcaaProducts
namespace Go.Proofs.Ytbdjnkndjimlcaa
open Go.RowKit
theorem monic_lt {G : List Nat} (hG : ∀ i, G.getD i 0 < 256) (i : Nat) : (monic G).getD i 0 < 256 := scal_lt hG i
set_option maxRecDepth 100000 in
set_option maxHeartbeats 4000000 in
theorem division_walk (a0 a1 : Option Addr) (len0 cap0 len1 cap1 : Nat) (ps qs : List Nat) (w : World) (r0 : RowB w a0 len0 cap0 ps) (r1 : RowB w a1 len1 cap1 qs) :
    Calls Try.prog 4 #[.slice a0 len0 cap0, .slice a1 len1 cap1] w fun e w' => e = .returned (.bool true) ∧ Below w.heap.size w w' := by
  have hp := hidIt (row_lt r0)
  have hq := hidIt (row_lt r1)
  have n0 := hidIt r0.len
  have n1 := hidIt r1.len
  have b0 := hidIt r0.bytes
  have b1 := hidIt r1.bytes
  have d0 := hidIt (row_rd r0)
  have d1 := hidIt (row_rd r1)
  clear r0 r1
  obtain ⟨dq, hdq⟩ : ∃ d, Hid (Pl.d1 qs = d) := ⟨_, rfl⟩
  go_enter Try.func4, Try.ntmps4
  go_wp2_with (fail)
  refine (awake6_any _).mono ?_
  rintro e w1 ⟨rfl, be1⟩
  replace be1 := hidIt be1
  by_cases hmany : 40 < len0 ∨ 40 < len1
  · by_cases h60 : 40 < len0
    · have g1 : (40 : Int) < (len0 : Int) := by omega
      clear hmany
      go_wp2_with (fail)
      go_ret
      exact ⟨rfl, be1.out⟩
    · have g1 : (len0 : Int) ≤ 40 := by omega
      have g2 : (40 : Int) < (len1 : Int) := by omega
      clear hmany h60
      go_wp2_with (fail)
      go_ret
      exact ⟨rfl, be1.out⟩
  · have g1 : (len0 : Int) ≤ 40 := by omega
    have g2 : (len1 : Int) ≤ 40 := by omega
    have s0 : len0 ≤ 40 := by omega
    have s1 : len1 ≤ 40 := by omega
    clear hmany
    go_wp2_with (fail)
    by_cases hz : dq = 0
    · subst hz
      refine (divz_any a0 a1 len0 len1 cap0 cap1 qs n1.out hq.out (by omega) hdq.out _ (b1.out.below be1.out)).mono ?_
      rintro e w2 ⟨rfl, hbel⟩
      have be2 := hidIt (then_below be1.out hbel)
      clear hbel be1
      go_wp2_with (fail)
      refine (gcd_any a0 a1 len0 len1 cap0 cap1 ps qs n0.out n1.out hp.out hq.out (by omega) (by omega) _ (b0.out.below be2.out) (b1.out.below be2.out)).mono ?_
      rintro e w3 ⟨⟨ag, mg, cg, G, rfl, hE, hG, hGn, hGl, hmg, hbg⟩, hbel⟩
      have hE' := hidIt hE
      have hG' := hidIt hG
      have hmg' := hidIt hmg
      have hbg' := hidIt hbg
      have be3 := hidIt (then_below be2.out hbel)
      clear hE hG hGn hGl hmg hbg hbel be2
      go_wp2_with (fail)
      refine (refgcd_any a0 a1 len0 len1 cap0 cap1 ps qs hp.out hq.out (by omega) (by omega) _ (d0.out.below be3.out) (d1.out.below be3.out)).mono ?_
      rintro e w4 ⟨⟨ah, mh, ch, G2, rfl, hE2, hr2⟩, hbel⟩
      obtain rfl : G = G2 := hE'.out.unique (co_trim_lt hq.out) (Pl.trim_nf _) hE2
      have hr2' := hidIt hr2
      have hbg2 := hidIt (hbg'.out.below hbel)
      have be4 := hidIt (then_below be3.out hbel)
      clear hE2 hr2 hbel be3 hbg'
      go_wp2_with (fail)
      refine (same6b _ _ mg mh _ _ (monic G) (monic G) true hmg'.out hr2'.out.len (monic_lt hG'.out) (monic_lt hG'.out) (decide_eq_true rfl) _ hbg2.out hr2'.out.bytes).mono ?_
      rintro e w5 ⟨rfl, hbel⟩
      have be5 := hidIt (then_below be4.out hbel)
      clear hbel be4 hbg2 hr2'
      go_wp2_with (fail)
      refine (refdeg_any a1 len1 cap1 qs hq.out (by omega) _ (d1.out.below be5.out)).mono ?_
      rintro e w6 ⟨rfl, hbel⟩
      rw [hdq.out, show ((0 : Nat) : Int) - 1 = -1 from rfl]
      have be6 := hidIt (then_below be5.out hbel)
      clear hbel be5
      go_wp2_with (fail)
      go_ret
      exact ⟨rfl, be6.out⟩
    · obtain ⟨dm, hdm⟩ : ∃ dm, Hid (dq = dm + 1) := ⟨dq - 1, by show _ = _; omega⟩
      have f1 : (dq : Int) - 1 = (dm : Int) := by have := hdm.out; omega
      refine (divmod_any a0 a1 len0 len1 cap0 cap1 ps qs n0.out n1.out hp.out hq.out (by omega) (by omega) (by rw [hdq.out]; omega) _ (b0.out.below be1.out) (b1.out.below be1.out)).mono ?_
      rintro e w2 ⟨⟨v, u, D, R, rfl, m1, m2, hdv⟩, hbel⟩
      obtain ⟨ld, hld⟩ : ∃ l, Hid (D.length = l) := ⟨_, rfl⟩
      obtain ⟨lr, hlr⟩ : ∃ l, Hid (R.length = l) := ⟨_, rfl⟩
      obtain ⟨gD, rfl, _, _, y1⟩ := m1.at ld hld.out
      obtain ⟨gR, rfl, _, _, y2⟩ := m2.at lr hlr.out
      have hdv' := hidIt hdv
      have yD2 := hidIt y1
      have yR2 := hidIt y2
      have be2 := hidIt (then_below be1.out hbel)
      clear m1 m2 hdv y1 y2 hbel be1
      go_wp2_with (fail)
      refine (gcd_any a0 a1 len0 len1 cap0 cap1 ps qs n0.out n1.out hp.out hq.out (by omega) (by omega) _ (b0.out.below be2.out) (b1.out.below be2.out)).mono ?_
      rintro e w3 ⟨⟨ag, mg, cg, G, rfl, hE, hG, hGn, hGl, hmg, hbg⟩, hbel⟩
      have hE' := hidIt hE
      have hG' := hidIt hG
      have hmg' := hidIt hmg
      have hbg' := hidIt hbg
      have be3 := hidIt (then_below be2.out hbel)
      have yD3 := hidIt (yD2.out.below hbel)
      have yR3 := hidIt (yR2.out.below hbel)
      clear hE hG hGn hGl hmg hbg hbel be2 yD2 yR2
      go_wp2_with (fail)
      refine (refgcd_any a0 a1 len0 len1 cap0 cap1 ps qs hp.out hq.out (by omega) (by omega) _ (d0.out.below be3.out) (d1.out.below be3.out)).mono ?_
      rintro e w4 ⟨⟨ah, mh, ch, G2, rfl, hE2, hr2⟩, hbel⟩
      obtain rfl : G = G2 := hE'.out.unique (co_trim_lt hq.out) (Pl.trim_nf _) hE2
      have hr2' := hidIt hr2
      have hbg2 := hidIt (hbg'.out.below hbel)
      have be4 := hidIt (then_below be3.out hbel)
      have yD4 := hidIt (yD3.out.below hbel)
      have yR4 := hidIt (yR3.out.below hbel)
      clear hE2 hr2 hbel be3 hbg' yD3 yR3
      go_wp2_with (fail)
      refine (same6b _ _ mg mh _ _ (monic G) (monic G) true hmg'.out hr2'.out.len (monic_lt hG'.out) (monic_lt hG'.out) (decide_eq_true rfl) _ hbg2.out hr2'.out.bytes).mono ?_
      rintro e w5 ⟨rfl, hbel⟩
      have be5 := hidIt (then_below be4.out hbel)
      have yD5 := hidIt (yD4.out.below hbel)
      have yR5 := hidIt (yR4.out.below hbel)
      clear hbel be4 hbg2 hr2' yD4 yR4
      go_wp2_with (fail)
      refine (refdeg_any a1 len1 cap1 qs hq.out (by omega) _ (d1.out.below be5.out)).mono ?_
      rintro e w6 ⟨rfl, hbel⟩
      rw [hdq.out, f1]
      have be6 := hidIt (then_below be5.out hbel)
      have yD6 := hidIt (yD5.out.below hbel)
      have yR6 := hidIt (yR5.out.below hbel)
      clear hbel be5 yD5 yR5 hz
      go_wp2_with (fail)
      refine (refdivmod_any a0 a1 len0 len1 cap0 cap1 ps qs hp.out hq.out (by omega) (by omega) (by rw [hdq.out]; have := hdm.out; omega) _ (d0.out.below be6.out) (d1.out.below be6.out)).mono ?_
      rintro e w7 ⟨⟨a7, m7, c7, b7, l7, e7, D', R', rfl, k1, k2, hdv2⟩, hbel⟩
      obtain ⟨rfl, rfl⟩ := divOk_unique hq.out (by rw [hdq.out]; have := hdm.out; omega) hdv2 hdv'.out
      have k1' := hidIt k1
      have k2' := hidIt k2
      have be7 := hidIt (then_below be6.out hbel)
      have yD7 := hidIt (yD6.out.below hbel)
      have yR7 := hidIt (yR6.out.below hbel)
      clear hbel be6 yD6 yR6 k1 k2 hdv2
      go_wp2_with (fail)
      refine (same6b _ _ ld m7 _ _ D' D' true hld.out.symm k1'.out.len hdv'.out.1 hdv'.out.1 (decide_eq_true rfl) _ yD7.out k1'.out.bytes).mono ?_
      rintro e w8 ⟨rfl, hbel⟩
      have be8 := hidIt (then_below be7.out hbel)
      have yR8 := hidIt (yR7.out.below hbel)
      have k2'' := hidIt (k2'.out.below hbel)
      clear hbel be7 yD7 yR7 k1' k2'
      go_wp2_with (fail)
      refine (same6b _ _ lr l7 _ _ R' R' true hlr.out.symm k2''.out.len hdv'.out.2.1 hdv'.out.2.1 (decide_eq_true rfl) _ yR8.out k2''.out.bytes).mono ?_
      rintro e w9 ⟨rfl, hbel⟩
      have be9 := hidIt (then_below be8.out hbel)
      clear hbel be8 yR8 k2''
      go_wp2_with (fail)
      go_ret
      exact ⟨rfl, be9.out⟩
end Go.Proofs.Ytbdjnkndjimlcaa
