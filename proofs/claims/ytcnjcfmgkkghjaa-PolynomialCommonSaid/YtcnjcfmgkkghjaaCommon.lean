import Derived.Test.YtcnjcfmgkkghjaaPlCom
import Derived.Test.YtcnjcfmgkkghjaaUniq
namespace Go.Proofs.Ytcnjcfmgkkghjaa
open Go.RowKit
theorem dv_l {P Q G : List Nat} (hG : ∀ i, G.getD i 0 < 256) (h : Euc P Q G) : dv G P := (h.dvd hG).1
theorem dv_r {P Q G : List Nat} (hG : ∀ i, G.getD i 0 < 256) (h : Euc P Q G) : dv G Q := (h.dvd hG).2
set_option maxRecDepth 100000 in
set_option maxHeartbeats 4000000 in
theorem common_walk (a0 a1 a2 : Option Addr) (len0 cap0 len1 cap1 len2 cap2 : Nat) (ps qs rs : List Nat) (w : World) (r0 : RowB w a0 len0 cap0 ps) (r1 : RowB w a1 len1 cap1 qs) (r2 : RowB w a2 len2 cap2 rs) :
    Calls Try.prog 6 #[.slice a0 len0 cap0, .slice a1 len1 cap1, .slice a2 len2 cap2] w fun e w' => e = .returned (.bool true) ∧ Below w.heap.size w w' := by
  have hp := hidIt (row_lt r0)
  have hq := hidIt (row_lt r1)
  have hr := hidIt (row_lt r2)
  have n0 := hidIt r0.len
  have n1 := hidIt r1.len
  have n2 := hidIt r2.len
  have b0 := hidIt r0.bytes
  have b1 := hidIt r1.bytes
  have b2 := hidIt r2.bytes
  clear r0 r1 r2
  go_enter Try.func6, Try.ntmps6
  go_wp2_with (fail)
  refine (awake6_any _).mono ?_
  rintro e w1 ⟨rfl, be1⟩
  replace be1 := hidIt be1
  go_wp2_with (fail)
  by_cases hmany : 30 < len0 ∨ 30 < len1 ∨ 30 < len2
  · refine (many3_any w1 a0 a1 a2 len0 cap0 len1 cap1 len2 cap2 _ true (decide_eq_true hmany)).mono ?_
    rintro e w2 ⟨rfl, be2⟩
    replace be2 := hidIt (then_below be1.out be2)
    clear hmany
    go_wp2_with (fail)
    go_ret
    exact ⟨rfl, be2.out⟩
  · refine (many3_any w1 a0 a1 a2 len0 cap0 len1 cap1 len2 cap2 _ false (decide_eq_false hmany)).mono ?_
    rintro e w2 ⟨rfl, be2⟩
    replace be2 := hidIt (then_below be1.out be2)
    have s0 : Hid (len0 ≤ 30) := by show _ ≤ _; omega
    have s1 : Hid (len1 ≤ 30) := by show _ ≤ _; omega
    have s2 : Hid (len2 ≤ 30) := by show _ ≤ _; omega
    clear hmany be1
    go_wp2_with (fail)
    refine (gcd_any a0 a1 len0 len1 cap0 cap1 ps qs n0.out n1.out hp.out hq.out (by have := s0.out; omega) (by have := s1.out; omega) _ (b0.out.below be2.out) (b1.out.below be2.out)).mono ?_
    rintro e w3 ⟨⟨ag, mg, cg, G, rfl, hE, hG, nG, hGl, hmg, hbg⟩, be3⟩
    replace be3 := hidIt (then_below be2.out be3)
    replace hE := hidIt hE
    replace hG := hidIt hG
    replace nG := hidIt nG
    have hml : Hid (mg = G.length) := by show _ = _; rw [hmg, monic_len]
    replace hbg := hidIt hbg
    clear hmg be2
    by_cases hg0 : mg = 0
    · have hGe : G = [] := List.eq_nil_of_length_eq_zero (by rw [← hml.out, hg0])
      have hz : Hid (Pl.d1 ps = 0 ∧ Pl.d1 qs = 0) := gcd_zero (by have := hE.out; rw [hGe] at this; exact this)
      subst hg0
      clear hGe hE hG nG hGl hbg hml
      go_wp2_with (fail)
      refine (deg_is a0 len0 cap0 ps (-1) (by rw [hz.out.1]; rfl) n0.out hp.out (by have := s0.out; omega) _ (b0.out.below be3.out)).mono ?_
      rintro e w4 ⟨rfl, rfl⟩
      go_wp2_with (fail)
      refine (deg_is a1 len1 cap1 qs (-1) (by rw [hz.out.2]; rfl) n1.out hq.out (by have := s1.out; omega) _ (b1.out.below be3.out)).mono ?_
      rintro e w4 ⟨rfl, rfl⟩
      go_wp2_with (fail)
      go_ret
      exact ⟨rfl, be3.out⟩
    · have hgp : Hid (0 < G.length) := by show _ < _; rw [← hml.out]; omega
      have hgi : ((mg : Int) == 0) = false := by simp; omega
      have hgj : ¬ (mg : Int) = 0 := by omega
      have hm1 : Hid (Pl.d1 (monic G) = mg) := by show _ = _; rw [monic_d1 hG.out nG.out hgp.out, hml.out]
      have hmm : Hid (mg = (monic G).length) := by show _ = _; rw [monic_len, hml.out]
      have hmb : Hid (mg ≤ 100000) := by show _ ≤ _; rw [hml.out]; exact hGl
      clear hGl
      go_wp2_with (fail)
      refine (divmod_any a0 ag len0 mg cap0 cg ps (monic G) n0.out hmm.out hp.out (monic_lt2 hG.out) (by have := s0.out; omega) (by have := hmb.out; omega) (by rw [hm1.out]; omega) _ (b0.out.below be3.out) hbg.out).mono ?_
      rintro e w4 ⟨⟨v, u, D, R, rfl, m1, m2, hdv⟩, be4⟩
      obtain ⟨ld, hld⟩ : ∃ l, Hid (D.length = l) := ⟨_, rfl⟩
      obtain ⟨g1, rfl, _, _, y1⟩ := m1.at ld hld.out
      have hR0 : R = [] := gcd_rest hG.out nG.out hgp.out (dv_l hG.out hE.out) hdv
      subst hR0
      obtain ⟨g2, rfl, _, _, y2⟩ := m2.at 0 rfl
      have hbg4 := hidIt (hbg.out.below be4)
      replace be4 := hidIt (then_below be3.out be4)
      clear m1 m2 hdv y1 y2 be3 hbg
      go_wp2_with (fail)
      refine (divmod_any a1 ag len1 mg cap1 cg qs (monic G) n1.out hmm.out hq.out (monic_lt2 hG.out) (by have := s1.out; omega) (by have := hmb.out; omega) (by rw [hm1.out]; omega) _ (b1.out.below be4.out) hbg4.out).mono ?_
      rintro e w5 ⟨⟨v, u, D, R, rfl, m1, m2, hdv⟩, be5⟩
      obtain ⟨le, hle⟩ : ∃ l, Hid (D.length = l) := ⟨_, rfl⟩
      obtain ⟨g3, rfl, _, _, y1⟩ := m1.at le hle.out
      have hR0 : R = [] := gcd_rest hG.out nG.out hgp.out (dv_r hG.out hE.out) hdv
      subst hR0
      obtain ⟨g4, rfl, _, _, y2⟩ := m2.at 0 rfl
      have hbg5 := hidIt (hbg4.out.below be5)
      replace be5 := hidIt (then_below be4.out be5)
      clear m1 m2 hdv y1 y2 be4 hbg4
      obtain ⟨bg, og, rfl, et⟩ := hbg5.out (mg - 1) (by rw [← hmm.out]; omega)
      have htop : (monic G).getD (mg - 1) 0 = 1 := by have := monic_top hG.out nG.out hgp.out; rw [← hmm.out] at this; exact this
      rw [htop] at et
      obtain ⟨mt, hmt⟩ : ∃ mt, Hid (mg - 1 = mt) := ⟨_, rfl⟩
      rw [hmt.out] at et
      have q1 : (mg : Int) - 1 = (mt : Int) := by have := hmt.out; omega
      have q2 : IntKind.i64.wrap (mt : Int) = (mt : Int) := IntWalk.i64_in _ (by have := hmt.out; have := hmb.out; omega)
      have q3 : (mt : Int) < (mg : Int) := by have := hmt.out; omega
      have q4 : (0 : Int) ≤ (mt : Int) := by omega
      clear htop
      go_wp2_with (fail)
      refine (gcd_any a1 a0 len1 len0 cap1 cap0 qs ps n1.out n0.out hq.out hp.out (by have := s1.out; omega) (by have := s0.out; omega) _ (b1.out.below be5.out) (b0.out.below be5.out)).mono ?_
      rintro e w6 ⟨⟨ah, mh, ch, G2, rfl, hE2, hG2, nG2, hGl2, hmg2, hbg2⟩, be6⟩
      have hsame : Hid (monic G = monic G2) := gcd_comm hG.out hG2 nG.out nG2 hE.out hE2
      rw [← hsame.out] at hmg2 hbg2
      replace hmg2 := hidIt hmg2
      replace hbg2 := hidIt hbg2
      have hbg6 := hidIt (hbg5.out.below be6)
      replace be6 := hidIt (then_below be5.out be6)
      clear hE2 hG2 nG2 hGl2 et be5 hbg5 hsame
      go_wp2_with (fail)
      refine (same6b _ ah mg mh cg ch (monic G) (monic G) true hmm.out hmg2.out (monic_lt2 hG.out) (monic_lt2 hG.out) (decide_eq_true rfl) _ hbg6.out hbg2.out).mono ?_
      rintro e w7 ⟨rfl, be7⟩
      have hbg7 := hidIt (hbg6.out.below be7)
      replace be7 := hidIt (then_below be6.out be7)
      clear be6 hbg6 hbg2 hmg2
      obtain ⟨gr, hgr⟩ : ∃ g : Int, Hid ((Pl.d1 rs : Int) - 1 = g) := ⟨_, rfl⟩
      go_wp2_with (fail)
      refine (deg_is a2 len2 cap2 rs gr hgr.out n2.out hr.out (by have := s2.out; omega) _ (b2.out.below be7.out)).mono ?_
      rintro e w8 ⟨rfl, rfl⟩
      by_cases hr0 : gr < 0
      · go_wp2_with (fail)
        go_ret
        exact ⟨rfl, be7.out⟩
      · have r0 : Hid (0 < Pl.d1 rs) := by have := hgr.out; show _ < _; omega
        have hr0d : decide (gr < 0) = false := by simp only [decide_eq_false_iff_not]; exact hr0
        go_wp2_with (fail)
        refine (lawmul_any a0 a2 len0 len2 cap0 cap2 ps rs n0.out n2.out hp.out hr.out (by have := s0.out; omega) (by have := s2.out; omega) _ (b0.out.below be7.out) (b2.out.below be7.out)).mono ?_
        rintro e w8 ⟨⟨a8, m8, c8, rfl, hm8, y8⟩, be8⟩
        replace hm8 := hidIt hm8
        replace y8 := hidIt y8
        have hbg8 := hidIt (hbg7.out.below be8)
        replace be8 := hidIt (then_below be7.out be8)
        have k8 : Hid (m8 ≤ 60) := by show _ ≤ _; rw [hm8.out]; have := timesT_len ps rs; have := Pl.d1_le ps; have := Pl.d1_le rs; have := n0.out; have := n2.out; have := s0.out; have := s2.out; omega
        clear be7 hbg7
        go_wp2_with (fail)
        refine (lawmul_any a1 a2 len1 len2 cap1 cap2 qs rs n1.out n2.out hq.out hr.out (by have := s1.out; omega) (by have := s2.out; omega) _ (b1.out.below be8.out) (b2.out.below be8.out)).mono ?_
        rintro e w9 ⟨⟨a9, m9, c9, rfl, hm9, y9⟩, be9⟩
        replace hm9 := hidIt hm9
        replace y9 := hidIt y9
        have y8' := hidIt (y8.out.below be9)
        have hbg9 := hidIt (hbg8.out.below be9)
        replace be9 := hidIt (then_below be8.out be9)
        have k9 : Hid (m9 ≤ 60) := by show _ ≤ _; rw [hm9.out]; have := timesT_len qs rs; have := Pl.d1_le qs; have := Pl.d1_le rs; have := n1.out; have := n2.out; have := s1.out; have := s2.out; omega
        clear be8 hbg8 y8
        go_wp2_with (fail)
        refine (gcd_any a8 a9 m8 m9 c8 c9 (timesT ps rs) (timesT qs rs) hm8.out hm9.out (timesT_lt hp.out) (timesT_lt hq.out) (by have := k8.out; omega) (by have := k9.out; omega) _ y8'.out y9.out).mono ?_
        rintro e wA ⟨⟨aA, mA, cA, H, rfl, hEH, hH, nH, hHl, hmA, yA⟩, beA⟩
        have hHe : H = timesT G rs := gcd_times hp.out hq.out hr.out r0.out hE.out hEH
        subst hHe
        replace hmA := hidIt hmA
        replace yA := hidIt yA
        have kA : Hid (mA ≤ 100000) := by show _ ≤ _; rw [hmA.out, monic_len]; exact hHl
        have hbgA := hidIt (hbg9.out.below beA)
        replace beA := hidIt (then_below be9.out beA)
        clear hEH hH nH hHl be9 hbg9 y8' y9
        go_wp2_with (fail)
        refine (divmod_any aA _ mA mg cA cg (monic (timesT G rs)) (monic G) hmA.out hmm.out (monic_lt2 (timesT_lt hG.out)) (monic_lt2 hG.out) (by have := kA.out; omega) (by have := hmb.out; omega) (by rw [hm1.out]; omega) _ yA.out hbgA.out).mono ?_
        rintro e wB ⟨⟨v, u, D, R, rfl, m1, m2, hdv⟩, beB⟩
        obtain ⟨rfl, rfl⟩ := quo_s hG.out hr.out nG.out hgp.out hdv
        obtain ⟨lB, hlB⟩ : ∃ l, Hid ((quoS G rs).length = l) := ⟨_, rfl⟩
        obtain ⟨gB, rfl, _, _, yB⟩ := m1.at lB hlB.out
        obtain ⟨gB2, rfl, _, _, yB2⟩ := m2.at 0 rfl
        replace yB := hidIt yB
        replace beB := hidIt (then_below beA.out beB)
        have kB : Hid (lB ≤ 30) := by show _ ≤ _; rw [← hlB.out]; have := quo_len (G := G) (rs := rs); have := n2.out; have := s2.out; omega
        clear m1 m2 hdv yB2 beA hbgA yA
        go_wp2_with (fail)
        refine (divmod_any _ a2 lB len2 lB cap2 (quoS G rs) rs hlB.out.symm n2.out (quo_lt hr.out) hr.out (by have := kB.out; omega) (by have := s2.out; omega) r0.out _ yB.out (b2.out.below beB.out)).mono ?_
        rintro e wC ⟨⟨v, u, D, R, rfl, m1, m2, hdv⟩, beC⟩
        have hR0 : R = [] := quo_r hG.out hr.out nG.out hgp.out r0.out hdv
        subst hR0
        obtain ⟨lC, hlC⟩ : ∃ l, Hid (D.length = l) := ⟨_, rfl⟩
        obtain ⟨gC, rfl, _, _, yC⟩ := m1.at lC hlC.out
        obtain ⟨gC2, rfl, _, _, yC2⟩ := m2.at 0 rfl
        have yB' := hidIt (yB.out.below beC)
        replace beC := hidIt (then_below beB.out beC)
        clear m1 m2 hdv yC yC2 beB yB
        go_wp2_with (fail)
        refine (deg_is _ lB lB (quoS G rs) gr (by rw [quo_d1 hG.out hr.out nG.out hgp.out r0.out]; exact hgr.out) hlB.out.symm (quo_lt hr.out) (by have := kB.out; omega) _ yB'.out).mono ?_
        rintro e wD ⟨rfl, rfl⟩
        go_wp2_with (fail)
        refine (deg_is a2 len2 cap2 rs gr hgr.out n2.out hr.out (by have := s2.out; omega) _ (b2.out.below beC.out)).mono ?_
        rintro e wD ⟨rfl, rfl⟩
        go_wp2_with (fail)
        go_ret
        exact ⟨rfl, beC.out⟩
end Go.Proofs.Ytcnjcfmgkkghjaa
