import Derived.Test.YtcnjcfmgkkghjaaMult
import Derived.Test.YtcnjcfmgkkghjaaDeriv
import Derived.Test.YtcnjcfmgkkghjaaUniq
namespace Go.Proofs.Ytcnjcfmgkkghjaa
open Go.RowKit
theorem derR_any (a1 : Option Addr) (n1 c1 : Nat) (xs : List Nat) (hn : n1 = xs.length) (hx : ∀ i, xs.getD i 0 < 256) (hb1 : n1 ≤ 500) (w : World) (h1 : Bytes w a1 xs) :
    Calls Try.prog 16 #[.slice a1 n1 c1] w fun e w' => (∃ a m c, e = .returned (.slice a m c) ∧ m = (Pl.trim (der xs)).length ∧ Bytes w' a (Pl.trim (der xs))) ∧ Below w.heap.size w w' := by
  refine (deriv_any a1 n1 c1 xs hn hx (by omega) w h1).mono fun e w' ⟨⟨v, h, k⟩, l⟩ => ?_
  obtain ⟨g, rfl, _, _, hb⟩ := k.at _ rfl
  exact ⟨⟨_, _, _, h, rfl, hb⟩, l⟩
theorem derT_lt {xs : List Nat} (hx : ∀ i, xs.getD i 0 < 256) : ∀ i, (Pl.trim (der xs)).getD i 0 < 256 := co_trim_lt (der_lt hx)
theorem derT_le {xs : List Nat} {a : Nat} (h : xs.length ≤ a) : (Pl.trim (der xs)).length ≤ a := trim_le (by unfold der; rw [Pl.fn_len]; exact h)
theorem derT_co (xs : List Nat) (i : Nat) : Pl.co (Pl.trim (der xs)) i = dfn (Pl.co xs) i := by rw [Pl.trim_co, der_co]
theorem hor_trim {x : Nat} (hx : x < 256) {p : List Nat} (hp : ∀ i, p.getD i 0 < 256) : Pl.hor x (Pl.trim p) = Pl.hor x p := by
  rw [hor_n hx (co_trim_lt hp) (Nat.le_refl _), hor_n hx hp (Nat.le_refl _), Pl.trim_len, ev_congr (Pl.trim_co p)]
  exact (Pl.ev_more (Pl.d1_le p) (fun i hi => Pl.d1_zero p i hi)).symm
/-- the product rule -/
theorem der_times {ps qs : List Nat} : Pl.trim (der (timesT ps qs)) = Pl.trim (plus (timesT (Pl.trim (der ps)) qs) (timesT ps (Pl.trim (der qs)))) := by
  refine Pl.trim_congr (fun j => ?_)
  rw [der_co, plus_co, timesT_co, timesT_co, cv_congr (f' := dfn (Pl.co ps)) (g' := Pl.co qs) (derT_co ps) (fun _ => rfl), cv_congr (f' := Pl.co ps) (g' := dfn (Pl.co qs)) (fun _ => rfl) (derT_co qs), ← dfn_cv]
  unfold dfn
  split
  · exact timesT_co ps qs _
  · rfl
theorem der_plus {ps qs : List Nat} : Pl.trim (der (Pl.trim (plus ps qs))) = Pl.trim (plus (Pl.trim (der ps)) (Pl.trim (der qs))) := by
  refine Pl.trim_congr (fun j => ?_)
  rw [plus_co, Pl.trim_co (der ps), Pl.trim_co (der qs)]
  exact der_add (fun i => (Pl.trim_co _ i).trans (plus_co ps qs i)) j
set_option maxRecDepth 100000 in
set_option maxHeartbeats 1000000 in
theorem derives_walk (a0 a1 : Option Addr) (len0 cap0 len1 cap1 : Nat) (ps qs : List Nat) (x0 : Int) (w : World) (r0 : RowB w a0 len0 cap0 ps) (r1 : RowB w a1 len1 cap1 qs) (wx : (Lit.int .u8 x0).wf = true) :
    Calls Try.prog 8 #[.slice a0 len0 cap0, .slice a1 len1 cap1, .int .u8 x0] w fun e w' => e = .returned (.bool true) ∧ Below w.heap.size w w' := by
  obtain ⟨x, xb, rfl⟩ := nat_u8 wx
  have hps := hidIt (row_lt r0)
  have hqs := hidIt (row_lt r1)
  have nps := hidIt r0.len
  have nqs := hidIt r1.len
  have bps := hidIt r0.bytes
  have bqs := hidIt r1.bytes
  clear r0 r1 wx
  go_enter Try.func8, Try.ntmps8
  go_wp2_with (fail)
  refine (awake6_any _).mono ?_
  rintro e w1 ⟨rfl, be1⟩
  replace be1 := hidIt be1
  go_wp2_with (fail)
  by_cases hmany : 30 < len0 ∨ 30 < len1
  · refine (many2_any w1 a0 a1 len0 cap0 len1 cap1 _ true (decide_eq_true hmany)).mono ?_
    rintro e w2 ⟨rfl, be2⟩
    replace be2 := hidIt (then_below be1.out be2)
    clear hmany
    go_wp2_with (fail)
    go_ret
    exact ⟨rfl, be2.out⟩
  · refine (many2_any w1 a0 a1 len0 cap0 len1 cap1 _ false (decide_eq_false hmany)).mono ?_
    rintro e w2 ⟨rfl, hbel⟩
    have be2 := hidIt (then_below be1.out hbel)
    have zps : Hid (ps.length ≤ 30) := by have := nps.out; show _ ≤ _; omega
    have zqs : Hid (qs.length ≤ 30) := by have := nqs.out; show _ ≤ _; omega
    clear hmany hbel be1
    go_wp2_with (fail)
    refine (derR_any a0 len0 cap0 ps nps.out hps.out (by have := nps.out; have := zps.out; omega) _ (bps.out.below be2.out)).mono ?_
    rintro e w3 ⟨⟨aDA, mDA, cDA, rfl, hm, hb⟩, hbel⟩
    have be3 := hidIt (then_below be2.out hbel)
    clear hbel be2
    have hDA : Hid (∀ i, (Pl.trim (der ps)).getD i 0 < 256) := derT_lt hps.out
    have zDA : Hid ((Pl.trim (der ps)).length ≤ 30) := derT_le zps.out
    obtain ⟨DA, eDA⟩ : ∃ l, Hid (Pl.trim (der ps) = l) := ⟨_, rfl⟩
    rw [eDA.out] at hm hb hDA zDA
    have nDA := hidIt hm
    have bDA := hidIt hb
    clear hm hb
    go_wp2_with (fail)
    refine (derR_any a1 len1 cap1 qs nqs.out hqs.out (by have := nqs.out; have := zqs.out; omega) _ (bqs.out.below be3.out)).mono ?_
    rintro e w4 ⟨⟨aDB, mDB, cDB, rfl, hm, hb⟩, hbel⟩
    have be4 := hidIt (then_below be3.out hbel)
    replace bDA := hidIt (bDA.out.below hbel)
    clear hbel be3
    have hDB : Hid (∀ i, (Pl.trim (der qs)).getD i 0 < 256) := derT_lt hqs.out
    have zDB : Hid ((Pl.trim (der qs)).length ≤ 30) := derT_le zqs.out
    obtain ⟨DB, eDB⟩ : ∃ l, Hid (Pl.trim (der qs) = l) := ⟨_, rfl⟩
    rw [eDB.out] at hm hb hDB zDB
    have nDB := hidIt hm
    have bDB := hidIt hb
    clear hm hb
    go_wp2_with (fail)
    refine (lawmul_any a0 a1 len0 len1 cap0 cap1 ps qs nps.out nqs.out hps.out hqs.out (by have := nps.out; have := zps.out; omega) (by have := nqs.out; have := zqs.out; omega) _ (bps.out.below be4.out) (bqs.out.below be4.out)).mono ?_
    rintro e w5 ⟨⟨aPQ, mPQ, cPQ, rfl, hm, hb⟩, hbel⟩
    have be5 := hidIt (then_below be4.out hbel)
    replace bDA := hidIt (bDA.out.below hbel)
    replace bDB := hidIt (bDB.out.below hbel)
    clear hbel be4
    have hPQ : Hid (∀ i, (timesT ps qs).getD i 0 < 256) := timesT_lt hps.out
    have zPQ : Hid ((timesT ps qs).length ≤ 60) := timesT_le zps.out zqs.out
    obtain ⟨PQ, ePQ⟩ : ∃ l, Hid (timesT ps qs = l) := ⟨_, rfl⟩
    rw [ePQ.out] at hm hb hPQ zPQ
    have nPQ := hidIt hm
    have bPQ := hidIt hb
    clear hm hb
    go_wp2_with (fail)
    refine (derR_any aPQ mPQ cPQ PQ nPQ.out hPQ.out (by have := nPQ.out; have := zPQ.out; omega) _ bPQ.out).mono ?_
    rintro e w6 ⟨⟨aDP, mDP, cDP, rfl, hm, hb⟩, hbel⟩
    have be6 := hidIt (then_below be5.out hbel)
    replace bDA := hidIt (bDA.out.below hbel)
    replace bDB := hidIt (bDB.out.below hbel)
    clear bPQ
    clear hbel be5
    have hDP : Hid (∀ i, (Pl.trim (der PQ)).getD i 0 < 256) := derT_lt hPQ.out
    have zDP : Hid ((Pl.trim (der PQ)).length ≤ 60) := derT_le zPQ.out
    obtain ⟨DP, eDP⟩ : ∃ l, Hid (Pl.trim (der PQ) = l) := ⟨_, rfl⟩
    rw [eDP.out] at hm hb hDP zDP
    have nDP := hidIt hm
    have bDP := hidIt hb
    clear hm hb
    go_wp2_with (fail)
    refine (lawmul_any aDA a1 mDA len1 cDA cap1 DA qs nDA.out nqs.out hDA.out hqs.out (by have := nDA.out; have := zDA.out; omega) (by have := nqs.out; have := zqs.out; omega) _ bDA.out (bqs.out.below be6.out)).mono ?_
    rintro e w7 ⟨⟨aAQ, mAQ, cAQ, rfl, hm, hb⟩, hbel⟩
    have be7 := hidIt (then_below be6.out hbel)
    replace bDA := hidIt (bDA.out.below hbel)
    replace bDB := hidIt (bDB.out.below hbel)
    replace bDP := hidIt (bDP.out.below hbel)
    clear hbel be6
    have hAQ : Hid (∀ i, (timesT DA qs).getD i 0 < 256) := timesT_lt hDA.out
    have zAQ : Hid ((timesT DA qs).length ≤ 60) := timesT_le zDA.out zqs.out
    obtain ⟨AQ, eAQ⟩ : ∃ l, Hid (timesT DA qs = l) := ⟨_, rfl⟩
    rw [eAQ.out] at hm hb hAQ zAQ
    have nAQ := hidIt hm
    have bAQ := hidIt hb
    clear hm hb
    go_wp2_with (fail)
    refine (lawmul_any a0 aDB len0 mDB cap0 cDB ps DB nps.out nDB.out hps.out hDB.out (by have := nps.out; have := zps.out; omega) (by have := nDB.out; have := zDB.out; omega) _ (bps.out.below be7.out) bDB.out).mono ?_
    rintro e w8 ⟨⟨aPB, mPB, cPB, rfl, hm, hb⟩, hbel⟩
    have be8 := hidIt (then_below be7.out hbel)
    replace bDA := hidIt (bDA.out.below hbel)
    replace bDB := hidIt (bDB.out.below hbel)
    replace bDP := hidIt (bDP.out.below hbel)
    replace bAQ := hidIt (bAQ.out.below hbel)
    clear hbel be7
    have hPB : Hid (∀ i, (timesT ps DB).getD i 0 < 256) := timesT_lt hps.out
    have zPB : Hid ((timesT ps DB).length ≤ 60) := timesT_le zps.out zDB.out
    obtain ⟨PB, ePB⟩ : ∃ l, Hid (timesT ps DB = l) := ⟨_, rfl⟩
    rw [ePB.out] at hm hb hPB zPB
    have nPB := hidIt hm
    have bPB := hidIt hb
    clear hm hb
    go_wp2_with (fail)
    refine (addR_any aAQ aPB mAQ mPB cAQ cPB AQ PB nAQ.out nPB.out hAQ.out hPB.out (by have := nAQ.out; have := zAQ.out; omega) (by have := nPB.out; have := zPB.out; omega) _ bAQ.out bPB.out).mono ?_
    rintro e w9 ⟨⟨aSU, mSU, cSU, rfl, hm, hb⟩, hbel⟩
    have be9 := hidIt (then_below be8.out hbel)
    replace bDA := hidIt (bDA.out.below hbel)
    replace bDB := hidIt (bDB.out.below hbel)
    replace bDP := hidIt (bDP.out.below hbel)
    clear bAQ
    clear bPB
    clear hbel be8
    have hSU : Hid (∀ i, (Pl.trim (plus AQ PB)).getD i 0 < 256) := co_trim_lt (plus_lt hAQ.out hPB.out)
    have zSU : Hid ((Pl.trim (plus AQ PB)).length ≤ 120) := plus_le zAQ.out zPB.out
    obtain ⟨SU, eSU⟩ : ∃ l, Hid (Pl.trim (plus AQ PB) = l) := ⟨_, rfl⟩
    rw [eSU.out] at hm hb hSU zSU
    have nSU := hidIt hm
    have bSU := hidIt hb
    clear hm hb
    go_wp2_with (fail)
    have hsame : DP = SU := by rw [← eDP.out, ← ePQ.out, ← eSU.out, ← eAQ.out, ← ePB.out, ← eDA.out, ← eDB.out]; exact der_times
    refine (same6b aDP aSU mDP mSU cDP cSU DP SU true nDP.out nSU.out hDP.out hSU.out (decide_eq_true hsame) _ bDP.out bSU.out).mono ?_
    rintro e w10 ⟨rfl, hbel⟩
    have be10 := hidIt (then_below be9.out hbel)
    replace bDA := hidIt (bDA.out.below hbel)
    replace bDB := hidIt (bDB.out.below hbel)
    clear bDP
    clear bSU
    clear hbel hsame be9
    go_wp2_with (fail)
    refine (addR_any a0 a1 len0 len1 cap0 cap1 ps qs nps.out nqs.out hps.out hqs.out (by have := nps.out; have := zps.out; omega) (by have := nqs.out; have := zqs.out; omega) _ (bps.out.below be10.out) (bqs.out.below be10.out)).mono ?_
    rintro e w11 ⟨⟨aPS, mPS, cPS, rfl, hm, hb⟩, hbel⟩
    have be11 := hidIt (then_below be10.out hbel)
    replace bDA := hidIt (bDA.out.below hbel)
    replace bDB := hidIt (bDB.out.below hbel)
    clear hbel be10
    have hPS : Hid (∀ i, (Pl.trim (plus ps qs)).getD i 0 < 256) := co_trim_lt (plus_lt hps.out hqs.out)
    have zPS : Hid ((Pl.trim (plus ps qs)).length ≤ 60) := plus_le zps.out zqs.out
    obtain ⟨PS, ePS⟩ : ∃ l, Hid (Pl.trim (plus ps qs) = l) := ⟨_, rfl⟩
    rw [ePS.out] at hm hb hPS zPS
    have nPS := hidIt hm
    have bPS := hidIt hb
    clear hm hb
    go_wp2_with (fail)
    refine (derR_any aPS mPS cPS PS nPS.out hPS.out (by have := nPS.out; have := zPS.out; omega) _ bPS.out).mono ?_
    rintro e w12 ⟨⟨aDS, mDS, cDS, rfl, hm, hb⟩, hbel⟩
    have be12 := hidIt (then_below be11.out hbel)
    replace bDA := hidIt (bDA.out.below hbel)
    replace bDB := hidIt (bDB.out.below hbel)
    clear bPS
    clear hbel be11
    have hDS : Hid (∀ i, (Pl.trim (der PS)).getD i 0 < 256) := derT_lt hPS.out
    have zDS : Hid ((Pl.trim (der PS)).length ≤ 60) := derT_le zPS.out
    obtain ⟨DS, eDS⟩ : ∃ l, Hid (Pl.trim (der PS) = l) := ⟨_, rfl⟩
    rw [eDS.out] at hm hb hDS zDS
    have nDS := hidIt hm
    have bDS := hidIt hb
    clear hm hb
    go_wp2_with (fail)
    refine (addR_any aDA aDB mDA mDB cDA cDB DA DB nDA.out nDB.out hDA.out hDB.out (by have := nDA.out; have := zDA.out; omega) (by have := nDB.out; have := zDB.out; omega) _ bDA.out bDB.out).mono ?_
    rintro e w13 ⟨⟨aAB, mAB, cAB, rfl, hm, hb⟩, hbel⟩
    have be13 := hidIt (then_below be12.out hbel)
    replace bDA := hidIt (bDA.out.below hbel)
    clear bDB
    replace bDS := hidIt (bDS.out.below hbel)
    clear hbel be12
    have hAB : Hid (∀ i, (Pl.trim (plus DA DB)).getD i 0 < 256) := co_trim_lt (plus_lt hDA.out hDB.out)
    have zAB : Hid ((Pl.trim (plus DA DB)).length ≤ 60) := plus_le zDA.out zDB.out
    obtain ⟨AB, eAB⟩ : ∃ l, Hid (Pl.trim (plus DA DB) = l) := ⟨_, rfl⟩
    rw [eAB.out] at hm hb hAB zAB
    have nAB := hidIt hm
    have bAB := hidIt hb
    clear hm hb
    go_wp2_with (fail)
    have hsame : DS = AB := by rw [← eDS.out, ← ePS.out, ← eAB.out, ← eDA.out, ← eDB.out]; exact der_plus
    refine (same6b aDS aAB mDS mAB cDS cAB DS AB true nDS.out nAB.out hDS.out hAB.out (decide_eq_true hsame) _ bDS.out bAB.out).mono ?_
    rintro e w14 ⟨rfl, hbel⟩
    have be14 := hidIt (then_below be13.out hbel)
    replace bDA := hidIt (bDA.out.below hbel)
    clear bDS
    clear bAB
    clear hbel hsame be13
    obtain ⟨g, hg⟩ : ∃ g : Int, Hid ((Pl.d1 ps : Int) - 1 = g) := ⟨_, rfl⟩
    go_wp2_with (fail)
    refine (deg_is a0 len0 cap0 ps g hg.out nps.out hps.out (by have := nps.out; have := zps.out; omega) _ (bps.out.below be14.out)).mono ?_
    rintro e w15 ⟨rfl, rfl⟩
    by_cases hneg : g < 0
    · go_wp2_with (fail)
      go_ret
      exact ⟨rfl, be14.out⟩
    · have hd1 : Hid (0 < Pl.d1 ps) := by have := hg.out; show _ < _; omega
      go_wp2_with (fail)
      obtain ⟨v, hv⟩ : ∃ v, Hid (Pl.hor x ps = v) := ⟨_, rfl⟩
      refine (eval_any a0 len0 cap0 x ps nps.out hps.out xb (by have := nps.out; have := zps.out; omega) _ (bps.out.below be14.out)).mono ?_
      rintro e w16 ⟨rfl, hbel⟩
      have be16 := hidIt (then_below be14.out hbel)
      replace bDA := hidIt (bDA.out.below hbel)
      rw [hv.out]
      clear hbel be14
      by_cases hv0 : v = 0
      · subst hv0
        go_wp2_with (fail)
        refine (mult_any a0 len0 cap0 x ps nps.out hps.out xb (by have := nps.out; have := zps.out; omega) hd1.out _ (bps.out.below be16.out)).mono ?_
        rintro e w17 ⟨⟨m, rfl, hm64, T, hT⟩, hbel⟩
        have be17 := hidIt (then_below be16.out hbel)
        replace bDA := hidIt (bDA.out.below hbel)
        have hder := hidIt (hT.derv xb hps.out (by have := zps.out; omega) hv.out)
        clear hbel be16 hT
        go_wp2_with (fail)
        obtain ⟨u, hu⟩ : ∃ u, Hid (Pl.hor x DA = u) := ⟨_, rfl⟩
        have hum : Hid (u = 0 ↔ 1 < m) := by
          show _ ↔ _
          rw [← hder.out, ← hu.out, ← eDA.out, hor_trim xb (der_lt hps.out)]
        refine (eval_any aDA mDA cDA x DA nDA.out hDA.out xb (by have := nDA.out; have := zDA.out; omega) _ bDA.out).mono ?_
        rintro e w18 ⟨rfl, hbel⟩
        have be18 := hidIt (then_below be17.out hbel)
        rw [hu.out]
        clear hbel be17
        by_cases hm1 : 1 < m
        · have hu0 : u = 0 := hum.out.2 hm1
          subst hu0
          have t1 : (1 : Int) < (m : Int) := by omega
          go_wp2_with (fail)
          go_ret
          exact ⟨rfl, be18.out⟩
        · have hu0 : u ≠ 0 := fun e => hm1 (hum.out.1 e)
          have t1 : ¬ (1 : Int) < (m : Int) := by omega
          have t2 : ((u : Int) == 0) = false := by simp; omega
          have t3 : ¬ (u : Int) = 0 := by omega
          go_wp2_with (fail)
          go_ret
          exact ⟨by show Ending.returned (.bool (!decide ((1 : Int) < (m : Int)))) = _; rw [decide_eq_false (show ¬ (1 : Int) < (m : Int) by omega)]; rfl, be18.out⟩
      · have t2 : ((v : Int) != 0) = true := by simp; omega
        have t3 : ¬ (v : Int) = 0 := by omega
        go_wp2_with (fail)
        go_ret
        exact ⟨rfl, be16.out⟩
end Go.Proofs.Ytcnjcfmgkkghjaa
