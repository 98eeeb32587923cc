import Derived.Test.YtlpggkdmjmlpkaaDq0
namespace Go.Proofs.Ytlpggkdmjmlpkaa
open Go.RowKit
set_option maxRecDepth 100000 in
set_option maxHeartbeats 8000000 in
theorem dkeeps_walk (a ka : Option Addr) (len cap kl kc : Nat) (O : Nat → Opd) (A : Nat → Option Addr) (L C : Nat → Nat) (KA : Nat → Option Addr) (KL KC : Nat → Nat) (ks : List Bool) (n z torn : Int) (w : World) (_ : (Lit.int .i64 n).wf = true) (_ : (Lit.int .i64 z).wf = true) (hO0 : OpsR w a len O A L C KA KL KC) (hB00 : Bools w ka ks) (hkl0 : kl = ks.length) (_ : (Lit.int .i64 torn).wf = true) :
    Calls Try.prog 6 #[.int .i64 n, .int .i64 z, .slice a len cap, .slice ka kl kc, .int .i64 torn] w fun e w' => e = .returned (.bool true) ∧ Below w.heap.size w w' := by
  have hB0 := hidIt hB00
  have hkl := hidIt hkl0
  clear hB00 hkl0
  have hO := hidIt hO0
  clear hO0
  go_enter Try.func6, Try.ntmps6
  go_wp2_with (fail)
  refine (awake_any _).mono ?_
  rintro e w1 ⟨rfl, hb1⟩
  have H1 := hidIt hb1
  clear hb1
  go_wp2_with (fail)
  refine (small_any n z a len cap w1).mono ?_
  rintro e w2 ⟨rfl, rfl⟩
  by_cases hsm : 1 ≤ n ∧ n ≤ 8 ∧ 1 ≤ z ∧ z ≤ 8 ∧ len ≤ 40
  · rw [decide_eq_true hsm]
    obtain ⟨N, rfl⟩ : ∃ N : Nat, n = (N : Int) := ⟨n.toNat, by omega⟩
    obtain ⟨Z, rfl⟩ : ∃ Z : Nat, z = (Z : Int) := ⟨z.toNat, by omega⟩
    obtain ⟨hN1, hN2, hZ1, hZ2, hL⟩ := hsm
    replace hN1 : 1 ≤ N := by omega
    replace hN2 : N ≤ 8 := by omega
    replace hZ1 : 1 ≤ Z := by omega
    replace hZ2 : Z ≤ 8 := by omega
    go_wp2_with (fail)
    refine (new_any (N : Int) (Z : Int) w1).mono ?_
    rintro e w2 hN
    unfold NewR at hN
    rw [if_pos (by omega)] at hN
    obtain ⟨g, S, rfl, hD, hS, hb2⟩ := hN
    simp only [Int.toNat_natCast] at hD
    have H2 := hidIt (below_then H1.out hb2)
    have hSa : Hid (∀ b, S b → w.heap.size ≤ b) := fun b hb => Nat.le_trans H1.out.size (hS b hb)
    have hD2 := hidIt hD
    have hps : Hid (∀ k, (∀ i, i < k → (O i).good) → ((Dsk.fresh N Z).plays O k).WF ∧ ((Dsk.fresh N Z).plays O k).size = Z ∧ ((Dsk.fresh N Z).plays O k).n = N ∧ ((Dsk.fresh N Z).plays O k).np ≤ 0 + k) := Dsk.plays_ok (Dsk.fresh_wf hN1 (by omega) hZ1 (by omega)) O
    obtain ⟨D0, hD0⟩ : ∃ D0, Hid (Dsk.fresh N Z = D0) := ⟨_, rfl⟩
    rw [hD0.out] at hD2 hps
    clear hD hS hb2 H1
    go_wp2_with (fail)
    go_loopw [13] (fun i wr => ∃ k : Nat, i = .int .i64 (k : Int) ∧ k ≤ len ∧ Hid (∃ S', DK wr S' g (D0.plays O k) ∧ Step w2 wr S S')) (fun i _ => len - (intOf i).toNat)
    case atStart => exact ⟨0, rfl, by omega, S, hD2.out, Step.refl _ _⟩
    case round =>
      obtain ⟨k, rfl, hk, hr⟩ := hrel
      obtain ⟨S', hDr, hst⟩ := hr.out
      have HB := H2.out.trans (hst.below H2.out.size hSa.out)
      clear hr
      by_cases hkn : k < len
      · obtain ⟨b, off, hc⟩ := hO.out.at HB hkn
        have hov := hidIt (hO.out.opv HB (hst.lo H2.out.size hSa.out) hkn)
        have hnp := (hps.out k (fun i hi => hO.out.good (by omega))).2.2.2
        have dP := hidIt (play_any g S' (D0.plays O k) (O k) (A k) (L k) (C k) (KA k) (KL k) (KC k) wr hDr hov (by omega))
        have hfin : Hid (∀ e w3, PlR wr S' g (D0.plays O k) (O k) e w3 → ∃ v1 v2, e = .returned (.tuple #[v1, v2]) ∧ Hid (∃ S', DK w3 S' g (D0.plays O (k + 1)) ∧ Step w2 w3 S S')) := fun e w3 ⟨a3, c3, S3, e1, _, _, e4, e5⟩ => ⟨_, _, e1, S3, e4, hst.trans e5⟩
        obtain ⟨ha, c0, c1, c2, c3, c4, c5⟩ := hc
        subst ha
        have t1 : (k : Int) < (len : Int) := by omega
        clear hDr hst HB hov hnp
        go_wp2_with (fail)
        refine dP.out.mono ?_
        rintro e w3 hp
        obtain ⟨v1, v2, rfl, h3⟩ := hfin.out e w3 hp
        clear hp hfin dP
        go_wp2_with (fail)
        exact ⟨⟨k + 1, by go_num, by omega, h3⟩, by simp [intOf]; omega⟩
      · have hkn' : k = len := by omega
        rw [hkn'] at hDr
        have hDr' := hidIt hDr
        have HB' := hidIt HB
        have hSb := hidIt (hst.lo H2.out.size hSa.out)
        obtain ⟨p1, p2, p3, p4⟩ := hps.out len (fun i hi => hO.out.good hi)
        replace p1 := hidIt p1
        replace p2 := hidIt p2
        replace p3 := hidIt p3
        replace p4 := hidIt p4
        have t1 : ¬ (k : Int) < (len : Int) := by omega
        clear hDr hst HB hkn'
        obtain ⟨D1, hD1⟩ : ∃ D1, Hid (D0.plays O len = D1) := ⟨_, rfl⟩
        rw [hD1.out] at hDr' p1 p2 p3 p4
        have dY := hidIt (sync_any g S' D1 wr hDr' (by have := p4.out; omega))
        have y1 := hidIt (Dsk.sync_err p1.out)
        have y2 := hidIt (Dsk.sync_fine p1.out)
        have y3 := hidIt (Dsk.sync_same D1 p1.out)
        have y4 := hidIt p1.out.sync
        obtain ⟨D2, hD2'⟩ : ∃ D2, Hid (D1.sync.2 = D2) := ⟨_, rfl⟩
        obtain ⟨c2, hc2⟩ : ∃ c2, Hid (D1.sync.1 = c2) := ⟨_, rfl⟩
        rw [hD2'.out] at dY y1 y2 y3 y4
        rw [hc2.out] at dY y1 y2
        clear hD2 hO
        by_cases hc : c2 = 0
        · obtain ⟨y21, y22⟩ := y2.out hc
          have dY0 : Hid (Calls Try.prog 27 #[.pointer (some ⟨g, 0, none⟩)] wr fun e w' => e = .returned (.int .i64 0) ∧ ∃ S'', DK w' S'' g D2 ∧ Step wr w' S' S'') := by have := dY.out; rw [hc] at this; exact this
          have hn2 : D2.n = N := y3.out.2.1.trans p3.out
          have hz2 : D2.size = Z := y3.out.1.trans p2.out
          have hlen : Hid (∀ i, i < N → (D2.dur i).length = Z ∧ ∀ x ∈ D2.dur i, x < 256) := fun i hi => ⟨(y4.out.dl i (by rw [hn2]; exact hi)).trans hz2, y4.out.db i (by rw [hn2]; exact hi)⟩
          have hrd : Hid (∀ k : Nat, k < N → D2.read (k : Int) = (0, D2.dur k)) := fun k hk => by
            unfold Dsk.read
            rw [if_neg (by rw [y21]; decide), if_pos ⟨by omega, by rw [hn2]; omega⟩, Int.toNat_natCast, Dsk.cur_none y22]
          replace hn2 := hidIt hn2
          replace hz2 := hidIt hz2
          replace y21 := hidIt y21
          replace y22 := hidIt y22
          have hcr := hidIt (Dsk.crash_none y22.out (fun i => ks.getD i false) torn)
          have hcs := hidIt (Dsk.crash_same D2 (fun i => ks.getD i false) torn)
          obtain ⟨D3, hD3⟩ : ∃ D3, Hid (D2.crash (fun i => ks.getD i false) torn = D3) := ⟨_, rfl⟩
          rw [hD3.out] at hcr hcs
          clear hc dY
          go_wp2_with (fail)
          refine dY0.out.mono ?_
          rintro e w4 ⟨rfl, S4, hD, hst⟩
          have hD4 := hidIt hD
          have H4 := hidIt (HB'.out.trans (hst.below HB'.out.size hSb.out))
          have hS4 := hidIt (hst.lo HB'.out.size hSb.out)
          have hSlt := hidIt hD.2
          clear hD hst dY0 hDr' HB' hSb
          have B0 := hidIt (show Bef w4 (w4.alloc (.cells #[] 39)) (.slice (some ⟨w4.heap.size, 0, none⟩) 0 0) (fun _ => 0) Z 0 D2.dur from ⟨emptySl w4, fun i hi => absurd hi (Nat.not_lt_zero _), fun i hi => absurd hi (Nat.not_lt_zero _), (Below.refl _ _).alloc (Nat.le_refl _) _⟩)
          go_wp2_with (fail)
          go_loopw [14, 15] (fun bv i wr => ∃ k : Nat, i = .int .i64 (k : Int) ∧ k ≤ N ∧ Hid (∃ q, Bef w4 wr bv q Z k D2.dur)) (fun _ i _ => N - (intOf i).toNat)
          case atStart => exact ⟨0, rfl, by omega, _, B0.out⟩
          case round =>
            obtain ⟨k, rfl, hk, hr⟩ := hrel
            obtain ⟨q, hB⟩ := hr.out
            clear hr B0
            have hB' := hidIt hB
            by_cases hkn : k < N
            · have hDr := hidIt (hD4.out.below hB.bel)
              have dR := hidIt (read_any g S4 D2 (k : Int) _ hDr (by rw [y22.out]; decide))
              rw [hrd.out k hkn, hz2.out] at dR
              have t1 : (k : Int) < (N : Int) := by omega
              clear hB
              go_wp2_with (fail)
              refine dR.out.mono ?_
              rintro e w6 ⟨(⟨hc, _⟩ | ⟨_, p, rfl, hp, hbb⟩), hb6⟩
              · exact absurd rfl hc
              have hB6 := hB'.out.below hb6
              have hpl : w4.heap.size ≤ p := Nat.le_trans hB'.out.bel.size hp
              obtain ⟨w7, hw7, hB7, hbb7, hq7⟩ : ∃ w7, Hid (w6.alloc (.cells #[.slice (some ⟨p, 0, none⟩) Z Z] 39) = w7) ∧ Hid (Bef w4 w7 _ q Z k D2.dur) ∧ Hid (BB w7 p (D2.dur k)) ∧ w7.cell? ⟨w6.heap.size, 0, none⟩ = some (.slice (some ⟨p, 0, none⟩) Z Z) :=
                ⟨_, rfl, hB6.below ((Below.refl _ _).alloc (Nat.le_refl _) _), Blk.alloc hbb _, ((Blk.new w6 39 #[.slice (some ⟨p, 0, none⟩) Z Z]).cell 0).trans rfl⟩
              clear hbb hb6 hB6 hp dR hDr hB'
              go_wp2_with (rw [hw7.out]; at_builtin; refine wpList_snoc_sl w7 rfl _ _ rfl w4.heap.size _ k (qv q Z k) rfl hB7.out.own w6.heap.size (.slice (some ⟨p, 0, none⟩) Z Z) rfl hq7 rfl (by omega) hB7.out.bel.size ?_; intro v8 w8 ho8 hg8 _; have hB8 := hidIt (hB7.out.snoc hbb7.out hpl ho8 hg8); clear ho8 hg8)
              exact ⟨⟨k + 1, by go_num, by omega, _, hB8.out⟩, by simp [intOf]; omega⟩
            · have hkn' : k = N := by omega
              subst hkn'
              have hDr := hidIt (hD4.out.below hB.bel)
              have H5 := hidIt (below_then H4.out hB.bel)
              have t1 : ¬ (k : Int) < (k : Int) := by omega
              have dI := hidIt (image_any g S4 D2 _ hDr)
              rw [hn2.out, hz2.out] at dI
              obtain ⟨a5, c5, hv5, _⟩ := hB.sl2 hlen.out
              subst hv5
              clear hB hkn
              go_wp2_with (fail)
              refine dI.out.mono ?_
              rintro e w6 ⟨R, qi, rfl, hI, hb6⟩
              have hB6 := hidIt (hB'.out.below hb6)
              have hD6 := hidIt (hDr.out.below hb6)
              have H6 := hidIt (below_then H5.out hb6)
              obtain ⟨a6, c6, hv6, hs6⟩ := hB6.out.sl2 hlen.out
              cases hv6
              have dS := hidIt (sameAll_any a5 (some ⟨R, 0, none⟩) k c5 k k D2.dur D2.dur w6 hs6 (hI.sl2 (fun i hi => (hlen.out i hi).1) (fun i hi => (hlen.out i hi).2)) (by omega) true ⟨fun _ => ⟨rfl, fun _ _ => rfl⟩, fun _ => rfl⟩)
              clear hI hb6 dI hDr H5 hB' hs6 hD4
              go_wp2_with (fail)
              refine dS.out.mono ?_
              rintro e w7 ⟨rfl, hb7⟩
              have hB7 := hidIt (hB6.out.below hb7)
              have hD7 := hidIt (hD6.out.below hb7)
              have H7 := hidIt (below_then H6.out hb7)
              have hst4 := hidIt (show ∀ b, S4 b → b < w4.heap.size from hSlt.out)
              have dC := hidIt (crash_any g S4 D2 ka kl kc ks torn w7 hD7 (hB0.out.blocks (fun x hx h0 => by
                obtain ⟨b, off, e1, e2⟩ := hB0.out 0 h0
                rw [hx] at e1; cases e1
                exact H7.out.block b (bytes_lt e2))) hkl (fun x hx h0 => by
                obtain ⟨b, off, e1, e2⟩ := hB0.out 0 h0
                rw [hx] at e1; cases e1
                have hlt : b < w.heap.size := bytes_lt e2
                exact ⟨Nat.lt_of_lt_of_le hlt H7.out.size, fun e3 => by have := hS4.out _ e3; simp only at this; omega⟩) (by rw [y22.out]; decide))
              rw [hD3.out] at dC
              clear hb7 dS hB6 hD6 H6
              go_wp2_with (fail)
              refine dC.out.mono ?_
              rintro e w8 ⟨rfl, S8, hD, hst⟩
              have hD8 := hidIt hD
              have H8 := hidIt (H7.out.trans (hst.below H7.out.size hS4.out))
              obtain ⟨a8, c8, hv8, hs8⟩ := hB7.out.after hst hst4.out hlen.out
              cases hv8
              have hs8' := hidIt hs8
              have dI := hidIt (image_any g S8 D3 w8 hD8)
              rw [hcs.out.1, hcs.out.2.1, hn2.out, hz2.out, hcr.out.1] at dI
              clear hD hst dC hs8 hB7 hD7 H7
              go_wp2_with (fail)
              refine dI.out.mono ?_
              rintro e w9 ⟨R2, q2, rfl, hI, hb9⟩
              have hD9 := hidIt (hD8.out.below hb9)
              have H9 := hidIt (below_then H8.out hb9)
              have dS := hidIt (sameAll_any a5 (some ⟨R2, 0, none⟩) k c5 k k D2.dur D2.dur w9 (hs8'.out.below hb9) (hI.sl2 (fun i hi => (hlen.out i hi).1) (fun i hi => (hlen.out i hi).2)) (by omega) true ⟨fun _ => ⟨rfl, fun _ _ => rfl⟩, fun _ => rfl⟩)
              clear hI hb9 dI hD8 H8 hs8'
              go_wp2_with (fail)
              refine dS.out.mono ?_
              rintro e w10 ⟨rfl, hb10⟩
              have hD10 := hidIt (hD9.out.below hb10)
              have H10 := hidIt (below_then H9.out hb10)
              have dD := hidIt (down_any g S8 D3 w10 hD10)
              rw [hcr.out.2] at dD
              clear hb10 dS hD9 H9
              go_wp2_with (fail)
              refine dD.out.mono ?_
              rintro e w11 ⟨rfl, rfl⟩
              clear dD
              go_wp2_with (fail)
              go_ret
              exact ⟨rfl, H10.out⟩
        · have t2 : ((c2 : Int) == 0) = false := by simp; omega
          have hdn := y1.out hc
          go_wp2_with (fail)
          refine dY.out.mono ?_
          rintro e w4 ⟨rfl, S4, hD, hst⟩
          have hD4 := hidIt hD
          have H4 := hidIt (HB'.out.trans (hst.below HB'.out.size hSb.out))
          have dD := hidIt (down_any g S4 D2 w4 hD4)
          rw [hdn] at dD
          clear hD hst dY hDr' hc
          go_wp2_with (fail)
          refine dD.out.mono ?_
          rintro e w5 ⟨rfl, rfl⟩
          clear dD
          go_wp2_with (fail)
          go_ret
          exact ⟨rfl, H4.out⟩
  · rw [decide_eq_false hsm]
    clear hsm
    go_wp2_with (fail)
    go_ret
    exact ⟨rfl, H1.out⟩
end Go.Proofs.Ytlpggkdmjmlpkaa
