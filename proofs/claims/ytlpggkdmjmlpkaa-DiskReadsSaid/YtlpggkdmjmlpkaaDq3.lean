import Derived.Test.YtlpggkdmjmlpkaaDq0
namespace Go.Proofs.Ytlpggkdmjmlpkaa
open Go.RowKit
theorem DK.wf {w : World} {S : Nat → Prop} {g : Nat} {D : Dsk} (h : DK w S g D) : D.WF := by
  obtain ⟨⟨_, _, _, _, hX, _⟩, _⟩ := h
  exact hX.wf
namespace Dsk
theorem crN_all_dur {D : Dsk} (h : D.WF) (t s : Nat) : ∀ k, k ≤ D.np → (crN (fun _ => true) t D k).2.dur s = D.curN s k
  | 0, _ => rfl
  | k + 1, hk => by
    have ih := crN_all_dur h t s k (by omega)
    obtain ⟨e1, _⟩ := crN_same (fun _ => true) t D k
    rw [Dsk.crN, if_pos rfl, Dsk.curN]
    show (if s = D.ps k then (D.pb k).take D.size ++ ((crN (fun _ => true) t D k).2.dur (D.ps k)).drop D.size else (crN (fun _ => true) t D k).2.dur s) = _
    by_cases e : s = D.ps k
    · have hl : ((crN (fun _ => true) t D k).2.dur (D.ps k)).length = D.size := by
        by_cases ht : t ≤ D.size
        · have hw := (crN_wf (fun _ => true) h ht k (by omega)).1
          rw [hw.dl _ (by rw [(crN_same (fun _ => true) t D k).2.1]; exact h.pn k (by omega)), e1]
        · rw [crN_all_dur h t (D.ps k) k (by omega)]
          exact (Dsk.cur_ok h (D.ps k) (h.pn k (by omega)) k (by omega)).1
      rw [if_pos e, if_pos e.symm, List.take_of_length_le (Nat.le_of_eq (h.pl k (by omega))), List.drop_eq_nil_of_le (Nat.le_of_eq hl), List.append_nil]
    · rw [if_neg e, if_neg (fun e2 => e e2.symm), ih]
/-- the sector s has these contents, or the power is off -/
def holds (D : Dsk) (s : Nat) (bs : List Nat) : Prop := D.down = true ∨ D.cur s = bs
theorem curN_oper {D : Dsk} (h : D.WF) (s : Nat) : ∀ k, D.oper.2.curN s k = D.curN s k
  | 0 => by show D.oper.2.dur s = D.dur s; rw [(oper_same D h).2.2.2.1]
  | k + 1 => by
    obtain ⟨_, _, _, _, e5, e6⟩ := oper_same D h
    unfold Dsk.curN
    rw [e5, e6, curN_oper h s k]
theorem holds_oper {D : Dsk} (h : D.WF) {s : Nat} {bs : List Nat} (hh : D.cur s = bs) : D.oper.2.holds s bs := by
  right
  unfold Dsk.cur
  rw [curN_oper h, (oper_same D h).2.2.1]
  exact hh
theorem curN_push (D : Dsk) (s' : Nat) (b : List Nat) (s : Nat) : ∀ k, k ≤ D.np → (D.push s' b).curN s k = D.curN s k
  | 0, _ => rfl
  | k + 1, hk => by
    unfold Dsk.curN
    rw [curN_push D s' b s k (by omega)]
    have h1 : (D.push s' b).ps k = D.ps k := if_neg (by omega)
    have h2 : (D.push s' b).pb k = D.pb k := if_neg (by omega)
    rw [h1, h2]
theorem cur_push_ne (D : Dsk) {s' s : Nat} (b : List Nat) (h : s' ≠ s) : (D.push s' b).cur s = D.cur s := by
  show (if (D.push s' b).ps D.np = s then _ else (D.push s' b).curN s D.np) = _
  rw [if_neg (by show (if D.np = D.np then s' else _) ≠ s; rw [if_pos rfl]; exact h), curN_push D s' b s D.np (Nat.le_refl _)]
  rfl
theorem cur_push_eq (D : Dsk) (s : Nat) (b : List Nat) : (D.push s b).cur s = b := by
  show (if (D.push s b).ps D.np = s then (D.push s b).pb D.np else _) = _
  rw [if_pos (by show (if D.np = D.np then s else _) = s; rw [if_pos rfl])]
  show (if D.np = D.np then b else _) = b
  rw [if_pos rfl]
theorem holds_write {D : Dsk} (h : D.WF) {s' : Int} {b bs : List Nat} {s : Nat} (hb : ∀ x ∈ b, x < 256) (hne : s' ≠ (s : Int)) (hh : D.holds s bs) : (D.write s' b).2.holds s bs := by
  unfold Dsk.write
  split
  · exact hh
  · rename_i hd
    rcases hh with hh | hh
    · exact absurd hh hd
    split
    · rename_i c
      exact holds_oper (h.push (by have := c.1; omega) c.2 hb) (by rw [cur_push_ne D b (by omega)]; exact hh)
    · exact .inr hh
theorem holds_sync {D : Dsk} (h : D.WF) {bs : List Nat} {s : Nat} (hh : D.holds s bs) : D.sync.2.holds s bs := by
  by_cases e : D.sync.1 = 0
  · right
    rw [cur_none (sync_fine h e).2]
    unfold Dsk.sync at e ⊢
    split
    · rename_i hd; rw [if_pos hd] at e; cases e
    · rename_i hd
      rw [if_neg hd] at e
      rcases hh with hh | hh
      · exact absurd hh hd
      split
      · show (crN _ _ D.oper.2 D.np).2.dur s = bs
        have e3 := (oper_same D h).2.2.1
        rw [crN_all_dur h.oper 0 s D.np (by rw [e3]; exact Nat.le_refl _), curN_oper h]
        exact hh
      · rename_i h0; rw [if_neg h0] at e; exact absurd e h0
  · exact .inl (sync_err h e)
theorem holds_play {D : Dsk} (h : D.WF) {o : Opd} (ho : o.good) {bs : List Nat} {s : Nat} (hh : D.holds s bs) (hc : (o.k = 0 ∧ o.s ≠ (s : Int)) ∨ o.k = 1 ∨ o.k = 2) : (D.play o).2.2.holds s bs := by
  unfold Dsk.play
  rcases hc with ⟨e, hne⟩ | e | e
  · rw [if_pos e]; exact holds_write h ho.1 hne hh
  · rw [if_neg (by omega), if_pos e]; exact hh
  · rw [if_neg (by omega), if_neg (by omega), if_pos e]; exact holds_sync h hh
theorem write_done {D : Dsk} (h : D.WF) {s : Int} {b : List Nat} (hb : ∀ x ∈ b, x < 256) (e : (D.write s b).1 = 0) : (0 ≤ s ∧ s < D.n) ∧ b.length = D.size ∧ (D.write s b).2.holds s.toNat b := by
  unfold Dsk.write at e ⊢
  split at e
  · cases e
  · rename_i hd
    rw [if_neg hd]
    split at e
    · rename_i c
      rw [if_pos c]
      exact ⟨c.1, c.2, holds_oper (h.push (by have := c.1; omega) c.2 hb) (cur_push_eq D s.toNat b)⟩
    · cases e
end Dsk
set_option maxRecDepth 100000 in
set_option maxHeartbeats 8000000 in
theorem dreads_walk (a da pa : Option Addr) (len cap dl dc pl pc : Nat) (O : Nat → Opd) (A : Nat → Option Addr) (L C : Nat → Nat) (KA : Nat → Option Addr) (KL KC : Nat → Nat) (bs : List Nat) (P : Nat → Opd) (PA : Nat → Option Addr) (PL PC : Nat → Nat) (PKA : Nat → Option Addr) (PKL PKC : Nat → Nat) (n z sec : Int) (w : World) (_ : (Lit.int .i64 n).wf = true) (_ : (Lit.int .i64 z).wf = true) (hO0 : OpsR w a len O A L C KA KL KC) (_ : (Lit.int .i64 sec).wf = true) (hdat0 : RowB w da dl dc bs) (hP0 : OpsR w pa pl P PA PL PC PKA PKL PKC) :
    Calls Try.prog 5 #[.int .i64 n, .int .i64 z, .slice a len cap, .int .i64 sec, .slice da dl dc, .slice pa pl pc] w fun e w' => e = .returned (.bool true) ∧ Below w.heap.size w w' := by
  have hdat := hidIt hdat0
  have hP := hidIt hP0
  clear hdat0 hP0
  have hO := hidIt hO0
  clear hO0
  go_enter Try.func5, Try.ntmps5
  go_wp2_with (fail)
  refine (awake_any _).mono ?_
  rintro e w1 ⟨rfl, hb1⟩
  have H1 := hidIt hb1
  clear hb1
  go_wp2_with (fail)
  refine (small_any n z a len cap w1).mono ?_
  rintro e w2 ⟨rfl, rfl⟩
  by_cases hsm : 1 ≤ n ∧ n ≤ 8 ∧ 1 ≤ z ∧ z ≤ 8 ∧ len ≤ 40
  · by_cases hp20 : (pl : Int) > 20
    · rw [decide_eq_true hsm]
      clear hsm
      go_wp2_with (fail)
      go_ret
      exact ⟨rfl, H1.out⟩
    · replace hp20 : pl ≤ 20 := by omega
      have t20 : ¬ (pl : Int) > 20 := by omega
      rw [decide_eq_true hsm]
      obtain ⟨N, rfl⟩ : ∃ N : Nat, n = (N : Int) := ⟨n.toNat, by omega⟩
      obtain ⟨Z, rfl⟩ : ∃ Z : Nat, z = (Z : Int) := ⟨z.toNat, by omega⟩
      obtain ⟨hN1, hN2, hZ1, hZ2, hL⟩ := hsm
      replace hN1 : 1 ≤ N := by omega
      replace hN2 : N ≤ 8 := by omega
      replace hZ1 : 1 ≤ Z := by omega
      replace hZ2 : Z ≤ 8 := by omega
      go_wp2_with (fail)
      refine (new_any (N : Int) (Z : Int) w1).mono ?_
      rintro e w2 hN
      unfold NewR at hN
      rw [if_pos (by omega)] at hN
      obtain ⟨g, S, rfl, hD, hS, hb2⟩ := hN
      simp only [Int.toNat_natCast] at hD
      have H2 := hidIt (below_then H1.out hb2)
      have hSa : Hid (∀ b, S b → w.heap.size ≤ b) := fun b hb => Nat.le_trans H1.out.size (hS b hb)
      have hD2 := hidIt hD
      have hps : Hid (∀ k, (∀ i, i < k → (O i).good) → ((Dsk.fresh N Z).plays O k).WF ∧ ((Dsk.fresh N Z).plays O k).size = Z ∧ ((Dsk.fresh N Z).plays O k).n = N ∧ ((Dsk.fresh N Z).plays O k).np ≤ 0 + k) := Dsk.plays_ok (Dsk.fresh_wf hN1 (by omega) hZ1 (by omega)) O
      obtain ⟨D0, hD0⟩ : ∃ D0, Hid (Dsk.fresh N Z = D0) := ⟨_, rfl⟩
      rw [hD0.out] at hD2 hps
      clear hD hS hb2 H1
      go_wp2_with (fail)
      go_loopw [15] (fun i wr => ∃ k : Nat, i = .int .i64 (k : Int) ∧ k ≤ len ∧ Hid (∃ S', DK wr S' g (D0.plays O k) ∧ Step w2 wr S S')) (fun i _ => len - (intOf i).toNat)
      case atStart => exact ⟨0, rfl, by omega, S, hD2.out, Step.refl _ _⟩
      case round =>
        obtain ⟨k, rfl, hk, hr⟩ := hrel
        obtain ⟨S', hDr, hst⟩ := hr.out
        have HB := H2.out.trans (hst.below H2.out.size hSa.out)
        clear hr
        by_cases hkn : k < len
        · obtain ⟨b, off, hc⟩ := hO.out.at HB hkn
          have hov := hidIt (hO.out.opv HB (hst.lo H2.out.size hSa.out) hkn)
          have hnp := (hps.out k (fun i hi => hO.out.good (by omega))).2.2.2
          have dP := hidIt (play_any g S' (D0.plays O k) (O k) (A k) (L k) (C k) (KA k) (KL k) (KC k) wr hDr hov (by omega))
          have hfin : Hid (∀ e w3, PlR wr S' g (D0.plays O k) (O k) e w3 → ∃ v1 v2, e = .returned (.tuple #[v1, v2]) ∧ Hid (∃ S', DK w3 S' g (D0.plays O (k + 1)) ∧ Step w2 w3 S S')) := fun e w3 ⟨a3, c3, S3, e1, _, _, e4, e5⟩ => ⟨_, _, e1, S3, e4, hst.trans e5⟩
          obtain ⟨ha, c0, c1, c2, c3, c4, c5⟩ := hc
          subst ha
          have t1 : (k : Int) < (len : Int) := by omega
          clear hDr hst HB hov hnp
          go_wp2_with (fail)
          refine dP.out.mono ?_
          rintro e w3 hp
          obtain ⟨v1, v2, rfl, h3⟩ := hfin.out e w3 hp
          clear hp hfin dP
          go_wp2_with (fail)
          exact ⟨⟨k + 1, by go_num, by omega, h3⟩, by simp [intOf]; omega⟩
        · have hkn' : k = len := by omega
          rw [hkn'] at hDr
          have hDr' := hidIt hDr
          have HB' := hidIt HB
          have hSb := hidIt (hst.lo H2.out.size hSa.out)
          obtain ⟨p1, p2, p3, p4⟩ := hps.out len (fun i hi => hO.out.good hi)
          replace p1 := hidIt p1
          replace p2 := hidIt p2
          replace p3 := hidIt p3
          replace p4 := hidIt p4
          have t1 : ¬ (k : Int) < (len : Int) := by omega
          clear hDr hst HB hkn'
          obtain ⟨D1, hD1⟩ : ∃ D1, Hid (D0.plays O len = D1) := ⟨_, rfl⟩
          rw [hD1.out] at hDr' p1 p2 p3 p4
          have hby := hidIt (hdat.out.bytes.below HB'.out)
          have dW := hidIt (write_any g S' D1 sec da dl dc bs wr hDr' hdat.out.len hby.out hdat.out.lt (by have := p4.out; omega))
          have y2 := hidIt (Dsk.write_done p1.out (s := sec) (b := bs) hdat.out.lt)
          have y3 := hidIt (Dsk.write_same D1 p1.out sec hdat.out.lt)
          obtain ⟨D2, hD2'⟩ : ∃ D2, Hid ((D1.write sec bs).2 = D2) := ⟨_, rfl⟩
          obtain ⟨c2, hc2⟩ : ∃ c2, Hid ((D1.write sec bs).1 = c2) := ⟨_, rfl⟩
          rw [hD2'.out] at dW y2 y3
          rw [hc2.out] at dW y2
          clear hD2 hO
          by_cases hc : c2 = 0
          · obtain ⟨y21, y22, y23⟩ := y2.out hc
            have dY0 : Hid (Calls Try.prog 25 #[.pointer (some ⟨g, 0, none⟩), .int .i64 sec, .slice da dl dc] wr fun e w' => e = .returned (.int .i64 0) ∧ ∃ S'', DK w' S'' g D2 ∧ Step wr w' S' S'') := by have := dW.out; rw [hc] at this; exact this
            have hn2 : D2.n = N := y3.out.2.1.trans p3.out
            have hz2 : D2.size = Z := y3.out.1.trans p2.out
            obtain ⟨s, rfl⟩ : ∃ s : Nat, sec = (s : Int) := ⟨sec.toNat, by omega⟩
            rw [Int.toNat_natCast] at y23
            have hsN : Hid (s < N) := by have := y21.2; have := p3.out; show s < N; omega
            have hbz : Hid (bs.length = Z) := y22.trans p2.out
            replace y23 := hidIt y23
            have hnp2 : Hid (D2.np ≤ 41) := by have := y3.out.2.2; have := p4.out; show _ ≤ _; omega
            replace hn2 := hidIt hn2
            replace hz2 := hidIt hz2
            clear hc dW y21 y22 y2
            go_wp2_with (fail)
            refine dY0.out.mono ?_
            rintro e w4 ⟨rfl, S4, hD, hst⟩
            have hD4 := hidIt hD
            have H4 := hidIt (HB'.out.trans (hst.below HB'.out.size hSb.out))
            have hS4 := hidIt (hst.lo HB'.out.size hSb.out)
            clear hD hst dY0 hDr' HB' hSb hby
            go_wp2_with (fail)
            go_loopw [16] (fun i wr => ∃ k : Nat, i = .int .i64 (k : Int) ∧ k ≤ pl ∧ Hid (∃ E S', DK wr S' g E ∧ Step w4 wr S4 S' ∧ E.holds s bs ∧ E.np ≤ 41 + k ∧ E.n = N ∧ E.size = Z)) (fun i _ => pl - (intOf i).toNat)
            case atStart => exact ⟨0, rfl, by omega, D2, S4, hD4.out, Step.refl _ _, y23.out, by have := hnp2.out; omega, hn2.out, hz2.out⟩
            case round =>
              obtain ⟨k, rfl, hk, hr⟩ := hrel
              obtain ⟨E, S', hDr, hst, hinv, hEnp, hEn, hEz⟩ := hr.out
              have HB := H4.out.trans (hst.below H4.out.size hS4.out)
              clear hr
              by_cases hkn : k < pl
              · have t1 : (k : Int) < (pl : Int) := by omega
                by_cases k0 : (P k).k = 0
                · have q0 : ((P k).k == 0) = true := by simp [k0]
                  by_cases ks : (P k).s = (s : Int)
                  · have q1 : ((P k).s != (s : Int)) = false := by simp [ks]
                    have q2 : ((P k).k == 1) = false := by simp [k0]
                    have q3 : ((P k).k == 2) = false := by simp [k0]
                    clear k0 ks
                    have h3 : Hid (∃ E S', DK wr S' g E ∧ Step w4 wr S4 S' ∧ E.holds s bs ∧ E.np ≤ 41 + (k + 1) ∧ E.n = N ∧ E.size = Z) := ⟨E, S', hDr, hst, hinv, by omega, hEn, hEz⟩
                    obtain ⟨b, off, hc⟩ := hP.out.at HB hkn
                    obtain ⟨ha, c0, c1, c2, c3, c4, c5⟩ := hc
                    subst ha
                    clear hDr hst HB hinv hEn hEz
                    go_wp2_with (fail)
                    exact ⟨⟨k + 1, by go_num, by omega, h3⟩, by simp [intOf]; omega⟩
                  · have q1 : ((P k).s != (s : Int)) = true := by simp [ks]
                    have hcond : ((P k).k = 0 ∧ (P k).s ≠ (s : Int)) ∨ (P k).k = 1 ∨ (P k).k = 2 := .inl ⟨k0, ks⟩
                    have hov := hidIt (hP.out.opv HB (hst.lo H4.out.size hS4.out) hkn)
                    have hgd := hP.out.good hkn
                    have dP := hidIt (play_any g S' E (P k) (PA k) (PL k) (PC k) (PKA k) (PKL k) (PKC k) wr hDr hov (by omega))
                    have hpi := hidIt (Dsk.holds_play (DK.wf hDr) hgd hinv hcond)
                    have hps2 := hidIt (Dsk.play_same E (DK.wf hDr) (P k) hgd.1)
                    have hfin : Hid (∀ e w3, PlR wr S' g E (P k) e w3 → ∃ v1 v2, e = .returned (.tuple #[v1, v2]) ∧ Hid (∃ E S', DK w3 S' g E ∧ Step w4 w3 S4 S' ∧ E.holds s bs ∧ E.np ≤ 41 + (k + 1) ∧ E.n = N ∧ E.size = Z)) := fun e w3 ⟨a3, c3, S3, e1, _, _, e4, e5⟩ => ⟨_, _, e1, _, S3, e4, hst.trans e5, hpi.out, by have := hps2.out.2.2; omega, hps2.out.2.1.trans hEn, hps2.out.1.trans hEz⟩
                    obtain ⟨b, off, hc⟩ := hP.out.at HB hkn
                    obtain ⟨ha, c0, c1, c2, c3, c4, c5⟩ := hc
                    subst ha
                    clear k0 ks
                    clear hDr hst HB hov hinv hEn hEz hgd hcond
                    go_wp2_with (fail)
                    refine dP.out.mono ?_
                    rintro e w3 hp
                    obtain ⟨v1, v2, rfl, h3⟩ := hfin.out e w3 hp
                    clear hp hfin dP
                    go_wp2_with (fail)
                    exact ⟨⟨k + 1, by go_num, by omega, h3⟩, by simp [intOf]; omega⟩
                · have q0 : ((P k).k == 0) = false := by simp [k0]
                  by_cases k1 : (P k).k = 1
                  · have q1 : ((P k).k == 1) = true := by simp [k1]
                    have hcond : ((P k).k = 0 ∧ (P k).s ≠ (s : Int)) ∨ (P k).k = 1 ∨ (P k).k = 2 := .inr (.inl k1)
                    have hov := hidIt (hP.out.opv HB (hst.lo H4.out.size hS4.out) hkn)
                    have hgd := hP.out.good hkn
                    have dP := hidIt (play_any g S' E (P k) (PA k) (PL k) (PC k) (PKA k) (PKL k) (PKC k) wr hDr hov (by omega))
                    have hpi := hidIt (Dsk.holds_play (DK.wf hDr) hgd hinv hcond)
                    have hps2 := hidIt (Dsk.play_same E (DK.wf hDr) (P k) hgd.1)
                    have hfin : Hid (∀ e w3, PlR wr S' g E (P k) e w3 → ∃ v1 v2, e = .returned (.tuple #[v1, v2]) ∧ Hid (∃ E S', DK w3 S' g E ∧ Step w4 w3 S4 S' ∧ E.holds s bs ∧ E.np ≤ 41 + (k + 1) ∧ E.n = N ∧ E.size = Z)) := fun e w3 ⟨a3, c3, S3, e1, _, _, e4, e5⟩ => ⟨_, _, e1, _, S3, e4, hst.trans e5, hpi.out, by have := hps2.out.2.2; omega, hps2.out.2.1.trans hEn, hps2.out.1.trans hEz⟩
                    obtain ⟨b, off, hc⟩ := hP.out.at HB hkn
                    obtain ⟨ha, c0, c1, c2, c3, c4, c5⟩ := hc
                    subst ha
                    clear k0 k1
                    clear hDr hst HB hov hinv hEn hEz hgd hcond
                    go_wp2_with (fail)
                    refine dP.out.mono ?_
                    rintro e w3 hp
                    obtain ⟨v1, v2, rfl, h3⟩ := hfin.out e w3 hp
                    clear hp hfin dP
                    go_wp2_with (fail)
                    exact ⟨⟨k + 1, by go_num, by omega, h3⟩, by simp [intOf]; omega⟩
                  · have q1 : ((P k).k == 1) = false := by simp [k1]
                    by_cases k2 : (P k).k = 2
                    · have q2 : ((P k).k == 2) = true := by simp [k2]
                      have hcond : ((P k).k = 0 ∧ (P k).s ≠ (s : Int)) ∨ (P k).k = 1 ∨ (P k).k = 2 := .inr (.inr k2)
                      have hov := hidIt (hP.out.opv HB (hst.lo H4.out.size hS4.out) hkn)
                      have hgd := hP.out.good hkn
                      have dP := hidIt (play_any g S' E (P k) (PA k) (PL k) (PC k) (PKA k) (PKL k) (PKC k) wr hDr hov (by omega))
                      have hpi := hidIt (Dsk.holds_play (DK.wf hDr) hgd hinv hcond)
                      have hps2 := hidIt (Dsk.play_same E (DK.wf hDr) (P k) hgd.1)
                      have hfin : Hid (∀ e w3, PlR wr S' g E (P k) e w3 → ∃ v1 v2, e = .returned (.tuple #[v1, v2]) ∧ Hid (∃ E S', DK w3 S' g E ∧ Step w4 w3 S4 S' ∧ E.holds s bs ∧ E.np ≤ 41 + (k + 1) ∧ E.n = N ∧ E.size = Z)) := fun e w3 ⟨a3, c3, S3, e1, _, _, e4, e5⟩ => ⟨_, _, e1, _, S3, e4, hst.trans e5, hpi.out, by have := hps2.out.2.2; omega, hps2.out.2.1.trans hEn, hps2.out.1.trans hEz⟩
                      obtain ⟨b, off, hc⟩ := hP.out.at HB hkn
                      obtain ⟨ha, c0, c1, c2, c3, c4, c5⟩ := hc
                      subst ha
                      clear k0 k1 k2
                      clear hDr hst HB hov hinv hEn hEz hgd hcond
                      go_wp2_with (fail)
                      refine dP.out.mono ?_
                      rintro e w3 hp
                      obtain ⟨v1, v2, rfl, h3⟩ := hfin.out e w3 hp
                      clear hp hfin dP
                      go_wp2_with (fail)
                      exact ⟨⟨k + 1, by go_num, by omega, h3⟩, by simp [intOf]; omega⟩
                    · have q2 : ((P k).k == 2) = false := by simp [k2]
                      clear k0 k1 k2
                      have h3 : Hid (∃ E S', DK wr S' g E ∧ Step w4 wr S4 S' ∧ E.holds s bs ∧ E.np ≤ 41 + (k + 1) ∧ E.n = N ∧ E.size = Z) := ⟨E, S', hDr, hst, hinv, by omega, hEn, hEz⟩
                      obtain ⟨b, off, hc⟩ := hP.out.at HB hkn
                      obtain ⟨ha, c0, c1, c2, c3, c4, c5⟩ := hc
                      subst ha
                      clear hDr hst HB hinv hEn hEz
                      go_wp2_with (fail)
                      exact ⟨⟨k + 1, by go_num, by omega, h3⟩, by simp [intOf]; omega⟩
              · have t1 : ¬ (k : Int) < (pl : Int) := by omega
                have hDr' := hidIt hDr
                have HB5 := hidIt HB
                have dR := hidIt (read_any g S' E (s : Int) wr hDr (by omega))
                by_cases hd : E.down = true
                · have hrd : Hid (E.read (s : Int) = (8, [])) := by show _ = _; unfold Dsk.read; rw [if_pos hd]
                  rw [hrd.out] at dR
                  have hdn := hidIt hd
                  clear hDr hst HB hinv hEn hEz hd
                  go_wp2_with (fail)
                  refine dR.out.mono ?_
                  rintro e w6 ⟨(⟨_, rfl⟩ | ⟨hc, _⟩), hb6⟩
                  · have dD := hidIt (down_any g S' E w6 (hDr'.out.below hb6))
                    rw [hdn.out] at dD
                    have H6 := hidIt (below_then HB5.out hb6)
                    clear hb6 dR hDr'
                    go_wp2_with (fail)
                    refine dD.out.mono ?_
                    rintro e w7 ⟨rfl, rfl⟩
                    clear dD
                    go_wp2_with (fail)
                    go_ret
                    exact ⟨rfl, H6.out⟩
                  · cases hc
                · have hdf : E.down = false := by simpa using hd
                  have hcur : E.cur s = bs := by
                    rcases hinv with h | h
                    · exact absurd h hd
                    · exact h
                  have hrd : Hid (E.read (s : Int) = (0, bs)) := by
                    show _ = _
                    unfold Dsk.read
                    rw [if_neg hd, if_pos ⟨by omega, by rw [hEn]; have := hsN.out; omega⟩, Int.toNat_natCast, hcur]
                  rw [hrd.out, hEz] at dR
                  have hdn := hidIt hdf
                  clear hDr hst HB hinv hEn hEz hd hcur hdf
                  go_wp2_with (fail)
                  refine dR.out.mono ?_
                  rintro e w6 ⟨(⟨hc, _⟩ | ⟨_, q, rfl, hq, hbb⟩), hb6⟩
                  · exact absurd rfl hc
                  have H6 := hidIt (below_then HB5.out hb6)
                  have dD := hidIt (down_any g S' E w6 (hDr'.out.below hb6))
                  rw [hdn.out] at dD
                  have dS := hidIt (same_any (some ⟨q, 0, none⟩) da Z Z dl dc bs bs w6 ⟨hbb.bytes, hbz.out.symm, hdat.out.lt⟩ ⟨hdat.out.bytes.below H6.out, hdat.out.len, hdat.out.lt⟩)
                  rw [decide_eq_true rfl] at dS
                  clear hb6 dR hDr' hbb hq
                  go_wp2_with (fail)
                  refine dD.out.mono ?_
                  rintro e w7 ⟨rfl, rfl⟩
                  clear dD
                  go_wp2_with (fail)
                  refine dS.out.mono ?_
                  rintro e w7 ⟨rfl, rfl⟩
                  clear dS
                  go_wp2_with (fail)
                  go_ret
                  exact ⟨rfl, H6.out⟩
          · have t2 : ((c2 : Int) == 0) = false := by simp; omega
            go_wp2_with (fail)
            refine dW.out.mono ?_
            rintro e w4 ⟨rfl, S4, hD, hst⟩
            have H4 := hidIt (HB'.out.trans (hst.below HB'.out.size hSb.out))
            clear hD hst dW hDr' hc
            go_wp2_with (fail)
            go_ret
            exact ⟨rfl, H4.out⟩
  · rw [decide_eq_false hsm]
    clear hsm
    go_wp2_with (fail)
    go_ret
    exact ⟨rfl, H1.out⟩
end Go.Proofs.Ytlpggkdmjmlpkaa
