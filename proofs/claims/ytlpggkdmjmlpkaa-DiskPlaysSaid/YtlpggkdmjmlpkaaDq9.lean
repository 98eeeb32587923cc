import Derived.Test.YtlpggkdmjmlpkaaRf9
import Derived.Test.YtlpggkdmjmlpkaaDq6
import Derived.Test.YtlpggkdmjmlpkaaPerm
import Derived.Deep.RegionHeld3
namespace Go.Proofs.Ytlpggkdmjmlpkaa
open Go.RowKit
namespace Dsk
def setl (D : Dsk) (l : Int) : Dsk := { D with left := l }
theorem setl_self (D : Dsk) : D.setl D.left = D := rfl
theorem crN_setl (keep : Nat → Bool) (t : Nat) (D : Dsk) (l : Int) : ∀ k, crN keep t (D.setl l) k = ((crN keep t D k).1, (crN keep t D k).2.setl l)
  | 0 => rfl
  | k + 1 => by
    unfold crN
    rw [crN_setl keep t D l k]
    by_cases h : keep k = true
    · rw [if_pos h, if_pos h]; rfl
    · rw [if_neg h, if_neg h]; rfl
theorem rplay_same {D : Dsk} {l : Int} (h : D.down = false → l = D.left) (o : Opd) : ((D.setl l).rplay o).1 = (D.play o).1 ∧ ((D.setl l).rplay o).2.1 = (D.play o).2.1 ∧ ∃ l', ((D.setl l).rplay o).2.2 = (D.play o).2.2.setl l' ∧ ((D.play o).2.2.down = false → l' = (D.play o).2.2.left) := by
  by_cases hd : D.down = true
  · have hR : (D.setl l).down = true := hd
    have no : ∀ {p : Prop}, D.down = false → p := fun e => by rw [hd] at e; cases e
    unfold rplay play
    by_cases h0 : o.k = 0
    · simp only [if_pos h0]
      unfold Dsk.write
      rw [if_pos hd, if_pos hR]
      exact ⟨by trivial, by trivial, l, by first | rfl | trivial, no⟩
    · simp only [if_neg h0]
      by_cases h1 : o.k = 1
      · simp only [if_pos h1]
        unfold Dsk.read
        rw [if_pos hd, if_pos hR]
        exact ⟨by trivial, by trivial, l, by first | rfl | trivial, no⟩
      · simp only [if_neg h1]
        by_cases h2 : o.k = 2
        · simp only [if_pos h2]
          unfold Dsk.sync
          rw [if_pos hd, if_pos hR]
          exact ⟨by trivial, by trivial, l, by first | rfl | trivial, no⟩
        · simp only [if_neg h2]
          by_cases h3 : o.k = 3
          · simp only [if_pos h3]
            unfold Dsk.rfail
            rw [if_pos hR]
            exact ⟨by trivial, by trivial, l, by first | rfl | trivial, no⟩
          · simp only [if_neg h3]
            by_cases h4 : o.k = 4
            · simp only [if_pos h4]
              refine ⟨by trivial, by trivial, -1, ?_, fun _ => rfl⟩
              unfold Dsk.crash
              rw [show (D.setl l).np = D.np from rfl, show (D.setl l).size = D.size from rfl, crN_setl]
              rfl
            · simp only [if_neg h4]
              by_cases h5 : o.k = 5
              · simp only [if_pos h5]
                unfold Dsk.spoil
                by_cases hc : (0 ≤ o.s ∧ o.s < D.n) ∧ 0 ≤ o.n ∧ o.n < D.size
                · rw [if_pos hc, if_pos (show (0 ≤ o.s ∧ o.s < ((D.setl l).n : Int)) ∧ 0 ≤ o.n ∧ o.n < ((D.setl l).size : Int) from hc)]
                  exact ⟨by trivial, by trivial, l, by first | rfl | trivial, no⟩
                · rw [if_neg hc, if_neg (show ¬ ((0 ≤ o.s ∧ o.s < ((D.setl l).n : Int)) ∧ 0 ≤ o.n ∧ o.n < ((D.setl l).size : Int)) from hc)]
                  exact ⟨by trivial, by trivial, l, by first | rfl | trivial, no⟩
              · simp only [if_neg h5]
                exact ⟨by trivial, by trivial, l, rfl, no⟩
  · have hl : l = D.left := h (by simpa using hd)
    rw [hl, setl_self]
    have e : D.rplay o = D.play o := by
      unfold rplay play rfail
      rw [if_neg hd]
    rw [e]
    exact ⟨rfl, rfl, _, rfl, fun _ => rfl⟩
end Dsk
theorem DK.step {w w' : World} {S R R' : Nat → Prop} {g : Nat} {D : Dsk} (h : DK w S g D) (hst : Step w w' R R') (hd : ∀ b, S b → ¬ R b) : DK w' S g D := by
  obtain ⟨⟨dB, A, pv, P, h1, h2⟩, h3⟩ := h
  exact ⟨⟨dB, A, pv, P, h1.frame (fun q hq => hst.block q (h1.lt hq) (hd q (h2 q hq))), h2⟩, fun q hq => Nat.lt_of_lt_of_le (h3 q hq) hst.size⟩
theorem RK.step {w w' : World} {S R R' : Nat → Prop} {g : Nat} {D : Dsk} (h : RK w S g D) (hst : Step w w' R R') (hd : ∀ b, S b → ¬ R b) : RK w' S g D := by
  obtain ⟨⟨dv, lv, Q, C, P, PC, h1, h2⟩, h3⟩ := h
  exact ⟨⟨dv, lv, Q, C, P, PC, h1.frame (fun q hq => hst.block q (h1.lt hq) (hd q (h2 q hq))), h2⟩, fun q hq => Nat.lt_of_lt_of_le (h3 q hq) hst.size⟩
theorem RefX.sl2 {w : World} {g db n dc : Nat} {lv : Value} {Q C P PC : Nat → Nat} {D : Dsk} (h : RefX w g (.slice (some ⟨db, 0, none⟩) n dc) lv Q C P PC D) : Sl2 w (some ⟨db, 0, none⟩) D.n D.dur := fun i hi => by
  obtain ⟨b, c, e, _, _, hx⟩ := h.durc
  cases e
  exact ⟨db, 0, _, _, _, rfl, by rw [Nat.zero_add]; exact (hx i hi).1, (h.sec i hi).bytes, (h.wf.dl i hi).symm, h.wf.db i hi⟩
/-- both disks in one world -/
structure Two (w wr : World) (g gr : Nat) (S R : Nat → Prop) (D : Dsk) (l : Int) : Prop where
  dk : DK wr S g D
  rk : RK wr R gr (D.setl l)
  eq : D.down = false → l = D.left
  dis : ∀ b, S b → ¬ R b
  lo : ∀ b, S b → w.heap.size ≤ b
  rlo : ∀ b, R b → w.heap.size ≤ b
  bel : Below w.heap.size w wr
theorem Two.play {w wr w' : World} {g gr : Nat} {S S' R : Nat → Prop} {D : Dsk} {l : Int} (h : Two w wr g gr S R D l) (hst : Step wr w' S S') : RK w' R gr (D.setl l) ∧ (∀ b, S' b → ¬ R b) ∧ (∀ b, S' b → w.heap.size ≤ b) ∧ Below w.heap.size w w' := by
  refine ⟨h.rk.step hst (fun b hb hs => h.dis b hs hb), fun b hb hr => ?_, hst.lo h.bel.size h.lo, h.bel.trans (hst.below h.bel.size h.lo)⟩
  rcases hst.sub b hb with e | ⟨e, _⟩
  · exact h.dis b e hr
  · have := h.rk.2 b hr; omega
set_option maxRecDepth 100000 in
set_option maxHeartbeats 8000000 in
theorem dplays_walk (a : Option Addr) (len cap : Nat) (O : Nat → Opd) (A : Nat → Option Addr) (L C : Nat → Nat) (KA : Nat → Option Addr) (KL KC : Nat → Nat) (n z : Int) (w : World) (_ : (Lit.int .i64 n).wf = true) (_ : (Lit.int .i64 z).wf = true) (hO0 : OpsR w a len O A L C KA KL KC) :
    Calls Try.prog 4 #[.int .i64 n, .int .i64 z, .slice a len cap] w fun e w' => e = .returned (.bool true) ∧ Below w.heap.size w w' := by
  have hO := hidIt hO0
  clear hO0
  go_enter Try.func4, Try.ntmps4
  go_wp2_with (fail)
  refine (awake_any _).mono ?_
  rintro e w1 ⟨rfl, hb1⟩
  have H1 := hidIt hb1
  clear hb1
  go_wp2_with (fail)
  refine (small_any n z a len cap w1).mono ?_
  rintro e w2 ⟨rfl, rfl⟩
  by_cases hsm : 1 ≤ n ∧ n ≤ 8 ∧ 1 ≤ z ∧ z ≤ 8 ∧ len ≤ 40
  · rw [decide_eq_true hsm]
    obtain ⟨N, rfl⟩ : ∃ N : Nat, n = (N : Int) := ⟨n.toNat, by omega⟩
    obtain ⟨Z, rfl⟩ : ∃ Z : Nat, z = (Z : Int) := ⟨z.toNat, by omega⟩
    obtain ⟨hN1, hN2, hZ1, hZ2, hL⟩ := hsm
    replace hN1 : 1 ≤ N := by omega
    replace hN2 : N ≤ 8 := by omega
    replace hZ1 : 1 ≤ Z := by omega
    replace hZ2 : Z ≤ 8 := by omega
    go_wp2_with (fail)
    refine (new_any (N : Int) (Z : Int) w1).mono ?_
    rintro e w2 hN
    unfold NewR at hN
    rw [if_pos (by omega)] at hN
    obtain ⟨g, S, rfl, hD, hS, hb2⟩ := hN
    simp only [Int.toNat_natCast] at hD
    have H2 := hidIt (below_then H1.out hb2)
    have hSa : Hid (∀ b, S b → w.heap.size ≤ b) := fun b hb => Nat.le_trans H1.out.size (hS b hb)
    have hD2 := hidIt hD
    have hps : Hid (∀ k, (∀ i, i < k → (O i).good) → ((Dsk.fresh N Z).plays O k).WF ∧ ((Dsk.fresh N Z).plays O k).size = Z ∧ ((Dsk.fresh N Z).plays O k).n = N ∧ ((Dsk.fresh N Z).plays O k).np ≤ 0 + k) := Dsk.plays_ok (Dsk.fresh_wf hN1 (by omega) hZ1 (by omega)) O
    obtain ⟨D0, hD0⟩ : ∃ D0, Hid (Dsk.fresh N Z = D0) := ⟨_, rfl⟩
    rw [hD0.out] at hD2 hps
    clear hD hS hb2 H1
    go_wp2_with (fail)
    refine (refnew_any N Z (by omega) (by omega) w2).mono ?_
    rintro e w3 ⟨gr, dv, Qr, rfl, hRN⟩
    have hT0 : Hid (Two w w3 g gr S (fun b => w2.heap.size ≤ b ∧ b < w3.heap.size) D0 D0.left) := by
      have hX := hRN.rx hN1 (by omega) hZ1 (by omega)
      refine ⟨hD2.out.below hRN.bel, ⟨⟨_, _, _, _, _, _, by rw [← hD0.out]; exact hX, fun b hb => ⟨?_, by rw [← hD0.out] at hb; exact hX.lt hb⟩⟩, fun b hb => hb.2⟩, fun _ => rfl, fun b hb hr => by have := hD2.out.2 b hb; omega, hSa.out, fun b hb => Nat.le_trans H2.out.size hb.1, below_then H2.out hRN.bel⟩
      rw [← hD0.out] at hb
      rcases hb with e | e | e | ⟨i, hi, e⟩ | ⟨j, hj, _⟩
      · rw [e]; exact hRN.g
      · exact (own_lo hRN.row e).1
      · simp [Value.ownBlock] at e
      · rw [← e]; exact (hRN.sec i hi).2
      · exact absurd hj (Nat.not_lt_zero _)
    clear hRN hD2 hSa H2
    go_wp2_with (fail)
    go_loopw [10] (fun i wr => ∃ k : Nat, i = .int .i64 (k : Int) ∧ k ≤ len ∧ Hid (∃ S' R' l, Two w wr g gr S' R' (D0.plays O k) l)) (fun i _ => len - (intOf i).toNat)
    case atStart => exact ⟨0, rfl, by omega, _, _, _, hT0.out⟩
    case round =>
      obtain ⟨k, rfl, hk, hr⟩ := hrel
      obtain ⟨S', R', l, hT⟩ := hr.out
      clear hr hT0
      by_cases hkn : k < len
      · obtain ⟨b, off, hc⟩ := hO.out.at hT.bel hkn
        have hov := hidIt (hO.out.opv hT.bel hT.lo hkn)
        obtain ⟨q1, q2, q3, q4⟩ := hps.out k (fun i hi => hO.out.good (by omega))
        obtain ⟨q1', q2', q3', q4'⟩ := hps.out (k + 1) (fun i hi => hO.out.good (by omega))
        obtain ⟨D, hD⟩ : ∃ D, Hid (D0.plays O k = D) := ⟨_, rfl⟩
        have hD' : D0.plays O (k + 1) = (D.play (O k)).2.2 := by rw [← hD.out]; rfl
        rw [hD'] at q1' q2' q3' q4'
        rw [hD.out] at hT q4
        obtain ⟨x1, x2, l', x3, x4⟩ := Dsk.rplay_same hT.eq (O k)
        have dP := hidIt (play2_any g S' D (O k) (A k) (L k) (C k) (KA k) (KL k) (KC k) wr hT.dk hov (by omega))
        have dM : Hid (∀ w3 S3, DK w3 S3 g (D.play (O k)).2.2 → Step wr w3 S' S3 → Calls Try.prog 23 #[.pointer (some ⟨gr, 0, none⟩), .agg #[.int .i64 (O k).k, .int .i64 (O k).s, .slice (A k) (L k) (C k), .int .i64 (O k).n, .slice (KA k) (KL k) (KC k), .int .u8 ((O k).x : Int)]] w3 fun e w4 => ∃ a c R4, e = .returned (.tuple #[.slice a (D.play (O k)).2.1.length c, .int .i64 ((D.play (O k)).1 : Int)]) ∧ Rd w4 a (D.play (O k)).2.1.length (D.play (O k)).2.1 ∧ Step w3 w4 R' R4 ∧ Two w w4 g gr S3 R4 (D.play (O k)).2.2 l') := fun w3 S3 hD3 hst3 => by
          obtain ⟨y1, y2, y3, y4⟩ := hT.play hst3
          have hov3 := hidIt (hO.out.opv y4 hT.rlo hkn)
          refine (model_any gr R' (D.setl l) (O k) (A k) (L k) (C k) (KA k) (KL k) (KC k) w3 y1 hov3 (by show D.np ≤ _; omega)).mono ?_
          rintro e w4 ⟨a, c, R4, e1, e2, e3, e4⟩
          rw [x1, x2] at e1
          rw [x2] at e2
          rw [x3] at e3
          refine ⟨a, c, R4, e1, e2, e4, hD3.step e4 y2, e3, x4, fun b hb hr => ?_, y3, e4.lo y4.size hT.rlo, y4.trans (e4.below y4.size hT.rlo)⟩
          rcases e4.sub b hr with e | ⟨e, _⟩
          · exact y2 b hb e
          · have := hD3.2 b hb; omega
        have hTd := hidIt (show ∀ b, R' b → b < wr.heap.size from hT.rk.2)
        have hB := hidIt hT.bel
        have hcw : Hid (∀ W, Below w.heap.size w W → OpC W a k (O k) (A k) (L k) (C k) (KA k) (KL k) (KC k) b off) := fun W hW => by
          obtain ⟨b', off', hc'⟩ := hO.out.at hW hkn
          have e1 := hc.1
          have e2 := hc'.1
          rw [e1] at e2
          cases e2
          exact hc'
        obtain ⟨D1, hD1⟩ : ∃ D1, Hid ((D.play (O k)).2.2 = D1) := ⟨_, rfl⟩
        obtain ⟨ob, hob⟩ : ∃ ob, Hid ((D.play (O k)).2.1 = ob) := ⟨_, rfl⟩
        obtain ⟨oc, hoc⟩ : ∃ oc, Hid ((D.play (O k)).1 = oc) := ⟨_, rfl⟩
        rw [hD1.out] at q1' q2' q3' q4' hD'
        simp only [hD1.out, hob.out, hoc.out] at dM
        have hfin : Hid (∀ e w3, PlR2 wr S' g D (O k) e w3 → ∃ a3 c3 S3, e = .returned (.tuple #[.slice a3 ob.length c3, .int .i64 (oc : Int)]) ∧ Rd w3 a3 ob.length ob ∧ (∀ x, a3 = some x → x.block < w3.heap.size ∧ ¬ R' x.block) ∧ DK w3 S3 g D1 ∧ Step wr w3 S' S3 ∧ Below w.heap.size w w3) := fun e w3 ⟨a3, c3, S3, e1, e2, e3, e4, e5⟩ => by
          rw [hob.out, hoc.out] at e1
          rw [hob.out] at e2
          rw [hD1.out] at e4
          exact ⟨a3, c3, S3, e1, e2, fun x hx => ⟨(e3 x hx).1.1, fun er => by have := hTd.out _ er; have := (e3 x hx).2; omega⟩, e4, e5, hT.bel.trans (e5.below hT.bel.size hT.lo)⟩
        obtain ⟨ha, c0, c1, c2, c3, c4, c5⟩ := hc
        subst ha
        have t1 : (k : Int) < (len : Int) := by omega
        replace q1' := hidIt q1'
        replace q2' := hidIt q2'
        replace q3' := hidIt q3'
        replace hD' := hidIt hD'
        clear hT hov q1 q2 q3 q4 q4' x1 x2 x3 x4 hB
        go_wp2_with (fail)
        refine dP.out.mono ?_
        rintro e w3 hp
        obtain ⟨a3, cc3, S3, rfl, z1, z2, z3, z4, z5⟩ := hfin.out e w3 hp
        have dM3 := hidIt (dM.out w3 S3 z3 z4)
        obtain ⟨_, d0, d1, d2, d3, d4, d5⟩ := hcw.out w3 z5
        replace z1 := hidIt z1
        replace z2 := hidIt z2
        clear hp hfin dP dM z3 z4 z5 hcw c0 c1 c2 c3 c4 c5
        go_wp2_with (fail)
        refine dM3.out.mono ?_
        rintro e w4 ⟨a4, c4, R4, rfl, m1, m2, m3⟩
        have z1' : Rd w4 a3 ob.length ob := ⟨z1.out.by_.blocks (fun x hx => m2.block _ (z2.out x hx).1 (z2.out x hx).2), z1.out.len, z1.out.lt⟩
        have dSm : Hid (∀ W, Below w4.heap.size w4 W → Calls Try.prog 24 #[.slice a3 ob.length cc3, .slice a4 ob.length c4] W fun e w' => e = .returned (.bool true) ∧ W = w') := fun W hW => by
          have := same_any a3 a4 ob.length cc3 ob.length c4 ob ob W (z1'.below hW) (m1.below hW)
          rw [decide_eq_true rfl] at this
          exact this
        have dPe : Hid (∀ W, Below w4.heap.size w4 W → Calls Try.prog 17 #[.pointer (some ⟨g, 0, none⟩)] W fun e w' => e = .returned (.int .i64 (D1.np : Int)) ∧ W = w') := fun W hW => pending_any g S3 D1 W (m3.dk.below hW)
        have dDo : Hid (∀ W, Below w4.heap.size w4 W → Calls Try.prog 16 #[.pointer (some ⟨g, 0, none⟩)] W fun e w' => e = .returned (.bool D1.down) ∧ W = w') := fun W hW => down_any g S3 D1 W (m3.dk.below hW)
        obtain ⟨⟨rdv, rlv, rQ, rC, rP, rPC, hX, _⟩, _⟩ := m3.rk
        obtain ⟨rdb, rdc, rfl, _, _, _⟩ := hX.durc
        obtain ⟨ra, rc, rfl, _, _⟩ := hX.pend
        have g1 : w4.cell? ⟨gr, 1, none⟩ = some (.slice (some ⟨rdb, 0, none⟩) D1.n rdc) := hX.fields.dur
        have g2 : w4.cell? ⟨gr, 2, none⟩ = some (.slice ra D1.np rc) := hX.fields.pend
        have g3 : w4.cell? ⟨gr, 3, none⟩ = some (.bool D1.down) := hX.fields.down
        have dIm : Hid (∀ W, Below w4.heap.size w4 W → Calls Try.prog 19 #[.pointer (some ⟨g, 0, none⟩)] W fun e w' => ∃ R, e = .returned (.slice (some ⟨R, 0, none⟩) D1.n D1.n) ∧ Below W.heap.size W w' ∧ w'.cell? ⟨gr, 1, none⟩ = some (.slice (some ⟨rdb, 0, none⟩) D1.n rdc) ∧ ∀ W2, Below w'.heap.size w' W2 → Calls Try.prog 18 #[.slice (some ⟨R, 0, none⟩) D1.n D1.n, .slice (some ⟨rdb, 0, none⟩) D1.n rdc] W2 fun e w' => e = .returned (.bool true) ∧ Below W2.heap.size W2 w') := fun W hW => by
          refine (image_any g S3 D1 W (m3.dk.below hW)).mono ?_
          rintro e w5 ⟨R, q, rfl, hI, hb5⟩
          have hb := below_then hW hb5
          refine ⟨R, rfl, hb5, (hb.cell (p := ⟨gr, 1, none⟩) (bytes_lt g1)).trans g1, fun W2 hW2 => ?_⟩
          have hb2 := below_then hb hW2
          exact sameAll_any _ _ _ _ _ _ D1.dur D1.dur W2 ((hI.sl2 q1'.out.dl q1'.out.db).below hW2) (show Sl2 W2 _ _ _ from Sl2.below (show Sl2 w4 (some ⟨rdb, 0, none⟩) D1.n D1.dur from hX.sl2) hb2) (by rw [q3'.out]; omega) true ⟨fun _ => ⟨rfl, fun _ _ => rfl⟩, fun _ => rfl⟩
        have hfin2 : Hid (∀ W, Below w4.heap.size w4 W → ∃ S' R' l, Two w W g gr S' R' (D0.plays O (k + 1)) l) := fun W hW => by
          rw [hD'.out]
          exact ⟨_, _, _, m3.dk.below hW, m3.rk.below hW, m3.eq, m3.dis, m3.lo, m3.rlo, below_then m3.bel hW⟩
        obtain ⟨pn, hpn⟩ : ∃ pn, Hid (D1.np = pn) := ⟨_, rfl⟩
        obtain ⟨nn, hnn⟩ : ∃ nn, Hid (D1.n = nn) := ⟨_, rfl⟩
        obtain ⟨dn, hdn⟩ : ∃ dn, Hid (D1.down = dn) := ⟨_, rfl⟩
        obtain ⟨ol, hol⟩ : ∃ ol, Hid (ob.length = ol) := ⟨_, rfl⟩
        rw [hpn.out] at g2 dPe
        simp only [hnn.out] at g1 dIm
        rw [hdn.out] at g3 dDo
        rw [hol.out] at dSm
        have hOL : ob.length = ol := hol.out
        have s1 : ((oc : Int) != (oc : Int)) = false := by simp
        have s2 : ((pn : Int) != (pn : Int)) = false := by simp
        have s3 : (dn != dn) = false := by simp
        clear z1 z2 z1' m1 m2 m3 hX hD' q1' q2' q3' dM3 d0 d1 d2 d3 d4 d5 hD hD1 hob hoc hpn hnn hdn hTd
        clear hps hO hD0 hN1 hN2 hZ1 hZ2 hol
        go_wp2_with (fail)
        clear t1
        try rw [hOL]
        refine wp_region_held_drew (S := fun W => W.cell? ⟨gr, 1, none⟩ = some (.slice (some ⟨rdb, 0, none⟩) nn rdc) ∧ W.cell? ⟨gr, 2, none⟩ = some (.slice ra pn rc) ∧ W.cell? ⟨gr, 3, none⟩ = some (.bool dn) ∧ Below w4.heap.size w4 W) (by kernel_rfl) ⟨g1, g2, g3, Below.drew (Below.refl _ _)⟩ (fun hHeld => ?_)
        refine wpAnyH_take_at (i := 0) (some 55) (.slice a3 ol cc3) rfl rfl (by kernel_rfl) (by kernel_rfl) (by kernel_rfl) (fun _ _ _ h => h) (Or.inl ⟨by rfl, ?_⟩) hHeld ?_
        · (intro W hSw; obtain ⟨y1, y2, y3, y4⟩ := hSw; go_simp)
        simp only [Act.put, List.setIfInBounds_toArray, List.set_cons_zero, List.set_cons_succ]
        refine wpAnyH_take_at (i := 1) (some 56) (.slice a4 ol c4) rfl rfl (by kernel_rfl) (by kernel_rfl) (by kernel_rfl) (fun _ _ _ h => h) (Or.inl ⟨by rfl, ?_⟩) hHeld ?_
        · (intro W hSw; obtain ⟨y1, y2, y3, y4⟩ := hSw; go_simp)
        simp only [Act.put, List.setIfInBounds_toArray, List.set_cons_zero, List.set_cons_succ]
        refine wpAnyH_only (i := 2) (by kernel_rfl) rfl (by rfl) (fun K2 hK2 => ?_)
        go_simp
        (with_reducible refine Calls.mono (dSm.out _ ?_) ?_)
        · exact hHeld.2.2.2
        rintro e W2 ⟨rfl, rfl⟩
        refine hK2.out _ _ hHeld ?_
        try simp only [Act.put, List.setIfInBounds_toArray, List.set_cons_zero, List.set_cons_succ]
        refine wpAnyH_take_at (i := 3) (some 58) (.bool false) rfl rfl (by kernel_rfl) (by kernel_rfl) (by kernel_rfl) (fun _ _ _ h => h) (Or.inl ⟨by rfl, ?_⟩) hHeld ?_
        · (intro W hSw; obtain ⟨y1, y2, y3, y4⟩ := hSw; go_simp)
        simp only [Act.put, List.setIfInBounds_toArray, List.set_cons_zero, List.set_cons_succ]
        refine wpAnyH_take_at (i := 4) (some 59) (.bool false) rfl rfl (by kernel_rfl) (by kernel_rfl) (by kernel_rfl) (fun _ _ _ h => h) (Or.inl ⟨by rfl, ?_⟩) hHeld ?_
        · (intro W hSw; obtain ⟨y1, y2, y3, y4⟩ := hSw; go_simp)
        simp only [Act.put, List.setIfInBounds_toArray, List.set_cons_zero, List.set_cons_succ]
        refine wpAnyH_take_at (i := 5) (some 60) (.int .i64 (oc : Int)) rfl rfl (by kernel_rfl) (by kernel_rfl) (by kernel_rfl) (fun _ _ _ h => h) (Or.inl ⟨by rfl, ?_⟩) hHeld ?_
        · (intro W hSw; obtain ⟨y1, y2, y3, y4⟩ := hSw; go_simp)
        simp only [Act.put, List.setIfInBounds_toArray, List.set_cons_zero, List.set_cons_succ]
        refine wpAnyH_take_at (i := 6) (some 61) (.int .i64 (oc : Int)) rfl rfl (by kernel_rfl) (by kernel_rfl) (by kernel_rfl) (fun _ _ _ h => h) (Or.inl ⟨by rfl, ?_⟩) hHeld ?_
        · (intro W hSw; obtain ⟨y1, y2, y3, y4⟩ := hSw; go_simp)
        simp only [Act.put, List.setIfInBounds_toArray, List.set_cons_zero, List.set_cons_succ]
        refine wpAnyH_take_at (i := 7) (some 62) (.bool false) rfl rfl (by kernel_rfl) (by kernel_rfl) (by kernel_rfl) (fun _ _ _ h => h) (Or.inl ⟨by rfl, ?_⟩) hHeld ?_
        · (intro W hSw; obtain ⟨y1, y2, y3, y4⟩ := hSw; go_simp)
        simp only [Act.put, List.setIfInBounds_toArray, List.set_cons_zero, List.set_cons_succ]
        refine wpAnyH_take_at (i := 8) (some 63) (.bool false) rfl rfl (by kernel_rfl) (by kernel_rfl) (by kernel_rfl) (fun _ _ _ h => h) (Or.inl ⟨by rfl, ?_⟩) hHeld ?_
        · (intro W hSw; obtain ⟨y1, y2, y3, y4⟩ := hSw; go_simp)
        simp only [Act.put, List.setIfInBounds_toArray, List.set_cons_zero, List.set_cons_succ]
        refine wpAnyH_take_at (i := 9) (some 64) (.bool false) rfl rfl (by kernel_rfl) (by kernel_rfl) (by kernel_rfl) (fun _ _ _ h => h) (Or.inl ⟨by rfl, ?_⟩) hHeld ?_
        · (intro W hSw; obtain ⟨y1, y2, y3, y4⟩ := hSw; go_simp)
        simp only [Act.put, List.setIfInBounds_toArray, List.set_cons_zero, List.set_cons_succ]
        refine wpAnyH_take_at (i := 10) (some 65) (.pointer (some ⟨g, 0, none⟩)) rfl rfl (by kernel_rfl) (by kernel_rfl) (by kernel_rfl) (fun _ _ _ h => h) (Or.inl ⟨by rfl, ?_⟩) hHeld ?_
        · (intro W hSw; obtain ⟨y1, y2, y3, y4⟩ := hSw; go_simp)
        simp only [Act.put, List.setIfInBounds_toArray, List.set_cons_zero, List.set_cons_succ]
        refine wpAnyH_take_at (i := 12) (some 67) (.pointer (some ⟨gr, 0, none⟩)) rfl rfl (by kernel_rfl) (by kernel_rfl) (by kernel_rfl) (fun _ _ _ h => h) (Or.inl ⟨by rfl, ?_⟩) hHeld ?_
        · (intro W hSw; obtain ⟨y1, y2, y3, y4⟩ := hSw; go_simp)
        simp only [Act.put, List.setIfInBounds_toArray, List.set_cons_zero, List.set_cons_succ]
        refine wpAnyH_take_at (i := 13) (some 68) (.pointer (some ⟨gr, 0, none⟩)) rfl rfl (by kernel_rfl) (by kernel_rfl) (by kernel_rfl) (fun _ _ _ h => h) (Or.inl ⟨by rfl, ?_⟩) hHeld ?_
        · (intro W hSw; obtain ⟨y1, y2, y3, y4⟩ := hSw; go_simp)
        simp only [Act.put, List.setIfInBounds_toArray, List.set_cons_zero, List.set_cons_succ]
        refine wpAnyH_take_at (i := 14) (some 69) (.pointer (some ⟨gr, 2, none⟩)) rfl rfl (by kernel_rfl) (by kernel_rfl) (by kernel_rfl) (fun _ _ _ h => h) (Or.inl ⟨by rfl, ?_⟩) hHeld ?_
        · (intro W hSw; obtain ⟨y1, y2, y3, y4⟩ := hSw; go_simp)
        simp only [Act.put, List.setIfInBounds_toArray, List.set_cons_zero, List.set_cons_succ]
        refine wpAnyH_take_at (i := 15) (some 70) (.slice ra pn rc) rfl rfl (by kernel_rfl) (by kernel_rfl) (by kernel_rfl) (fun _ _ _ h => h) (Or.inl ⟨by rfl, ?_⟩) hHeld ?_
        · (intro W hSw; obtain ⟨y1, y2, y3, y4⟩ := hSw; go_simp)
        simp only [Act.put, List.setIfInBounds_toArray, List.set_cons_zero, List.set_cons_succ]
        refine wpAnyH_take_at (i := 16) (some 71) (.int .i64 (pn : Int)) rfl rfl (by kernel_rfl) (by kernel_rfl) (by kernel_rfl) (fun _ _ _ h => h) (Or.inl ⟨by rfl, ?_⟩) hHeld ?_
        · (intro W hSw; obtain ⟨y1, y2, y3, y4⟩ := hSw; go_simp)
        simp only [Act.put, List.setIfInBounds_toArray, List.set_cons_zero, List.set_cons_succ]
        refine wpAnyH_only (i := 11) (by kernel_rfl) rfl (by rfl) (fun K11 hK11 => ?_)
        go_simp
        (with_reducible refine Calls.mono (dPe.out _ ?_) ?_)
        · exact hHeld.2.2.2
        rintro e W11 ⟨rfl, rfl⟩
        refine hK11.out _ _ hHeld ?_
        try simp only [Act.put, List.setIfInBounds_toArray, List.set_cons_zero, List.set_cons_succ]
        refine wpAnyH_take_at (i := 17) (some 72) (.bool false) rfl rfl (by kernel_rfl) (by kernel_rfl) (by kernel_rfl) (fun _ _ _ h => h) (Or.inl ⟨by rfl, ?_⟩) hHeld ?_
        · (intro W hSw; obtain ⟨y1, y2, y3, y4⟩ := hSw; go_simp)
        simp only [Act.put, List.setIfInBounds_toArray, List.set_cons_zero, List.set_cons_succ]
        refine wpAnyH_take_at (i := 18) (some 73) (.bool false) rfl rfl (by kernel_rfl) (by kernel_rfl) (by kernel_rfl) (fun _ _ _ h => h) (Or.inl ⟨by rfl, ?_⟩) hHeld ?_
        · (intro W hSw; obtain ⟨y1, y2, y3, y4⟩ := hSw; go_simp)
        simp only [Act.put, List.setIfInBounds_toArray, List.set_cons_zero, List.set_cons_succ]
        refine wpAnyH_take_at (i := 19) (some 74) (.bool false) rfl rfl (by kernel_rfl) (by kernel_rfl) (by kernel_rfl) (fun _ _ _ h => h) (Or.inl ⟨by rfl, ?_⟩) hHeld ?_
        · (intro W hSw; obtain ⟨y1, y2, y3, y4⟩ := hSw; go_simp)
        simp only [Act.put, List.setIfInBounds_toArray, List.set_cons_zero, List.set_cons_succ]
        refine wpAnyH_take_at (i := 20) (some 75) (.pointer (some ⟨g, 0, none⟩)) rfl rfl (by kernel_rfl) (by kernel_rfl) (by kernel_rfl) (fun _ _ _ h => h) (Or.inl ⟨by rfl, ?_⟩) hHeld ?_
        · (intro W hSw; obtain ⟨y1, y2, y3, y4⟩ := hSw; go_simp)
        simp only [Act.put, List.setIfInBounds_toArray, List.set_cons_zero, List.set_cons_succ]
        refine wpAnyH_take_at (i := 22) (some 77) (.pointer (some ⟨gr, 0, none⟩)) rfl rfl (by kernel_rfl) (by kernel_rfl) (by kernel_rfl) (fun _ _ _ h => h) (Or.inl ⟨by rfl, ?_⟩) hHeld ?_
        · (intro W hSw; obtain ⟨y1, y2, y3, y4⟩ := hSw; go_simp)
        simp only [Act.put, List.setIfInBounds_toArray, List.set_cons_zero, List.set_cons_succ]
        refine wpAnyH_take_at (i := 23) (some 78) (.pointer (some ⟨gr, 0, none⟩)) rfl rfl (by kernel_rfl) (by kernel_rfl) (by kernel_rfl) (fun _ _ _ h => h) (Or.inl ⟨by rfl, ?_⟩) hHeld ?_
        · (intro W hSw; obtain ⟨y1, y2, y3, y4⟩ := hSw; go_simp)
        simp only [Act.put, List.setIfInBounds_toArray, List.set_cons_zero, List.set_cons_succ]
        refine wpAnyH_take_at (i := 24) (some 79) (.pointer (some ⟨gr, 3, none⟩)) rfl rfl (by kernel_rfl) (by kernel_rfl) (by kernel_rfl) (fun _ _ _ h => h) (Or.inl ⟨by rfl, ?_⟩) hHeld ?_
        · (intro W hSw; obtain ⟨y1, y2, y3, y4⟩ := hSw; go_simp)
        simp only [Act.put, List.setIfInBounds_toArray, List.set_cons_zero, List.set_cons_succ]
        refine wpAnyH_take_at (i := 25) (some 80) (.bool dn) rfl rfl (by kernel_rfl) (by kernel_rfl) (by kernel_rfl) (fun _ _ _ h => h) (Or.inl ⟨by rfl, ?_⟩) hHeld ?_
        · (intro W hSw; obtain ⟨y1, y2, y3, y4⟩ := hSw; go_simp)
        simp only [Act.put, List.setIfInBounds_toArray, List.set_cons_zero, List.set_cons_succ]
        refine wpAnyH_only (i := 21) (by kernel_rfl) rfl (by rfl) (fun K21 hK21 => ?_)
        go_simp
        (with_reducible refine Calls.mono (dDo.out _ ?_) ?_)
        · exact hHeld.2.2.2
        rintro e W21 ⟨rfl, rfl⟩
        refine hK21.out _ _ hHeld ?_
        try simp only [Act.put, List.setIfInBounds_toArray, List.set_cons_zero, List.set_cons_succ]
        refine wpAnyH_take_at (i := 26) (some 81) (.bool false) rfl rfl (by kernel_rfl) (by kernel_rfl) (by kernel_rfl) (fun _ _ _ h => h) (Or.inl ⟨by rfl, ?_⟩) hHeld ?_
        · (intro W hSw; obtain ⟨y1, y2, y3, y4⟩ := hSw; go_simp)
        simp only [Act.put, List.setIfInBounds_toArray, List.set_cons_zero, List.set_cons_succ]
        refine wpAnyH_take_at (i := 27) (some 82) (.bool false) rfl rfl (by kernel_rfl) (by kernel_rfl) (by kernel_rfl) (fun _ _ _ h => h) (Or.inl ⟨by rfl, ?_⟩) hHeld ?_
        · (intro W hSw; obtain ⟨y1, y2, y3, y4⟩ := hSw; go_simp)
        simp only [Act.put, List.setIfInBounds_toArray, List.set_cons_zero, List.set_cons_succ]
        refine wpAnyH_take_at (i := 28) (some 83) (.bool false) rfl rfl (by kernel_rfl) (by kernel_rfl) (by kernel_rfl) (fun _ _ _ h => h) (Or.inl ⟨by rfl, ?_⟩) hHeld ?_
        · (intro W hSw; obtain ⟨y1, y2, y3, y4⟩ := hSw; go_simp)
        simp only [Act.put, List.setIfInBounds_toArray, List.set_cons_zero, List.set_cons_succ]
        refine wpAnyH_take_at (i := 29) (some 84) (.pointer (some ⟨g, 0, none⟩)) rfl rfl (by kernel_rfl) (by kernel_rfl) (by kernel_rfl) (fun _ _ _ h => h) (Or.inl ⟨by rfl, ?_⟩) hHeld ?_
        · (intro W hSw; obtain ⟨y1, y2, y3, y4⟩ := hSw; go_simp)
        simp only [Act.put, List.setIfInBounds_toArray, List.set_cons_zero, List.set_cons_succ]
        refine wpAnyH_take_at (i := 31) (some 86) (.pointer (some ⟨gr, 0, none⟩)) rfl rfl (by kernel_rfl) (by kernel_rfl) (by kernel_rfl) (fun _ _ _ h => h) (Or.inl ⟨by rfl, ?_⟩) hHeld ?_
        · (intro W hSw; obtain ⟨y1, y2, y3, y4⟩ := hSw; go_simp)
        simp only [Act.put, List.setIfInBounds_toArray, List.set_cons_zero, List.set_cons_succ]
        refine wpAnyH_take_at (i := 32) (some 87) (.pointer (some ⟨gr, 0, none⟩)) rfl rfl (by kernel_rfl) (by kernel_rfl) (by kernel_rfl) (fun _ _ _ h => h) (Or.inl ⟨by rfl, ?_⟩) hHeld ?_
        · (intro W hSw; obtain ⟨y1, y2, y3, y4⟩ := hSw; go_simp)
        simp only [Act.put, List.setIfInBounds_toArray, List.set_cons_zero, List.set_cons_succ]
        refine wpAnyH_take_at (i := 33) (some 88) (.pointer (some ⟨gr, 1, none⟩)) rfl rfl (by kernel_rfl) (by kernel_rfl) (by kernel_rfl) (fun _ _ _ h => h) (Or.inl ⟨by rfl, ?_⟩) hHeld ?_
        · (intro W hSw; obtain ⟨y1, y2, y3, y4⟩ := hSw; go_simp)
        simp only [Act.put, List.setIfInBounds_toArray, List.set_cons_zero, List.set_cons_succ]
        refine wpAnyH_take_at (i := 34) (some 89) (.slice (some ⟨rdb, 0, none⟩) nn rdc) rfl rfl (by kernel_rfl) (by kernel_rfl) (by kernel_rfl) (fun _ _ _ h => h) (Or.inl ⟨by rfl, ?_⟩) hHeld ?_
        · (intro W hSw; obtain ⟨y1, y2, y3, y4⟩ := hSw; go_simp)
        simp only [Act.put, List.setIfInBounds_toArray, List.set_cons_zero, List.set_cons_succ]
        refine wpAnyH_only (i := 30) (by kernel_rfl) rfl (by rfl) (fun K30 hK30 => ?_)
        go_simp
        (with_reducible refine Calls.mono (dIm.out _ ?_) ?_)
        · exact hHeld.2.2.2
        rintro e W30 ⟨R6, rfl, hb6, _, dSA⟩
        have hHeld2 : (fun W : World => W.cell? ⟨gr, 1, none⟩ = some (.slice (some ⟨rdb, 0, none⟩) nn rdc) ∧ W.cell? ⟨gr, 2, none⟩ = some (.slice ra pn rc) ∧ W.cell? ⟨gr, 3, none⟩ = some (.bool dn) ∧ Below w4.heap.size w4 W) W30 := ⟨(hb6.cell (p := ⟨gr, 1, none⟩) (bytes_lt hHeld.1)).trans hHeld.1, (hb6.cell (p := ⟨gr, 2, none⟩) (bytes_lt hHeld.2.1)).trans hHeld.2.1, (hb6.cell (p := ⟨gr, 3, none⟩) (bytes_lt hHeld.2.2.1)).trans hHeld.2.2.1, below_then hHeld.2.2.2 hb6⟩
        refine hK30.out _ _ hHeld2 ?_
        try simp only [Act.put, List.setIfInBounds_toArray, List.set_cons_zero, List.set_cons_succ]
        refine wpAnyH_only (i := 35) (by kernel_rfl) rfl (by rfl) (fun K35 hK35 => ?_)
        go_simp
        (with_reducible refine Calls.mono (dSA _ ?_) ?_)
        · exact Below.refl _ _
        rintro e W35 ⟨rfl, hb7⟩
        have hHeld3 : (fun W : World => W.cell? ⟨gr, 1, none⟩ = some (.slice (some ⟨rdb, 0, none⟩) nn rdc) ∧ W.cell? ⟨gr, 2, none⟩ = some (.slice ra pn rc) ∧ W.cell? ⟨gr, 3, none⟩ = some (.bool dn) ∧ Below w4.heap.size w4 W) W35 := ⟨(hb7.cell (p := ⟨gr, 1, none⟩) (bytes_lt hHeld2.1)).trans hHeld2.1, (hb7.cell (p := ⟨gr, 2, none⟩) (bytes_lt hHeld2.2.1)).trans hHeld2.2.1, (hb7.cell (p := ⟨gr, 3, none⟩) (bytes_lt hHeld2.2.2.1)).trans hHeld2.2.2.1, below_then hHeld2.2.2.2 hb7⟩
        refine hK35.out _ _ hHeld3 ?_
        try simp only [Act.put, List.setIfInBounds_toArray, List.set_cons_zero, List.set_cons_succ]
        refine wpAnyH_take_at (i := 36) (some 91) (.bool false) rfl rfl (by kernel_rfl) (by kernel_rfl) (by kernel_rfl) (fun _ _ _ h => h) (Or.inl ⟨by rfl, ?_⟩) hHeld3 ?_
        · (intro W hSw; obtain ⟨y1, y2, y3, y4⟩ := hSw; go_simp)
        simp only [Act.put, List.setIfInBounds_toArray, List.set_cons_zero, List.set_cons_succ]
        refine wpAnyH_take_at (i := 37) (some 92) (.bool false) rfl rfl (by kernel_rfl) (by kernel_rfl) (by kernel_rfl) (fun _ _ _ h => h) (Or.inl ⟨by rfl, ?_⟩) hHeld3 ?_
        · (intro W hSw; obtain ⟨y1, y2, y3, y4⟩ := hSw; go_simp)
        simp only [Act.put, List.setIfInBounds_toArray, List.set_cons_zero, List.set_cons_succ]
        refine wpAnyH_done (by kernel_rfl) ?_ _
        have hf := hidIt (hfin2.out _ hHeld3.2.2.2)
        clear hHeld hHeld2 hHeld3
        go_wp2_with (fail)
        exact ⟨⟨k + 1, by go_num, by omega, hf⟩, by simp [intOf]; omega⟩
      · have hkn' : k = len := by omega
        have t1 : ¬ (k : Int) < (len : Int) := by omega
        have HB := hidIt hT.bel
        clear hT
        go_wp2_with (fail)
        go_ret
        exact ⟨rfl, HB.out⟩
  · rw [decide_eq_false hsm]
    clear hsm
    go_wp2_with (fail)
    go_ret
    exact ⟨rfl, H1.out⟩
end Go.Proofs.Ytlpggkdmjmlpkaa
