import Derived.Test.YtlpggkdmjmlpkaaTe0
namespace Go.Proofs.Ytlpggkdmjmlpkaa
open Go.RowKit
set_option maxRecDepth 100000 in
set_option maxHeartbeats 8000000 in
theorem dtears_walk (a oa da ka : Option Addr) (len cap ol oc dl dc kl kc : Nat) (O : Nat → Opd) (A : Nat → Option Addr) (L C : Nat → Nat) (KA : Nat → Option Addr) (KL KC : Nat → Nat) (zs : List Int) (DA : Nat → Option Addr) (DL DC : Nat → Nat) (db : Nat → List Nat) (ks : List Bool) (n z torn : Int) (w : World) (_ : (Lit.int .i64 n).wf = true) (_ : (Lit.int .i64 z).wf = true) (hO0 : OpsR w a len O A L C KA KL KC) (hZs0 : IntsR w oa ol zs) (hDt0 : RowsB w da dl DA DL DC db) (hB00 : Bools w ka ks) (hkl0 : kl = ks.length) (_ : (Lit.int .i64 torn).wf = true) :
    Calls Try.prog 7 #[.int .i64 n, .int .i64 z, .slice a len cap, .slice oa ol oc, .slice da dl dc, .slice ka kl kc, .int .i64 torn] w fun e w' => e = .returned (.bool true) ∧ Below w.heap.size w w' := by
  have hB0 := hidIt hB00
  have hkl := hidIt hkl0
  have hZs := hidIt hZs0
  have hDt := hidIt hDt0
  clear hB00 hkl0 hZs0 hDt0
  have hO := hidIt hO0
  clear hO0
  go_enter Try.func7, Try.ntmps7
  go_wp2_with (fail)
  refine (awake_any _).mono ?_
  rintro e w1 ⟨rfl, hb1⟩
  have H1 := hidIt hb1
  clear hb1
  go_wp2_with (fail)
  refine (small_any n z a len cap w1).mono ?_
  rintro e w2 ⟨rfl, rfl⟩
  by_cases hsm : 1 ≤ n ∧ n ≤ 8 ∧ 1 ≤ z ∧ z ≤ 8 ∧ len ≤ 40
  · by_cases ho8 : (ol : Int) > 8
    · rw [decide_eq_true hsm]
      clear hsm
      go_wp2_with (fail)
      go_ret
      exact ⟨rfl, H1.out⟩
    · replace ho8 : ol ≤ 8 := by omega
      have t8 : ¬ (ol : Int) > 8 := by omega
      rw [decide_eq_true hsm]
      obtain ⟨N, rfl⟩ : ∃ N : Nat, n = (N : Int) := ⟨n.toNat, by omega⟩
      obtain ⟨Z, rfl⟩ : ∃ Z : Nat, z = (Z : Int) := ⟨z.toNat, by omega⟩
      obtain ⟨hN1, hN2, hZ1, hZ2, hL⟩ := hsm
      replace hN1 : 1 ≤ N := by omega
      replace hN2 : N ≤ 8 := by omega
      replace hZ1 : 1 ≤ Z := by omega
      replace hZ2 : Z ≤ 8 := by omega
      go_wp2_with (fail)
      refine (new_any (N : Int) (Z : Int) w1).mono ?_
      rintro e w2 hN
      unfold NewR at hN
      rw [if_pos (by omega)] at hN
      obtain ⟨g, S, rfl, hD, hS, hb2⟩ := hN
      simp only [Int.toNat_natCast] at hD
      have H2 := hidIt (below_then H1.out hb2)
      have hSa : Hid (∀ b, S b → w.heap.size ≤ b) := fun b hb => Nat.le_trans H1.out.size (hS b hb)
      have hD2 := hidIt hD
      have hps : Hid (∀ k, (∀ i, i < k → (O i).good) → ((Dsk.fresh N Z).plays O k).WF ∧ ((Dsk.fresh N Z).plays O k).size = Z ∧ ((Dsk.fresh N Z).plays O k).n = N ∧ ((Dsk.fresh N Z).plays O k).np ≤ 0 + k) := Dsk.plays_ok (Dsk.fresh_wf hN1 (by omega) hZ1 (by omega)) O
      obtain ⟨D0, hD0⟩ : ∃ D0, Hid (Dsk.fresh N Z = D0) := ⟨_, rfl⟩
      rw [hD0.out] at hD2 hps
      clear hD hS hb2 H1
      go_wp2_with (fail)
      go_loopw [17] (fun i wr => ∃ k : Nat, i = .int .i64 (k : Int) ∧ k ≤ len ∧ Hid (∃ S', DK wr S' g (D0.plays O k) ∧ Step w2 wr S S')) (fun i _ => len - (intOf i).toNat)
      case atStart => exact ⟨0, rfl, by omega, S, hD2.out, Step.refl _ _⟩
      case round =>
        obtain ⟨k, rfl, hk, hr⟩ := hrel
        obtain ⟨S', hDr, hst⟩ := hr.out
        have HB := H2.out.trans (hst.below H2.out.size hSa.out)
        clear hr
        by_cases hkn : k < len
        · obtain ⟨b, off, hc⟩ := hO.out.at HB hkn
          have hov := hidIt (hO.out.opv HB (hst.lo H2.out.size hSa.out) hkn)
          have hnp := (hps.out k (fun i hi => hO.out.good (by omega))).2.2.2
          have dP := hidIt (play_any g S' (D0.plays O k) (O k) (A k) (L k) (C k) (KA k) (KL k) (KC k) wr hDr hov (by omega))
          have hfin : Hid (∀ e w3, PlR wr S' g (D0.plays O k) (O k) e w3 → ∃ v1 v2, e = .returned (.tuple #[v1, v2]) ∧ Hid (∃ S', DK w3 S' g (D0.plays O (k + 1)) ∧ Step w2 w3 S S')) := fun e w3 ⟨a3, c3, S3, e1, _, _, e4, e5⟩ => ⟨_, _, e1, S3, e4, hst.trans e5⟩
          obtain ⟨ha, c0, c1, c2, c3, c4, c5⟩ := hc
          subst ha
          have t1 : (k : Int) < (len : Int) := by omega
          clear hDr hst HB hov hnp
          go_wp2_with (fail)
          refine dP.out.mono ?_
          rintro e w3 hp
          obtain ⟨v1, v2, rfl, h3⟩ := hfin.out e w3 hp
          clear hp hfin dP
          go_wp2_with (fail)
          exact ⟨⟨k + 1, by go_num, by omega, h3⟩, by simp [intOf]; omega⟩
        · have hkn' : k = len := by omega
          rw [hkn'] at hDr
          have hDr' := hidIt hDr
          have HB' := hidIt HB
          have hSb := hidIt (hst.lo H2.out.size hSa.out)
          obtain ⟨p1, p2, p3, p4⟩ := hps.out len (fun i hi => hO.out.good hi)
          replace p1 := hidIt p1
          replace p2 := hidIt p2
          replace p3 := hidIt p3
          replace p4 := hidIt p4
          have t1 : ¬ (k : Int) < (len : Int) := by omega
          clear hDr hst HB hkn'
          obtain ⟨D1, hD1⟩ : ∃ D1, Hid (D0.plays O len = D1) := ⟨_, rfl⟩
          rw [hD1.out] at hDr' p1 p2 p3 p4
          have dC := hidIt (crash_any g S' D1 none 0 0 [] 0 wr hDr' (fun i hi => by simp at hi) rfl (fun x hx => by cases hx) (by have := p4.out; omega))
          have hcs := Dsk.crash_same D1 (fun i => ([] : List Bool).getD i false) 0
          have hwfB := p1.out.crash (fun i => ([] : List Bool).getD i false) 0
          obtain ⟨B, hBe, hBl, hBd⟩ : ∃ B, Hid (D1.crash (fun i => ([] : List Bool).getD i false) 0 = B) ∧ Hid (B.left = -1) ∧ Hid (B.down = false) := ⟨_, rfl, rfl, rfl⟩
          rw [hBe.out] at dC hcs hwfB
          rw [p2.out, p3.out] at hcs
          have hBn : Hid (B.n = N) := hcs.2.1
          have hBz : Hid (B.size = Z) := hcs.1
          have hBnp : Hid (B.np = 0) := hcs.2.2
          have hol : Hid (∀ i, i < N → (B.dur i).length = Z ∧ ∀ y ∈ B.dur i, y < 256) := fun i hi => ⟨(hwfB.dl i (by rw [hBn.out]; exact hi)).trans hBz.out, hwfB.db i (by rw [hBn.out]; exact hi)⟩
          obtain ⟨ord, hord⟩ : ∃ ord : Nat → Nat, Hid ((fun j => (zs.getD j 0).toNat) = ord) := ⟨_, rfl⟩
          clear hD2 hO hcs hwfB
          go_wp2_with (fail)
          refine dC.out.mono ?_
          rintro e w4 ⟨rfl, S4, hD, hst⟩
          have hD4 := hidIt hD
          have H4 := hidIt (HB'.out.trans (hst.below HB'.out.size hSb.out))
          have hS4 := hidIt (hst.lo HB'.out.size hSb.out)
          clear hD hst dC HB' hSb hDr'
          go_wp2_with (fail)
          have dI := hidIt (image_any g S4 B w4 hD4)
          rw [hBn.out, hBz.out] at dI
          refine dI.out.mono ?_
          rintro e w5 ⟨R, q, rfl, hI, hb5⟩
          have hmk := makeHdr N Z (by omega) w5
          obtain ⟨w6, hw6, hb6, hB6⟩ : ∃ w6, Hid (w5.alloc (.cells (hdr (fun _ => none) Z N) 39) = w6) ∧ Below w5.heap.size w5 w6 ∧ Blk w6 w5.heap.size 39 (wrow (fun _ => none) DA DL DC N) := ⟨_, rfl, (Below.refl _ _).alloc (Nat.le_refl _) _, by rw [← wrow_nil (z := Z)]; exact Blk.new w5 _ _⟩
          have hT0 : Hid (TI w w6 g S4 B B 0 N Z w4.heap.size w5.heap.size R q (fun _ => none) ord db DA DL DC) := ⟨(hD4.out.below hb5).below hb6, fun b hb => ⟨hS4.out b hb, .inl (hD4.out.2 b hb)⟩, below_then (below_then H4.out hb5) hb6, hI.below hb6, hI.hi, hB6, ⟨hBnp.out, hBd.out, hBl.out, rfl, rfl, rfl, fun j hj => absurd hj (Nat.not_lt_zero _), fun j hj => absurd hj (Nat.not_lt_zero _), fun i j hij hj => absurd hj (Nat.not_lt_zero _)⟩, fun i j hij => by (cases hij), fun j hj => absurd hj (Nat.not_lt_zero _), fun j hj => absurd hj (Nat.not_lt_zero _), H4.out.size, hb5.size⟩
          obtain ⟨lo, hlo⟩ : ∃ lo, Hid (w4.heap.size = lo) := ⟨_, rfl⟩
          obtain ⟨wB, hwB⟩ : ∃ wB, Hid (w5.heap.size = wB) := ⟨_, rfl⟩
          rw [hlo.out, hwB.out] at hT0
          clear hI hb5 hb6 hB6 dI hD4 H4 hS4
          go_wp2_with (fail)
          rw [hw6.out, hwB.out]
          go_loopw [20] (fun iv wr => ∃ m : Nat, iv = .int .i64 (m : Int) ∧ m ≤ ol ∧ m ≤ dl ∧ Hid (∃ E S' wv, TI w wr g S' B E m N Z lo wB R q wv ord db DA DL DC)) (fun iv _ => ol - (intOf iv).toNat)
          case atStart => exact ⟨0, rfl, by omega, by omega, _, _, _, hT0.out⟩
          case round =>
            obtain ⟨m, rfl, hmo, hmd, hr⟩ := hrel
            obtain ⟨E, S', wv, hT⟩ := hr.out
            clear hr
            by_cases hm1 : m < ol
            · have tm1 : (m : Int) < (ol : Int) := by omega
              by_cases hm2 : m < dl
              · have tm2 : (m : Int) < (dl : Int) := by omega
                obtain ⟨bo, oo, rfl, co⟩ := hZs.out.2 m hm1
                have co' := (hT.bel.cell (p := ⟨bo, oo + m, none⟩) (bytes_lt co)).trans co
                obtain ⟨bd, od, rfl, cd⟩ := hDt.out.top m hm2
                have cd' := (hT.bel.cell (p := ⟨bd, od + m, none⟩) (bytes_lt cd)).trans cd
                obtain ⟨x, hx⟩ : ∃ x, Hid (zs.getD m 0 = x) := ⟨_, rfl⟩
                rw [hx.out] at co'
                have Hb := hidIt hT.bel
                have hT' := hidIt hT
                clear co cd hT
                by_cases n0 : x < 0
                · go_wp2_with (fail)
                  go_ret
                  exact ⟨rfl, Hb.out⟩
                · by_cases n1 : x ≥ (N : Int)
                  · go_wp2_with (fail)
                    go_ret
                    exact ⟨rfl, Hb.out⟩
                  · by_cases lz : DL m = Z
                    · have tl : ((DL m : Int) == (Z : Int)) = true := by simp [lz]
                      have tl2 : ((DL m : Int) != (Z : Int)) = false := by simp [lz]
                      obtain ⟨y, rfl⟩ : ∃ y : Nat, x = (y : Int) := ⟨x.toNat, by omega⟩
                      have hyN : y < N := by omega
                      have hordm : Hid (ord m = y) := by show _ = _; rw [← hord.out]; show (zs.getD m 0).toNat = y; rw [hx.out]; rfl
                      have cw := (hT'.out.row.cell y).trans (wrow_get _ _ _ _ _ _ hyN)
                      cases hwy : wv y with
                      | some j =>
                        unfold wval at cw
                        rw [hwy] at cw
                        have cw2 : wr.cell? ⟨wB, y, none⟩ = some (.slice (DA j) (DL j) (DC j)) := cw
                        rw [hT'.out.dl j (hT'.out.w1 y j hwy).1] at cw2
                        have tz : (Z : Int) > 0 := by omega
                        clear lz cw
                        go_wp2_with (fail)
                        go_ret
                        exact ⟨rfl, Hb.out⟩
                      | none =>
                        unfold wval at cw
                        rw [hwy] at cw
                        have cw2 : wr.cell? ⟨wB, y, none⟩ = some (.slice none 0 0) := cw
                        have hrow := hDt.out.row m hm2
                        have hlen : (db m).length = Z := by rw [← hrow.len]; exact lz
                        have hwf := DK.wf3 hT'.out.dk
                        have hdis : ∀ j, j < m → ord j ≠ ord m := fun j hj e => by
                          have := hT'.out.w2 j hj
                          rw [e, hordm.out, hwy] at this
                          cases this
                        obtain ⟨wt1, wt2⟩ := hT'.out.ts.write (by rw [hordm.out, hBn.out]; exact hyN) (by rw [hBz.out]; exact hlen) hdis
                        have dW := hidIt (write_any g S' E (ord m : Int) (DA m) (DL m) (DC m) (db m) wr hT'.out.dk hrow.len (hrow.bytes.below Hb.out) hrow.lt (by rw [hT'.out.ts.np]; omega))
                        rw [wt1, hordm.out] at dW
                        have hTw : Hid (∀ w5 S5, DK w5 S5 g (E.write (y : Int) (db m)).2 → Step wr w5 S' S5 → w5.frozen? ⟨wB, y, none⟩ = false ∧ w5.cell? ⟨wB, y, none⟩ = some (.slice none 0 0) ∧ TI w (w5.setCell ⟨wB, y, none⟩ (.slice (DA m) (DL m) (DC m))) g S5 B (E.write (y : Int) (db m)).2 (m + 1) N Z lo wB R q (fun i => if i = y then some m else wv i) ord db DA DL DC ∧ w5.cell? ⟨bd, od + m, none⟩ = some (.slice (DA m) (DL m) (DC m))) := fun w5 S5 hD5 hst5 => by
                          have hwt := wt2
                          rw [hordm.out] at hwt
                          obtain ⟨f1, f2, f3⟩ := hT'.out.write hst5 hD5 hwt (by rw [hordm.out]; exact hwy) lz
                          rw [hordm.out] at f1 f2 f3
                          refine ⟨f1, f2 hyN, f3, ?_⟩
                          obtain ⟨bd', od', e5, cd5⟩ := hDt.out.top m hm2
                          cases e5
                          exact ((Hb.out.trans (hst5.below Hb.out.size (fun b hb => (hT'.out.sl b hb).1))).cell (p := ⟨bd, od + m, none⟩) (bytes_lt cd5)).trans cd5
                        have tyN : (y : Int) < (N : Int) := by omega
                        clear hrow hlen hwf hdis wt1 wt2 cw hwy lz hT' hordm hx
                        go_wp2_with (fail)
                        refine dW.out.mono ?_
                        rintro e w5 ⟨rfl, S5, hD5, hst5⟩
                        obtain ⟨f1, f2, f3, f4⟩ := hTw.out w5 S5 hD5 hst5
                        replace f3 := hidIt f3
                        clear hTw hD5 hst5 dW
                        go_wp2_with (fail)
                        exact ⟨⟨m + 1, by go_num, by omega, by omega, _, _, _, f3.out⟩, by simp [intOf]; omega⟩
                    · have tl : ((DL m : Int) == (Z : Int)) = false := by simp; omega
                      have tl2 : ((DL m : Int) != (Z : Int)) = true := by simp; omega
                      clear lz
                      go_wp2_with (fail)
                      go_ret
                      exact ⟨rfl, Hb.out⟩
              · have tm2 : ¬ (m : Int) < (dl : Int) := by omega
                have hT' := hidIt hT
                have hwf := DK.wf3 hT.dk
                obtain ⟨τ, tt, ht0, hcr0⟩ := hT.ts.crash hwf wv hT.w1 hT.w2 (fun i => ks.getD i false) torn
                have hcs := Dsk.crash_same E (fun i => ks.getD i false) torn
                have hwfc := hwf.crash (fun i => ks.getD i false) torn
                rw [hBz.out] at ht0 hcr0
                rw [hBn.out] at hcr0
                rw [hT.ts.size, hT.ts.n, hBz.out, hBn.out] at hcs
                have dC := hidIt (crash_any g S' E ka kl kc ks torn wr hT.dk (hB0.out.blocks (fun x hx h0 => by
                  obtain ⟨b, off, e1, e2⟩ := hB0.out 0 h0
                  rw [hx] at e1; cases e1
                  exact hT.bel.block b (bytes_lt e2))) hkl (fun x hx h0 => by
                  obtain ⟨b, off, e1, e2⟩ := hB0.out 0 h0
                  rw [hx] at e1; cases e1
                  have hlt : b < w.heap.size := bytes_lt e2
                  exact ⟨Nat.lt_of_lt_of_le hlt hT.bel.size, fun e3 => by have := (hT.sl _ e3).1; simp only at this; omega⟩) (by rw [hT.ts.np]; omega))
                obtain ⟨D7, hD7'⟩ : ∃ D7, Hid (E.crash (fun i => ks.getD i false) torn = D7) := ⟨_, rfl⟩
                rw [hD7'.out] at dC hcs hwfc
                simp only [hD7'.out] at hcr0
                have hcr := hidIt hcr0
                have ht := hidIt ht0
                have hnl : Hid (∀ i, i < N → (D7.dur i).length = Z ∧ ∀ y ∈ D7.dur i, y < 256) := fun i hi => ⟨(hwfc.dl i (by rw [hcs.2.1]; exact hi)).trans hcs.1, hwfc.db i (by rw [hcs.2.1]; exact hi)⟩
                replace hcs := hidIt hcs
                have hwr0 : Hid (∀ W, Below w.heap.size w W → ∀ i, i < N → ∃ x l c, wval wv DA DL DC i = .slice x l c ∧ Rd W x l (Dsk.wrb wv db i)) := fun W hW i hi => by
                  unfold wval Dsk.wrb
                  cases hc : wv i with
                  | none => exact ⟨none, 0, 0, rfl, Rd.nil W⟩
                  | some j =>
                    have hj := (hT'.out.w1 i j hc).1
                    have hrow := hDt.out.row j (by omega)
                    exact ⟨DA j, DL j, DC j, rfl, hrow.bytes.below hW, hrow.len, hrow.lt⟩
                clear hT hwf hwfc hcr0 ht0
                go_wp2_with (fail)
                refine dC.out.mono ?_
                rintro e w7 ⟨rfl, S7, hD7, hst7⟩
                obtain ⟨g1, g2, g3, g4⟩ := hT'.out.step hst7
                have hD7h := hidIt hD7
                have H7 := hidIt g2
                have hI7 := hidIt g3
                have hW7 := hidIt g4
                clear g1 g2 g3 g4 hst7 hD7 dC hT'
                go_wp2_with (fail)
                have dI := hidIt (image_any g S7 D7 w7 hD7h)
                rw [hcs.out.2.1, hcs.out.1] at dI
                refine dI.out.mono ?_
                rintro e w8 ⟨R2, q2, rfl, hJ0, hb8⟩
                have hJ := hidIt hJ0
                have hI8 := hidIt (hI7.out.below hb8)
                have hwc := hidIt (hW7.out.below hb8 hW7.out.lt)
                have H8 := hidIt (below_then H7.out hb8)
                have hwr := hidIt (hwr0.out w8 H8.out)
                clear hJ0 hb8 dI hI7 hW7 hD7h H7 hwr0
                go_wp2_with (fail)
                go_loopw [23, 24] (fun mv iv wr => ∃ mx i : Nat, mv = .int .i64 (mx : Int) ∧ iv = .int .i64 (i : Int) ∧ i ≤ N ∧ Hid (mx ≤ 1 ∧ (mx = 1 → τ < i)) ∧ Hid (Below w8.heap.size w8 wr)) (fun _ iv _ => N - (intOf iv).toNat)
                case atStart => exact ⟨0, 0, rfl, rfl, by omega, ⟨by omega, by omega⟩, Below.refl _ _⟩
                case round =>
                  obtain ⟨mx, i, rfl, rfl, hi, hmx, hw⟩ := hrel
                  have hbw := hw.out
                  clear hw
                  by_cases hin : i < N
                  · have a1 := (hJ.out.below hbw).cell hin
                    have a3 := (hI8.out.below hbw).cell hin
                    obtain ⟨x, l, c, hwv0, hrw0⟩ := hwr.out i hin
                    have hwv := hidIt hwv0
                    have a2 : wr.cell? ⟨wB, i, none⟩ = some (.slice x l c) := by rw [(hwc.out.below hbw hwc.out.lt).cell, wrow_get _ _ _ _ _ _ hin, hwv0]
                    have dS1 : Hid (∀ W, Below wr.heap.size wr W → Calls Try.prog 24 #[.slice (some ⟨q2 i, 0, none⟩) Z Z, .slice (some ⟨q i, 0, none⟩) Z Z] W fun e w' => e = .returned (.bool (decide (D7.dur i = B.dur i))) ∧ W = w') := fun W hW =>
                      same_any _ _ Z Z Z Z _ _ W ⟨((BB.bytes (hJ.out.sec i hin)).below hbw).below hW, (hnl.out i hin).1.symm, (hnl.out i hin).2⟩ ⟨((BB.bytes (hI8.out.sec i hin)).below hbw).below hW, (hol.out i hin).1.symm, (hol.out i hin).2⟩
                    have dS2 : Hid (∀ W, Below wr.heap.size wr W → Calls Try.prog 24 #[.slice (some ⟨q2 i, 0, none⟩) Z Z, .slice x l c] W fun e w' => e = .returned (.bool (decide (D7.dur i = Dsk.wrb wv db i))) ∧ W = w') := fun W hW =>
                      same_any _ _ Z Z l c _ _ W ⟨((BB.bytes (hJ.out.sec i hin)).below hbw).below hW, (hnl.out i hin).1.symm, (hnl.out i hin).2⟩ ((hrw0.below hbw).below hW)
                    have hmx1 : Hid (mx ≤ 1 ∧ (mx = 1 → τ < i + 1)) := by have := hmx.out; show _ ∧ _; omega
                    have hrw := hidIt hrw0
                    have ti : (i : Int) < (N : Int) := by omega
                    clear hrw0 hwv0
                    by_cases e1 : D7.dur i = B.dur i
                    · rw [decide_eq_true e1] at dS1
                      clear e1
                      go_wp2_with (fail)
                      go_quiet (first | (go_at_call 24; with_reducible exact Calls.quiet_of_same ((dS1.out _ (below_drewN (Below.refl _ _) _)).mono fun _ _ z => ⟨z.1, z.2.symm⟩)) | (go_at_call 24; with_reducible exact Calls.quiet_of_same ((dS2.out _ (below_drewN (Below.refl _ _) _)).mono fun _ _ z => ⟨z.1, z.2.symm⟩)))
                      go_wp2_with (fail)
                      have hb2 : Hid (Below w8.heap.size w8 (wr.drewN nq)) := below_drewN hbw _
                      exact ⟨⟨mx, i + 1, rfl, by go_num, by omega, hmx1, hb2⟩, by simp [intOf]; omega⟩
                    · rw [decide_eq_false e1] at dS1
                      by_cases e2 : D7.dur i = Dsk.wrb wv db i
                      · rw [decide_eq_true e2] at dS2
                        clear e1 e2
                        go_wp2_with (fail)
                        go_quiet (first | (go_at_call 24; with_reducible exact Calls.quiet_of_same ((dS1.out _ (below_drewN (Below.refl _ _) _)).mono fun _ _ z => ⟨z.1, z.2.symm⟩)) | (go_at_call 24; with_reducible exact Calls.quiet_of_same ((dS2.out _ (below_drewN (Below.refl _ _) _)).mono fun _ _ z => ⟨z.1, z.2.symm⟩)))
                        go_wp2_with (fail)
                        have hb2 : Hid (Below w8.heap.size w8 (wr.drewN nq)) := below_drewN hbw _
                        exact ⟨⟨mx, i + 1, rfl, by go_num, by omega, hmx1, hb2⟩, by simp [intOf]; omega⟩
                      · rw [decide_eq_false e2] at dS2
                        have hτ : Hid (i = τ) := by
                          rcases hcr.out i hin with h | h | h
                          · exact absurd h e1
                          · exact absurd h e2
                          · exact h.1
                        have htorn : Hid ((Dsk.wrb wv db i).length = Z ∧ D7.dur i = (Dsk.wrb wv db i).take tt ++ (B.dur i).drop tt) := by
                          rcases hcr.out i hin with h | h | h
                          · exact absurd h e1
                          · exact absurd h e2
                          · exact h.2
                        have hnw := hidIt e2
                        have hlz : l = Z := hrw.out.len.trans htorn.out.1
                        subst hlz
                        clear e1 e2
                        go_wp2_with (fail)
                        go_quiet (first | (go_at_call 24; with_reducible exact Calls.quiet_of_same ((dS1.out _ (below_drewN (Below.refl _ _) _)).mono fun _ _ z => ⟨z.1, z.2.symm⟩)) | (go_at_call 24; with_reducible exact Calls.quiet_of_same ((dS2.out _ (below_drewN (Below.refl _ _) _)).mono fun _ _ z => ⟨z.1, z.2.symm⟩)))
                        go_wp2_with (fail)
                        have hbq : Hid (Below w8.heap.size w8 (wr.drewN nq)) := below_drewN hbw _
                        clear dS1 dS2 a1 a2 a3 hbw
                        go_loopw [25] (fun kv wr => ∃ k : Nat, kv = .int .i64 (k : Int) ∧ k ≤ l ∧ Hid (∀ q, q < k → (D7.dur i).getD q 0 = (Dsk.wrb wv db i).getD q 0) ∧ Hid (Below w8.heap.size w8 wr)) (fun kv _ => l - (intOf kv).toNat)
                        case atStart => exact ⟨0, rfl, by omega, fun q hq => absurd hq (Nat.not_lt_zero _), hbq.out⟩
                        case round =>
                          obtain ⟨k, rfl, hk, hsame, hw⟩ := hrel
                          have hbw := hw.out
                          clear hw
                          by_cases hkz : k < l
                          · obtain ⟨bw, ow, rfl, b2⟩ := hrw.out.byte hkz
                            have b2' : wr.cell? ⟨bw, ow + k, none⟩ = some (.int .u8 ((Dsk.wrb wv db i).getD k 0 : Nat)) := (hbw.cell (p := ⟨bw, ow + k, none⟩) (bytes_lt b2)).trans b2
                            have b1 := (hJ.out.below hbw).byte hin (k := k) (by rw [(hnl.out i hin).1]; exact hkz)
                            have a1 := (hJ.out.below hbw).cell hin
                            have a3 := (hI8.out.below hbw).cell hin
                            have a2 : wr.cell? ⟨wB, i, none⟩ = some (.slice (some ⟨bw, ow, none⟩) l c) := by rw [(hwc.out.below hbw hwc.out.lt).cell, wrow_get _ _ _ _ _ _ hin, hwv.out]
                            obtain ⟨u, hu⟩ : ∃ u, Hid ((D7.dur i).getD k 0 = u) := ⟨_, rfl⟩
                            obtain ⟨v, hv⟩ : ∃ v, Hid ((Dsk.wrb wv db i).getD k 0 = v) := ⟨_, rfl⟩
                            rw [hu.out] at b1
                            rw [hv.out] at b2'
                            have tk : (k : Int) < (l : Int) := by omega
                            by_cases huv : u = v
                            · have r1 : ((u : Int) == (v : Int)) = true := by simp [huv]
                              have hsame2 : Hid (∀ q, q < k + 1 → (D7.dur i).getD q 0 = (Dsk.wrb wv db i).getD q 0) := fun q hq => by
                                by_cases e : q = k
                                · rw [e, hu.out, hv.out]; exact huv
                                · exact hsame.out q (by omega)
                              clear huv hu hv b2
                              go_wp2_with (fail)
                              go_quiet (fail)
                              go_wp2_with (fail)
                              have hb2 : Hid (Below w8.heap.size w8 (wr.drewN nq)) := below_drewN hbw _
                              exact ⟨⟨k + 1, by go_num, by omega, hsame2, hb2⟩, by simp [intOf]; omega⟩
                            · have r1 : ((u : Int) == (v : Int)) = false := by simp; omega
                              have hdr : (D7.dur i).drop k = (B.dur i).drop k := drop_same (z := l) htorn.out.2 htorn.out.1 ht.out (by rw [hu.out, hv.out]; exact huv)
                              obtain ⟨zk, hzk⟩ : ∃ zk, Hid (l - k = zk) := ⟨_, rfl⟩
                              have sh1 : ∀ W, (Instr.slice 39 (.slice (some ⟨q2 i, 0, none⟩) l l) (some (.int .i64 (k : Int))) none none).run Try.prog W = .ok (.slice (some ⟨q2 i, k, none⟩) zk zk) W := fun W => by have h := sliceTail (q2 i) 0 l l k hkz hkz W; rw [Nat.zero_add, hzk.out] at h; exact h
                              have sh2 : ∀ W, (Instr.slice 39 (.slice (some ⟨q i, 0, none⟩) l l) (some (.int .i64 (k : Int))) none none).run Try.prog W = .ok (.slice (some ⟨q i, k, none⟩) zk zk) W := fun W => by have h := sliceTail (q i) 0 l l k hkz hkz W; rw [Nat.zero_add, hzk.out] at h; exact h
                              have dS3 : Hid (∀ W, Below wr.heap.size wr W → Calls Try.prog 24 #[.slice (some ⟨q2 i, k, none⟩) zk zk, .slice (some ⟨q i, k, none⟩) zk zk] W fun e w' => e = .returned (.bool true) ∧ W = w') := fun W hW => by
                                have x1 : Rd W (some ⟨q2 i, 0, none⟩) l (D7.dur i) := ⟨((BB.bytes (hJ.out.sec i hin)).below hbw).below hW, (hnl.out i hin).1.symm, (hnl.out i hin).2⟩
                                have x2 : Rd W (some ⟨q i, 0, none⟩) l (B.dur i) := ⟨((BB.bytes (hI8.out.sec i hin)).below hbw).below hW, (hol.out i hin).1.symm, (hol.out i hin).2⟩
                                have y1 := x1.cut (k := k)
                                have y2 := x2.cut (k := k)
                                rw [Nat.zero_add, hzk.out, hdr] at y1
                                rw [Nat.zero_add, hzk.out] at y2
                                have := same_any (some ⟨q2 i, k, none⟩) (some ⟨q i, k, none⟩) zk zk zk zk _ _ W y1 y2
                                rw [decide_eq_true rfl] at this
                                exact this
                              have hmx2 : Hid (mx + 1 ≤ 1 ∧ (mx + 1 = 1 → τ < i + 1)) := by have := hmx.out; have := hτ.out; show _ ∧ _; omega
                              clear huv hu hv b2 hdr
                              go_wp2_with (fail)
                              go_quiet (fail)
                              go_wp2_with (fail)
                              have dS4 := hidIt (fun d => dS3.out (wr.drewN (nq + d)) (below_drewN (Below.refl _ _) _))
                              have hbw2 : ∀ d, Hid (Below w8.heap.size w8 (wr.drewN d)) := fun d => below_drewN hbw d
                              have hmx3 : mx + 1 ≤ 1 := hmx2.out.1
                              go_quiet (first | (go_at_call 24; with_reducible exact (dS4.out _).mono fun _ _ z => ⟨z.1, _, z.2.symm⟩))
                              go_wp2_with (fail)
                              exact ⟨⟨mx + 1, i + 1, by rw [IntWalk.wrap64_in _ ⟨by omega, by omega⟩]; rfl, by go_num, by omega, hmx2, hbw2 _⟩, by simp [intOf]; omega⟩
                          · exact absurd (same_all (hnl.out i hin).1 htorn.out.1 (fun q hq => hsame.out q (by omega))) hnw.out
                  · have ti : ¬ (i : Int) < (N : Int) := by omega
                    have tm : (mx : Int) ≤ 1 := by have := hmx.out; omega
                    have H9 := hidIt (below_then H8.out hbw)
                    go_wp2_with (fail)
                    go_ret
                    exact ⟨rfl, H9.out⟩
            · have tm1 : ¬ (m : Int) < (ol : Int) := by omega
              have hT' := hidIt hT
              have hwf := DK.wf3 hT.dk
              obtain ⟨τ, tt, ht0, hcr0⟩ := hT.ts.crash hwf wv hT.w1 hT.w2 (fun i => ks.getD i false) torn
              have hcs := Dsk.crash_same E (fun i => ks.getD i false) torn
              have hwfc := hwf.crash (fun i => ks.getD i false) torn
              rw [hBz.out] at ht0 hcr0
              rw [hBn.out] at hcr0
              rw [hT.ts.size, hT.ts.n, hBz.out, hBn.out] at hcs
              have dC := hidIt (crash_any g S' E ka kl kc ks torn wr hT.dk (hB0.out.blocks (fun x hx h0 => by
                obtain ⟨b, off, e1, e2⟩ := hB0.out 0 h0
                rw [hx] at e1; cases e1
                exact hT.bel.block b (bytes_lt e2))) hkl (fun x hx h0 => by
                obtain ⟨b, off, e1, e2⟩ := hB0.out 0 h0
                rw [hx] at e1; cases e1
                have hlt : b < w.heap.size := bytes_lt e2
                exact ⟨Nat.lt_of_lt_of_le hlt hT.bel.size, fun e3 => by have := (hT.sl _ e3).1; simp only at this; omega⟩) (by rw [hT.ts.np]; omega))
              obtain ⟨D7, hD7'⟩ : ∃ D7, Hid (E.crash (fun i => ks.getD i false) torn = D7) := ⟨_, rfl⟩
              rw [hD7'.out] at dC hcs hwfc
              simp only [hD7'.out] at hcr0
              have hcr := hidIt hcr0
              have ht := hidIt ht0
              have hnl : Hid (∀ i, i < N → (D7.dur i).length = Z ∧ ∀ y ∈ D7.dur i, y < 256) := fun i hi => ⟨(hwfc.dl i (by rw [hcs.2.1]; exact hi)).trans hcs.1, hwfc.db i (by rw [hcs.2.1]; exact hi)⟩
              replace hcs := hidIt hcs
              have hwr0 : Hid (∀ W, Below w.heap.size w W → ∀ i, i < N → ∃ x l c, wval wv DA DL DC i = .slice x l c ∧ Rd W x l (Dsk.wrb wv db i)) := fun W hW i hi => by
                unfold wval Dsk.wrb
                cases hc : wv i with
                | none => exact ⟨none, 0, 0, rfl, Rd.nil W⟩
                | some j =>
                  have hj := (hT'.out.w1 i j hc).1
                  have hrow := hDt.out.row j (by omega)
                  exact ⟨DA j, DL j, DC j, rfl, hrow.bytes.below hW, hrow.len, hrow.lt⟩
              clear hT hwf hwfc hcr0 ht0
              go_wp2_with (fail)
              refine dC.out.mono ?_
              rintro e w7 ⟨rfl, S7, hD7, hst7⟩
              obtain ⟨g1, g2, g3, g4⟩ := hT'.out.step hst7
              have hD7h := hidIt hD7
              have H7 := hidIt g2
              have hI7 := hidIt g3
              have hW7 := hidIt g4
              clear g1 g2 g3 g4 hst7 hD7 dC hT'
              go_wp2_with (fail)
              have dI := hidIt (image_any g S7 D7 w7 hD7h)
              rw [hcs.out.2.1, hcs.out.1] at dI
              refine dI.out.mono ?_
              rintro e w8 ⟨R2, q2, rfl, hJ0, hb8⟩
              have hJ := hidIt hJ0
              have hI8 := hidIt (hI7.out.below hb8)
              have hwc := hidIt (hW7.out.below hb8 hW7.out.lt)
              have H8 := hidIt (below_then H7.out hb8)
              have hwr := hidIt (hwr0.out w8 H8.out)
              clear hJ0 hb8 dI hI7 hW7 hD7h H7 hwr0
              go_wp2_with (fail)
              go_loopw [23, 24] (fun mv iv wr => ∃ mx i : Nat, mv = .int .i64 (mx : Int) ∧ iv = .int .i64 (i : Int) ∧ i ≤ N ∧ Hid (mx ≤ 1 ∧ (mx = 1 → τ < i)) ∧ Hid (Below w8.heap.size w8 wr)) (fun _ iv _ => N - (intOf iv).toNat)
              case atStart => exact ⟨0, 0, rfl, rfl, by omega, ⟨by omega, by omega⟩, Below.refl _ _⟩
              case round =>
                obtain ⟨mx, i, rfl, rfl, hi, hmx, hw⟩ := hrel
                have hbw := hw.out
                clear hw
                by_cases hin : i < N
                · have a1 := (hJ.out.below hbw).cell hin
                  have a3 := (hI8.out.below hbw).cell hin
                  obtain ⟨x, l, c, hwv0, hrw0⟩ := hwr.out i hin
                  have hwv := hidIt hwv0
                  have a2 : wr.cell? ⟨wB, i, none⟩ = some (.slice x l c) := by rw [(hwc.out.below hbw hwc.out.lt).cell, wrow_get _ _ _ _ _ _ hin, hwv0]
                  have dS1 : Hid (∀ W, Below wr.heap.size wr W → Calls Try.prog 24 #[.slice (some ⟨q2 i, 0, none⟩) Z Z, .slice (some ⟨q i, 0, none⟩) Z Z] W fun e w' => e = .returned (.bool (decide (D7.dur i = B.dur i))) ∧ W = w') := fun W hW =>
                    same_any _ _ Z Z Z Z _ _ W ⟨((BB.bytes (hJ.out.sec i hin)).below hbw).below hW, (hnl.out i hin).1.symm, (hnl.out i hin).2⟩ ⟨((BB.bytes (hI8.out.sec i hin)).below hbw).below hW, (hol.out i hin).1.symm, (hol.out i hin).2⟩
                  have dS2 : Hid (∀ W, Below wr.heap.size wr W → Calls Try.prog 24 #[.slice (some ⟨q2 i, 0, none⟩) Z Z, .slice x l c] W fun e w' => e = .returned (.bool (decide (D7.dur i = Dsk.wrb wv db i))) ∧ W = w') := fun W hW =>
                    same_any _ _ Z Z l c _ _ W ⟨((BB.bytes (hJ.out.sec i hin)).below hbw).below hW, (hnl.out i hin).1.symm, (hnl.out i hin).2⟩ ((hrw0.below hbw).below hW)
                  have hmx1 : Hid (mx ≤ 1 ∧ (mx = 1 → τ < i + 1)) := by have := hmx.out; show _ ∧ _; omega
                  have hrw := hidIt hrw0
                  have ti : (i : Int) < (N : Int) := by omega
                  clear hrw0 hwv0
                  by_cases e1 : D7.dur i = B.dur i
                  · rw [decide_eq_true e1] at dS1
                    clear e1
                    go_wp2_with (fail)
                    go_quiet (first | (go_at_call 24; with_reducible exact Calls.quiet_of_same ((dS1.out _ (below_drewN (Below.refl _ _) _)).mono fun _ _ z => ⟨z.1, z.2.symm⟩)) | (go_at_call 24; with_reducible exact Calls.quiet_of_same ((dS2.out _ (below_drewN (Below.refl _ _) _)).mono fun _ _ z => ⟨z.1, z.2.symm⟩)))
                    go_wp2_with (fail)
                    have hb2 : Hid (Below w8.heap.size w8 (wr.drewN nq)) := below_drewN hbw _
                    exact ⟨⟨mx, i + 1, rfl, by go_num, by omega, hmx1, hb2⟩, by simp [intOf]; omega⟩
                  · rw [decide_eq_false e1] at dS1
                    by_cases e2 : D7.dur i = Dsk.wrb wv db i
                    · rw [decide_eq_true e2] at dS2
                      clear e1 e2
                      go_wp2_with (fail)
                      go_quiet (first | (go_at_call 24; with_reducible exact Calls.quiet_of_same ((dS1.out _ (below_drewN (Below.refl _ _) _)).mono fun _ _ z => ⟨z.1, z.2.symm⟩)) | (go_at_call 24; with_reducible exact Calls.quiet_of_same ((dS2.out _ (below_drewN (Below.refl _ _) _)).mono fun _ _ z => ⟨z.1, z.2.symm⟩)))
                      go_wp2_with (fail)
                      have hb2 : Hid (Below w8.heap.size w8 (wr.drewN nq)) := below_drewN hbw _
                      exact ⟨⟨mx, i + 1, rfl, by go_num, by omega, hmx1, hb2⟩, by simp [intOf]; omega⟩
                    · rw [decide_eq_false e2] at dS2
                      have hτ : Hid (i = τ) := by
                        rcases hcr.out i hin with h | h | h
                        · exact absurd h e1
                        · exact absurd h e2
                        · exact h.1
                      have htorn : Hid ((Dsk.wrb wv db i).length = Z ∧ D7.dur i = (Dsk.wrb wv db i).take tt ++ (B.dur i).drop tt) := by
                        rcases hcr.out i hin with h | h | h
                        · exact absurd h e1
                        · exact absurd h e2
                        · exact h.2
                      have hnw := hidIt e2
                      have hlz : l = Z := hrw.out.len.trans htorn.out.1
                      subst hlz
                      clear e1 e2
                      go_wp2_with (fail)
                      go_quiet (first | (go_at_call 24; with_reducible exact Calls.quiet_of_same ((dS1.out _ (below_drewN (Below.refl _ _) _)).mono fun _ _ z => ⟨z.1, z.2.symm⟩)) | (go_at_call 24; with_reducible exact Calls.quiet_of_same ((dS2.out _ (below_drewN (Below.refl _ _) _)).mono fun _ _ z => ⟨z.1, z.2.symm⟩)))
                      go_wp2_with (fail)
                      have hbq : Hid (Below w8.heap.size w8 (wr.drewN nq)) := below_drewN hbw _
                      clear dS1 dS2 a1 a2 a3 hbw
                      go_loopw [25] (fun kv wr => ∃ k : Nat, kv = .int .i64 (k : Int) ∧ k ≤ l ∧ Hid (∀ q, q < k → (D7.dur i).getD q 0 = (Dsk.wrb wv db i).getD q 0) ∧ Hid (Below w8.heap.size w8 wr)) (fun kv _ => l - (intOf kv).toNat)
                      case atStart => exact ⟨0, rfl, by omega, fun q hq => absurd hq (Nat.not_lt_zero _), hbq.out⟩
                      case round =>
                        obtain ⟨k, rfl, hk, hsame, hw⟩ := hrel
                        have hbw := hw.out
                        clear hw
                        by_cases hkz : k < l
                        · obtain ⟨bw, ow, rfl, b2⟩ := hrw.out.byte hkz
                          have b2' : wr.cell? ⟨bw, ow + k, none⟩ = some (.int .u8 ((Dsk.wrb wv db i).getD k 0 : Nat)) := (hbw.cell (p := ⟨bw, ow + k, none⟩) (bytes_lt b2)).trans b2
                          have b1 := (hJ.out.below hbw).byte hin (k := k) (by rw [(hnl.out i hin).1]; exact hkz)
                          have a1 := (hJ.out.below hbw).cell hin
                          have a3 := (hI8.out.below hbw).cell hin
                          have a2 : wr.cell? ⟨wB, i, none⟩ = some (.slice (some ⟨bw, ow, none⟩) l c) := by rw [(hwc.out.below hbw hwc.out.lt).cell, wrow_get _ _ _ _ _ _ hin, hwv.out]
                          obtain ⟨u, hu⟩ : ∃ u, Hid ((D7.dur i).getD k 0 = u) := ⟨_, rfl⟩
                          obtain ⟨v, hv⟩ : ∃ v, Hid ((Dsk.wrb wv db i).getD k 0 = v) := ⟨_, rfl⟩
                          rw [hu.out] at b1
                          rw [hv.out] at b2'
                          have tk : (k : Int) < (l : Int) := by omega
                          by_cases huv : u = v
                          · have r1 : ((u : Int) == (v : Int)) = true := by simp [huv]
                            have hsame2 : Hid (∀ q, q < k + 1 → (D7.dur i).getD q 0 = (Dsk.wrb wv db i).getD q 0) := fun q hq => by
                              by_cases e : q = k
                              · rw [e, hu.out, hv.out]; exact huv
                              · exact hsame.out q (by omega)
                            clear huv hu hv b2
                            go_wp2_with (fail)
                            go_quiet (fail)
                            go_wp2_with (fail)
                            have hb2 : Hid (Below w8.heap.size w8 (wr.drewN nq)) := below_drewN hbw _
                            exact ⟨⟨k + 1, by go_num, by omega, hsame2, hb2⟩, by simp [intOf]; omega⟩
                          · have r1 : ((u : Int) == (v : Int)) = false := by simp; omega
                            have hdr : (D7.dur i).drop k = (B.dur i).drop k := drop_same (z := l) htorn.out.2 htorn.out.1 ht.out (by rw [hu.out, hv.out]; exact huv)
                            obtain ⟨zk, hzk⟩ : ∃ zk, Hid (l - k = zk) := ⟨_, rfl⟩
                            have sh1 : ∀ W, (Instr.slice 39 (.slice (some ⟨q2 i, 0, none⟩) l l) (some (.int .i64 (k : Int))) none none).run Try.prog W = .ok (.slice (some ⟨q2 i, k, none⟩) zk zk) W := fun W => by have h := sliceTail (q2 i) 0 l l k hkz hkz W; rw [Nat.zero_add, hzk.out] at h; exact h
                            have sh2 : ∀ W, (Instr.slice 39 (.slice (some ⟨q i, 0, none⟩) l l) (some (.int .i64 (k : Int))) none none).run Try.prog W = .ok (.slice (some ⟨q i, k, none⟩) zk zk) W := fun W => by have h := sliceTail (q i) 0 l l k hkz hkz W; rw [Nat.zero_add, hzk.out] at h; exact h
                            have dS3 : Hid (∀ W, Below wr.heap.size wr W → Calls Try.prog 24 #[.slice (some ⟨q2 i, k, none⟩) zk zk, .slice (some ⟨q i, k, none⟩) zk zk] W fun e w' => e = .returned (.bool true) ∧ W = w') := fun W hW => by
                              have x1 : Rd W (some ⟨q2 i, 0, none⟩) l (D7.dur i) := ⟨((BB.bytes (hJ.out.sec i hin)).below hbw).below hW, (hnl.out i hin).1.symm, (hnl.out i hin).2⟩
                              have x2 : Rd W (some ⟨q i, 0, none⟩) l (B.dur i) := ⟨((BB.bytes (hI8.out.sec i hin)).below hbw).below hW, (hol.out i hin).1.symm, (hol.out i hin).2⟩
                              have y1 := x1.cut (k := k)
                              have y2 := x2.cut (k := k)
                              rw [Nat.zero_add, hzk.out, hdr] at y1
                              rw [Nat.zero_add, hzk.out] at y2
                              have := same_any (some ⟨q2 i, k, none⟩) (some ⟨q i, k, none⟩) zk zk zk zk _ _ W y1 y2
                              rw [decide_eq_true rfl] at this
                              exact this
                            have hmx2 : Hid (mx + 1 ≤ 1 ∧ (mx + 1 = 1 → τ < i + 1)) := by have := hmx.out; have := hτ.out; show _ ∧ _; omega
                            clear huv hu hv b2 hdr
                            go_wp2_with (fail)
                            go_quiet (fail)
                            go_wp2_with (fail)
                            have dS4 := hidIt (fun d => dS3.out (wr.drewN (nq + d)) (below_drewN (Below.refl _ _) _))
                            have hbw2 : ∀ d, Hid (Below w8.heap.size w8 (wr.drewN d)) := fun d => below_drewN hbw d
                            have hmx3 : mx + 1 ≤ 1 := hmx2.out.1
                            go_quiet (first | (go_at_call 24; with_reducible exact (dS4.out _).mono fun _ _ z => ⟨z.1, _, z.2.symm⟩))
                            go_wp2_with (fail)
                            exact ⟨⟨mx + 1, i + 1, by rw [IntWalk.wrap64_in _ ⟨by omega, by omega⟩]; rfl, by go_num, by omega, hmx2, hbw2 _⟩, by simp [intOf]; omega⟩
                        · exact absurd (same_all (hnl.out i hin).1 htorn.out.1 (fun q hq => hsame.out q (by omega))) hnw.out
                · have ti : ¬ (i : Int) < (N : Int) := by omega
                  have tm : (mx : Int) ≤ 1 := by have := hmx.out; omega
                  have H9 := hidIt (below_then H8.out hbw)
                  go_wp2_with (fail)
                  go_ret
                  exact ⟨rfl, H9.out⟩
  · rw [decide_eq_false hsm]
    clear hsm
    go_wp2_with (fail)
    go_ret
    exact ⟨rfl, H1.out⟩
end Go.Proofs.Ytlpggkdmjmlpkaa
