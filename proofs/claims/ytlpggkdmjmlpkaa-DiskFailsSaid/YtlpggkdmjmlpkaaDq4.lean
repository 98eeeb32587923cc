import Derived.Test.YtlpggkdmjmlpkaaDq0
namespace Go.Proofs.Ytlpggkdmjmlpkaa
open Go.RowKit
theorem DK.wf' {w : World} {S : Nat → Prop} {g : Nat} {D : Dsk} (h : DK w S g D) : D.WF := by
  obtain ⟨⟨_, _, _, _, hX, _⟩, _⟩ := h
  exact hX.wf
namespace Dsk
/-- dn operations of the n that precede the failure, and maybe it, were counted -/
def FS (E : Dsk) (dn n : Nat) : Prop := (dn ≤ n ∧ E.down = false ∧ E.left = (n : Int) - dn) ∨ (dn = n + 1 ∧ E.down = true)
theorem fs_down {E : Dsk} {o : Opd} (hd : E.down = true) (hk : o.k = 0 ∨ o.k = 1 ∨ o.k = 2) : (E.play o).1 = 8 ∧ (E.play o).2.2 = E := by
  unfold Dsk.play
  rcases hk with e | e | e
  · rw [if_pos e]; unfold Dsk.write; rw [if_pos hd]; exact ⟨rfl, rfl⟩
  · rw [if_neg (by omega), if_pos e]; unfold Dsk.read; rw [if_pos hd]; exact ⟨rfl, rfl⟩
  · rw [if_neg (by omega), if_neg (by omega), if_pos e]; unfold Dsk.sync; rw [if_pos hd]; exact ⟨rfl, rfl⟩
theorem fs_bad {E : Dsk} {o : Opd} (hd : E.down = false) (hk : (o.k = 0 ∧ ¬ ((0 ≤ o.s ∧ o.s < E.n) ∧ o.bs.length = E.size)) ∨ (o.k = 1 ∧ ¬ (0 ≤ o.s ∧ o.s < E.n))) : (E.play o).1 = 1 ∧ (E.play o).2.2 = E := by
  have hd' : ¬ E.down = true := by rw [hd]; decide
  unfold Dsk.play
  rcases hk with ⟨e, c⟩ | ⟨e, c⟩
  · rw [if_pos e]; unfold Dsk.write; rw [if_neg hd', if_neg c]; exact ⟨rfl, rfl⟩
  · rw [if_neg (by omega), if_pos e]; unfold Dsk.read; rw [if_neg hd', if_neg c]; exact ⟨rfl, rfl⟩
theorem fs_read {E : Dsk} {o : Opd} (hd : E.down = false) (hk : o.k = 1 ∧ (0 ≤ o.s ∧ o.s < E.n)) : (E.play o).1 = 0 ∧ (E.play o).2.2 = E := by
  have hd' : ¬ E.down = true := by rw [hd]; decide
  unfold Dsk.play
  rw [if_neg (by omega), if_pos hk.1]
  unfold Dsk.read
  rw [if_neg hd', if_pos hk.2]
  exact ⟨rfl, rfl⟩
theorem fs_op {E : Dsk} {o : Opd} (hd : E.down = false) (h0 : 0 ≤ E.left) (hk : (o.k = 0 ∧ ((0 ≤ o.s ∧ o.s < E.n) ∧ o.bs.length = E.size)) ∨ o.k = 2) :
    (0 < E.left → (E.play o).1 = 0 ∧ (E.play o).2.2.down = false ∧ (E.play o).2.2.left = E.left - 1) ∧ (E.left = 0 → (E.play o).1 = 8 ∧ (E.play o).2.2.down = true) := by
  have hd' : ¬ E.down = true := by rw [hd]; decide
  unfold Dsk.play
  rcases hk with ⟨e, c⟩ | e
  · rw [if_pos e]
    unfold Dsk.write
    rw [if_neg hd', if_pos c]
    unfold Dsk.oper
    have hl : (E.push o.s.toNat o.bs).left = E.left := rfl
    rw [hl, if_neg (by omega)]
    refine ⟨fun h => ?_, fun h => ?_⟩
    · rw [if_pos h]; exact ⟨rfl, hd, rfl⟩
    · rw [if_neg (by omega)]; exact ⟨rfl, rfl⟩
  · rw [if_neg (by omega), if_neg (by omega), if_pos e]
    unfold Dsk.sync
    rw [if_neg hd']
    unfold Dsk.oper
    rw [if_neg (show ¬ E.left = -1 by omega)]
    refine ⟨fun h => ?_, fun h => ?_⟩
    · rw [if_pos h, if_pos rfl]
      obtain ⟨_, _, _, _, _, c6, c7⟩ := crN_same (fun _ => true) 0 { E with left := E.left - 1 } E.np
      exact ⟨rfl, c7.trans hd, c6⟩
    · rw [if_neg (show ¬ 0 < E.left by omega), if_neg (show ¬ (8 : Nat) = 0 by decide)]
      exact ⟨rfl, rfl⟩
end Dsk
set_option maxRecDepth 100000 in
set_option maxHeartbeats 8000000 in
theorem dfails_walk (a : Option Addr) (len cap : Nat) (O : Nat → Opd) (A : Nat → Option Addr) (L C : Nat → Nat) (KA : Nat → Option Addr) (KL KC : Nat → Nat) (n z nf : Int) (w : World) (_ : (Lit.int .i64 n).wf = true) (_ : (Lit.int .i64 z).wf = true) (hF0 : (Lit.int .i64 nf).wf = true) (hO0 : OpsR w a len O A L C KA KL KC) :
    Calls Try.prog 8 #[.int .i64 n, .int .i64 z, .int .i64 nf, .slice a len cap] w fun e w' => e = .returned (.bool true) ∧ Below w.heap.size w w' := by
  have hO := hidIt hO0
  clear hO0
  go_enter Try.func8, Try.ntmps8
  go_wp2_with (fail)
  refine (awake_any _).mono ?_
  rintro e w1 ⟨rfl, hb1⟩
  have H1 := hidIt hb1
  clear hb1
  go_wp2_with (fail)
  refine (small_any n z a len cap w1).mono ?_
  rintro e w2 ⟨rfl, rfl⟩
  by_cases hsm : 1 ≤ n ∧ n ≤ 8 ∧ 1 ≤ z ∧ z ≤ 8 ∧ len ≤ 40
  · by_cases hneg : nf < 0
    · rw [decide_eq_true hsm]
      clear hsm
      go_wp2_with (fail)
      go_ret
      exact ⟨rfl, H1.out⟩
    · have tneg : ¬ nf < 0 := hneg
      rw [decide_eq_true hsm]
      obtain ⟨N, rfl⟩ : ∃ N : Nat, n = (N : Int) := ⟨n.toNat, by omega⟩
      obtain ⟨Z, rfl⟩ : ∃ Z : Nat, z = (Z : Int) := ⟨z.toNat, by omega⟩
      obtain ⟨hN1, hN2, hZ1, hZ2, hL⟩ := hsm
      replace hN1 : 1 ≤ N := by omega
      replace hN2 : N ≤ 8 := by omega
      replace hZ1 : 1 ≤ Z := by omega
      replace hZ2 : Z ≤ 8 := by omega
      go_wp2_with (fail)
      refine (new_any (N : Int) (Z : Int) w1).mono ?_
      rintro e w2 hN
      unfold NewR at hN
      rw [if_pos (by omega)] at hN
      obtain ⟨g, S, rfl, hD, hS, hb2⟩ := hN
      simp only [Int.toNat_natCast] at hD
      have H2 := hidIt (below_then H1.out hb2)
      have hSa : Hid (∀ b, S b → w.heap.size ≤ b) := fun b hb => Nat.le_trans H1.out.size (hS b hb)
      have hD2 := hidIt hD
      have hps : Hid (∀ k, (∀ i, i < k → (O i).good) → ((Dsk.fresh N Z).plays O k).WF ∧ ((Dsk.fresh N Z).plays O k).size = Z ∧ ((Dsk.fresh N Z).plays O k).n = N ∧ ((Dsk.fresh N Z).plays O k).np ≤ 0 + k) := Dsk.plays_ok (Dsk.fresh_wf hN1 (by omega) hZ1 (by omega)) O
      obtain ⟨D0, hD0⟩ : ∃ D0, Hid (Dsk.fresh N Z = D0) := ⟨_, rfl⟩
      rw [hD0.out] at hD2 hps
      clear hD hS hb2 H1
      obtain ⟨F, rfl⟩ : ∃ F : Nat, nf = (F : Int) := ⟨nf.toNat, by omega⟩
      have hF63 := bounds_i64 hF0
      have dF0 := hidIt (fail_any g S D0 (F : Int) (by omega) w2 hD2)
      obtain ⟨DF, hDF, df1, df2, df3, df4, df5⟩ : ∃ DF, Hid (D0.fail (F : Int) = DF) ∧ Hid (DF.down = false) ∧ Hid (DF.left = (F : Int)) ∧ Hid (DF.np = 0) ∧ Hid (DF.n = N) ∧ Hid (DF.size = Z) := ⟨_, rfl, by rw [← hD0.out]; exact rfl, by show max (F : Int) (-1) = _; omega, by rw [← hD0.out]; exact rfl, by rw [← hD0.out]; exact rfl, by rw [← hD0.out]; exact rfl⟩
      rw [hDF.out] at dF0
      go_wp2_with (fail)
      refine dF0.out.mono ?_
      rintro e w4 ⟨rfl, hD, hst⟩
      have hD4 := hidIt hD
      have H4 := hidIt (H2.out.trans (hst.below H2.out.size hSa.out))
      obtain ⟨S4, hS4e⟩ : ∃ S4, Hid (S4 = S) := ⟨_, rfl⟩
      rw [← hS4e.out] at hD4 hSa
      have hS4 := hSa
      have tF : ¬ (F : Int) < 0 := by omega
      clear hD hst dF0 hD2 H2 hps
      go_wp2_with (fail)
      go_loopw [11, 12] (fun dv i wr => ∃ k dn : Nat, i = .int .i64 (k : Int) ∧ k ≤ len ∧ dv = .int .i64 (dn : Int) ∧ dn ≤ k ∧ Hid (∃ E S', DK wr S' g E ∧ Step w4 wr S4 S' ∧ E.FS dn F ∧ E.np ≤ k ∧ E.n = N ∧ E.size = Z)) (fun _ i _ => len - (intOf i).toNat)
      case atStart => exact ⟨0, 0, rfl, by omega, rfl, by omega, DF, S4, hD4.out, Step.refl _ _, .inl ⟨by omega, df1.out, by rw [df2.out]; omega⟩, by rw [df3.out]; omega, df4.out, df5.out⟩
      case round =>
        obtain ⟨k, dn, rfl, hk, rfl, hdk, hr⟩ := hrel
        obtain ⟨E, S', hDr, hst, hfs, hEnp, hEn, hEz⟩ := hr.out
        have HB := H4.out.trans (hst.below H4.out.size hS4.out)
        clear hr
        by_cases hkn : k < len
        · have t1 : (k : Int) < (len : Int) := by omega
          have hov := hO.out.opv HB (hst.lo H4.out.size hS4.out) hkn
          have hgd := hO.out.good hkn
          have hps2 := Dsk.play_same E (DK.wf' hDr) (O k) hgd.1
          have hEL : L k = (O k).bs.length := hov.len
          obtain ⟨b, off, hc⟩ := hO.out.at HB hkn
          obtain ⟨ha, c0, c1, c2, c3, c4, c5⟩ := hc
          subst ha
          obtain ⟨w2, hw2, hbw⟩ : ∃ w2, Hid (wr.alloc (.cells #[.int .i64 (O k).k, .int .i64 (O k).s, .slice (A k) (L k) (C k), .int .i64 (O k).n, .slice (KA k) (KL k) (KC k), .int .u8 ((O k).x : Int)] 44) = w2) ∧ Hid (Below wr.heap.size wr w2) := ⟨_, rfl, (Below.refl _ _).alloc (Nat.le_refl _) _⟩
          have hBx : Blk w2 wr.heap.size 44 #[.int .i64 (O k).k, .int .i64 (O k).s, .slice (A k) (L k) (C k), .int .i64 (O k).n, .slice (KA k) (KL k) (KC k), .int .u8 ((O k).x : Int)] := by rw [← hw2.out]; exact Blk.new wr _ _
          have d0 := (hBx.cell 0).trans rfl
          have d1 := (hBx.cell 1).trans rfl
          have d2 := (hBx.cell 2).trans rfl
          have d3 := (hBx.cell 3).trans rfl
          have d4 := (hBx.cell 4).trans rfl
          have d5 := (hBx.cell 5).trans rfl
          have aw : Hid (Away w2 S' wr.heap.size) := ⟨hBx.lt, fun e => by have := hDr.2 _ e; omega⟩
          have dP := hidIt (play_any g S' E (O k) (A k) (L k) (C k) (KA k) (KL k) (KC k) w2 (hDr.below hbw.out) (hov.below hbw.out) (by omega))
          have dh : Hid (DK wr S' g E) := hDr
          have dst : Hid (Step w4 wr S4 S') := hst
          have dW2 : Hid (Below wr.heap.size wr w2) := hbw
          clear hov hgd HB hBx hDr
          by_cases hkk : (O k).k = 0
          · have q0 : ((O k).k == 0) = true := by simp [hkk]
            have r0 : ((O k).k != 0) = false := by simp [hkk]
            have q1 : ((O k).k == 1) = false := by simp [hkk]
            have r1 : ((O k).k != 1) = true := by simp [hkk]
            have q2 : ((O k).k == 2) = false := by simp [hkk]
            have r2 : ((O k).k != 2) = true := by simp [hkk]
            by_cases s0 : (O k).s ≥ 0
            · by_cases s1 : (O k).s < (N : Int)
              · by_cases lz : L k = Z
                · have t5 : ((L k : Int) == (Z : Int)) = true := by simp [lz]
                  rcases hfs with ⟨hdn, hup, hlf⟩ | ⟨hdn, hup⟩
                  · by_cases hdl : dn < F
                    · have tl : (dn : Int) < (F : Int) := by omega
                      have tg : ¬ (dn : Int) > (F : Int) := by omega
                      have tg2 : ¬ (dn : Int) + 1 > (F : Int) := by omega
                      obtain ⟨e1, e2, e3⟩ := (Dsk.fs_op (o := O k) hup (by omega) (.inl ⟨hkk, by omega, by omega⟩)).1 (by omega)
                      have hfs2 : (E.play (O k)).2.2.FS (dn + 1) F := .inl ⟨by omega, e2, by rw [e3, hlf]; omega⟩
                      have hnp2 : (E.play (O k)).2.2.down = false := e2
                      have hfin : Hid (∀ e w3, PlR w2 S' g E (O k) e w3 → ∃ v1, e = .returned (.tuple #[v1, .int .i64 0]) ∧ (w3.cell? ⟨wr.heap.size, 0, none⟩ = some (.int .i64 (O k).k) ∧ w3.cell? ⟨wr.heap.size, 1, none⟩ = some (.int .i64 (O k).s) ∧ w3.cell? ⟨wr.heap.size, 2, none⟩ = some (.slice (A k) (L k) (C k))) ∧ Hid (Calls Try.prog 16 #[.pointer (some ⟨g, 0, none⟩)] w3 fun e w' => e = .returned (.bool false) ∧ w3 = w') ∧ Hid (∃ E S', DK w3 S' g E ∧ Step w4 w3 S4 S' ∧ E.FS (dn + 1) F ∧ E.np ≤ k + 1 ∧ E.n = N ∧ E.size = Z)) := fun e w3 ⟨a3, c3, S3, g1, _, _, g4, g5⟩ => by
                        have hbk : w3.heap[wr.heap.size]? = w2.heap[wr.heap.size]? := g5.same aw.out
                        have k0 := (World.cell?_of_block (a := ⟨wr.heap.size, 0, none⟩) hbk).trans d0
                        have k1 := (World.cell?_of_block (a := ⟨wr.heap.size, 1, none⟩) hbk).trans d1
                        have k2 := (World.cell?_of_block (a := ⟨wr.heap.size, 2, none⟩) hbk).trans d2
                        have hdd := down_any g S3 (E.play (O k)).2.2 w3 g4
                        rw [hnp2] at hdd
                        rw [e1] at g1
                        exact ⟨_, g1, ⟨k0, k1, k2⟩, hdd, _, S3, g4, (hst.then hbw.out).trans g5, hfs2, by have := hps2.2.2; omega, hps2.2.1.trans hEn, hps2.1.trans hEz⟩
                      clear hfs2 hnp2 hps2 hst hEn hEz hup hlf hdn hkk aw hEL d0 d1 d2 d3 d4 d5
                      try clear lz
                      try clear hk2
                      try clear hk1
                      go_wp2_with (fail)
                      rw [hw2.out]
                      go_wp2_with (fail)
                      refine dP.out.mono ?_
                      rintro e w3 hp
                      obtain ⟨v1, rfl, ⟨f0, f1, f2⟩, hdd, h3⟩ := hfin.out e w3 hp
                      clear hp hfin dP hw2
                      go_wp2_with (fail)
                      refine hdd.out.mono ?_
                      rintro e w5 ⟨rfl, rfl⟩
                      clear hdd
                      go_wp2_with (fail)
                      exact ⟨⟨k + 1, (dn + 1), by go_num, by omega, by first | rfl | go_num, by omega, h3⟩, by simp [intOf]; omega⟩
                    · have tl : ¬ (dn : Int) < (F : Int) := by omega
                      have tg : ¬ (dn : Int) > (F : Int) := by omega
                      have tg2 : (dn : Int) + 1 > (F : Int) := by omega
                      obtain ⟨e1, e2⟩ := (Dsk.fs_op (o := O k) hup (by omega) (.inl ⟨hkk, by omega, by omega⟩)).2 (by omega)
                      have hfs2 : (E.play (O k)).2.2.FS (dn + 1) F := .inr ⟨by omega, e2⟩
                      have hnp2 : (E.play (O k)).2.2.down = true := e2
                      have hfin : Hid (∀ e w3, PlR w2 S' g E (O k) e w3 → ∃ v1, e = .returned (.tuple #[v1, .int .i64 8]) ∧ (w3.cell? ⟨wr.heap.size, 0, none⟩ = some (.int .i64 (O k).k) ∧ w3.cell? ⟨wr.heap.size, 1, none⟩ = some (.int .i64 (O k).s) ∧ w3.cell? ⟨wr.heap.size, 2, none⟩ = some (.slice (A k) (L k) (C k))) ∧ Hid (Calls Try.prog 16 #[.pointer (some ⟨g, 0, none⟩)] w3 fun e w' => e = .returned (.bool true) ∧ w3 = w') ∧ Hid (∃ E S', DK w3 S' g E ∧ Step w4 w3 S4 S' ∧ E.FS (dn + 1) F ∧ E.np ≤ k + 1 ∧ E.n = N ∧ E.size = Z)) := fun e w3 ⟨a3, c3, S3, g1, _, _, g4, g5⟩ => by
                        have hbk : w3.heap[wr.heap.size]? = w2.heap[wr.heap.size]? := g5.same aw.out
                        have k0 := (World.cell?_of_block (a := ⟨wr.heap.size, 0, none⟩) hbk).trans d0
                        have k1 := (World.cell?_of_block (a := ⟨wr.heap.size, 1, none⟩) hbk).trans d1
                        have k2 := (World.cell?_of_block (a := ⟨wr.heap.size, 2, none⟩) hbk).trans d2
                        have hdd := down_any g S3 (E.play (O k)).2.2 w3 g4
                        rw [hnp2] at hdd
                        rw [e1] at g1
                        exact ⟨_, g1, ⟨k0, k1, k2⟩, hdd, _, S3, g4, (hst.then hbw.out).trans g5, hfs2, by have := hps2.2.2; omega, hps2.2.1.trans hEn, hps2.1.trans hEz⟩
                      clear hfs2 hnp2 hps2 hst hEn hEz hup hlf hdn hkk aw hEL d0 d1 d2 d3 d4 d5
                      try clear lz
                      try clear hk2
                      try clear hk1
                      go_wp2_with (fail)
                      rw [hw2.out]
                      go_wp2_with (fail)
                      refine dP.out.mono ?_
                      rintro e w3 hp
                      obtain ⟨v1, rfl, ⟨f0, f1, f2⟩, hdd, h3⟩ := hfin.out e w3 hp
                      clear hp hfin dP hw2
                      go_wp2_with (fail)
                      refine hdd.out.mono ?_
                      rintro e w5 ⟨rfl, rfl⟩
                      clear hdd
                      go_wp2_with (fail)
                      exact ⟨⟨k + 1, (dn + 1), by go_num, by omega, by first | rfl | go_num, by omega, h3⟩, by simp [intOf]; omega⟩
                  · have tg : (dn : Int) > (F : Int) := by omega
                    have hlf : True := trivial
                    obtain ⟨e1, e2⟩ := Dsk.fs_down (o := O k) hup (.inl hkk)
                    have hfs2 : (E.play (O k)).2.2.FS dn F := by rw [e2]; exact .inr ⟨hdn, hup⟩
                    have hnp2 : (E.play (O k)).2.2.down = true := by rw [e2]; exact hup
                    have hfin : Hid (∀ e w3, PlR w2 S' g E (O k) e w3 → ∃ v1, e = .returned (.tuple #[v1, .int .i64 8]) ∧ (w3.cell? ⟨wr.heap.size, 0, none⟩ = some (.int .i64 (O k).k) ∧ w3.cell? ⟨wr.heap.size, 1, none⟩ = some (.int .i64 (O k).s) ∧ w3.cell? ⟨wr.heap.size, 2, none⟩ = some (.slice (A k) (L k) (C k))) ∧ Hid (Calls Try.prog 16 #[.pointer (some ⟨g, 0, none⟩)] w3 fun e w' => e = .returned (.bool true) ∧ w3 = w') ∧ Hid (∃ E S', DK w3 S' g E ∧ Step w4 w3 S4 S' ∧ E.FS dn F ∧ E.np ≤ k + 1 ∧ E.n = N ∧ E.size = Z)) := fun e w3 ⟨a3, c3, S3, g1, _, _, g4, g5⟩ => by
                      have hbk : w3.heap[wr.heap.size]? = w2.heap[wr.heap.size]? := g5.same aw.out
                      have k0 := (World.cell?_of_block (a := ⟨wr.heap.size, 0, none⟩) hbk).trans d0
                      have k1 := (World.cell?_of_block (a := ⟨wr.heap.size, 1, none⟩) hbk).trans d1
                      have k2 := (World.cell?_of_block (a := ⟨wr.heap.size, 2, none⟩) hbk).trans d2
                      have hdd := down_any g S3 (E.play (O k)).2.2 w3 g4
                      rw [hnp2] at hdd
                      rw [e1] at g1
                      exact ⟨_, g1, ⟨k0, k1, k2⟩, hdd, _, S3, g4, (hst.then hbw.out).trans g5, hfs2, by have := hps2.2.2; omega, hps2.2.1.trans hEn, hps2.1.trans hEz⟩
                    clear hfs2 hnp2 hps2 hst hEn hEz hup hlf hdn hkk aw hEL d0 d1 d2 d3 d4 d5
                    try clear lz
                    try clear hk2
                    try clear hk1
                    go_wp2_with (fail)
                    rw [hw2.out]
                    go_wp2_with (fail)
                    refine dP.out.mono ?_
                    rintro e w3 hp
                    obtain ⟨v1, rfl, ⟨f0, f1, f2⟩, hdd, h3⟩ := hfin.out e w3 hp
                    clear hp hfin dP hw2
                    go_wp2_with (fail)
                    refine hdd.out.mono ?_
                    rintro e w5 ⟨rfl, rfl⟩
                    clear hdd
                    go_wp2_with (fail)
                    exact ⟨⟨k + 1, dn, by go_num, by omega, by first | rfl | go_num, by omega, h3⟩, by simp [intOf]; omega⟩
                · have t5 : ((L k : Int) == (Z : Int)) = false := by simp; omega
                  rcases hfs with ⟨hdn, hup, hlf⟩ | ⟨hdn, hup⟩
                  · by_cases hdl : dn < F
                    · have tl : (dn : Int) < (F : Int) := by omega
                      have tg : ¬ (dn : Int) > (F : Int) := by omega
                      have tg2 : ¬ (dn : Int) + 1 > (F : Int) := by omega
                      obtain ⟨e1, e2⟩ := Dsk.fs_bad (o := O k) hup (.inl ⟨hkk, fun e => by have e1 := e.1.1; have e2 := e.1.2; have e3 := e.2; omega⟩)
                      have hfs2 : (E.play (O k)).2.2.FS dn F := by rw [e2]; exact .inl ⟨by omega, hup, hlf⟩
                      have hnp2 : (E.play (O k)).2.2.down = false := by rw [e2]; exact hup
                      have hfin : Hid (∀ e w3, PlR w2 S' g E (O k) e w3 → ∃ v1, e = .returned (.tuple #[v1, .int .i64 1]) ∧ (w3.cell? ⟨wr.heap.size, 0, none⟩ = some (.int .i64 (O k).k) ∧ w3.cell? ⟨wr.heap.size, 1, none⟩ = some (.int .i64 (O k).s) ∧ w3.cell? ⟨wr.heap.size, 2, none⟩ = some (.slice (A k) (L k) (C k))) ∧ Hid (Calls Try.prog 16 #[.pointer (some ⟨g, 0, none⟩)] w3 fun e w' => e = .returned (.bool false) ∧ w3 = w') ∧ Hid (∃ E S', DK w3 S' g E ∧ Step w4 w3 S4 S' ∧ E.FS dn F ∧ E.np ≤ k + 1 ∧ E.n = N ∧ E.size = Z)) := fun e w3 ⟨a3, c3, S3, g1, _, _, g4, g5⟩ => by
                        have hbk : w3.heap[wr.heap.size]? = w2.heap[wr.heap.size]? := g5.same aw.out
                        have k0 := (World.cell?_of_block (a := ⟨wr.heap.size, 0, none⟩) hbk).trans d0
                        have k1 := (World.cell?_of_block (a := ⟨wr.heap.size, 1, none⟩) hbk).trans d1
                        have k2 := (World.cell?_of_block (a := ⟨wr.heap.size, 2, none⟩) hbk).trans d2
                        have hdd := down_any g S3 (E.play (O k)).2.2 w3 g4
                        rw [hnp2] at hdd
                        rw [e1] at g1
                        exact ⟨_, g1, ⟨k0, k1, k2⟩, hdd, _, S3, g4, (hst.then hbw.out).trans g5, hfs2, by have := hps2.2.2; omega, hps2.2.1.trans hEn, hps2.1.trans hEz⟩
                      clear hfs2 hnp2 hps2 hst hEn hEz hup hlf hdn hkk aw hEL d0 d1 d2 d3 d4 d5
                      try clear lz
                      try clear hk2
                      try clear hk1
                      go_wp2_with (fail)
                      rw [hw2.out]
                      go_wp2_with (fail)
                      refine dP.out.mono ?_
                      rintro e w3 hp
                      obtain ⟨v1, rfl, ⟨f0, f1, f2⟩, hdd, h3⟩ := hfin.out e w3 hp
                      clear hp hfin dP hw2
                      go_wp2_with (fail)
                      refine hdd.out.mono ?_
                      rintro e w5 ⟨rfl, rfl⟩
                      clear hdd
                      go_wp2_with (fail)
                      exact ⟨⟨k + 1, dn, by go_num, by omega, by first | rfl | go_num, by omega, h3⟩, by simp [intOf]; omega⟩
                    · have tl : ¬ (dn : Int) < (F : Int) := by omega
                      have tg : ¬ (dn : Int) > (F : Int) := by omega
                      have tg2 : (dn : Int) + 1 > (F : Int) := by omega
                      obtain ⟨e1, e2⟩ := Dsk.fs_bad (o := O k) hup (.inl ⟨hkk, fun e => by have e1 := e.1.1; have e2 := e.1.2; have e3 := e.2; omega⟩)
                      have hfs2 : (E.play (O k)).2.2.FS dn F := by rw [e2]; exact .inl ⟨by omega, hup, hlf⟩
                      have hnp2 : (E.play (O k)).2.2.down = false := by rw [e2]; exact hup
                      have hfin : Hid (∀ e w3, PlR w2 S' g E (O k) e w3 → ∃ v1, e = .returned (.tuple #[v1, .int .i64 1]) ∧ (w3.cell? ⟨wr.heap.size, 0, none⟩ = some (.int .i64 (O k).k) ∧ w3.cell? ⟨wr.heap.size, 1, none⟩ = some (.int .i64 (O k).s) ∧ w3.cell? ⟨wr.heap.size, 2, none⟩ = some (.slice (A k) (L k) (C k))) ∧ Hid (Calls Try.prog 16 #[.pointer (some ⟨g, 0, none⟩)] w3 fun e w' => e = .returned (.bool false) ∧ w3 = w') ∧ Hid (∃ E S', DK w3 S' g E ∧ Step w4 w3 S4 S' ∧ E.FS dn F ∧ E.np ≤ k + 1 ∧ E.n = N ∧ E.size = Z)) := fun e w3 ⟨a3, c3, S3, g1, _, _, g4, g5⟩ => by
                        have hbk : w3.heap[wr.heap.size]? = w2.heap[wr.heap.size]? := g5.same aw.out
                        have k0 := (World.cell?_of_block (a := ⟨wr.heap.size, 0, none⟩) hbk).trans d0
                        have k1 := (World.cell?_of_block (a := ⟨wr.heap.size, 1, none⟩) hbk).trans d1
                        have k2 := (World.cell?_of_block (a := ⟨wr.heap.size, 2, none⟩) hbk).trans d2
                        have hdd := down_any g S3 (E.play (O k)).2.2 w3 g4
                        rw [hnp2] at hdd
                        rw [e1] at g1
                        exact ⟨_, g1, ⟨k0, k1, k2⟩, hdd, _, S3, g4, (hst.then hbw.out).trans g5, hfs2, by have := hps2.2.2; omega, hps2.2.1.trans hEn, hps2.1.trans hEz⟩
                      clear hfs2 hnp2 hps2 hst hEn hEz hup hlf hdn hkk aw hEL d0 d1 d2 d3 d4 d5
                      try clear lz
                      try clear hk2
                      try clear hk1
                      go_wp2_with (fail)
                      rw [hw2.out]
                      go_wp2_with (fail)
                      refine dP.out.mono ?_
                      rintro e w3 hp
                      obtain ⟨v1, rfl, ⟨f0, f1, f2⟩, hdd, h3⟩ := hfin.out e w3 hp
                      clear hp hfin dP hw2
                      go_wp2_with (fail)
                      refine hdd.out.mono ?_
                      rintro e w5 ⟨rfl, rfl⟩
                      clear hdd
                      go_wp2_with (fail)
                      exact ⟨⟨k + 1, dn, by go_num, by omega, by first | rfl | go_num, by omega, h3⟩, by simp [intOf]; omega⟩
                  · have tg : (dn : Int) > (F : Int) := by omega
                    have hlf : True := trivial
                    obtain ⟨e1, e2⟩ := Dsk.fs_down (o := O k) hup (.inl hkk)
                    have hfs2 : (E.play (O k)).2.2.FS dn F := by rw [e2]; exact .inr ⟨hdn, hup⟩
                    have hnp2 : (E.play (O k)).2.2.down = true := by rw [e2]; exact hup
                    have hfin : Hid (∀ e w3, PlR w2 S' g E (O k) e w3 → ∃ v1, e = .returned (.tuple #[v1, .int .i64 8]) ∧ (w3.cell? ⟨wr.heap.size, 0, none⟩ = some (.int .i64 (O k).k) ∧ w3.cell? ⟨wr.heap.size, 1, none⟩ = some (.int .i64 (O k).s) ∧ w3.cell? ⟨wr.heap.size, 2, none⟩ = some (.slice (A k) (L k) (C k))) ∧ Hid (Calls Try.prog 16 #[.pointer (some ⟨g, 0, none⟩)] w3 fun e w' => e = .returned (.bool true) ∧ w3 = w') ∧ Hid (∃ E S', DK w3 S' g E ∧ Step w4 w3 S4 S' ∧ E.FS dn F ∧ E.np ≤ k + 1 ∧ E.n = N ∧ E.size = Z)) := fun e w3 ⟨a3, c3, S3, g1, _, _, g4, g5⟩ => by
                      have hbk : w3.heap[wr.heap.size]? = w2.heap[wr.heap.size]? := g5.same aw.out
                      have k0 := (World.cell?_of_block (a := ⟨wr.heap.size, 0, none⟩) hbk).trans d0
                      have k1 := (World.cell?_of_block (a := ⟨wr.heap.size, 1, none⟩) hbk).trans d1
                      have k2 := (World.cell?_of_block (a := ⟨wr.heap.size, 2, none⟩) hbk).trans d2
                      have hdd := down_any g S3 (E.play (O k)).2.2 w3 g4
                      rw [hnp2] at hdd
                      rw [e1] at g1
                      exact ⟨_, g1, ⟨k0, k1, k2⟩, hdd, _, S3, g4, (hst.then hbw.out).trans g5, hfs2, by have := hps2.2.2; omega, hps2.2.1.trans hEn, hps2.1.trans hEz⟩
                    clear hfs2 hnp2 hps2 hst hEn hEz hup hlf hdn hkk aw hEL d0 d1 d2 d3 d4 d5
                    try clear lz
                    try clear hk2
                    try clear hk1
                    go_wp2_with (fail)
                    rw [hw2.out]
                    go_wp2_with (fail)
                    refine dP.out.mono ?_
                    rintro e w3 hp
                    obtain ⟨v1, rfl, ⟨f0, f1, f2⟩, hdd, h3⟩ := hfin.out e w3 hp
                    clear hp hfin dP hw2
                    go_wp2_with (fail)
                    refine hdd.out.mono ?_
                    rintro e w5 ⟨rfl, rfl⟩
                    clear hdd
                    go_wp2_with (fail)
                    exact ⟨⟨k + 1, dn, by go_num, by omega, by first | rfl | go_num, by omega, h3⟩, by simp [intOf]; omega⟩
              · skip
                rcases hfs with ⟨hdn, hup, hlf⟩ | ⟨hdn, hup⟩
                · by_cases hdl : dn < F
                  · have tl : (dn : Int) < (F : Int) := by omega
                    have tg : ¬ (dn : Int) > (F : Int) := by omega
                    have tg2 : ¬ (dn : Int) + 1 > (F : Int) := by omega
                    obtain ⟨e1, e2⟩ := Dsk.fs_bad (o := O k) hup (.inl ⟨hkk, fun e => by have e1 := e.1.1; have e2 := e.1.2; have e3 := e.2; omega⟩)
                    have hfs2 : (E.play (O k)).2.2.FS dn F := by rw [e2]; exact .inl ⟨by omega, hup, hlf⟩
                    have hnp2 : (E.play (O k)).2.2.down = false := by rw [e2]; exact hup
                    have hfin : Hid (∀ e w3, PlR w2 S' g E (O k) e w3 → ∃ v1, e = .returned (.tuple #[v1, .int .i64 1]) ∧ (w3.cell? ⟨wr.heap.size, 0, none⟩ = some (.int .i64 (O k).k) ∧ w3.cell? ⟨wr.heap.size, 1, none⟩ = some (.int .i64 (O k).s) ∧ w3.cell? ⟨wr.heap.size, 2, none⟩ = some (.slice (A k) (L k) (C k))) ∧ Hid (Calls Try.prog 16 #[.pointer (some ⟨g, 0, none⟩)] w3 fun e w' => e = .returned (.bool false) ∧ w3 = w') ∧ Hid (∃ E S', DK w3 S' g E ∧ Step w4 w3 S4 S' ∧ E.FS dn F ∧ E.np ≤ k + 1 ∧ E.n = N ∧ E.size = Z)) := fun e w3 ⟨a3, c3, S3, g1, _, _, g4, g5⟩ => by
                      have hbk : w3.heap[wr.heap.size]? = w2.heap[wr.heap.size]? := g5.same aw.out
                      have k0 := (World.cell?_of_block (a := ⟨wr.heap.size, 0, none⟩) hbk).trans d0
                      have k1 := (World.cell?_of_block (a := ⟨wr.heap.size, 1, none⟩) hbk).trans d1
                      have k2 := (World.cell?_of_block (a := ⟨wr.heap.size, 2, none⟩) hbk).trans d2
                      have hdd := down_any g S3 (E.play (O k)).2.2 w3 g4
                      rw [hnp2] at hdd
                      rw [e1] at g1
                      exact ⟨_, g1, ⟨k0, k1, k2⟩, hdd, _, S3, g4, (hst.then hbw.out).trans g5, hfs2, by have := hps2.2.2; omega, hps2.2.1.trans hEn, hps2.1.trans hEz⟩
                    clear hfs2 hnp2 hps2 hst hEn hEz hup hlf hdn hkk aw hEL d0 d1 d2 d3 d4 d5
                    try clear lz
                    try clear hk2
                    try clear hk1
                    go_wp2_with (fail)
                    rw [hw2.out]
                    go_wp2_with (fail)
                    refine dP.out.mono ?_
                    rintro e w3 hp
                    obtain ⟨v1, rfl, ⟨f0, f1, f2⟩, hdd, h3⟩ := hfin.out e w3 hp
                    clear hp hfin dP hw2
                    go_wp2_with (fail)
                    refine hdd.out.mono ?_
                    rintro e w5 ⟨rfl, rfl⟩
                    clear hdd
                    go_wp2_with (fail)
                    exact ⟨⟨k + 1, dn, by go_num, by omega, by first | rfl | go_num, by omega, h3⟩, by simp [intOf]; omega⟩
                  · have tl : ¬ (dn : Int) < (F : Int) := by omega
                    have tg : ¬ (dn : Int) > (F : Int) := by omega
                    have tg2 : (dn : Int) + 1 > (F : Int) := by omega
                    obtain ⟨e1, e2⟩ := Dsk.fs_bad (o := O k) hup (.inl ⟨hkk, fun e => by have e1 := e.1.1; have e2 := e.1.2; have e3 := e.2; omega⟩)
                    have hfs2 : (E.play (O k)).2.2.FS dn F := by rw [e2]; exact .inl ⟨by omega, hup, hlf⟩
                    have hnp2 : (E.play (O k)).2.2.down = false := by rw [e2]; exact hup
                    have hfin : Hid (∀ e w3, PlR w2 S' g E (O k) e w3 → ∃ v1, e = .returned (.tuple #[v1, .int .i64 1]) ∧ (w3.cell? ⟨wr.heap.size, 0, none⟩ = some (.int .i64 (O k).k) ∧ w3.cell? ⟨wr.heap.size, 1, none⟩ = some (.int .i64 (O k).s) ∧ w3.cell? ⟨wr.heap.size, 2, none⟩ = some (.slice (A k) (L k) (C k))) ∧ Hid (Calls Try.prog 16 #[.pointer (some ⟨g, 0, none⟩)] w3 fun e w' => e = .returned (.bool false) ∧ w3 = w') ∧ Hid (∃ E S', DK w3 S' g E ∧ Step w4 w3 S4 S' ∧ E.FS dn F ∧ E.np ≤ k + 1 ∧ E.n = N ∧ E.size = Z)) := fun e w3 ⟨a3, c3, S3, g1, _, _, g4, g5⟩ => by
                      have hbk : w3.heap[wr.heap.size]? = w2.heap[wr.heap.size]? := g5.same aw.out
                      have k0 := (World.cell?_of_block (a := ⟨wr.heap.size, 0, none⟩) hbk).trans d0
                      have k1 := (World.cell?_of_block (a := ⟨wr.heap.size, 1, none⟩) hbk).trans d1
                      have k2 := (World.cell?_of_block (a := ⟨wr.heap.size, 2, none⟩) hbk).trans d2
                      have hdd := down_any g S3 (E.play (O k)).2.2 w3 g4
                      rw [hnp2] at hdd
                      rw [e1] at g1
                      exact ⟨_, g1, ⟨k0, k1, k2⟩, hdd, _, S3, g4, (hst.then hbw.out).trans g5, hfs2, by have := hps2.2.2; omega, hps2.2.1.trans hEn, hps2.1.trans hEz⟩
                    clear hfs2 hnp2 hps2 hst hEn hEz hup hlf hdn hkk aw hEL d0 d1 d2 d3 d4 d5
                    try clear lz
                    try clear hk2
                    try clear hk1
                    go_wp2_with (fail)
                    rw [hw2.out]
                    go_wp2_with (fail)
                    refine dP.out.mono ?_
                    rintro e w3 hp
                    obtain ⟨v1, rfl, ⟨f0, f1, f2⟩, hdd, h3⟩ := hfin.out e w3 hp
                    clear hp hfin dP hw2
                    go_wp2_with (fail)
                    refine hdd.out.mono ?_
                    rintro e w5 ⟨rfl, rfl⟩
                    clear hdd
                    go_wp2_with (fail)
                    exact ⟨⟨k + 1, dn, by go_num, by omega, by first | rfl | go_num, by omega, h3⟩, by simp [intOf]; omega⟩
                · have tg : (dn : Int) > (F : Int) := by omega
                  have hlf : True := trivial
                  obtain ⟨e1, e2⟩ := Dsk.fs_down (o := O k) hup (.inl hkk)
                  have hfs2 : (E.play (O k)).2.2.FS dn F := by rw [e2]; exact .inr ⟨hdn, hup⟩
                  have hnp2 : (E.play (O k)).2.2.down = true := by rw [e2]; exact hup
                  have hfin : Hid (∀ e w3, PlR w2 S' g E (O k) e w3 → ∃ v1, e = .returned (.tuple #[v1, .int .i64 8]) ∧ (w3.cell? ⟨wr.heap.size, 0, none⟩ = some (.int .i64 (O k).k) ∧ w3.cell? ⟨wr.heap.size, 1, none⟩ = some (.int .i64 (O k).s) ∧ w3.cell? ⟨wr.heap.size, 2, none⟩ = some (.slice (A k) (L k) (C k))) ∧ Hid (Calls Try.prog 16 #[.pointer (some ⟨g, 0, none⟩)] w3 fun e w' => e = .returned (.bool true) ∧ w3 = w') ∧ Hid (∃ E S', DK w3 S' g E ∧ Step w4 w3 S4 S' ∧ E.FS dn F ∧ E.np ≤ k + 1 ∧ E.n = N ∧ E.size = Z)) := fun e w3 ⟨a3, c3, S3, g1, _, _, g4, g5⟩ => by
                    have hbk : w3.heap[wr.heap.size]? = w2.heap[wr.heap.size]? := g5.same aw.out
                    have k0 := (World.cell?_of_block (a := ⟨wr.heap.size, 0, none⟩) hbk).trans d0
                    have k1 := (World.cell?_of_block (a := ⟨wr.heap.size, 1, none⟩) hbk).trans d1
                    have k2 := (World.cell?_of_block (a := ⟨wr.heap.size, 2, none⟩) hbk).trans d2
                    have hdd := down_any g S3 (E.play (O k)).2.2 w3 g4
                    rw [hnp2] at hdd
                    rw [e1] at g1
                    exact ⟨_, g1, ⟨k0, k1, k2⟩, hdd, _, S3, g4, (hst.then hbw.out).trans g5, hfs2, by have := hps2.2.2; omega, hps2.2.1.trans hEn, hps2.1.trans hEz⟩
                  clear hfs2 hnp2 hps2 hst hEn hEz hup hlf hdn hkk aw hEL d0 d1 d2 d3 d4 d5
                  try clear lz
                  try clear hk2
                  try clear hk1
                  go_wp2_with (fail)
                  rw [hw2.out]
                  go_wp2_with (fail)
                  refine dP.out.mono ?_
                  rintro e w3 hp
                  obtain ⟨v1, rfl, ⟨f0, f1, f2⟩, hdd, h3⟩ := hfin.out e w3 hp
                  clear hp hfin dP hw2
                  go_wp2_with (fail)
                  refine hdd.out.mono ?_
                  rintro e w5 ⟨rfl, rfl⟩
                  clear hdd
                  go_wp2_with (fail)
                  exact ⟨⟨k + 1, dn, by go_num, by omega, by first | rfl | go_num, by omega, h3⟩, by simp [intOf]; omega⟩
            · skip
              rcases hfs with ⟨hdn, hup, hlf⟩ | ⟨hdn, hup⟩
              · by_cases hdl : dn < F
                · have tl : (dn : Int) < (F : Int) := by omega
                  have tg : ¬ (dn : Int) > (F : Int) := by omega
                  have tg2 : ¬ (dn : Int) + 1 > (F : Int) := by omega
                  obtain ⟨e1, e2⟩ := Dsk.fs_bad (o := O k) hup (.inl ⟨hkk, fun e => by have e1 := e.1.1; have e2 := e.1.2; have e3 := e.2; omega⟩)
                  have hfs2 : (E.play (O k)).2.2.FS dn F := by rw [e2]; exact .inl ⟨by omega, hup, hlf⟩
                  have hnp2 : (E.play (O k)).2.2.down = false := by rw [e2]; exact hup
                  have hfin : Hid (∀ e w3, PlR w2 S' g E (O k) e w3 → ∃ v1, e = .returned (.tuple #[v1, .int .i64 1]) ∧ (w3.cell? ⟨wr.heap.size, 0, none⟩ = some (.int .i64 (O k).k) ∧ w3.cell? ⟨wr.heap.size, 1, none⟩ = some (.int .i64 (O k).s) ∧ w3.cell? ⟨wr.heap.size, 2, none⟩ = some (.slice (A k) (L k) (C k))) ∧ Hid (Calls Try.prog 16 #[.pointer (some ⟨g, 0, none⟩)] w3 fun e w' => e = .returned (.bool false) ∧ w3 = w') ∧ Hid (∃ E S', DK w3 S' g E ∧ Step w4 w3 S4 S' ∧ E.FS dn F ∧ E.np ≤ k + 1 ∧ E.n = N ∧ E.size = Z)) := fun e w3 ⟨a3, c3, S3, g1, _, _, g4, g5⟩ => by
                    have hbk : w3.heap[wr.heap.size]? = w2.heap[wr.heap.size]? := g5.same aw.out
                    have k0 := (World.cell?_of_block (a := ⟨wr.heap.size, 0, none⟩) hbk).trans d0
                    have k1 := (World.cell?_of_block (a := ⟨wr.heap.size, 1, none⟩) hbk).trans d1
                    have k2 := (World.cell?_of_block (a := ⟨wr.heap.size, 2, none⟩) hbk).trans d2
                    have hdd := down_any g S3 (E.play (O k)).2.2 w3 g4
                    rw [hnp2] at hdd
                    rw [e1] at g1
                    exact ⟨_, g1, ⟨k0, k1, k2⟩, hdd, _, S3, g4, (hst.then hbw.out).trans g5, hfs2, by have := hps2.2.2; omega, hps2.2.1.trans hEn, hps2.1.trans hEz⟩
                  clear hfs2 hnp2 hps2 hst hEn hEz hup hlf hdn hkk aw hEL d0 d1 d2 d3 d4 d5
                  try clear lz
                  try clear hk2
                  try clear hk1
                  go_wp2_with (fail)
                  rw [hw2.out]
                  go_wp2_with (fail)
                  refine dP.out.mono ?_
                  rintro e w3 hp
                  obtain ⟨v1, rfl, ⟨f0, f1, f2⟩, hdd, h3⟩ := hfin.out e w3 hp
                  clear hp hfin dP hw2
                  go_wp2_with (fail)
                  refine hdd.out.mono ?_
                  rintro e w5 ⟨rfl, rfl⟩
                  clear hdd
                  go_wp2_with (fail)
                  exact ⟨⟨k + 1, dn, by go_num, by omega, by first | rfl | go_num, by omega, h3⟩, by simp [intOf]; omega⟩
                · have tl : ¬ (dn : Int) < (F : Int) := by omega
                  have tg : ¬ (dn : Int) > (F : Int) := by omega
                  have tg2 : (dn : Int) + 1 > (F : Int) := by omega
                  obtain ⟨e1, e2⟩ := Dsk.fs_bad (o := O k) hup (.inl ⟨hkk, fun e => by have e1 := e.1.1; have e2 := e.1.2; have e3 := e.2; omega⟩)
                  have hfs2 : (E.play (O k)).2.2.FS dn F := by rw [e2]; exact .inl ⟨by omega, hup, hlf⟩
                  have hnp2 : (E.play (O k)).2.2.down = false := by rw [e2]; exact hup
                  have hfin : Hid (∀ e w3, PlR w2 S' g E (O k) e w3 → ∃ v1, e = .returned (.tuple #[v1, .int .i64 1]) ∧ (w3.cell? ⟨wr.heap.size, 0, none⟩ = some (.int .i64 (O k).k) ∧ w3.cell? ⟨wr.heap.size, 1, none⟩ = some (.int .i64 (O k).s) ∧ w3.cell? ⟨wr.heap.size, 2, none⟩ = some (.slice (A k) (L k) (C k))) ∧ Hid (Calls Try.prog 16 #[.pointer (some ⟨g, 0, none⟩)] w3 fun e w' => e = .returned (.bool false) ∧ w3 = w') ∧ Hid (∃ E S', DK w3 S' g E ∧ Step w4 w3 S4 S' ∧ E.FS dn F ∧ E.np ≤ k + 1 ∧ E.n = N ∧ E.size = Z)) := fun e w3 ⟨a3, c3, S3, g1, _, _, g4, g5⟩ => by
                    have hbk : w3.heap[wr.heap.size]? = w2.heap[wr.heap.size]? := g5.same aw.out
                    have k0 := (World.cell?_of_block (a := ⟨wr.heap.size, 0, none⟩) hbk).trans d0
                    have k1 := (World.cell?_of_block (a := ⟨wr.heap.size, 1, none⟩) hbk).trans d1
                    have k2 := (World.cell?_of_block (a := ⟨wr.heap.size, 2, none⟩) hbk).trans d2
                    have hdd := down_any g S3 (E.play (O k)).2.2 w3 g4
                    rw [hnp2] at hdd
                    rw [e1] at g1
                    exact ⟨_, g1, ⟨k0, k1, k2⟩, hdd, _, S3, g4, (hst.then hbw.out).trans g5, hfs2, by have := hps2.2.2; omega, hps2.2.1.trans hEn, hps2.1.trans hEz⟩
                  clear hfs2 hnp2 hps2 hst hEn hEz hup hlf hdn hkk aw hEL d0 d1 d2 d3 d4 d5
                  try clear lz
                  try clear hk2
                  try clear hk1
                  go_wp2_with (fail)
                  rw [hw2.out]
                  go_wp2_with (fail)
                  refine dP.out.mono ?_
                  rintro e w3 hp
                  obtain ⟨v1, rfl, ⟨f0, f1, f2⟩, hdd, h3⟩ := hfin.out e w3 hp
                  clear hp hfin dP hw2
                  go_wp2_with (fail)
                  refine hdd.out.mono ?_
                  rintro e w5 ⟨rfl, rfl⟩
                  clear hdd
                  go_wp2_with (fail)
                  exact ⟨⟨k + 1, dn, by go_num, by omega, by first | rfl | go_num, by omega, h3⟩, by simp [intOf]; omega⟩
              · have tg : (dn : Int) > (F : Int) := by omega
                have hlf : True := trivial
                obtain ⟨e1, e2⟩ := Dsk.fs_down (o := O k) hup (.inl hkk)
                have hfs2 : (E.play (O k)).2.2.FS dn F := by rw [e2]; exact .inr ⟨hdn, hup⟩
                have hnp2 : (E.play (O k)).2.2.down = true := by rw [e2]; exact hup
                have hfin : Hid (∀ e w3, PlR w2 S' g E (O k) e w3 → ∃ v1, e = .returned (.tuple #[v1, .int .i64 8]) ∧ (w3.cell? ⟨wr.heap.size, 0, none⟩ = some (.int .i64 (O k).k) ∧ w3.cell? ⟨wr.heap.size, 1, none⟩ = some (.int .i64 (O k).s) ∧ w3.cell? ⟨wr.heap.size, 2, none⟩ = some (.slice (A k) (L k) (C k))) ∧ Hid (Calls Try.prog 16 #[.pointer (some ⟨g, 0, none⟩)] w3 fun e w' => e = .returned (.bool true) ∧ w3 = w') ∧ Hid (∃ E S', DK w3 S' g E ∧ Step w4 w3 S4 S' ∧ E.FS dn F ∧ E.np ≤ k + 1 ∧ E.n = N ∧ E.size = Z)) := fun e w3 ⟨a3, c3, S3, g1, _, _, g4, g5⟩ => by
                  have hbk : w3.heap[wr.heap.size]? = w2.heap[wr.heap.size]? := g5.same aw.out
                  have k0 := (World.cell?_of_block (a := ⟨wr.heap.size, 0, none⟩) hbk).trans d0
                  have k1 := (World.cell?_of_block (a := ⟨wr.heap.size, 1, none⟩) hbk).trans d1
                  have k2 := (World.cell?_of_block (a := ⟨wr.heap.size, 2, none⟩) hbk).trans d2
                  have hdd := down_any g S3 (E.play (O k)).2.2 w3 g4
                  rw [hnp2] at hdd
                  rw [e1] at g1
                  exact ⟨_, g1, ⟨k0, k1, k2⟩, hdd, _, S3, g4, (hst.then hbw.out).trans g5, hfs2, by have := hps2.2.2; omega, hps2.2.1.trans hEn, hps2.1.trans hEz⟩
                clear hfs2 hnp2 hps2 hst hEn hEz hup hlf hdn hkk aw hEL d0 d1 d2 d3 d4 d5
                try clear lz
                try clear hk2
                try clear hk1
                go_wp2_with (fail)
                rw [hw2.out]
                go_wp2_with (fail)
                refine dP.out.mono ?_
                rintro e w3 hp
                obtain ⟨v1, rfl, ⟨f0, f1, f2⟩, hdd, h3⟩ := hfin.out e w3 hp
                clear hp hfin dP hw2
                go_wp2_with (fail)
                refine hdd.out.mono ?_
                rintro e w5 ⟨rfl, rfl⟩
                clear hdd
                go_wp2_with (fail)
                exact ⟨⟨k + 1, dn, by go_num, by omega, by first | rfl | go_num, by omega, h3⟩, by simp [intOf]; omega⟩
          · by_cases hk1 : (O k).k = 1
            · have hkk := hk1
              have q0 : ((O k).k == 0) = false := by simp [hkk]
              have r0 : ((O k).k != 0) = true := by simp [hkk]
              have q1 : ((O k).k == 1) = true := by simp [hkk]
              have r1 : ((O k).k != 1) = false := by simp [hkk]
              have q2 : ((O k).k == 2) = false := by simp [hkk]
              have r2 : ((O k).k != 2) = true := by simp [hkk]
              by_cases s0 : (O k).s ≥ 0
              · by_cases s1 : (O k).s < (N : Int)
                · skip
                  rcases hfs with ⟨hdn, hup, hlf⟩ | ⟨hdn, hup⟩
                  · by_cases hdl : dn < F
                    · have tl : (dn : Int) < (F : Int) := by omega
                      have tg : ¬ (dn : Int) > (F : Int) := by omega
                      have tg2 : ¬ (dn : Int) + 1 > (F : Int) := by omega
                      obtain ⟨e1, e2⟩ := Dsk.fs_read (o := O k) hup ⟨hkk, by omega⟩
                      have hfs2 : (E.play (O k)).2.2.FS dn F := by rw [e2]; exact .inl ⟨by omega, hup, hlf⟩
                      have hnp2 : (E.play (O k)).2.2.down = false := by rw [e2]; exact hup
                      have hfin : Hid (∀ e w3, PlR w2 S' g E (O k) e w3 → ∃ v1, e = .returned (.tuple #[v1, .int .i64 0]) ∧ (w3.cell? ⟨wr.heap.size, 0, none⟩ = some (.int .i64 (O k).k) ∧ w3.cell? ⟨wr.heap.size, 1, none⟩ = some (.int .i64 (O k).s) ∧ w3.cell? ⟨wr.heap.size, 2, none⟩ = some (.slice (A k) (L k) (C k))) ∧ Hid (Calls Try.prog 16 #[.pointer (some ⟨g, 0, none⟩)] w3 fun e w' => e = .returned (.bool false) ∧ w3 = w') ∧ Hid (∃ E S', DK w3 S' g E ∧ Step w4 w3 S4 S' ∧ E.FS dn F ∧ E.np ≤ k + 1 ∧ E.n = N ∧ E.size = Z)) := fun e w3 ⟨a3, c3, S3, g1, _, _, g4, g5⟩ => by
                        have hbk : w3.heap[wr.heap.size]? = w2.heap[wr.heap.size]? := g5.same aw.out
                        have k0 := (World.cell?_of_block (a := ⟨wr.heap.size, 0, none⟩) hbk).trans d0
                        have k1 := (World.cell?_of_block (a := ⟨wr.heap.size, 1, none⟩) hbk).trans d1
                        have k2 := (World.cell?_of_block (a := ⟨wr.heap.size, 2, none⟩) hbk).trans d2
                        have hdd := down_any g S3 (E.play (O k)).2.2 w3 g4
                        rw [hnp2] at hdd
                        rw [e1] at g1
                        exact ⟨_, g1, ⟨k0, k1, k2⟩, hdd, _, S3, g4, (hst.then hbw.out).trans g5, hfs2, by have := hps2.2.2; omega, hps2.2.1.trans hEn, hps2.1.trans hEz⟩
                      clear hfs2 hnp2 hps2 hst hEn hEz hup hlf hdn hkk aw hEL d0 d1 d2 d3 d4 d5
                      try clear lz
                      try clear hk2
                      try clear hk1
                      go_wp2_with (fail)
                      rw [hw2.out]
                      go_wp2_with (fail)
                      refine dP.out.mono ?_
                      rintro e w3 hp
                      obtain ⟨v1, rfl, ⟨f0, f1, f2⟩, hdd, h3⟩ := hfin.out e w3 hp
                      clear hp hfin dP hw2
                      go_wp2_with (fail)
                      refine hdd.out.mono ?_
                      rintro e w5 ⟨rfl, rfl⟩
                      clear hdd
                      go_wp2_with (fail)
                      exact ⟨⟨k + 1, dn, by go_num, by omega, by first | rfl | go_num, by omega, h3⟩, by simp [intOf]; omega⟩
                    · have tl : ¬ (dn : Int) < (F : Int) := by omega
                      have tg : ¬ (dn : Int) > (F : Int) := by omega
                      have tg2 : (dn : Int) + 1 > (F : Int) := by omega
                      obtain ⟨e1, e2⟩ := Dsk.fs_read (o := O k) hup ⟨hkk, by omega⟩
                      have hfs2 : (E.play (O k)).2.2.FS dn F := by rw [e2]; exact .inl ⟨by omega, hup, hlf⟩
                      have hnp2 : (E.play (O k)).2.2.down = false := by rw [e2]; exact hup
                      have hfin : Hid (∀ e w3, PlR w2 S' g E (O k) e w3 → ∃ v1, e = .returned (.tuple #[v1, .int .i64 0]) ∧ (w3.cell? ⟨wr.heap.size, 0, none⟩ = some (.int .i64 (O k).k) ∧ w3.cell? ⟨wr.heap.size, 1, none⟩ = some (.int .i64 (O k).s) ∧ w3.cell? ⟨wr.heap.size, 2, none⟩ = some (.slice (A k) (L k) (C k))) ∧ Hid (Calls Try.prog 16 #[.pointer (some ⟨g, 0, none⟩)] w3 fun e w' => e = .returned (.bool false) ∧ w3 = w') ∧ Hid (∃ E S', DK w3 S' g E ∧ Step w4 w3 S4 S' ∧ E.FS dn F ∧ E.np ≤ k + 1 ∧ E.n = N ∧ E.size = Z)) := fun e w3 ⟨a3, c3, S3, g1, _, _, g4, g5⟩ => by
                        have hbk : w3.heap[wr.heap.size]? = w2.heap[wr.heap.size]? := g5.same aw.out
                        have k0 := (World.cell?_of_block (a := ⟨wr.heap.size, 0, none⟩) hbk).trans d0
                        have k1 := (World.cell?_of_block (a := ⟨wr.heap.size, 1, none⟩) hbk).trans d1
                        have k2 := (World.cell?_of_block (a := ⟨wr.heap.size, 2, none⟩) hbk).trans d2
                        have hdd := down_any g S3 (E.play (O k)).2.2 w3 g4
                        rw [hnp2] at hdd
                        rw [e1] at g1
                        exact ⟨_, g1, ⟨k0, k1, k2⟩, hdd, _, S3, g4, (hst.then hbw.out).trans g5, hfs2, by have := hps2.2.2; omega, hps2.2.1.trans hEn, hps2.1.trans hEz⟩
                      clear hfs2 hnp2 hps2 hst hEn hEz hup hlf hdn hkk aw hEL d0 d1 d2 d3 d4 d5
                      try clear lz
                      try clear hk2
                      try clear hk1
                      go_wp2_with (fail)
                      rw [hw2.out]
                      go_wp2_with (fail)
                      refine dP.out.mono ?_
                      rintro e w3 hp
                      obtain ⟨v1, rfl, ⟨f0, f1, f2⟩, hdd, h3⟩ := hfin.out e w3 hp
                      clear hp hfin dP hw2
                      go_wp2_with (fail)
                      refine hdd.out.mono ?_
                      rintro e w5 ⟨rfl, rfl⟩
                      clear hdd
                      go_wp2_with (fail)
                      exact ⟨⟨k + 1, dn, by go_num, by omega, by first | rfl | go_num, by omega, h3⟩, by simp [intOf]; omega⟩
                  · have tg : (dn : Int) > (F : Int) := by omega
                    have hlf : True := trivial
                    obtain ⟨e1, e2⟩ := Dsk.fs_down (o := O k) hup (.inr (.inl hkk))
                    have hfs2 : (E.play (O k)).2.2.FS dn F := by rw [e2]; exact .inr ⟨hdn, hup⟩
                    have hnp2 : (E.play (O k)).2.2.down = true := by rw [e2]; exact hup
                    have hfin : Hid (∀ e w3, PlR w2 S' g E (O k) e w3 → ∃ v1, e = .returned (.tuple #[v1, .int .i64 8]) ∧ (w3.cell? ⟨wr.heap.size, 0, none⟩ = some (.int .i64 (O k).k) ∧ w3.cell? ⟨wr.heap.size, 1, none⟩ = some (.int .i64 (O k).s) ∧ w3.cell? ⟨wr.heap.size, 2, none⟩ = some (.slice (A k) (L k) (C k))) ∧ Hid (Calls Try.prog 16 #[.pointer (some ⟨g, 0, none⟩)] w3 fun e w' => e = .returned (.bool true) ∧ w3 = w') ∧ Hid (∃ E S', DK w3 S' g E ∧ Step w4 w3 S4 S' ∧ E.FS dn F ∧ E.np ≤ k + 1 ∧ E.n = N ∧ E.size = Z)) := fun e w3 ⟨a3, c3, S3, g1, _, _, g4, g5⟩ => by
                      have hbk : w3.heap[wr.heap.size]? = w2.heap[wr.heap.size]? := g5.same aw.out
                      have k0 := (World.cell?_of_block (a := ⟨wr.heap.size, 0, none⟩) hbk).trans d0
                      have k1 := (World.cell?_of_block (a := ⟨wr.heap.size, 1, none⟩) hbk).trans d1
                      have k2 := (World.cell?_of_block (a := ⟨wr.heap.size, 2, none⟩) hbk).trans d2
                      have hdd := down_any g S3 (E.play (O k)).2.2 w3 g4
                      rw [hnp2] at hdd
                      rw [e1] at g1
                      exact ⟨_, g1, ⟨k0, k1, k2⟩, hdd, _, S3, g4, (hst.then hbw.out).trans g5, hfs2, by have := hps2.2.2; omega, hps2.2.1.trans hEn, hps2.1.trans hEz⟩
                    clear hfs2 hnp2 hps2 hst hEn hEz hup hlf hdn hkk aw hEL d0 d1 d2 d3 d4 d5
                    try clear lz
                    try clear hk2
                    try clear hk1
                    go_wp2_with (fail)
                    rw [hw2.out]
                    go_wp2_with (fail)
                    refine dP.out.mono ?_
                    rintro e w3 hp
                    obtain ⟨v1, rfl, ⟨f0, f1, f2⟩, hdd, h3⟩ := hfin.out e w3 hp
                    clear hp hfin dP hw2
                    go_wp2_with (fail)
                    refine hdd.out.mono ?_
                    rintro e w5 ⟨rfl, rfl⟩
                    clear hdd
                    go_wp2_with (fail)
                    exact ⟨⟨k + 1, dn, by go_num, by omega, by first | rfl | go_num, by omega, h3⟩, by simp [intOf]; omega⟩
                · skip
                  rcases hfs with ⟨hdn, hup, hlf⟩ | ⟨hdn, hup⟩
                  · by_cases hdl : dn < F
                    · have tl : (dn : Int) < (F : Int) := by omega
                      have tg : ¬ (dn : Int) > (F : Int) := by omega
                      have tg2 : ¬ (dn : Int) + 1 > (F : Int) := by omega
                      obtain ⟨e1, e2⟩ := Dsk.fs_bad (o := O k) hup (.inr ⟨hkk, fun e => by have e1 := e.1; have e2 := e.2; omega⟩)
                      have hfs2 : (E.play (O k)).2.2.FS dn F := by rw [e2]; exact .inl ⟨by omega, hup, hlf⟩
                      have hnp2 : (E.play (O k)).2.2.down = false := by rw [e2]; exact hup
                      have hfin : Hid (∀ e w3, PlR w2 S' g E (O k) e w3 → ∃ v1, e = .returned (.tuple #[v1, .int .i64 1]) ∧ (w3.cell? ⟨wr.heap.size, 0, none⟩ = some (.int .i64 (O k).k) ∧ w3.cell? ⟨wr.heap.size, 1, none⟩ = some (.int .i64 (O k).s) ∧ w3.cell? ⟨wr.heap.size, 2, none⟩ = some (.slice (A k) (L k) (C k))) ∧ Hid (Calls Try.prog 16 #[.pointer (some ⟨g, 0, none⟩)] w3 fun e w' => e = .returned (.bool false) ∧ w3 = w') ∧ Hid (∃ E S', DK w3 S' g E ∧ Step w4 w3 S4 S' ∧ E.FS dn F ∧ E.np ≤ k + 1 ∧ E.n = N ∧ E.size = Z)) := fun e w3 ⟨a3, c3, S3, g1, _, _, g4, g5⟩ => by
                        have hbk : w3.heap[wr.heap.size]? = w2.heap[wr.heap.size]? := g5.same aw.out
                        have k0 := (World.cell?_of_block (a := ⟨wr.heap.size, 0, none⟩) hbk).trans d0
                        have k1 := (World.cell?_of_block (a := ⟨wr.heap.size, 1, none⟩) hbk).trans d1
                        have k2 := (World.cell?_of_block (a := ⟨wr.heap.size, 2, none⟩) hbk).trans d2
                        have hdd := down_any g S3 (E.play (O k)).2.2 w3 g4
                        rw [hnp2] at hdd
                        rw [e1] at g1
                        exact ⟨_, g1, ⟨k0, k1, k2⟩, hdd, _, S3, g4, (hst.then hbw.out).trans g5, hfs2, by have := hps2.2.2; omega, hps2.2.1.trans hEn, hps2.1.trans hEz⟩
                      clear hfs2 hnp2 hps2 hst hEn hEz hup hlf hdn hkk aw hEL d0 d1 d2 d3 d4 d5
                      try clear lz
                      try clear hk2
                      try clear hk1
                      go_wp2_with (fail)
                      rw [hw2.out]
                      go_wp2_with (fail)
                      refine dP.out.mono ?_
                      rintro e w3 hp
                      obtain ⟨v1, rfl, ⟨f0, f1, f2⟩, hdd, h3⟩ := hfin.out e w3 hp
                      clear hp hfin dP hw2
                      go_wp2_with (fail)
                      refine hdd.out.mono ?_
                      rintro e w5 ⟨rfl, rfl⟩
                      clear hdd
                      go_wp2_with (fail)
                      exact ⟨⟨k + 1, dn, by go_num, by omega, by first | rfl | go_num, by omega, h3⟩, by simp [intOf]; omega⟩
                    · have tl : ¬ (dn : Int) < (F : Int) := by omega
                      have tg : ¬ (dn : Int) > (F : Int) := by omega
                      have tg2 : (dn : Int) + 1 > (F : Int) := by omega
                      obtain ⟨e1, e2⟩ := Dsk.fs_bad (o := O k) hup (.inr ⟨hkk, fun e => by have e1 := e.1; have e2 := e.2; omega⟩)
                      have hfs2 : (E.play (O k)).2.2.FS dn F := by rw [e2]; exact .inl ⟨by omega, hup, hlf⟩
                      have hnp2 : (E.play (O k)).2.2.down = false := by rw [e2]; exact hup
                      have hfin : Hid (∀ e w3, PlR w2 S' g E (O k) e w3 → ∃ v1, e = .returned (.tuple #[v1, .int .i64 1]) ∧ (w3.cell? ⟨wr.heap.size, 0, none⟩ = some (.int .i64 (O k).k) ∧ w3.cell? ⟨wr.heap.size, 1, none⟩ = some (.int .i64 (O k).s) ∧ w3.cell? ⟨wr.heap.size, 2, none⟩ = some (.slice (A k) (L k) (C k))) ∧ Hid (Calls Try.prog 16 #[.pointer (some ⟨g, 0, none⟩)] w3 fun e w' => e = .returned (.bool false) ∧ w3 = w') ∧ Hid (∃ E S', DK w3 S' g E ∧ Step w4 w3 S4 S' ∧ E.FS dn F ∧ E.np ≤ k + 1 ∧ E.n = N ∧ E.size = Z)) := fun e w3 ⟨a3, c3, S3, g1, _, _, g4, g5⟩ => by
                        have hbk : w3.heap[wr.heap.size]? = w2.heap[wr.heap.size]? := g5.same aw.out
                        have k0 := (World.cell?_of_block (a := ⟨wr.heap.size, 0, none⟩) hbk).trans d0
                        have k1 := (World.cell?_of_block (a := ⟨wr.heap.size, 1, none⟩) hbk).trans d1
                        have k2 := (World.cell?_of_block (a := ⟨wr.heap.size, 2, none⟩) hbk).trans d2
                        have hdd := down_any g S3 (E.play (O k)).2.2 w3 g4
                        rw [hnp2] at hdd
                        rw [e1] at g1
                        exact ⟨_, g1, ⟨k0, k1, k2⟩, hdd, _, S3, g4, (hst.then hbw.out).trans g5, hfs2, by have := hps2.2.2; omega, hps2.2.1.trans hEn, hps2.1.trans hEz⟩
                      clear hfs2 hnp2 hps2 hst hEn hEz hup hlf hdn hkk aw hEL d0 d1 d2 d3 d4 d5
                      try clear lz
                      try clear hk2
                      try clear hk1
                      go_wp2_with (fail)
                      rw [hw2.out]
                      go_wp2_with (fail)
                      refine dP.out.mono ?_
                      rintro e w3 hp
                      obtain ⟨v1, rfl, ⟨f0, f1, f2⟩, hdd, h3⟩ := hfin.out e w3 hp
                      clear hp hfin dP hw2
                      go_wp2_with (fail)
                      refine hdd.out.mono ?_
                      rintro e w5 ⟨rfl, rfl⟩
                      clear hdd
                      go_wp2_with (fail)
                      exact ⟨⟨k + 1, dn, by go_num, by omega, by first | rfl | go_num, by omega, h3⟩, by simp [intOf]; omega⟩
                  · have tg : (dn : Int) > (F : Int) := by omega
                    have hlf : True := trivial
                    obtain ⟨e1, e2⟩ := Dsk.fs_down (o := O k) hup (.inr (.inl hkk))
                    have hfs2 : (E.play (O k)).2.2.FS dn F := by rw [e2]; exact .inr ⟨hdn, hup⟩
                    have hnp2 : (E.play (O k)).2.2.down = true := by rw [e2]; exact hup
                    have hfin : Hid (∀ e w3, PlR w2 S' g E (O k) e w3 → ∃ v1, e = .returned (.tuple #[v1, .int .i64 8]) ∧ (w3.cell? ⟨wr.heap.size, 0, none⟩ = some (.int .i64 (O k).k) ∧ w3.cell? ⟨wr.heap.size, 1, none⟩ = some (.int .i64 (O k).s) ∧ w3.cell? ⟨wr.heap.size, 2, none⟩ = some (.slice (A k) (L k) (C k))) ∧ Hid (Calls Try.prog 16 #[.pointer (some ⟨g, 0, none⟩)] w3 fun e w' => e = .returned (.bool true) ∧ w3 = w') ∧ Hid (∃ E S', DK w3 S' g E ∧ Step w4 w3 S4 S' ∧ E.FS dn F ∧ E.np ≤ k + 1 ∧ E.n = N ∧ E.size = Z)) := fun e w3 ⟨a3, c3, S3, g1, _, _, g4, g5⟩ => by
                      have hbk : w3.heap[wr.heap.size]? = w2.heap[wr.heap.size]? := g5.same aw.out
                      have k0 := (World.cell?_of_block (a := ⟨wr.heap.size, 0, none⟩) hbk).trans d0
                      have k1 := (World.cell?_of_block (a := ⟨wr.heap.size, 1, none⟩) hbk).trans d1
                      have k2 := (World.cell?_of_block (a := ⟨wr.heap.size, 2, none⟩) hbk).trans d2
                      have hdd := down_any g S3 (E.play (O k)).2.2 w3 g4
                      rw [hnp2] at hdd
                      rw [e1] at g1
                      exact ⟨_, g1, ⟨k0, k1, k2⟩, hdd, _, S3, g4, (hst.then hbw.out).trans g5, hfs2, by have := hps2.2.2; omega, hps2.2.1.trans hEn, hps2.1.trans hEz⟩
                    clear hfs2 hnp2 hps2 hst hEn hEz hup hlf hdn hkk aw hEL d0 d1 d2 d3 d4 d5
                    try clear lz
                    try clear hk2
                    try clear hk1
                    go_wp2_with (fail)
                    rw [hw2.out]
                    go_wp2_with (fail)
                    refine dP.out.mono ?_
                    rintro e w3 hp
                    obtain ⟨v1, rfl, ⟨f0, f1, f2⟩, hdd, h3⟩ := hfin.out e w3 hp
                    clear hp hfin dP hw2
                    go_wp2_with (fail)
                    refine hdd.out.mono ?_
                    rintro e w5 ⟨rfl, rfl⟩
                    clear hdd
                    go_wp2_with (fail)
                    exact ⟨⟨k + 1, dn, by go_num, by omega, by first | rfl | go_num, by omega, h3⟩, by simp [intOf]; omega⟩
              · skip
                rcases hfs with ⟨hdn, hup, hlf⟩ | ⟨hdn, hup⟩
                · by_cases hdl : dn < F
                  · have tl : (dn : Int) < (F : Int) := by omega
                    have tg : ¬ (dn : Int) > (F : Int) := by omega
                    have tg2 : ¬ (dn : Int) + 1 > (F : Int) := by omega
                    obtain ⟨e1, e2⟩ := Dsk.fs_bad (o := O k) hup (.inr ⟨hkk, fun e => by have e1 := e.1; have e2 := e.2; omega⟩)
                    have hfs2 : (E.play (O k)).2.2.FS dn F := by rw [e2]; exact .inl ⟨by omega, hup, hlf⟩
                    have hnp2 : (E.play (O k)).2.2.down = false := by rw [e2]; exact hup
                    have hfin : Hid (∀ e w3, PlR w2 S' g E (O k) e w3 → ∃ v1, e = .returned (.tuple #[v1, .int .i64 1]) ∧ (w3.cell? ⟨wr.heap.size, 0, none⟩ = some (.int .i64 (O k).k) ∧ w3.cell? ⟨wr.heap.size, 1, none⟩ = some (.int .i64 (O k).s) ∧ w3.cell? ⟨wr.heap.size, 2, none⟩ = some (.slice (A k) (L k) (C k))) ∧ Hid (Calls Try.prog 16 #[.pointer (some ⟨g, 0, none⟩)] w3 fun e w' => e = .returned (.bool false) ∧ w3 = w') ∧ Hid (∃ E S', DK w3 S' g E ∧ Step w4 w3 S4 S' ∧ E.FS dn F ∧ E.np ≤ k + 1 ∧ E.n = N ∧ E.size = Z)) := fun e w3 ⟨a3, c3, S3, g1, _, _, g4, g5⟩ => by
                      have hbk : w3.heap[wr.heap.size]? = w2.heap[wr.heap.size]? := g5.same aw.out
                      have k0 := (World.cell?_of_block (a := ⟨wr.heap.size, 0, none⟩) hbk).trans d0
                      have k1 := (World.cell?_of_block (a := ⟨wr.heap.size, 1, none⟩) hbk).trans d1
                      have k2 := (World.cell?_of_block (a := ⟨wr.heap.size, 2, none⟩) hbk).trans d2
                      have hdd := down_any g S3 (E.play (O k)).2.2 w3 g4
                      rw [hnp2] at hdd
                      rw [e1] at g1
                      exact ⟨_, g1, ⟨k0, k1, k2⟩, hdd, _, S3, g4, (hst.then hbw.out).trans g5, hfs2, by have := hps2.2.2; omega, hps2.2.1.trans hEn, hps2.1.trans hEz⟩
                    clear hfs2 hnp2 hps2 hst hEn hEz hup hlf hdn hkk aw hEL d0 d1 d2 d3 d4 d5
                    try clear lz
                    try clear hk2
                    try clear hk1
                    go_wp2_with (fail)
                    rw [hw2.out]
                    go_wp2_with (fail)
                    refine dP.out.mono ?_
                    rintro e w3 hp
                    obtain ⟨v1, rfl, ⟨f0, f1, f2⟩, hdd, h3⟩ := hfin.out e w3 hp
                    clear hp hfin dP hw2
                    go_wp2_with (fail)
                    refine hdd.out.mono ?_
                    rintro e w5 ⟨rfl, rfl⟩
                    clear hdd
                    go_wp2_with (fail)
                    exact ⟨⟨k + 1, dn, by go_num, by omega, by first | rfl | go_num, by omega, h3⟩, by simp [intOf]; omega⟩
                  · have tl : ¬ (dn : Int) < (F : Int) := by omega
                    have tg : ¬ (dn : Int) > (F : Int) := by omega
                    have tg2 : (dn : Int) + 1 > (F : Int) := by omega
                    obtain ⟨e1, e2⟩ := Dsk.fs_bad (o := O k) hup (.inr ⟨hkk, fun e => by have e1 := e.1; have e2 := e.2; omega⟩)
                    have hfs2 : (E.play (O k)).2.2.FS dn F := by rw [e2]; exact .inl ⟨by omega, hup, hlf⟩
                    have hnp2 : (E.play (O k)).2.2.down = false := by rw [e2]; exact hup
                    have hfin : Hid (∀ e w3, PlR w2 S' g E (O k) e w3 → ∃ v1, e = .returned (.tuple #[v1, .int .i64 1]) ∧ (w3.cell? ⟨wr.heap.size, 0, none⟩ = some (.int .i64 (O k).k) ∧ w3.cell? ⟨wr.heap.size, 1, none⟩ = some (.int .i64 (O k).s) ∧ w3.cell? ⟨wr.heap.size, 2, none⟩ = some (.slice (A k) (L k) (C k))) ∧ Hid (Calls Try.prog 16 #[.pointer (some ⟨g, 0, none⟩)] w3 fun e w' => e = .returned (.bool false) ∧ w3 = w') ∧ Hid (∃ E S', DK w3 S' g E ∧ Step w4 w3 S4 S' ∧ E.FS dn F ∧ E.np ≤ k + 1 ∧ E.n = N ∧ E.size = Z)) := fun e w3 ⟨a3, c3, S3, g1, _, _, g4, g5⟩ => by
                      have hbk : w3.heap[wr.heap.size]? = w2.heap[wr.heap.size]? := g5.same aw.out
                      have k0 := (World.cell?_of_block (a := ⟨wr.heap.size, 0, none⟩) hbk).trans d0
                      have k1 := (World.cell?_of_block (a := ⟨wr.heap.size, 1, none⟩) hbk).trans d1
                      have k2 := (World.cell?_of_block (a := ⟨wr.heap.size, 2, none⟩) hbk).trans d2
                      have hdd := down_any g S3 (E.play (O k)).2.2 w3 g4
                      rw [hnp2] at hdd
                      rw [e1] at g1
                      exact ⟨_, g1, ⟨k0, k1, k2⟩, hdd, _, S3, g4, (hst.then hbw.out).trans g5, hfs2, by have := hps2.2.2; omega, hps2.2.1.trans hEn, hps2.1.trans hEz⟩
                    clear hfs2 hnp2 hps2 hst hEn hEz hup hlf hdn hkk aw hEL d0 d1 d2 d3 d4 d5
                    try clear lz
                    try clear hk2
                    try clear hk1
                    go_wp2_with (fail)
                    rw [hw2.out]
                    go_wp2_with (fail)
                    refine dP.out.mono ?_
                    rintro e w3 hp
                    obtain ⟨v1, rfl, ⟨f0, f1, f2⟩, hdd, h3⟩ := hfin.out e w3 hp
                    clear hp hfin dP hw2
                    go_wp2_with (fail)
                    refine hdd.out.mono ?_
                    rintro e w5 ⟨rfl, rfl⟩
                    clear hdd
                    go_wp2_with (fail)
                    exact ⟨⟨k + 1, dn, by go_num, by omega, by first | rfl | go_num, by omega, h3⟩, by simp [intOf]; omega⟩
                · have tg : (dn : Int) > (F : Int) := by omega
                  have hlf : True := trivial
                  obtain ⟨e1, e2⟩ := Dsk.fs_down (o := O k) hup (.inr (.inl hkk))
                  have hfs2 : (E.play (O k)).2.2.FS dn F := by rw [e2]; exact .inr ⟨hdn, hup⟩
                  have hnp2 : (E.play (O k)).2.2.down = true := by rw [e2]; exact hup
                  have hfin : Hid (∀ e w3, PlR w2 S' g E (O k) e w3 → ∃ v1, e = .returned (.tuple #[v1, .int .i64 8]) ∧ (w3.cell? ⟨wr.heap.size, 0, none⟩ = some (.int .i64 (O k).k) ∧ w3.cell? ⟨wr.heap.size, 1, none⟩ = some (.int .i64 (O k).s) ∧ w3.cell? ⟨wr.heap.size, 2, none⟩ = some (.slice (A k) (L k) (C k))) ∧ Hid (Calls Try.prog 16 #[.pointer (some ⟨g, 0, none⟩)] w3 fun e w' => e = .returned (.bool true) ∧ w3 = w') ∧ Hid (∃ E S', DK w3 S' g E ∧ Step w4 w3 S4 S' ∧ E.FS dn F ∧ E.np ≤ k + 1 ∧ E.n = N ∧ E.size = Z)) := fun e w3 ⟨a3, c3, S3, g1, _, _, g4, g5⟩ => by
                    have hbk : w3.heap[wr.heap.size]? = w2.heap[wr.heap.size]? := g5.same aw.out
                    have k0 := (World.cell?_of_block (a := ⟨wr.heap.size, 0, none⟩) hbk).trans d0
                    have k1 := (World.cell?_of_block (a := ⟨wr.heap.size, 1, none⟩) hbk).trans d1
                    have k2 := (World.cell?_of_block (a := ⟨wr.heap.size, 2, none⟩) hbk).trans d2
                    have hdd := down_any g S3 (E.play (O k)).2.2 w3 g4
                    rw [hnp2] at hdd
                    rw [e1] at g1
                    exact ⟨_, g1, ⟨k0, k1, k2⟩, hdd, _, S3, g4, (hst.then hbw.out).trans g5, hfs2, by have := hps2.2.2; omega, hps2.2.1.trans hEn, hps2.1.trans hEz⟩
                  clear hfs2 hnp2 hps2 hst hEn hEz hup hlf hdn hkk aw hEL d0 d1 d2 d3 d4 d5
                  try clear lz
                  try clear hk2
                  try clear hk1
                  go_wp2_with (fail)
                  rw [hw2.out]
                  go_wp2_with (fail)
                  refine dP.out.mono ?_
                  rintro e w3 hp
                  obtain ⟨v1, rfl, ⟨f0, f1, f2⟩, hdd, h3⟩ := hfin.out e w3 hp
                  clear hp hfin dP hw2
                  go_wp2_with (fail)
                  refine hdd.out.mono ?_
                  rintro e w5 ⟨rfl, rfl⟩
                  clear hdd
                  go_wp2_with (fail)
                  exact ⟨⟨k + 1, dn, by go_num, by omega, by first | rfl | go_num, by omega, h3⟩, by simp [intOf]; omega⟩
            · by_cases hk2 : (O k).k = 2
              · have hkk := hk2
                have q0 : ((O k).k == 0) = false := by simp [hkk]
                have r0 : ((O k).k != 0) = true := by simp [hkk]
                have q1 : ((O k).k == 1) = false := by simp [hkk]
                have r1 : ((O k).k != 1) = true := by simp [hkk]
                have q2 : ((O k).k == 2) = true := by simp [hkk]
                have r2 : ((O k).k != 2) = false := by simp [hkk]
                rcases hfs with ⟨hdn, hup, hlf⟩ | ⟨hdn, hup⟩
                · by_cases hdl : dn < F
                  · have tl : (dn : Int) < (F : Int) := by omega
                    have tg : ¬ (dn : Int) > (F : Int) := by omega
                    have tg2 : ¬ (dn : Int) + 1 > (F : Int) := by omega
                    obtain ⟨e1, e2, e3⟩ := (Dsk.fs_op (o := O k) hup (by omega) (.inr hkk)).1 (by omega)
                    have hfs2 : (E.play (O k)).2.2.FS (dn + 1) F := .inl ⟨by omega, e2, by rw [e3, hlf]; omega⟩
                    have hnp2 : (E.play (O k)).2.2.down = false := e2
                    have hfin : Hid (∀ e w3, PlR w2 S' g E (O k) e w3 → ∃ v1, e = .returned (.tuple #[v1, .int .i64 0]) ∧ (w3.cell? ⟨wr.heap.size, 0, none⟩ = some (.int .i64 (O k).k) ∧ w3.cell? ⟨wr.heap.size, 1, none⟩ = some (.int .i64 (O k).s) ∧ w3.cell? ⟨wr.heap.size, 2, none⟩ = some (.slice (A k) (L k) (C k))) ∧ Hid (Calls Try.prog 16 #[.pointer (some ⟨g, 0, none⟩)] w3 fun e w' => e = .returned (.bool false) ∧ w3 = w') ∧ Hid (∃ E S', DK w3 S' g E ∧ Step w4 w3 S4 S' ∧ E.FS (dn + 1) F ∧ E.np ≤ k + 1 ∧ E.n = N ∧ E.size = Z)) := fun e w3 ⟨a3, c3, S3, g1, _, _, g4, g5⟩ => by
                      have hbk : w3.heap[wr.heap.size]? = w2.heap[wr.heap.size]? := g5.same aw.out
                      have k0 := (World.cell?_of_block (a := ⟨wr.heap.size, 0, none⟩) hbk).trans d0
                      have k1 := (World.cell?_of_block (a := ⟨wr.heap.size, 1, none⟩) hbk).trans d1
                      have k2 := (World.cell?_of_block (a := ⟨wr.heap.size, 2, none⟩) hbk).trans d2
                      have hdd := down_any g S3 (E.play (O k)).2.2 w3 g4
                      rw [hnp2] at hdd
                      rw [e1] at g1
                      exact ⟨_, g1, ⟨k0, k1, k2⟩, hdd, _, S3, g4, (hst.then hbw.out).trans g5, hfs2, by have := hps2.2.2; omega, hps2.2.1.trans hEn, hps2.1.trans hEz⟩
                    clear hfs2 hnp2 hps2 hst hEn hEz hup hlf hdn hkk aw hEL d0 d1 d2 d3 d4 d5
                    try clear lz
                    try clear hk2
                    try clear hk1
                    go_wp2_with (fail)
                    rw [hw2.out]
                    go_wp2_with (fail)
                    refine dP.out.mono ?_
                    rintro e w3 hp
                    obtain ⟨v1, rfl, ⟨f0, f1, f2⟩, hdd, h3⟩ := hfin.out e w3 hp
                    clear hp hfin dP hw2
                    go_wp2_with (fail)
                    refine hdd.out.mono ?_
                    rintro e w5 ⟨rfl, rfl⟩
                    clear hdd
                    go_wp2_with (fail)
                    exact ⟨⟨k + 1, (dn + 1), by go_num, by omega, by first | rfl | go_num, by omega, h3⟩, by simp [intOf]; omega⟩
                  · have tl : ¬ (dn : Int) < (F : Int) := by omega
                    have tg : ¬ (dn : Int) > (F : Int) := by omega
                    have tg2 : (dn : Int) + 1 > (F : Int) := by omega
                    obtain ⟨e1, e2⟩ := (Dsk.fs_op (o := O k) hup (by omega) (.inr hkk)).2 (by omega)
                    have hfs2 : (E.play (O k)).2.2.FS (dn + 1) F := .inr ⟨by omega, e2⟩
                    have hnp2 : (E.play (O k)).2.2.down = true := e2
                    have hfin : Hid (∀ e w3, PlR w2 S' g E (O k) e w3 → ∃ v1, e = .returned (.tuple #[v1, .int .i64 8]) ∧ (w3.cell? ⟨wr.heap.size, 0, none⟩ = some (.int .i64 (O k).k) ∧ w3.cell? ⟨wr.heap.size, 1, none⟩ = some (.int .i64 (O k).s) ∧ w3.cell? ⟨wr.heap.size, 2, none⟩ = some (.slice (A k) (L k) (C k))) ∧ Hid (Calls Try.prog 16 #[.pointer (some ⟨g, 0, none⟩)] w3 fun e w' => e = .returned (.bool true) ∧ w3 = w') ∧ Hid (∃ E S', DK w3 S' g E ∧ Step w4 w3 S4 S' ∧ E.FS (dn + 1) F ∧ E.np ≤ k + 1 ∧ E.n = N ∧ E.size = Z)) := fun e w3 ⟨a3, c3, S3, g1, _, _, g4, g5⟩ => by
                      have hbk : w3.heap[wr.heap.size]? = w2.heap[wr.heap.size]? := g5.same aw.out
                      have k0 := (World.cell?_of_block (a := ⟨wr.heap.size, 0, none⟩) hbk).trans d0
                      have k1 := (World.cell?_of_block (a := ⟨wr.heap.size, 1, none⟩) hbk).trans d1
                      have k2 := (World.cell?_of_block (a := ⟨wr.heap.size, 2, none⟩) hbk).trans d2
                      have hdd := down_any g S3 (E.play (O k)).2.2 w3 g4
                      rw [hnp2] at hdd
                      rw [e1] at g1
                      exact ⟨_, g1, ⟨k0, k1, k2⟩, hdd, _, S3, g4, (hst.then hbw.out).trans g5, hfs2, by have := hps2.2.2; omega, hps2.2.1.trans hEn, hps2.1.trans hEz⟩
                    clear hfs2 hnp2 hps2 hst hEn hEz hup hlf hdn hkk aw hEL d0 d1 d2 d3 d4 d5
                    try clear lz
                    try clear hk2
                    try clear hk1
                    go_wp2_with (fail)
                    rw [hw2.out]
                    go_wp2_with (fail)
                    refine dP.out.mono ?_
                    rintro e w3 hp
                    obtain ⟨v1, rfl, ⟨f0, f1, f2⟩, hdd, h3⟩ := hfin.out e w3 hp
                    clear hp hfin dP hw2
                    go_wp2_with (fail)
                    refine hdd.out.mono ?_
                    rintro e w5 ⟨rfl, rfl⟩
                    clear hdd
                    go_wp2_with (fail)
                    exact ⟨⟨k + 1, (dn + 1), by go_num, by omega, by first | rfl | go_num, by omega, h3⟩, by simp [intOf]; omega⟩
                · have tg : (dn : Int) > (F : Int) := by omega
                  have hlf : True := trivial
                  obtain ⟨e1, e2⟩ := Dsk.fs_down (o := O k) hup (.inr (.inr hkk))
                  have hfs2 : (E.play (O k)).2.2.FS dn F := by rw [e2]; exact .inr ⟨hdn, hup⟩
                  have hnp2 : (E.play (O k)).2.2.down = true := by rw [e2]; exact hup
                  have hfin : Hid (∀ e w3, PlR w2 S' g E (O k) e w3 → ∃ v1, e = .returned (.tuple #[v1, .int .i64 8]) ∧ (w3.cell? ⟨wr.heap.size, 0, none⟩ = some (.int .i64 (O k).k) ∧ w3.cell? ⟨wr.heap.size, 1, none⟩ = some (.int .i64 (O k).s) ∧ w3.cell? ⟨wr.heap.size, 2, none⟩ = some (.slice (A k) (L k) (C k))) ∧ Hid (Calls Try.prog 16 #[.pointer (some ⟨g, 0, none⟩)] w3 fun e w' => e = .returned (.bool true) ∧ w3 = w') ∧ Hid (∃ E S', DK w3 S' g E ∧ Step w4 w3 S4 S' ∧ E.FS dn F ∧ E.np ≤ k + 1 ∧ E.n = N ∧ E.size = Z)) := fun e w3 ⟨a3, c3, S3, g1, _, _, g4, g5⟩ => by
                    have hbk : w3.heap[wr.heap.size]? = w2.heap[wr.heap.size]? := g5.same aw.out
                    have k0 := (World.cell?_of_block (a := ⟨wr.heap.size, 0, none⟩) hbk).trans d0
                    have k1 := (World.cell?_of_block (a := ⟨wr.heap.size, 1, none⟩) hbk).trans d1
                    have k2 := (World.cell?_of_block (a := ⟨wr.heap.size, 2, none⟩) hbk).trans d2
                    have hdd := down_any g S3 (E.play (O k)).2.2 w3 g4
                    rw [hnp2] at hdd
                    rw [e1] at g1
                    exact ⟨_, g1, ⟨k0, k1, k2⟩, hdd, _, S3, g4, (hst.then hbw.out).trans g5, hfs2, by have := hps2.2.2; omega, hps2.2.1.trans hEn, hps2.1.trans hEz⟩
                  clear hfs2 hnp2 hps2 hst hEn hEz hup hlf hdn hkk aw hEL d0 d1 d2 d3 d4 d5
                  try clear lz
                  try clear hk2
                  try clear hk1
                  go_wp2_with (fail)
                  rw [hw2.out]
                  go_wp2_with (fail)
                  refine dP.out.mono ?_
                  rintro e w3 hp
                  obtain ⟨v1, rfl, ⟨f0, f1, f2⟩, hdd, h3⟩ := hfin.out e w3 hp
                  clear hp hfin dP hw2
                  go_wp2_with (fail)
                  refine hdd.out.mono ?_
                  rintro e w5 ⟨rfl, rfl⟩
                  clear hdd
                  go_wp2_with (fail)
                  exact ⟨⟨k + 1, dn, by go_num, by omega, by first | rfl | go_num, by omega, h3⟩, by simp [intOf]; omega⟩
              · have r0 : ((O k).k != 0) = true := by simp [hkk]
                have r1 : ((O k).k != 1) = true := by simp [hk1]
                have r2 : ((O k).k != 2) = true := by simp [hk2]
                have h3 : Hid (∃ E S', DK w2 S' g E ∧ Step w4 w2 S4 S' ∧ E.FS dn F ∧ E.np ≤ k + 1 ∧ E.n = N ∧ E.size = Z) := ⟨E, S', dh.out.below dW2.out, hst.then hbw.out, hfs, by omega, hEn, hEz⟩
                clear hkk hk1 hk2 hst hfs hEn hEz aw hps2 dP dh dst dW2 hEL
                rw [← hw2.out] at h3 d0 d1 d2
                go_wp2_with (fail)
                exact ⟨⟨k + 1, dn, by go_num, by omega, rfl, by omega, h3⟩, by simp [intOf]; omega⟩
        · have t1 : ¬ (k : Int) < (len : Int) := by omega
          have HB5 := hidIt HB
          have hS5 := hidIt (hst.lo H4.out.size hS4.out)
          have dF := hidIt (fail_any g S' E (-1) (by decide) wr hDr)
          obtain ⟨E2, hE2, e21, e22, e23⟩ : ∃ E2, Hid (E.fail (-1) = E2) ∧ Hid (E2.down = E.down) ∧ Hid (E2.np = E.np) ∧ Hid (E2.left = -1) := ⟨_, rfl, rfl, rfl, rfl⟩
          rw [hE2.out] at dF
          have hfs' := hidIt hfs
          clear hDr hst HB hfs hEn hEz
          go_wp2_with (fail)
          refine dF.out.mono ?_
          rintro e w6 ⟨rfl, hD, hst⟩
          have hD6 := hidIt hD
          have H6 := hidIt (HB5.out.trans (hst.below HB5.out.size hS5.out))
          have hS6 := hidIt (hst.lo HB5.out.size hS5.out)
          have dD := hidIt (down_any g S' E2 w6 hD6)
          rw [e21.out] at dD
          have dC := hidIt (crash_any g S' E2 none 0 0 [] 0 w6 hD6 (fun i hi => by simp at hi) rfl (fun x hx => by cases hx) (by rw [e22.out]; omega))
          obtain ⟨E3, hE3, e31, e32, e33, e34⟩ : ∃ E3, Hid (E2.crash (fun i => ([] : List Bool).getD i false) 0 = E3) ∧ Hid (E3.down = false) ∧ Hid (E3.np = 0) ∧ Hid (E3.left = -1) ∧ Hid (E3.sync.1 = 0) := ⟨_, rfl, rfl, rfl, rfl, rfl⟩
          rw [hE3.out] at dC
          have hres : Hid (E.down = decide ((F : Int) < (dn : Int))) := by
            show _ = _
            rcases hfs'.out with ⟨h1, h2, _⟩ | ⟨h1, h2⟩
            · rw [h2]; exact (decide_eq_false (by omega)).symm
            · rw [h2]; exact (decide_eq_true (by omega)).symm
          rw [hres.out] at dD
          clear hD hst dF hfs' HB5 hS5
          go_wp2_with (fail)
          refine dD.out.mono ?_
          rintro e w7 ⟨rfl, rfl⟩
          clear dD
          go_wp2_with (fail)
          refine dC.out.mono ?_
          rintro e w7 ⟨rfl, S7, hD, hst⟩
          have hD7 := hidIt hD
          have H7 := hidIt (H6.out.trans (hst.below H6.out.size hS6.out))
          have hS7 := hidIt (hst.lo H6.out.size hS6.out)
          have dD := hidIt (down_any g S7 E3 w7 hD7)
          rw [e31.out] at dD
          have dY := hidIt (sync_any g S7 E3 w7 hD7 (by rw [e32.out]; decide))
          rw [e34.out] at dY
          clear hD hst dC hD6 H6 hS6
          go_wp2_with (fail)
          refine dD.out.mono ?_
          rintro e w8 ⟨rfl, rfl⟩
          clear dD
          go_wp2_with (fail)
          refine dY.out.mono ?_
          rintro e w8 ⟨rfl, S8, hD, hst⟩
          have H8 := hidIt (H7.out.trans (hst.below H7.out.size hS7.out))
          clear hD hst dY hD7
          go_wp2_with (fail)
          go_ret
          exact ⟨rfl, H8.out⟩
  · rw [decide_eq_false hsm]
    clear hsm
    go_wp2_with (fail)
    go_ret
    exact ⟨rfl, H1.out⟩
end Go.Proofs.Ytlpggkdmjmlpkaa
