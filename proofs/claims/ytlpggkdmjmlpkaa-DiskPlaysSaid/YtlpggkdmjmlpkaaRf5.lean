import Derived.Test.YtlpggkdmjmlpkaaRf4
namespace Go.Proofs.Ytlpggkdmjmlpkaa
open Go.RowKit
set_option maxRecDepth 100000 in
set_option maxHeartbeats 2000000 in
theorem rcrash_any (g : Nat) (S : Nat → Prop) (D : Dsk) (a : Option Addr) (len cap : Nat) (ks : List Bool) (torn : Int) (w : World) (h : Hid (RK w S g D)) (hks : Hid (Bools w a ks)) (hl : Hid (len = ks.length)) (haw : Hid (∀ x, a = some x → 0 < ks.length → Away w S x.block)) (hnp : D.np ≤ 1000000) :
    Calls Try.prog 36 #[.pointer (some ⟨g, 0, none⟩), .slice a len cap, .int .i64 torn] w fun e w' => e = .returned (.tuple #[]) ∧ ∃ S', RK w' S' g (D.crash (fun i => ks.getD i false) torn) ∧ Step w w' S S' := by
  obtain ⟨⟨dv, lv, Q, C, P, PC, hX0, hS0⟩, hlt0⟩ := h.out
  have hX := hidIt hX0
  obtain ⟨f0, f1, f2, f3, f4, fz⟩ := hX0.fields
  have hwf := hidIt hX0.wf
  have hz2 := hX0.wf.s2
  have hP0 : Hid (RPut w w S S g dv lv Q C P PC D) := ⟨hX0, hS0, hlt0, Step.refl _ _⟩
  obtain ⟨a0, c, hpv, hpc, _⟩ := hX0.pend
  obtain ⟨db, dc, hdv, _, _, _⟩ := hX0.durc
  clear hX0 hS0 hlt0
  obtain ⟨kf, hkf⟩ : ∃ kf : Nat → Bool, Hid (kf = fun i => ks.getD i false) := ⟨_, rfl⟩
  obtain ⟨t, ht⟩ : ∃ t : Nat, Hid ((min (max torn 0) (D.size : Int)).toNat = t) := ⟨_, rfl⟩
  have htI : min (max torn 0) (D.size : Int) = (t : Int) := by have := ht.out; omega
  have htz : Hid (t ≤ D.size) := by show _ ≤ _; omega
  have hcr : Hid (D.crash (fun i => ks.getD i false) torn = { (Dsk.crN kf t D D.np).2 with np := 0, left := -1, down := false }) := by show _ = _; unfold Dsk.crash; rw [ht.out, ← hkf.out]
  rw [hcr.out]
  obtain ⟨n, hn⟩ : ∃ n, Hid (D.np = n) := ⟨_, rfl⟩
  obtain ⟨z, hzz⟩ : ∃ z, Hid (D.size = z) := ⟨_, rfl⟩
  obtain ⟨N, hN⟩ : ∃ N, Hid (D.n = N) := ⟨_, rfl⟩
  subst hpv hdv
  rw [hn.out] at hnp hpc f2 ⊢
  rw [hzz.out] at f0 htI htz hz2
  have hT0 : Hid ((Dsk.crN kf t D 0).1 = if true = true then t else 0) := rfl
  clear h hX f1 f3 f4 fz hcr ht
  go_enter Try.func36, Try.ntmps36
  go_wp2_with (fail)
  go_loopw [6, 7] (fun fv i wr => ∃ (k : Nat) (f : Bool), i = .int .i64 (k : Int) ∧ k ≤ n ∧ fv = .bool f ∧ Hid ((Dsk.crN kf t D k).1 = if f = true then t else 0) ∧ Hid (∃ S' Q' C', RPut w wr S S' g (.slice (some ⟨db, 0, none⟩) N dc) (.slice a0 n c) Q' C' P PC (Dsk.crN kf t D k).2)) (fun _ i _ => n - (intOf i).toNat)
  case atStart => exact ⟨0, true, rfl, by omega, rfl, hT0, S, Q, C, by have := hP0.out; rw [hn.out, hN.out] at this; exact this⟩
  case round =>
    obtain ⟨k, f, rfl, hk, rfl, hu, hr⟩ := hrel
    obtain ⟨S', Q', C', hPr⟩ := hr.out
    clear hr f0 f2
    have k2 := hPr.dx.fields.pend
    by_cases hkn : k < n
    · obtain ⟨e1, e2, e3, e4, e5, e6, e7⟩ := Dsk.crN_same kf t D k
      obtain ⟨b, rfl, hbs, c0, c1⟩ := hPr.dx.pcell (j := k) (by rw [e3, hn.out]; exact hkn)
      rw [e4] at c0
      rw [e1, hzz.out] at c1
      have hkb : Hid (Bools wr a ks) := hks.out.blocks fun x hx h0 => hPr.step.same (haw.out x hx h0)
      obtain ⟨s, hs⟩ : ∃ s, Hid (D.ps k = s) := ⟨_, rfl⟩
      obtain ⟨p, hp⟩ : ∃ p, Hid (P k = p) := ⟨_, rfl⟩
      obtain ⟨pc, hpcc⟩ : ∃ pc, Hid (PC k = pc) := ⟨_, rfl⟩
      have dS : Hid (∀ W (m : Nat), m ≤ z → Below wr.heap.size wr W → Calls Try.prog 45 #[.pointer (some ⟨g, 0, none⟩), .agg #[.int .i64 (s : Int), .slice (some ⟨p, 0, none⟩) z pc], .int .i64 (m : Int)] W fun e w' => e = .returned (.tuple #[]) ∧ ∃ S2 Q2 C2, RPut w w' S S2 g (.slice (some ⟨db, 0, none⟩) N dc) (.slice (some ⟨b, 0, none⟩) n c) Q2 C2 P PC ((Dsk.crN kf t D k).2.put (D.ps k) (D.pb k) m)) := fun W m hm hW => by
        have := rput_at kf t D k hPr hN.out (by rw [hn.out]; exact hkn) m (by rw [hzz.out]; exact hm) hW
        rw [hp.out, hpcc.out, hzz.out] at this
        rw [← hs.out]
        exact this
      have k0 := hPr.dx.fields.size
      rw [e1, hzz.out] at k0
      rw [hs.out] at c0
      rw [hp.out, hpcc.out] at c1
      have t1 : (k : Int) < (n : Int) := by omega
      have hPr' := hidIt hPr
      clear e1 e2 e3 e4 e5 e6 e7 hPr hs hp hpcc hbs hP0 hks haw
      by_cases hkt : kf k = true
      · have hkl : k < len := by
          rw [hkf.out] at hkt
          rcases Nat.lt_or_ge k len with x | x
          · exact x
          · exfalso
            have hkt' : ks.getD k false = true := hkt
            rw [List.getD_eq_getElem?_getD, List.getElem?_eq_none (by rw [← hl.out]; exact x)] at hkt'
            simp at hkt'
        have tl : (k : Int) < (len : Int) := by omega
        obtain ⟨bk, ok, rfl, q1⟩ := hkb.out k (by rw [← hl.out]; exact hkl)
        have q1' : wr.cell? ⟨bk, ok + k, none⟩ = some (.bool true) := by rw [← hkt, hkf.out]; exact q1
        have dS2 := hidIt (dS.out wr.drew z (Nat.le_refl _) (Below.drew (Below.refl _ _)))
        have hu2 : Hid ((Dsk.crN kf t D (k + 1)).1 = if f = true then t else 0) := by show _ = _; rw [Dsk.crN, if_pos hkt]; exact hu.out
        rw [show (Dsk.crN kf t D k).2.put (D.ps k) (D.pb k) z = (Dsk.crN kf t D (k + 1)).2 by rw [Dsk.crN, if_pos hkt, hzz.out]] at dS2
        clear dS hkt q1 hkb hPr'
        go_wp2_with (fail)
        go_region_law (first
          | (go_simp; go_at_call 45; (with_reducible refine Calls.mono dS2.out ?_); rintro e w3 ⟨rfl, hP3⟩; replace hP3 := hidIt hP3))
        all_goals first
          | exact ⟨⟨k + 1, f, by go_num, by omega, rfl, hu2, hP3⟩, by simp [intOf]; omega⟩
          | (go_wp2_with (fail)
             exact ⟨⟨k + 1, f, by go_num, by omega, rfl, hu2, hP3⟩, by simp [intOf]; omega⟩)
      · have hkt' : kf k = false := by simpa using hkt
        cases f with
        | true =>
          have hu' : (Dsk.crN kf t D k).1 = t := hu.out
          have dS2 := hidIt (dS.out wr.drew t htz.out (Below.drew (Below.refl _ _)))
          have hu2 : Hid ((Dsk.crN kf t D (k + 1)).1 = if false = true then t else 0) := by show _ = _; rw [Dsk.crN, if_neg hkt]; rfl
          rw [show (Dsk.crN kf t D k).2.put (D.ps k) (D.pb k) t = (Dsk.crN kf t D (k + 1)).2 by rw [Dsk.crN, if_neg hkt, hu']] at dS2
          clear dS hkt hPr' hu'
          by_cases hkl : k < len
          · have tl : (k : Int) < (len : Int) := by omega
            obtain ⟨bk, ok, rfl, q1⟩ := hkb.out k (by rw [← hl.out]; exact hkl)
            have q1' : wr.cell? ⟨bk, ok + k, none⟩ = some (.bool false) := by rw [← hkt', hkf.out]; exact q1
            clear q1 hkb hkt'
            go_wp2_with (fail)
            go_region_law (first
              | (go_simp; go_at_call 45; (with_reducible refine Calls.mono dS2.out ?_); rintro e w3 ⟨rfl, hP3⟩; replace hP3 := hidIt hP3))
            all_goals first
              | exact ⟨⟨k + 1, false, by go_num, by omega, rfl, hu2, hP3⟩, by simp [intOf]; omega⟩
              | (go_wp2_with (fail)
                 exact ⟨⟨k + 1, false, by go_num, by omega, rfl, hu2, hP3⟩, by simp [intOf]; omega⟩)
          · have tl : ¬ (k : Int) < (len : Int) := by omega
            clear hkb hkt'
            go_wp2_with (fail)
            go_region_law (first
              | (go_simp; go_at_call 45; (with_reducible refine Calls.mono dS2.out ?_); rintro e w3 ⟨rfl, hP3⟩; replace hP3 := hidIt hP3))
            all_goals first
              | exact ⟨⟨k + 1, false, by go_num, by omega, rfl, hu2, hP3⟩, by simp [intOf]; omega⟩
              | (go_wp2_with (fail)
                 exact ⟨⟨k + 1, false, by go_num, by omega, rfl, hu2, hP3⟩, by simp [intOf]; omega⟩)
        | false =>
          have hu' : (Dsk.crN kf t D k).1 = 0 := hu.out
          have hu2 : Hid ((Dsk.crN kf t D (k + 1)).1 = if false = true then t else 0) := by show _ = _; rw [Dsk.crN, if_neg hkt]; rfl
          have hP3 : Hid (∃ S' Q' C', RPut w wr S S' g (.slice (some ⟨db, 0, none⟩) N dc) (.slice (some ⟨b, 0, none⟩) n c) Q' C' P PC (Dsk.crN kf t D (k + 1)).2) := by
            have e : (Dsk.crN kf t D (k + 1)).2 = (Dsk.crN kf t D k).2 := by rw [Dsk.crN, if_neg hkt, hu']; exact Dsk.put_zero _ _ _
            rw [e]
            exact ⟨S', Q', C', hPr'.out⟩
          clear dS hkt hPr' hu'
          by_cases hkl : k < len
          · have tl : (k : Int) < (len : Int) := by omega
            obtain ⟨bk, ok, rfl, q1⟩ := hkb.out k (by rw [← hl.out]; exact hkl)
            have q1' : wr.cell? ⟨bk, ok + k, none⟩ = some (.bool false) := by rw [← hkt', hkf.out]; exact q1
            clear q1 hkb hkt'
            go_wp2_with (fail)
            exact ⟨⟨k + 1, false, by go_num, by omega, rfl, hu2, hP3⟩, by simp [intOf]; omega⟩
          · have tl : ¬ (k : Int) < (len : Int) := by omega
            clear hkb hkt'
            go_wp2_with (fail)
            exact ⟨⟨k + 1, false, by go_num, by omega, rfl, hu2, hP3⟩, by simp [intOf]; omega⟩
    · have hkn' : Hid (k = n) := by show _ = _; omega
      rw [hkn'.out] at hPr
      have tn : ¬ (k : Int) < (n : Int) := by omega
      have hB := hPr.dx.blk
      have g2f := hB.frozen 2
      have g3f := hB.frozen 3
      have g4f := hB.frozen 4
      have g3 := hPr.dx.fields.down
      have g4 := hPr.dx.fields.left
      have hfin : Hid (∃ S', RK (((wr.setCell ⟨g, 2, none⟩ (.slice none 0 0)).setCell ⟨g, 3, none⟩ (.bool false)).setCell ⟨g, 4, none⟩ (.int .i64 (-1))) S' g { (Dsk.crN kf t D n).2 with np := 0, left := -1, down := false } ∧ Step w (((wr.setCell ⟨g, 2, none⟩ (.slice none 0 0)).setCell ⟨g, 3, none⟩ (.bool false)).setCell ⟨g, 4, none⟩ (.int .i64 (-1))) S S') := by
        have hg := ((grownBy_setC wr g 2 (.slice none 0 0)).trans (grownBy_setC _ g 3 (.bool false))).trans (grownBy_setC _ g 4 (.int .i64 (-1)))
        have hwf' : ({ (Dsk.crN kf t D n).2 with np := 0, left := -1, down := false } : Dsk).WF := ((hPr.dx.wf.clear).setLeft (l := -1) (by decide) (by decide)).setDown false
        have hX := hPr.dx.field hg (D' := { (Dsk.crN kf t D n).2 with np := 0, left := -1, down := false }) (lv' := .slice none 0 0) hwf' (((hB.set_ 2 _).set_ 3 _).set_ 4 _) rfl rfl rfl (.inr ⟨rfl, rfl⟩)
        exact ⟨S', RK.field hX hPr.fp hPr.lt (by simp) rfl (.inr ⟨rfl, rfl⟩), hPr.step.trans (Step.of_grown hg (hPr.fp g (.inl rfl)))⟩
      clear hPr hP0 hB
      go_wp2_with (fail)
      go_end0
      exact ⟨rfl, hfin.out⟩
end Go.Proofs.Ytlpggkdmjmlpkaa
