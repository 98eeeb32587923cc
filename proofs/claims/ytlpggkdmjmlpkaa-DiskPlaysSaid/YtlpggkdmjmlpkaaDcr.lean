import Derived.Test.YtlpggkdmjmlpkaaDs
import Derived.Lib.MinMax
namespace Go.Proofs.Ytlpggkdmjmlpkaa
open Go.RowKit
/-- a slice of bools -/
def Bools (w : World) (a : Option Addr) (ks : List Bool) : Prop := ∀ i, i < ks.length → ∃ b off, a = some ⟨b, off, none⟩ ∧ w.cell? ⟨b, off + i, none⟩ = some (.bool (ks.getD i false))
theorem Bools.blocks {w w' : World} {a : Option Addr} {ks : List Bool} (h : Bools w a ks) (hb : ∀ x, a = some x → 0 < ks.length → w'.heap[x.block]? = w.heap[x.block]?) : Bools w' a ks := by
  intro i hi
  obtain ⟨b, off, h2, h3⟩ := h i hi
  exact ⟨b, off, h2, (World.cell?_of_block (a := ⟨b, off + i, none⟩) (show w'.heap[b]? = w.heap[b]? from hb _ h2 (by omega))).trans h3⟩
theorem Bools.below {w w' : World} {a : Option Addr} {ks : List Bool} (h : Bools w a ks) (hb : Below w.heap.size w w') : Bools w' a ks := by
  intro i hi
  obtain ⟨b, off, h2, h3⟩ := h i hi
  exact ⟨b, off, h2, (hb.cell (p := ⟨b, off + i, none⟩) (bytes_lt h3)).trans h3⟩
set_option maxRecDepth 100000 in
set_option maxHeartbeats 2000000 in
theorem crash_any (g : Nat) (S : Nat → Prop) (D : Dsk) (a : Option Addr) (len cap : Nat) (ks : List Bool) (torn : Int) (w : World) (h : Hid (DK w S g D)) (hks : Hid (Bools w a ks)) (hl : Hid (len = ks.length)) (haw : Hid (∀ x, a = some x → 0 < ks.length → Away w S x.block)) (hnp : D.np ≤ 1000000) :
    Calls Try.prog 28 #[.pointer (some ⟨g, 0, none⟩), .slice a len cap, .int .i64 torn] w fun e w' => e = .returned (.tuple #[]) ∧ ∃ S', DK w' S' g (D.crash (fun i => ks.getD i false) torn) ∧ Step w w' S S' := by
  obtain ⟨⟨dB, A, pv, P, hX0, hS0⟩, hlt0⟩ := h.out
  have hX := hidIt hX0
  obtain ⟨f0, f1, f2, f3, f4, fz⟩ := hX0.fields
  have hwf := hidIt hX0.wf
  have hz2 := hX0.wf.s2
  have hP0 : Hid (PutR w w S S g dB A pv P D) := ⟨hX0, hS0, hlt0, Step.refl _ _⟩
  obtain ⟨a0, c, hpv, hpc, _⟩ := hX0.pend
  clear hX0 hS0 hlt0
  obtain ⟨kf, hkf⟩ : ∃ kf : Nat → Bool, Hid (kf = fun i => ks.getD i false) := ⟨_, rfl⟩
  obtain ⟨t, ht⟩ : ∃ t : Nat, Hid ((min (max torn 0) (D.size : Int)).toNat = t) := ⟨_, rfl⟩
  have htI : min (max torn 0) (D.size : Int) = (t : Int) := by have := ht.out; omega
  have htz : Hid (t ≤ D.size) := by show _ ≤ _; omega
  have hcr : Hid (D.crash (fun i => ks.getD i false) torn = { (Dsk.crN kf t D D.np).2 with np := 0, left := -1, down := false }) := by show _ = _; unfold Dsk.crash; rw [ht.out, ← hkf.out]
  rw [hcr.out]
  obtain ⟨n, hn⟩ : ∃ n, Hid (D.np = n) := ⟨_, rfl⟩
  obtain ⟨z, hzz⟩ : ∃ z, Hid (D.size = z) := ⟨_, rfl⟩
  subst hpv
  rw [hn.out] at hnp hpc f2 ⊢
  rw [hzz.out] at f0 htI htz hz2
  have hT0 : Hid (t = (Dsk.crN kf t D 0).1) := rfl
  clear h hX f1 f3 f4 fz hcr ht
  go_enter Try.func28, Try.ntmps28
  go_wp2_with (fail)
  go_loopw [2, 20] (fun tv i wr => ∃ k u : Nat, i = .int .i64 (k : Int) ∧ k ≤ n ∧ tv = .int .i64 (u : Int) ∧ Hid (u = (Dsk.crN kf t D k).1) ∧ Hid (∃ A' S', PutR w wr S S' g dB A' (.slice a0 n c) P (Dsk.crN kf t D k).2)) (fun _ i _ => n - (intOf i).toNat)
  case atStart => exact ⟨0, t, rfl, by omega, rfl, hT0, A, S, by have := hP0.out; rw [hn.out] at this; exact this⟩
  case round =>
    obtain ⟨k, u, rfl, hk, rfl, hu, hr⟩ := hrel
    obtain ⟨A', S', hPr⟩ := hr.out
    clear hr f0 f2
    by_cases hkn : k < n
    · obtain ⟨e1, e2, e3, e4, e5, e6, e7⟩ := Dsk.crN_same kf t D k
      obtain ⟨b, rfl, hbs, c0, c1⟩ := hPr.dx.pcell (j := k) (by rw [e3, hn.out]; exact hkn)
      rw [e4] at c0
      rw [e1, hzz.out] at c1
      have hkb : Hid (Bools wr a ks) := hks.out.blocks fun x hx h0 => hPr.step.same (haw.out x hx h0)
      obtain ⟨s, hs⟩ : ∃ s, Hid (D.ps k = s) := ⟨_, rfl⟩
      obtain ⟨p, hp⟩ : ∃ p, Hid (P k = p) := ⟨_, rfl⟩
      have dS : Hid (∀ W (m : Nat), m = (if kf k = true then z else u) → Below wr.heap.size wr W → Calls Try.prog 41 #[.pointer (some ⟨g, 0, none⟩), .agg #[.int .i64 (s : Int), .slice (some ⟨p, 0, none⟩) z z], .int .i64 (m : Int)] W fun e w' => e = .returned (.tuple #[]) ∧ ∃ A2 S2, PutR w w' S S2 g dB A2 (.slice (some ⟨b, 0, none⟩) n c) P (Dsk.crN kf t D (k + 1)).2) := fun W m hm hW => by
        have := settle_at kf t D k hPr (by rw [hn.out]; exact hkn) (by rw [hzz.out]; exact htz.out) hwf.out m (by rw [hm, hzz.out, hu.out]) hW
        rw [hs.out, hp.out, hzz.out] at this
        exact this
      have k0 : Hid (∀ W, Below wr.heap.size wr W → W.cell? ⟨g, 0, none⟩ = some (.int .i64 (z : Int))) := fun W hW => by
        have := (hPr.dx.below hW).fields.size
        rw [e1, hzz.out] at this
        exact this
      rw [hs.out] at c0
      rw [hp.out] at c1
      have t1 : (k : Int) < (n : Int) := by omega
      obtain ⟨w2, hw2, hbx⟩ : ∃ w2, Hid (wr.alloc (.cells #[.int .i64 (s : Int), .slice (some ⟨p, 0, none⟩) z z] 66) = w2) ∧ WBox wr w2 wr.heap.size s p z := ⟨_, rfl, wbox_new wr s p z⟩
      obtain ⟨Bx, hBx⟩ : ∃ Bx, Hid (wr.heap.size = Bx) := ⟨_, rfl⟩
      rw [hBx.out] at hbx
      have d0 := hbx.c0
      have d1 := hbx.c1
      have hbl : Hid (Below wr.heap.size wr w2) := hbx.bel
      have d2 := k0.out w2 hbl.out
      have hkb2 := hidIt (hkb.out.below hbl.out)
      clear e1 e2 e3 e4 e5 e6 e7 hPr hs hp hbs hkb hbx k0 hP0 hks haw
      by_cases hkl : k < len
      · obtain ⟨bk, ok, rfl, q1⟩ := hkb2.out k (by rw [← hl.out]; exact hkl)
        have q1' : w2.cell? ⟨bk, ok + k, none⟩ = some (.bool (kf k)) := by rw [hkf.out]; exact q1
        rw [← hw2.out] at q1'
        clear q1
        by_cases hkt : kf k = true
        · rw [hkt] at q1'
          have dS2 := hidIt (dS.out w2.drew z (by rw [if_pos hkt]) (Below.drew hbl.out))
          have hu2 : Hid (u = (Dsk.crN kf t D (k + 1)).1) := by show _ = _; rw [Dsk.crN, if_pos hkt]; exact hu.out
          clear dS hbl hkt
          go_wp2_with (fail)
          rw [hw2.out, hBx.out]
          go_wp2_with (fail)
          go_region_law (first
            | (go_simp; go_at_call 41; (with_reducible refine Calls.mono dS2.out ?_); rintro e w3 ⟨rfl, hP3⟩; replace hP3 := hidIt hP3))
          all_goals first
            | exact ⟨⟨k + 1, u, by go_num, by omega, rfl, hu2, hP3⟩, by simp [intOf]; omega⟩
            | (go_wp2_with (fail)
               exact ⟨⟨k + 1, u, by go_num, by omega, rfl, hu2, hP3⟩, by simp [intOf]; omega⟩)
        · have hkt' : kf k = false := by simpa using hkt
          rw [hkt'] at q1'
          have dS2 := hidIt (dS.out w2 u (by rw [if_neg hkt]) hbl.out)
          have hu2 : Hid (0 = (Dsk.crN kf t D (k + 1)).1) := by show _ = _; rw [Dsk.crN, if_neg hkt]
          clear dS hbl hkt
          go_wp2_with (fail)
          rw [hw2.out, hBx.out]
          go_wp2_with (fail)
          refine dS2.out.mono ?_
          rintro e w3 ⟨rfl, hP3⟩
          replace hP3 := hidIt hP3
          go_wp2_with (fail)
          exact ⟨⟨k + 1, 0, by go_num, by omega, rfl, hu2, hP3⟩, by simp [intOf]; omega⟩
      · have hkt : ¬ kf k = true := by
          rw [hkf.out]
          show ¬ ks.getD k false = true
          rw [List.getD_eq_getElem?_getD, List.getElem?_eq_none (by rw [← hl.out]; omega)]
          simp
        have dS2 := hidIt (dS.out w2 u (by rw [if_neg hkt]) hbl.out)
        have hu2 : Hid (0 = (Dsk.crN kf t D (k + 1)).1) := by show _ = _; rw [Dsk.crN, if_neg hkt]
        clear dS hbl hkt
        go_wp2_with (fail)
        rw [hw2.out, hBx.out]
        go_wp2_with (fail)
        refine dS2.out.mono ?_
        rintro e w3 ⟨rfl, hP3⟩
        replace hP3 := hidIt hP3
        go_wp2_with (fail)
        exact ⟨⟨k + 1, 0, by go_num, by omega, rfl, hu2, hP3⟩, by simp [intOf]; omega⟩
    · have hkn' : Hid (k = n) := by show _ = _; omega
      rw [hkn'.out] at hPr
      obtain ⟨e1, e2, e3, e4, e5, e6, e7⟩ := Dsk.crN_same kf t D n
      have hB := hPr.dx.blk
      have g2f := hB.frozen 2
      have g3f := hB.frozen 3
      have g4f := hB.frozen 4
      have g2 := hPr.dx.fields.pend
      have g3 := hPr.dx.fields.left
      have g4 := hPr.dx.fields.down
      have hfin : Hid (∃ S', DK (((wr.setCell ⟨g, 2, none⟩ (.slice none 0 0)).setCell ⟨g, 3, none⟩ (.int .i64 (-1))).setCell ⟨g, 4, none⟩ (.bool false)) S' g { (Dsk.crN kf t D n).2 with np := 0, left := -1, down := false } ∧ Step w (((wr.setCell ⟨g, 2, none⟩ (.slice none 0 0)).setCell ⟨g, 3, none⟩ (.int .i64 (-1))).setCell ⟨g, 4, none⟩ (.bool false)) S S') := by
        have hg := ((grownBy_setC wr g 2 (.slice none 0 0)).trans (grownBy_setC _ g 3 (.int .i64 (-1)))).trans (grownBy_setC _ g 4 (.bool false))
        have hwf' : ({ (Dsk.crN kf t D n).2 with np := 0, left := -1, down := false } : Dsk).WF := ((hPr.dx.wf.clear).setLeft (l := -1) (by decide) (by decide)).setDown false
        have hX := hPr.dx.field hg (D' := { (Dsk.crN kf t D n).2 with np := 0, left := -1, down := false }) (pv' := .slice none 0 0) hwf' (((hB.set_ 2 _).set_ 3 _).set_ 4 _) rfl rfl rfl (.inr ⟨rfl, rfl⟩)
        exact ⟨S', DK.field hX hPr.fp hPr.lt (by simp) rfl (.inr ⟨rfl, rfl⟩), hPr.step.trans (Step.of_grown hg (hPr.fp g (.inl rfl)))⟩
      clear hPr hP0 hB e1 e2 e3 e4 e5 e6 e7
      go_wp2_with (fail)
      go_end0
      exact ⟨rfl, hfin.out⟩
end Go.Proofs.Ytlpggkdmjmlpkaa
