import Derived.Test.YtlpggkdmjmlpkaaDw
namespace Go.Proofs.Ytlpggkdmjmlpkaa
open Go.RowKit
theorem DX.pcell {w : World} {g dB : Nat} {A : Nat → Option Nat} {a : Option Addr} {m c : Nat} {P : Nat → Nat} {D : Dsk} (h : DX w g dB A (.slice a m c) P D) {j : Nat} (hj : j < D.np) : ∃ b, a = some ⟨b, 0, none⟩ ∧ b < w.heap.size ∧ w.cell? ⟨b, j * 2, none⟩ = some (.int .i64 (D.ps j : Int)) ∧ w.cell? ⟨b, j * 2 + 1, none⟩ = some (.slice (some ⟨P j, 0, none⟩) D.size D.size) := by
  obtain ⟨a', c', e, _, hc⟩ := h.pend
  cases e
  exact hc j hj
theorem PutR.trans {w w1 w2 : World} {S S1 S2 : Nat → Prop} {g dB : Nat} {A1 A2 : Nat → Option Nat} {pv1 pv2 : Value} {P1 P2 : Nat → Nat} {D1 D2 : Dsk} (h : PutR w w1 S S1 g dB A1 pv1 P1 D1) (k : PutR w1 w2 S1 S2 g dB A2 pv2 P2 D2) : PutR w w2 S S2 g dB A2 pv2 P2 D2 := ⟨k.dx, k.fp, k.lt, h.step.trans k.step⟩
theorem PutR.below {w w1 w2 : World} {S S1 : Nat → Prop} {g dB : Nat} {A1 : Nat → Option Nat} {pv1 : Value} {P1 : Nat → Nat} {D1 : Dsk} (h : PutR w w1 S S1 g dB A1 pv1 P1 D1) (k : Below w1.heap.size w1 w2) : PutR w w2 S S1 g dB A1 pv1 P1 D1 := ⟨h.dx.below k, h.fp, fun b hb => Nat.lt_of_lt_of_le (h.lt b hb) k.size, h.step.then k⟩
theorem PutR.dk {w w1 : World} {S S1 : Nat → Prop} {g dB : Nat} {A1 : Nat → Option Nat} {pv1 : Value} {P1 : Nat → Nat} {D1 : Dsk} (h : PutR w w1 S S1 g dB A1 pv1 P1 D1) : DK w1 S1 g D1 := ⟨⟨dB, A1, pv1, P1, h.dx, h.fp⟩, h.lt⟩
/-- the disk behind k of the pending writes -/
theorem settle_at (keep : Nat → Bool) (t : Nat) (D0 : Dsk) (k : Nat) {w wr W : World} {S S' : Nat → Prop} {g dB : Nat} {A' : Nat → Option Nat} {pv : Value} {P : Nat → Nat} (h : PutR w wr S S' g dB A' pv P (Dsk.crN keep t D0 k).2) (hk : k < D0.np) (ht : t ≤ D0.size) (hwf : D0.WF) (m : Nat) (hm : m = if keep k = true then D0.size else (Dsk.crN keep t D0 k).1) (hb : Below wr.heap.size wr W) :
    Calls Try.prog 41 #[.pointer (some ⟨g, 0, none⟩), .agg #[.int .i64 (D0.ps k : Int), .slice (some ⟨P k, 0, none⟩) D0.size D0.size], .int .i64 (m : Int)] W fun e w' => e = .returned (.tuple #[]) ∧ ∃ A2 S2, PutR w w' S S2 g dB A2 pv P (Dsk.crN keep t D0 (k + 1)).2 := by
  obtain ⟨e1, e2, e3, e4, e5, e6, e7⟩ := Dsk.crN_same keep t D0 k
  have hml : m ≤ D0.size := by
    rw [hm]; split
    · exact Nat.le_refl _
    · exact (Dsk.crN_wf keep hwf ht k (by omega)).2
  have h2 := h.below hb
  have hs := settle_any g dB S' A' pv P (Dsk.crN keep t D0 k).2 k m W h2.dx h2.fp h2.lt (by rw [e3]; exact hk) (by rw [e1]; exact hml)
  have e : (Dsk.crN keep t D0 (k + 1)).2 = (Dsk.crN keep t D0 k).2.put (D0.ps k) (D0.pb k) m := by
    rw [hm, Dsk.crN]; split <;> rfl
  rw [e1, e4, e5] at hs
  refine hs.mono ?_
  rintro e' w' ⟨rfl, A2, S2, hp⟩
  rw [e]
  exact ⟨rfl, A2, S2, h2.trans hp⟩
/-- the cells of the box of one write -/
structure WBox (wr W : World) (b s p z : Nat) : Prop where
  c0 : W.cell? ⟨b, 0, none⟩ = some (.int .i64 (s : Int))
  c1 : W.cell? ⟨b, 1, none⟩ = some (.slice (some ⟨p, 0, none⟩) z z)
  bel : Below wr.heap.size wr W
theorem wbox_new (wr : World) (s p z : Nat) : WBox wr (wr.alloc (.cells #[.int .i64 (s : Int), .slice (some ⟨p, 0, none⟩) z z] 66)) wr.heap.size s p z := by
  have hB := Blk.new wr 66 #[.int .i64 (s : Int), .slice (some ⟨p, 0, none⟩) z z]
  exact ⟨by rw [hB.cell]; rfl, by rw [hB.cell]; rfl, (Below.refl _ _).alloc (Nat.le_refl _) _⟩
set_option maxRecDepth 100000 in
set_option maxHeartbeats 1000000 in
theorem sync_any (g : Nat) (S : Nat → Prop) (D : Dsk) (w : World) (h : Hid (DK w S g D)) (hnp : D.np ≤ 1000000) :
    Calls Try.prog 27 #[.pointer (some ⟨g, 0, none⟩)] w fun e w' => e = .returned (.int .i64 (D.sync.1 : Int)) ∧ ∃ S', DK w' S' g D.sync.2 ∧ Step w w' S S' := by
  obtain ⟨⟨dB, A, pv, P, hX0, hS0⟩, hlt0⟩ := h.out
  have hX := hidIt hX0
  have hS := hidIt hS0
  have hlt := hidIt hlt0
  obtain ⟨f0, f1, f2, f3, f4, fz⟩ := hX0.fields
  have hwf := hidIt hX0.wf
  obtain ⟨a, c, hpv, hpc, _⟩ := hX0.pend
  clear hX0 hS0 hlt0
  by_cases hd : D.down = true
  · have he : Hid (D.sync = (8, D)) := by show _ = _; unfold Dsk.sync; rw [if_pos hd]
    rw [hd] at f4
    rw [he.out]
    go_enter Try.func27, Try.ntmps27
    go_wp2
    go_ret
    exact ⟨rfl, S, h.out, Step.refl _ _⟩
  · have hd' : D.down = false := by simpa using hd
    rw [hd'] at f4
    have dO := hidIt (operate_any g dB A pv P D w hX)
    by_cases h8 : D.oper.1 = 0
    · have he : Hid (D.sync = (0, (Dsk.crN (fun _ => true) 0 D.oper.2 D.np).2.clear)) := by show _ = _; unfold Dsk.sync; rw [if_neg hd, if_pos h8]
      have hod : Hid (D.oper.2.np = D.np ∧ D.oper.2.size = D.size ∧ D.oper.2.WF ∧ D.oper.2.n = D.n) := ⟨by rcases Dsk.oper_cases D hwf.out with ⟨_, e⟩ | ⟨_, e⟩ | ⟨_, e⟩ <;> rw [e], by rcases Dsk.oper_cases D hwf.out with ⟨_, e⟩ | ⟨_, e⟩ | ⟨_, e⟩ <;> rw [e], hwf.out.oper, by rcases Dsk.oper_cases D hwf.out with ⟨_, e⟩ | ⟨_, e⟩ | ⟨_, e⟩ <;> rw [e]⟩
      rw [he.out]
      rw [h8] at dO
      obtain ⟨D0, hD0⟩ : ∃ D0, Hid (D.oper.2 = D0) := ⟨_, rfl⟩
      obtain ⟨n, hn⟩ : ∃ n, Hid (D.np = n) := ⟨_, rfl⟩
      obtain ⟨z, hzz⟩ : ∃ z, Hid (D.size = z) := ⟨_, rfl⟩
      subst hpv
      rw [hD0.out] at dO hod ⊢
      rw [hn.out] at hod hnp f2 hpc ⊢
      rw [hzz.out] at hod f0
      simp only [hn.out] at dO
      clear hX hwf hd h8 he h f0 f1 f3 fz
      go_enter Try.func27, Try.ntmps27
      go_wp2_with (fail)
      refine dO.out.mono ?_
      rintro e w1 ⟨rfl, hX1, hg1⟩
      have hP1 : Hid (PutR w w1 S S g dB A (.slice a n c) P D0) := ⟨hX1, fun b hb => hS.out b (by rw [hod.out.1, hod.out.2.2.2] at hb; rw [hn.out]; exact hb), fun b hb => Nat.lt_of_lt_of_le (hlt.out b hb) hg1.size, Step.of_grown hg1 (hS.out g (.inl rfl))⟩
      have k2 := hX1.fields.pend
      clear hX1 hg1 hS hlt dO f2 f4
      go_wp2_with (fail)
      go_loopw [20] (fun i wr => ∃ k : Nat, i = .int .i64 (k : Int) ∧ k ≤ n ∧ Hid (∃ A' S', PutR w wr S S' g dB A' (.slice a n c) P (Dsk.crN (fun _ => true) 0 D0 k).2)) (fun i _ => n - (intOf i).toNat)
      case atStart => exact ⟨0, rfl, by omega, A, S, hP1.out⟩
      case round =>
        obtain ⟨k, rfl, hk, hr⟩ := hrel
        obtain ⟨A', S', hPr⟩ := hr.out
        clear hr k2
        by_cases hkn : k < n
        · obtain ⟨e1, e2, e3, e4, e5, e6, e7⟩ := Dsk.crN_same (fun _ => true) 0 D0 k
          obtain ⟨b, rfl, hbs, c0, c1⟩ := hPr.dx.pcell (j := k) (by rw [e3, hod.out.1]; exact hkn)
          rw [e4] at c0
          rw [e1, hod.out.2.1] at c1
          obtain ⟨s, hs⟩ : ∃ s, Hid (D0.ps k = s) := ⟨_, rfl⟩
          obtain ⟨p, hp⟩ : ∃ p, Hid (P k = p) := ⟨_, rfl⟩
          have dS : Hid (∀ W, Below wr.heap.size wr W → Calls Try.prog 41 #[.pointer (some ⟨g, 0, none⟩), .agg #[.int .i64 (s : Int), .slice (some ⟨p, 0, none⟩) z z], .int .i64 (z : Int)] W fun e w' => e = .returned (.tuple #[]) ∧ ∃ A2 S2, PutR w w' S S2 g dB A2 (.slice (some ⟨b, 0, none⟩) n c) P (Dsk.crN (fun _ => true) 0 D0 (k + 1)).2) := fun W hW => by
            have := settle_at (fun _ => true) 0 D0 k hPr (by rw [hod.out.1]; exact hkn) (Nat.zero_le _) hod.out.2.2.1 z (by rw [if_pos rfl, hod.out.2.1]) hW
            rw [hs.out, hp.out, hod.out.2.1] at this
            exact this
          have k0 : Hid (∀ W, Below wr.heap.size wr W → W.cell? ⟨g, 0, none⟩ = some (.int .i64 (z : Int))) := fun W hW => by
            have := (hPr.dx.below hW).fields.size
            rw [e1, hod.out.2.1] at this
            exact this
          rw [hs.out] at c0
          rw [hp.out] at c1
          have t1 : (k : Int) < (n : Int) := by omega
          clear e1 e2 e3 e4 e5 e6 e7 hPr hs hp hbs
          go_wp2_with (fail)
          obtain ⟨w2, hw2, hbx⟩ : ∃ w2, Hid (wr.alloc (.cells #[.int .i64 (s : Int), .slice (some ⟨p, 0, none⟩) z z] 66) = w2) ∧ WBox wr w2 wr.heap.size s p z := ⟨_, rfl, wbox_new wr s p z⟩
          obtain ⟨Bx, hBx⟩ : ∃ Bx, Hid (wr.heap.size = Bx) := ⟨_, rfl⟩
          rw [hw2.out, hBx.out]
          rw [hBx.out] at hbx
          have d0 := hbx.c0
          have d1 := hbx.c1
          have hbl : Hid (Below wr.heap.size wr w2) := hbx.bel
          have d2 := k0.out w2 hbl.out
          have dS2 := hidIt (dS.out w2.drew (Below.drew hbl.out))
          clear c0 c1 hw2 hbl hbx k0 dS hBx
          go_region_law (first
            | (go_simp; go_at_call 41; (with_reducible refine Calls.mono dS2.out ?_); rintro e w3 ⟨rfl, hP3⟩; replace hP3 := hidIt hP3))
          all_goals first
            | exact ⟨⟨k + 1, by go_num, by omega, hP3⟩, by simp [intOf]; omega⟩
            | (go_wp2_with (fail)
               exact ⟨⟨k + 1, by go_num, by omega, hP3⟩, by simp [intOf]; omega⟩)
        · have hkn' : Hid (k = n) := by show _ = _; omega
          rw [hkn'.out] at hPr
          have g2 := hPr.dx.fields.pend
          have g2f := hPr.dx.fields.fz 2
          have hfin : Hid (∃ S', DK (wr.setCell ⟨g, 2, none⟩ (.slice none 0 0)) S' g (Dsk.crN (fun _ => true) 0 D0 n).2.clear ∧ Step w (wr.setCell ⟨g, 2, none⟩ (.slice none 0 0)) S S') := by
            have hX := hPr.dx.field (grownBy_setC wr g 2 (.slice none 0 0)) (D' := (Dsk.crN (fun _ => true) 0 D0 n).2.clear) (pv' := .slice none 0 0) hPr.dx.wf.clear (hPr.dx.blk.set_ 2 _) rfl rfl rfl (.inr ⟨rfl, rfl⟩)
            exact ⟨S', DK.field hX hPr.fp hPr.lt (by simp) rfl (.inr ⟨rfl, rfl⟩), hPr.step.trans (Step.of_grown (grownBy_setC wr g 2 _) (hPr.fp g (.inl rfl)))⟩
          clear hPr hP1
          go_wp2_with (fail)
          go_ret
          exact ⟨rfl, hfin.out⟩
    · have he : Hid (D.sync = D.oper) := by show _ = _; unfold Dsk.sync; rw [if_neg hd, if_neg h8]
      have h8' : Hid (D.oper.1 = 8) := by rcases Dsk.oper_cases D hwf.out with ⟨_, e⟩ | ⟨_, e⟩ | ⟨_, e⟩ <;> rw [e] at h8 ⊢ <;> first | exact absurd rfl h8 | rfl
      have hod : Hid (D.oper.2.np = D.np ∧ D.oper.2.n = D.n) := ⟨by rcases Dsk.oper_cases D hwf.out with ⟨_, e⟩ | ⟨_, e⟩ | ⟨_, e⟩ <;> rw [e], by rcases Dsk.oper_cases D hwf.out with ⟨_, e⟩ | ⟨_, e⟩ | ⟨_, e⟩ <;> rw [e]⟩
      rw [he.out]
      rw [h8'.out] at dO ⊢
      clear hd h8 f0 f1 f2 f3 fz
      go_enter Try.func27, Try.ntmps27
      go_wp2_with (fail)
      refine dO.out.mono ?_
      rintro e w1 ⟨rfl, hX1, hg1⟩
      have hfin : Hid (∃ S', DK w1 S' g D.oper.2 ∧ Step w w1 S S') := ⟨S, ⟨⟨dB, A, pv, P, hX1, fun b hb => hS.out b (by rw [hod.out.1, hod.out.2] at hb; exact hb)⟩, fun b hb => Nat.lt_of_lt_of_le (hlt.out b hb) hg1.size⟩, Step.of_grown hg1 (hS.out g (.inl rfl))⟩
      clear hX1 hg1 hS hlt dO
      go_wp2_with (fail)
      go_ret
      exact ⟨rfl, hfin.out⟩
end Go.Proofs.Ytlpggkdmjmlpkaa
