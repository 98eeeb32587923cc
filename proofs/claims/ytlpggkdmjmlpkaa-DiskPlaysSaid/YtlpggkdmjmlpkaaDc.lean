import Derived.Test.YtlpggkdmjmlpkaaDb
namespace Go.Proofs.Ytlpggkdmjmlpkaa
open Go.RowKit
/-- bytes of a sector were written in their block -/
theorem DX.put {w w' : World} {g dB : Nat} {A : Nat → Option Nat} {pv : Value} {P : Nat → Nat} {D : Dsk} {s b k : Nat} {bs : List Nat} (h : DX w g dB A pv P D) (hg : w.grownBy w' (some b)) (hA : A s = some b) (hs : s < D.n) (hwf : (D.put s bs k).WF) (hb : BB w' b (bs.take k ++ (D.dur s).drop k)) : DX w' g dB A pv P (D.put s bs k) := by
  have h0 := h.sec s b hs hA
  have ot : ∀ q, q < w.heap.size → q ≠ b → w'.heap[q]? = w.heap[q]? := fun q h1 h2 => hg.block q h1 (fun e => h2 (by cases e; rfl))
  refine ⟨hwf, (ot g h.blk.lt (Ne.symm (h.ne (.inr (.inl ⟨s, hs, hA⟩))))).trans h.blk, (ot dB h.row.lt (blk_ne h.row h0 (by decide))).trans h.row, fun i hi hn => ?_, fun i q hi hq => ?_, ?_, fun j hj => ?_, h.inj, h.dis⟩
  · have e : i ≠ s := fun e => by rw [e, hA] at hn; cases hn
    simp only [Dsk.put, if_neg e]; exact h.nil i hi hn
  · by_cases e : i = s
    · subst e
      rw [hA] at hq
      cases hq
      simp only [Dsk.put, if_pos]; exact hb
    · simp only [Dsk.put, if_neg e]
      have hq' := h.sec i q hi hq
      exact (ot q (Blk.lt hq') (fun e2 => e (h.inj i s b hi hs (by rw [hq, e2]) hA))).trans hq'
  · exact own_blocks h.own fun q e => by
      obtain ⟨cs, hc⟩ := own_blk h.own e
      exact ot q hc.lt (blk_ne hc h0 (by decide))
  · exact (ot (P j) (Blk.lt (h.pen j hj)) (fun e => h.dis s j hs hj (by rw [hA, e]))).trans (h.pen j hj)
/-- a disk in blocks of S', only those of S and new ones have been written -/
structure PutR (w w' : World) (S S' : Nat → Prop) (g dB : Nat) (A' : Nat → Option Nat) (pv : Value) (P : Nat → Nat) (D : Dsk) : Prop where
  dx : DX w' g dB A' pv P D
  fp : ∀ b, FP g dB A' pv P D.n D.np b → S' b
  lt : ∀ b, S' b → b < w'.heap.size
  step : Step w w' S S'
theorem copy_put (bs ds : List Nat) (k n : Nat) (hb : bs.length = n) (hd : ds.length = n) (hk : k ≤ n) (i : Nat) (_ : i < n) : (if 0 ≤ i ∧ i < 0 + k then bs.getD (i - 0) 0 else ds.getD i 0) = (bs.take k ++ ds.drop k).getD i 0 := by
  have ht : (bs.take k).length = k := by rw [List.length_take]; omega
  by_cases h : i < k
  · rw [if_pos ⟨Nat.zero_le _, by omega⟩, Nat.sub_zero, List.getD_eq_getElem?_getD, List.getD_eq_getElem?_getD, List.getElem?_append_left (by omega), List.getElem?_take, if_pos h]
  · rw [if_neg (by omega), List.getD_eq_getElem?_getD, List.getD_eq_getElem?_getD, List.getElem?_append_right (by omega), ht, List.getElem?_drop, show k + (i - k) = i by omega]
set_option maxRecDepth 100000 in
set_option maxHeartbeats 1000000 in
theorem settle_any (g dB : Nat) (S : Nat → Prop) (A : Nat → Option Nat) (pv : Value) (P : Nat → Nat) (D : Dsk) (j k : Nat) (w : World) (hX : Hid (DX w g dB A pv P D)) (hS : Hid (∀ b, FP g dB A pv P D.n D.np b → S b)) (hlt : Hid (∀ b, S b → b < w.heap.size)) (hj : j < D.np) (hk : k ≤ D.size) :
    Calls Try.prog 41 #[.pointer (some ⟨g, 0, none⟩), .agg #[.int .i64 (D.ps j : Int), .slice (some ⟨P j, 0, none⟩) D.size D.size], .int .i64 (k : Int)] w fun e w' => e = .returned (.tuple #[]) ∧ ∃ A' S', PutR w w' S S' g dB A' pv P (D.put (D.ps j) (D.pb j) k) := by
  have hwf := hX.out.wf
  have hsn := hwf.pn j hj
  have hz2 := hwf.s2
  have hn2 := hwf.n2
  obtain ⟨w1, hw1⟩ : ∃ w1, Hid (w.alloc (.cells #[.int .i64 (D.ps j : Int), .slice (some ⟨P j, 0, none⟩) D.size D.size] 66) = w1) := ⟨_, rfl⟩
  have hb1 : Below w.heap.size w w1 := by rw [← hw1.out]; exact (Below.refl _ _).alloc (Nat.le_refl _) _
  have hsz1 : w1.heap.size = w.heap.size + 1 := by rw [← hw1.out]; simp
  have c0 : w1.cell? ⟨w.heap.size, 0, none⟩ = some (.int .i64 (D.ps j : Int)) := by rw [← hw1.out, (Blk.new w _ _).cell]; rfl
  have c1 : w1.cell? ⟨w.heap.size, 1, none⟩ = some (.slice (some ⟨P j, 0, none⟩) D.size D.size) := by rw [← hw1.out, (Blk.new w _ _).cell]; rfl
  have aw : Hid (Away w1 S w.heap.size) := ⟨by omega, fun e => by have := hlt.out _ e; omega⟩
  have dO : Hid (Calls Try.prog 42 #[.pointer (some ⟨g, 0, none⟩), .int .i64 (D.ps j : Int)] w1.drew fun e w' => ∃ b A' S', e = .returned (.slice (some ⟨b, 0, none⟩) D.size D.size) ∧ OwnR w1.drew w' S S' g dB A' pv P D (D.ps j) b) :=
    own_any g dB S A pv P D (D.ps j) w1.drew ((hX.out.below hb1).below (Below.drew (Below.refl _ _))) hS (fun b hb => by have := hlt.out b hb; show b < w1.heap.size; omega) hsn
  have hst1 : Hid (Step w w1.drew S S) := (Step.of_below hb1 S).then (Below.drew (Below.refl _ _))
  have hlb := hwf.pl j hj
  have hld := hwf.dl _ hsn
  have hwf2 := hidIt (hwf.put (k := k) hsn hlb (hwf.pbb j hj) hk)
  have hbs : Hid ((D.pb j).length = D.size) := hlb
  have hds : Hid ((D.dur (D.ps j)).length = D.size) := hld
  have hjp := hidIt hj
  have hsp := hidIt hsn
  obtain ⟨s, hs⟩ : ∃ s, Hid (D.ps j = s) := ⟨_, rfl⟩
  obtain ⟨z, hz⟩ : ∃ z, Hid (D.size = z) := ⟨_, rfl⟩
  obtain ⟨p, hp⟩ : ∃ p, Hid (P j = p) := ⟨_, rfl⟩
  obtain ⟨Bx, hBx⟩ : ∃ Bx, Hid (w.heap.size = Bx) := ⟨_, rfl⟩
  have hfin : Hid (∀ b A' S' w2 w3, OwnR w1.drew w2 S S' g dB A' pv P D s b → Blk w3 b 5 (rowA .u8 (fun i => if 0 ≤ i ∧ i < 0 + k then (D.pb j).getD (i - 0) 0 else (D.dur s).getD i 0) z z) → w2.grownBy w3 (some b) → PutR w w3 S S' g dB A' pv P (D.put s (D.pb j) k)) := fun b A' S' w2 w3 hO hB hg => by
    rw [← hs.out] at hO hB ⊢
    rw [← hz.out] at hB
    have hbb : BB w3 b ((D.pb j).take k ++ (D.dur (D.ps j)).drop k) := BB.of hB (by simp only [List.length_append, List.length_take, List.length_drop, hlb, hld]; omega) (copy_put _ _ _ _ hlb hld hk)
    have hSb : S' b := hO.fp b (.inr (.inr (.inl ⟨D.ps j, hsn, hO.at_⟩)))
    exact ⟨hO.dx.put hg hO.at_ hsn hwf2.out hbb, hO.fp, fun q hq => Nat.lt_of_lt_of_le (hO.lt q hq) hg.size, (hst1.out.trans hO.step).trans (Step.of_grown hg hSb)⟩
  have hft : Hid (∀ b A' S' w2, OwnR w1.drew w2 S S' g dB A' pv P D s b → w2.cell? ⟨Bx, 0, none⟩ = some (.int .i64 (s : Int)) ∧ w2.cell? ⟨Bx, 1, none⟩ = some (.slice (some ⟨p, 0, none⟩) z z) ∧ Blk w2 b 5 (rowA .u8 (fun i => (D.dur s).getD i 0) z z) ∧ Bytes w2 (some ⟨p, 0, none⟩) (D.pb j)) := fun b A' S' w2 hO => by
    rw [← hs.out] at hO
    have hbk : w2.heap[w.heap.size]? = w1.heap[w.heap.size]? := hO.step.same (b := w.heap.size) aw.out
    rw [← hs.out, ← hp.out, ← hz.out, ← hBx.out]
    refine ⟨(World.cell?_of_block (a := ⟨w.heap.size, 0, none⟩) hbk).trans c0, (World.cell?_of_block (a := ⟨w.heap.size, 1, none⟩) hbk).trans c1, ?_, (hO.dx.pen j hj).bytes⟩
    have h := hO.dx.sec _ _ hsn hO.at_
    unfold BB rowb at h
    rw [hld] at h
    exact h
  rw [hs.out] at dO c0 ⊢
  rw [hz.out] at dO c1 hk hz2 ⊢
  rw [hz.out] at hbs
  rw [hp.out] at c1 ⊢
  have sh := sliceHead p 0 z z k hk
  have hm : Hid (k = Nat.min k z) := (Nat.min_eq_left hk).symm
  have hkb : Hid (k ≤ (D.pb j).length) := by rw [hbs.out]; exact hk
  have dOs : Hid (∀ W, W = w1.drew → Calls Try.prog 42 #[.pointer (some ⟨g, 0, none⟩), .int .i64 (s : Int)] W fun e w' => ∃ b A' S', e = .returned (.slice (some ⟨b, 0, none⟩) z z) ∧ OwnR w1.drew w' S S' g dB A' pv P D s b) := fun W hW => by rw [hW]; rw [hs.out, hz.out] at *; exact dO.out
  clear hwf hsn hlb hld hX hS hlt hb1 hsz1 aw hst1 hwf2 hds hjp hsp hj hn2 dO
  go_enter Try.func41, Try.ntmps41
  go_wp2_with (fail)
  rw [hs.out, hz.out, hp.out] at hw1
  rw [hw1.out, hBx.out]
  rw [hBx.out] at c0 c1
  go_region_law (first
    | (go_simp; go_at_call 42; (with_reducible refine Calls.mono (dOs.out _ rfl) ?_); rintro e w2 ⟨b, A', S', rfl, hO⟩; obtain ⟨d0, d1, dB2, dby⟩ := hft.out _ _ _ _ hO; replace hO := hidIt hO; replace dB2 := hidIt dB2; replace dby := hidIt dby)
    | (refine step_copy_blk rfl (.tmp 9) (.tmp 13) rfl (some ⟨b, 0, none⟩) (some ⟨p, 0, none⟩) z z k z (by simp [Act.eval, Act.put]) (by simp [Act.eval, Act.put]) b 0 z (fun i => (D.dur s).getD i 0) 5 dB2.out (D.pb j) dby.out k hm.out hkb.out (fun _ => rfl) (by omega) ?_; intro w3 hB3 hg3))
  all_goals
    go_end0
    exact ⟨rfl, _, _, hfin.out _ _ _ _ _ hO.out hB3 hg3⟩
end Go.Proofs.Ytlpggkdmjmlpkaa
