import Derived.Test.YtlpggkdmjmlpkaaDcr
namespace Go.Proofs.Ytlpggkdmjmlpkaa
open Go.RowKit
/-- the durable bytes of one sector were written -/
theorem DX.sect {w w' : World} {g dB : Nat} {A : Nat → Option Nat} {pv : Value} {P : Nat → Nat} {D : Dsk} {s b : Nat} {F : Nat → List Nat} (h : DX w g dB A pv P D) (hg : w.grownBy w' (some b)) (hA : A s = some b) (hs : s < D.n) (hwf : ({ D with dur := F } : Dsk).WF) (hF : ∀ i, i ≠ s → F i = D.dur i) (hb : BB w' b (F s)) : DX w' g dB A pv P { D with dur := F } := by
  have h0 := h.sec s b hs hA
  have ot : ∀ q, q < w.heap.size → q ≠ b → w'.heap[q]? = w.heap[q]? := fun q h1 h2 => hg.block q h1 (fun e => h2 (by cases e; rfl))
  refine ⟨hwf, (ot g h.blk.lt (Ne.symm (h.ne (.inr (.inl ⟨s, hs, hA⟩))))).trans h.blk, (ot dB h.row.lt (blk_ne h.row h0 (by decide))).trans h.row, fun i hi hn => ?_, fun i q hi hq => ?_, ?_, fun j hj => ?_, h.inj, h.dis⟩
  · have e : i ≠ s := fun e => by rw [e, hA] at hn; cases hn
    show F i = _
    rw [hF i e]; exact h.nil i hi hn
  · show BB w' q (F i)
    by_cases e : i = s
    · subst e
      rw [hA] at hq
      cases hq
      exact hb
    · rw [hF i e]
      have hq' := h.sec i q hi hq
      exact (ot q (Blk.lt hq') (fun e2 => e (h.inj i s b hi hs (by rw [hq, e2]) hA))).trans hq'
  · exact own_blocks h.own fun q e => by
      obtain ⟨cs, hc⟩ := own_blk h.own e
      exact ot q hc.lt (blk_ne hc h0 (by decide))
  · exact (ot (P j) (Blk.lt (h.pen j hj)) (fun e => h.dis s j hs hj (by rw [hA, e]))).trans (h.pen j hj)
theorem rowb_set (bs : List Nat) (k v : Nat) : (rowb bs).setIfInBounds k (.int .u8 (v : Int)) = rowb (bs.set k v) := by
  unfold rowb
  rw [rowA_upd, List.length_set]
  refine rowA_congr fun i hi => ?_
  rw [List.getD_eq_getElem?_getD, List.getD_eq_getElem?_getD, List.getElem?_set]
  by_cases h : i = k
  · subst h; rw [if_pos rfl, if_pos rfl, if_pos hi]; rfl
  · rw [if_neg h, if_neg (fun e => h e.symm)]
set_option maxRecDepth 100000 in
set_option maxHeartbeats 1000000 in
theorem spoil_any (g : Nat) (S : Nat → Prop) (D : Dsk) (s o : Int) (x : Nat) (hx : x < 256) (w : World) (h : Hid (DK w S g D)) :
    Calls Try.prog 30 #[.pointer (some ⟨g, 0, none⟩), .int .i64 s, .int .i64 o, .int .u8 (x : Int)] w fun e w' => e = .returned (.int .i64 ((D.spoil s o x).1 : Int)) ∧ ∃ S', DK w' S' g (D.spoil s o x).2 ∧ Step w w' S S' := by
  obtain ⟨⟨dB, A, pv, P, hX0, hS0⟩, hlt0⟩ := h.out
  have hX := hidIt hX0
  have hS := hidIt hS0
  have hlt := hidIt hlt0
  obtain ⟨f0, f1, f2, f3, f4, fz⟩ := hX0.fields
  have hwf := hidIt hX0.wf
  have hz2 := hX0.wf.s2
  have hn2 := hX0.wf.n2
  have dH : Hid (Calls Try.prog 38 #[.pointer (some ⟨g, 0, none⟩), .int .i64 s] w fun e w' => e = .returned (.bool (decide (0 ≤ s ∧ s < D.n))) ∧ w = w') := has_any g dB D.n D.size pv D.left D.down s w hX.out.fields (by omega)
  clear hX0 hS0 hlt0
  by_cases hh : 0 ≤ s ∧ s < (D.n : Int)
  · rw [decide_eq_true hh] at dH
    by_cases ho1 : 0 ≤ o
    · by_cases ho2 : o < (D.size : Int)
      · have he : Hid (D.spoil s o x = (0, { D with dur := fun i => if i = s.toNat then (D.dur i).set o.toNat ((D.dur i).getD o.toNat 0 ^^^ x) else D.dur i })) := by show _ = _; unfold Dsk.spoil; rw [if_pos ⟨hh, ho1, ho2⟩]
        have hsn : s.toNat < D.n := by omega
        obtain ⟨k, hk⟩ : ∃ k : Nat, s = (k : Int) := ⟨s.toNat, by omega⟩
        obtain ⟨q, hq⟩ : ∃ q : Nat, o = (q : Int) := ⟨o.toNat, by omega⟩
        subst hk hq
        simp only [Int.toNat_natCast] at he hsn
        have hwfS : Hid (({ D with dur := fun i => if i = k then (D.dur i).set q ((D.dur i).getD q 0 ^^^ x) else D.dur i } : Dsk).WF) := by
          have := hwf.out.spoil (k : Int) (q : Int) hx
          rw [he.out] at this
          exact this
        have dO := hidIt (own_any g dB S A pv P D k w hX hS hlt hsn)
        have hlk : Hid ((D.dur k).length = D.size) := hwf.out.dl k hsn
        have hql : q < D.size := by omega
        obtain ⟨y, hy⟩ : ∃ y, Hid ((D.dur k).getD q 0 = y) := ⟨_, rfl⟩
        have hyb : y < 256 := by
          rw [← hy.out, List.getD_eq_getElem?_getD]
          cases hc : (D.dur k)[q]? with
          | none => simp
          | some zz => exact hwf.out.db k hsn zz (List.mem_of_getElem? hc)
        have hxor : bits BinOp.xor IntKind.u8 (y : Int) (x : Int) = ((y ^^^ x : Nat) : Int) := u8_xor_nat y x hyb hx
        have hft : Hid (∀ b A' S' w2, OwnR w w2 S S' g dB A' pv P D k b → w2.cell? ⟨b, q, none⟩ = some (.int .u8 (y : Int)) ∧ w2.frozen? ⟨b, q, none⟩ = false ∧ (∃ S', DK (w2.setCell ⟨b, q, none⟩ (.int .u8 ((y ^^^ x : Nat) : Int))) S' g { D with dur := fun i => if i = k then (D.dur i).set q ((D.dur i).getD q 0 ^^^ x) else D.dur i } ∧ Step w (w2.setCell ⟨b, q, none⟩ (.int .u8 ((y ^^^ x : Nat) : Int))) S S')) := fun b A' S' w2 hO => by
          have hb := hO.dx.sec k b hsn hO.at_
          refine ⟨?_, Blk.frozen hb q, S', ?_, hO.step.trans (Step.of_grown (grownBy_setC w2 b q _) (hO.fp b (.inr (.inr (.inl ⟨k, hsn, hO.at_⟩)))))⟩
          · rw [Blk.cell hb]
            unfold rowb
            rw [rowA_all _ _ _ _ (by rw [hlk.out]; exact hql), hy.out]
          · refine ⟨⟨dB, A', pv, P, hO.dx.sect (grownBy_setC w2 b q _) hO.at_ hsn hwfS.out (fun i hi => by show (if i = k then _ else _) = _; rw [if_neg hi]) ?_, hO.fp⟩, fun b' hb' => by simp only [World.size_setCell]; exact hO.lt b' hb'⟩
            show BB _ b (if k = k then _ else _)
            rw [if_pos rfl, hy.out]
            show Blk _ _ _ _
            rw [← rowb_set]
            exact Blk.set_ hb q _
        obtain ⟨z, hzz⟩ : ∃ z, Hid (D.size = z) := ⟨_, rfl⟩
        rw [he.out]
        rw [hzz.out] at f0 hql hz2 ho2 dO
        have t2 : (q : Int) < (z : Int) := by omega
        obtain ⟨u, hu⟩ : ∃ u : Nat, Hid ((y ^^^ x : Nat) = u) := ⟨_, rfl⟩
        rw [hu.out] at hxor
        simp only [hu.out] at hft
        clear hX hS hlt hwf h he hwfS hlk hsn hh hn2 ho2
        go_enter Try.func30, Try.ntmps30
        go_wp2_with (fail)
        refine dH.out.mono ?_
        rintro e w1 ⟨rfl, rfl⟩
        go_wp2_with (fail)
        refine dO.out.mono ?_
        rintro e w2 ⟨b, A', S', rfl, hO⟩
        obtain ⟨c1, c2, hfin⟩ := hft.out _ _ _ _ hO
        replace hfin := hidIt hfin
        clear hO hft dO
        go_wp2_with (fail)
        go_ret
        exact ⟨rfl, hfin.out⟩
      · have he : Hid (D.spoil s o x = (1, D)) := by show _ = _; unfold Dsk.spoil; rw [if_neg (fun e => ho2 e.2.2)]
        rw [he.out]
        clear hh
        go_enter Try.func30, Try.ntmps30
        go_wp2_with (fail)
        refine dH.out.mono ?_
        rintro e w1 ⟨rfl, rfl⟩
        go_wp2_with (fail)
        go_ret
        exact ⟨rfl, S, h.out, Step.refl _ _⟩
    · have he : Hid (D.spoil s o x = (1, D)) := by show _ = _; unfold Dsk.spoil; rw [if_neg (fun e => ho1 e.2.1)]
      rw [he.out]
      clear hh
      go_enter Try.func30, Try.ntmps30
      go_wp2_with (fail)
      refine dH.out.mono ?_
      rintro e w1 ⟨rfl, rfl⟩
      go_wp2_with (fail)
      go_ret
      exact ⟨rfl, S, h.out, Step.refl _ _⟩
  · rw [decide_eq_false hh] at dH
    have he : Hid (D.spoil s o x = (1, D)) := by show _ = _; unfold Dsk.spoil; rw [if_neg (fun e => hh e.1)]
    rw [he.out]
    clear hh
    go_enter Try.func30, Try.ntmps30
    go_wp2_with (fail)
    refine dH.out.mono ?_
    rintro e w1 ⟨rfl, rfl⟩
    go_wp2_with (fail)
    go_ret
    exact ⟨rfl, S, h.out, Step.refl _ _⟩
end Go.Proofs.Ytlpggkdmjmlpkaa
