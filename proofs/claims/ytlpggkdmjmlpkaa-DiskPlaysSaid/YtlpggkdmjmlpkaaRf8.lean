import Derived.Test.YtlpggkdmjmlpkaaRf4
import Derived.Test.YtlpggkdmjmlpkaaDi
namespace Go.Proofs.Ytlpggkdmjmlpkaa
open Go.RowKit
theorem vals_set (bs : List Nat) (k v : Nat) : (vals bs).set k (.int .u8 (v : Int)) = vals (bs.set k v) := by simp [vals]
theorem RB.set_ {w : World} {b k v : Nat} {bs : List Nat} (h : RB w b bs) : RB (w.setCell ⟨b, k, none⟩ (.int .u8 (v : Int))) b (bs.set k v) := by
  obtain ⟨cs, h1, h2⟩ := h
  refine ⟨_, h1.set_ k _, ?_⟩
  rw [List.length_set, Array.toList_setIfInBounds, List.take_set, h2, vals_set]
/-- a byte of a sector of the reference was stored -/
theorem RefX.sect {w : World} {g : Nat} {dv lv : Value} {Q C P PC : Nat → Nat} {D : Dsk} {s k v : Nat} {F : Nat → List Nat} (h : RefX w g dv lv Q C P PC D) (hs : s < D.n) (hwf : ({ D with dur := F } : Dsk).WF) (hF : ∀ i, i ≠ s → F i = D.dur i) (hFs : F s = (D.dur s).set k v) : RefX (w.setCell ⟨Q s, k, none⟩ (.int .u8 (v : Int))) g dv lv Q C P PC { D with dur := F } := by
  have h0 := h.sec s hs
  obtain ⟨c0, hb0, _⟩ := h0
  have h0 := h.sec s hs
  have ot : ∀ q, q ≠ Q s → (w.setCell ⟨Q s, k, none⟩ (.int .u8 (v : Int))).heap[q]? = w.heap[q]? := fun q e => Below.heap_setCell _ _ _ _ e
  refine ⟨hwf, (ot g (Ne.symm (h0.ne h.blk (by decide)))).trans h.blk, own_blocks h.row (fun b e => ot b (by obtain ⟨cs, hc⟩ := own_blk h.row e; exact blk_ne hc hb0 (by decide))), fun i hi => ?_, h.cap, own_blocks h.own (fun b e => ot b (by obtain ⟨cs, hc⟩ := own_blk h.own e; exact blk_ne hc hb0 (by decide))), fun j hj => (h.pen j hj).keep (ot _ (Ne.symm (h.dis s j hs hj))), h.pcap, h.inj, h.dis⟩
  show RB _ (Q i) (F i)
  by_cases e : i = s
  · rw [e, hFs]; exact h0.set_
  · rw [hF i e]; exact (h.sec i hi).keep (ot _ (fun e2 => e (h.inj i s hi hs e2)))
set_option maxRecDepth 100000 in
set_option maxHeartbeats 2000000 in
theorem rspoil_any (g : Nat) (S : Nat → Prop) (D : Dsk) (s o : Int) (x : Nat) (hx : x < 256) (w : World) (h : Hid (RK w S g D)) :
    Calls Try.prog 37 #[.pointer (some ⟨g, 0, none⟩), .int .i64 s, .int .i64 o, .int .u8 (x : Int)] w fun e w' => e = .returned (.int .i64 ((D.spoil s o x).1 : Int)) ∧ ∃ S', RK w' S' g (D.spoil s o x).2 ∧ Step w w' S S' := by
  obtain ⟨⟨dv, lv, Q, C, P, PC, hX0, hS0⟩, hlt0⟩ := h.out
  have hX := hidIt hX0
  have hS := hidIt hS0
  have hlt := hidIt hlt0
  have F := hidIt hX0.fields
  obtain ⟨f0, f1, f2, f3, f4, fz⟩ := hX0.fields
  have hwf := hidIt hX0.wf
  have hz2 := hX0.wf.s2
  have hn2 := hX0.wf.n2
  obtain ⟨db, dc, hdv, _, _, hdc⟩ := hX0.durc
  have dH : Hid (Calls Try.prog 43 #[.pointer (some ⟨g, 0, none⟩), .int .i64 s] w fun e w' => e = .returned (.bool (decide (0 ≤ s ∧ s < D.n))) ∧ w = w') := rsector_any g db D.n dc D.size lv D.left D.down s w (by rw [← hdv]; exact F.out) (by omega)
  clear hX0 hS0 hlt0
  by_cases hh : 0 ≤ s ∧ s < (D.n : Int)
  · rw [decide_eq_true hh] at dH
    by_cases ho1 : o < 0
    · have he : Hid (D.spoil s o x = (1, D)) := by show _ = _; unfold Dsk.spoil; rw [if_neg (fun e => by omega)]
      rw [he.out]
      clear hh
      go_enter Try.func37, Try.ntmps37
      go_wp2_with (fail)
      refine dH.out.mono ?_
      rintro e w1 ⟨rfl, rfl⟩
      go_wp2_with (fail)
      go_ret
      exact ⟨rfl, S, h.out, Step.refl _ _⟩
    · by_cases ho2 : o ≥ (D.size : Int)
      · have he : Hid (D.spoil s o x = (1, D)) := by show _ = _; unfold Dsk.spoil; rw [if_neg (fun e => by omega)]
        rw [he.out]
        clear hh
        go_enter Try.func37, Try.ntmps37
        go_wp2_with (fail)
        refine dH.out.mono ?_
        rintro e w1 ⟨rfl, rfl⟩
        go_wp2_with (fail)
        go_ret
        exact ⟨rfl, S, h.out, Step.refl _ _⟩
      · have he : Hid (D.spoil s o x = (0, { D with dur := fun i => if i = s.toNat then (D.dur i).set o.toNat ((D.dur i).getD o.toNat 0 ^^^ x) else D.dur i })) := by show _ = _; unfold Dsk.spoil; rw [if_pos ⟨hh, by omega, by omega⟩]
        have hsn : s.toNat < D.n := by omega
        obtain ⟨k, hk⟩ : ∃ k : Nat, s = (k : Int) := ⟨s.toNat, by omega⟩
        obtain ⟨q, hq⟩ : ∃ q : Nat, o = (q : Int) := ⟨o.toNat, by omega⟩
        subst hk hq
        simp only [Int.toNat_natCast] at he hsn
        have hwfS : ({ D with dur := fun i => if i = k then (D.dur i).set q ((D.dur i).getD q 0 ^^^ x) else D.dur i } : Dsk).WF := by
          have := hwf.out.spoil (k : Int) (q : Int) hx
          rw [he.out] at this
          exact this
        have hlk : (D.dur k).length = D.size := hwf.out.dl k hsn
        have hql : q < D.size := by omega
        obtain ⟨y, hy⟩ : ∃ y, Hid ((D.dur k).getD q 0 = y) := ⟨_, rfl⟩
        have hyb : y < 256 := by
          rw [← hy.out, List.getD_eq_getElem?_getD]
          cases hc : (D.dur k)[q]? with
          | none => simp
          | some zz => exact hwf.out.db k hsn zz (List.mem_of_getElem? hc)
        have hxor : bits BinOp.xor IntKind.u8 (y : Int) (x : Int) = ((y ^^^ x : Nat) : Int) := u8_xor_nat y x hyb hx
        have hrb := hX.out.sec k hsn
        obtain ⟨c1, c1f⟩ := hdc k hsn
        have c2 : w.cell? ⟨Q k, q, none⟩ = some (.int .u8 (y : Int)) := by
          obtain ⟨b', o', e1, e2⟩ := hrb.bytes q (by omega)
          cases e1
          rw [Nat.zero_add, hy.out] at e2
          exact e2
        have c3 : w.frozen? ⟨Q k, q, none⟩ = false := by obtain ⟨cs, hc, _⟩ := hrb; exact hc.frozen q
        have hfin : Hid (∃ S', RK (w.setCell ⟨Q k, q, none⟩ (.int .u8 ((y ^^^ x : Nat) : Int))) S' g { D with dur := fun i => if i = k then (D.dur i).set q ((D.dur i).getD q 0 ^^^ x) else D.dur i } ∧ Step w (w.setCell ⟨Q k, q, none⟩ (.int .u8 ((y ^^^ x : Nat) : Int))) S S') :=
          ⟨S, ⟨⟨dv, lv, Q, C, P, PC, hX.out.sect hsn hwfS (fun i hi => by show (if i = k then _ else _) = _; rw [if_neg hi]) (by show (if k = k then _ else _) = _; rw [if_pos rfl, hy.out]), hS.out⟩, fun b hb => by simp only [World.size_setCell]; exact hlt.out b hb⟩, Step.of_grown (grownBy_setC w (Q k) q _) (hS.out _ (.inr (.inr (.inr (.inl ⟨k, hsn, rfl⟩)))))⟩
        obtain ⟨z, hzz⟩ : ∃ z, Hid (D.size = z) := ⟨_, rfl⟩
        obtain ⟨n, hn⟩ : ∃ n, Hid (D.n = n) := ⟨_, rfl⟩
        obtain ⟨b, hb⟩ : ∃ b, Hid (Q k = b) := ⟨_, rfl⟩
        obtain ⟨cc, hcc⟩ : ∃ cc, Hid (C k = cc) := ⟨_, rfl⟩
        rw [he.out]
        subst hdv
        rw [hzz.out] at f0 hql hz2 ho2 c1
        rw [hn.out] at f1 hsn
        rw [hb.out] at c1 c2 c3 hfin
        rw [hcc.out] at c1
        have t2 : (q : Int) < (z : Int) := by omega
        have t3 : (k : Int) < (n : Int) := by omega
        obtain ⟨u, hu⟩ : ∃ u : Nat, Hid ((y ^^^ x : Nat) = u) := ⟨_, rfl⟩
        rw [hu.out] at hxor hfin
        clear hX hS hlt hwf h he hwfS hlk hh hn2 hdc hrb f2 f3 f4 F
        go_enter Try.func37, Try.ntmps37
        go_wp2_with (fail)
        refine dH.out.mono ?_
        rintro e w1 ⟨rfl, rfl⟩
        go_wp2_with (fail)
        go_region_law (fail)
        all_goals
          go_wp2_with (fail)
          go_ret
          obtain ⟨S', h1, h2⟩ := hfin.out
          first
            | exact ⟨rfl, S', h1, h2⟩
            | exact ⟨rfl, S', h1.below (Below.drew (Below.refl _ _)), h2.then (Below.drew (Below.refl _ _))⟩
  · rw [decide_eq_false hh] at dH
    have he : Hid (D.spoil s o x = (1, D)) := by show _ = _; unfold Dsk.spoil; rw [if_neg (fun e => hh e.1)]
    rw [he.out]
    clear hh
    go_enter Try.func37, Try.ntmps37
    go_wp2_with (fail)
    refine dH.out.mono ?_
    rintro e w1 ⟨rfl, rfl⟩
    go_wp2_with (fail)
    go_ret
    exact ⟨rfl, S, h.out, Step.refl _ _⟩
end Go.Proofs.Ytlpggkdmjmlpkaa
