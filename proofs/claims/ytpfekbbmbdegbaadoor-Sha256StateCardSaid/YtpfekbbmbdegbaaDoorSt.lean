import Derived.Test.YtpfekbbmbdegbaaDoorFew
import Derived.Test.YtpfekbbmbdegbaaDoorAwake
import Derived.Test.YtpfekbbmbdegbaaDoorRefSum
namespace Go.Proofs.YtpfekbbmbdegbaaDoor
open Go.RowKit
/-- two states and two texts: the states stand for y0, y1, the texts are x0, x1 -/
structure St (w wr : World) (P Q g0 g1 a0 a1 n0 n1 c0 c1 : Nat) (y0 y1 x0 x1 : List Nat) : Prop where
  p : Blk wr P 25 #[.pointer (some ⟨g0, 0, none⟩), .pointer (some ⟨g1, 0, none⟩)]
  q : Blk wr Q 28 #[.slice (some ⟨a0, 0, none⟩) n0 c0, .slice (some ⟨a1, 0, none⟩) n1 c1]
  s0 : SR wr g0 y0
  s1 : SR wr g1 y1
  b0 : Bytes wr (some ⟨a0, 0, none⟩) x0
  b1 : Bytes wr (some ⟨a1, 0, none⟩) x1
  l0 : n0 = x0.length
  l1 : n1 = x1.length
  k0 : n0 ≤ c0
  k1 : n1 ≤ c1
  t0 : ∀ z ∈ x0, z < 256
  t1 : ∀ z ∈ x1, z < 256
  d : g0 ≠ g1 ∧ a0 ≠ g0 ∧ a0 ≠ g1 ∧ a1 ≠ g0 ∧ a1 ≠ g1 ∧ P ≠ g0 ∧ P ≠ g1 ∧ P ≠ a0 ∧ P ≠ a1 ∧ Q ≠ g0 ∧ Q ≠ g1 ∧ Q ≠ a0 ∧ Q ≠ a1 ∧ P ≠ Q
  a : a0 < wr.heap.size ∧ a1 < wr.heap.size
  lo : w.heap.size ≤ g0 ∧ w.heap.size ≤ g1 ∧ w.heap.size ≤ P ∧ w.heap.size ≤ Q
  bel : Below w.heap.size w wr
section
variable {w wr w' : World} {P Q g0 g1 a0 a1 n0 n1 c0 c1 : Nat} {y0 y1 x0 x1 : List Nat}
theorem St.far (h : St w wr P Q g0 g1 a0 a1 n0 n1 c0 c1 y0 y1 x0 x1) (hb : ∀ i, i < wr.heap.size → w'.heap[i]? = wr.heap[i]?) (hz : wr.heap.size ≤ w'.heap.size) (hbel : Below w.heap.size w w') : St w w' P Q g0 g1 a0 a1 n0 n1 c0 c1 y0 y1 x0 x1 :=
  ⟨(hb _ h.p.lt).trans h.p, (hb _ h.q.lt).trans h.q, h.s0.far (hb _ h.s0.lt), h.s1.far (hb _ h.s1.lt), h.b0.blocks (fun x hx => by cases hx; exact hb _ h.a.1), h.b1.blocks (fun x hx => by cases hx; exact hb _ h.a.2), h.l0, h.l1, h.k0, h.k1, h.t0, h.t1, h.d, ⟨Nat.lt_of_lt_of_le h.a.1 hz, Nat.lt_of_lt_of_le h.a.2 hz⟩, h.lo, hbel⟩
theorem St.below (h : St w wr P Q g0 g1 a0 a1 n0 n1 c0 c1 y0 y1 x0 x1) (hb : Below wr.heap.size wr w') : St w w' P Q g0 g1 a0 a1 n0 n1 c0 c1 y0 y1 x0 x1 := h.far hb.block hb.size (below_then h.bel hb)
theorem St.drewN (h : St w wr P Q g0 g1 a0 a1 n0 n1 c0 c1 y0 y1 x0 x1) (m : Nat) : St w (wr.drewN m) P Q g0 g1 a0 a1 n0 n1 c0 c1 y0 y1 x0 x1 := h.below (below_drewN (Below.refl _ _) m)
theorem St.alloc (h : St w wr P Q g0 g1 a0 a1 n0 n1 c0 c1 y0 y1 x0 x1) (o : Obj) : St w (wr.alloc o) P Q g0 g1 a0 a1 n0 n1 c0 c1 y0 y1 x0 x1 := h.below ((Below.refl _ _).alloc (Nat.le_refl _) o)
theorem St.pc0 (h : St w wr P Q g0 g1 a0 a1 n0 n1 c0 c1 y0 y1 x0 x1) : wr.cell? ⟨P, 0, none⟩ = some (.pointer (some ⟨g0, 0, none⟩)) := (h.p.cell 0).trans rfl
theorem St.pc1 (h : St w wr P Q g0 g1 a0 a1 n0 n1 c0 c1 y0 y1 x0 x1) : wr.cell? ⟨P, 1, none⟩ = some (.pointer (some ⟨g1, 0, none⟩)) := (h.p.cell 1).trans rfl
theorem St.qc0 (h : St w wr P Q g0 g1 a0 a1 n0 n1 c0 c1 y0 y1 x0 x1) : wr.cell? ⟨Q, 0, none⟩ = some (.slice (some ⟨a0, 0, none⟩) n0 c0) := (h.q.cell 0).trans rfl
theorem St.qc1 (h : St w wr P Q g0 g1 a0 a1 n0 n1 c0 c1 y0 y1 x0 x1) : wr.cell? ⟨Q, 1, none⟩ = some (.slice (some ⟨a1, 0, none⟩) n1 c1) := (h.q.cell 1).trans rfl
theorem St.write0 (h : St w wr P Q g0 g1 a0 a1 n0 n1 c0 c1 y0 y1 x0 x1) {zs : List Nat} (hs : SR w' g0 zs) (hg : wr.grownBy w' (some g0)) : St w w' P Q g0 g1 a0 a1 n0 n1 c0 c1 zs y1 x0 x1 := by
  obtain ⟨d0, d1, d2, d3, d4, d5, d6, d7, d8, d9, d10, d11, d12, d13⟩ := h.d
  have f : ∀ i, i < wr.heap.size → i ≠ g0 → w'.heap[i]? = wr.heap[i]? := fun i hi hne => hg.block i hi (fun e => hne (by injection e))
  have hbel : Below w.heap.size w w' := h.bel.grown hg h.bel.size (fun q hq => by cases hq; exact h.lo.1)
  exact ⟨(f _ h.p.lt d5).trans h.p, (f _ h.q.lt d9).trans h.q, hs, h.s1.far (f _ h.s1.lt (fun e => d0 e.symm)), h.b0.blocks (fun x hx => by cases hx; exact f _ h.a.1 d1), h.b1.blocks (fun x hx => by cases hx; exact f _ h.a.2 d3), h.l0, h.l1, h.k0, h.k1, h.t0, h.t1, h.d, ⟨Nat.lt_of_lt_of_le h.a.1 hg.size, Nat.lt_of_lt_of_le h.a.2 hg.size⟩, h.lo, hbel⟩
theorem St.text0 (h : St w wr P Q g0 g1 a0 a1 n0 n1 c0 c1 y0 y1 x0 x1) (hb : Below wr.heap.size wr w') {a8 n8 c8 : Nat} {z : List Nat} (hby : Bytes w' (some ⟨a8, 0, none⟩) z) (ha : wr.heap.size ≤ a8) (ha2 : a8 < w'.heap.size) (hn : n8 = z.length) (hc : n8 ≤ c8) (hz : ∀ y ∈ z, y < 256) : St w (w'.setCell ⟨Q, 0, none⟩ (.slice (some ⟨a8, 0, none⟩) n8 c8)) P Q g0 g1 a8 a1 n8 n1 c8 c1 y0 y1 z x1 := by
  obtain ⟨d0, d1, d2, d3, d4, d5, d6, d7, d8, d9, d10, d11, d12, d13⟩ := h.d
  have e := h.below hb
  have p1 := h.p.lt
  have p2 := h.q.lt
  have p3 := h.s0.lt
  have p4 := h.s1.lt
  have f : ∀ i, i ≠ Q → (w'.setCell ⟨Q, 0, none⟩ (.slice (some ⟨a8, 0, none⟩) n8 c8)).heap[i]? = w'.heap[i]? := fun i hi => heap_setCell_other _ _ _ _ hi
  have hq := e.q.set_ 0 (.slice (some ⟨a8, 0, none⟩) n8 c8)
  refine ⟨(f _ d13).trans e.p, hq, e.s0.far (f _ (Ne.symm d9)), e.s1.far (f _ (Ne.symm d10)), hby.blocks (fun x hx => by cases hx; exact f _ (by show a8 ≠ Q; omega)), e.b1.blocks (fun x hx => by cases hx; exact f _ (Ne.symm d12)), hn, h.l1, hc, h.k1, hz, h.t1, ?_, ?_, h.lo, e.bel.setCell (show w.heap.size ≤ Q from h.lo.2.2.2) _⟩
  · refine ⟨d0, ?_, ?_, ?_, ?_, d5, d6, ?_, ?_, d9, d10, ?_, ?_, d13⟩ <;> first | assumption | omega
  · refine ⟨?_, ?_⟩ <;> simp only [World.size_setCell] <;> first | exact ha2 | exact e.a.1 | exact e.a.2
theorem St.clone0 (h : St w wr P Q g0 g1 a0 a1 n0 n1 c0 c1 y0 y1 x0 x1) (hb : Below wr.heap.size wr w') {g9 : Nat} {z : List Nat} (hs : SR w' g9 z) (hg : wr.heap.size ≤ g9) : St w (w'.setCell ⟨P, 0, none⟩ (.pointer (some ⟨g9, 0, none⟩))) P Q g9 g1 a0 a1 n0 n1 c0 c1 z y1 x0 x1 := by
  obtain ⟨d0, d1, d2, d3, d4, d5, d6, d7, d8, d9, d10, d11, d12, d13⟩ := h.d
  have e := h.below hb
  have p0 := h.bel.size
  have p1 := h.p.lt
  have p2 := h.q.lt
  have p3 := h.s0.lt
  have p4 := h.s1.lt
  have p5 := h.a.1
  have p6 := h.a.2
  have f : ∀ i, i ≠ P → (w'.setCell ⟨P, 0, none⟩ (.pointer (some ⟨g9, 0, none⟩))).heap[i]? = w'.heap[i]? := fun i hi => heap_setCell_other _ _ _ _ hi
  have hp := e.p.set_ 0 (.pointer (some ⟨g9, 0, none⟩))
  refine ⟨hp, (f _ (Ne.symm d13)).trans e.q, hs.far (f _ (by show g9 ≠ P; omega)), e.s1.far (f _ (Ne.symm d6)), e.b0.blocks (fun x hx => by cases hx; exact f _ (Ne.symm d7)), e.b1.blocks (fun x hx => by cases hx; exact f _ (Ne.symm d8)), h.l0, h.l1, h.k0, h.k1, h.t0, h.t1, ?_, ?_, ?_, e.bel.setCell (show w.heap.size ≤ P from h.lo.2.2.1) _⟩
  · refine ⟨?_, ?_, ?_, ?_, ?_, ?_, ?_, d7, d8, ?_, ?_, d11, d12, d13⟩ <;> first | assumption | omega
  · refine ⟨?_, ?_⟩ <;> simp only [World.size_setCell] <;> first | exact e.a.1 | exact e.a.2
  · obtain ⟨r0, r1, r2, r3⟩ := h.lo
    refine ⟨?_, ?_, r2, r3⟩ <;> first | assumption | omega
theorem St.same0 (h : St w wr P Q g0 g1 a0 a1 n0 n1 c0 c1 y0 y1 x0 x1) : St w (wr.setCell ⟨Q, 0, none⟩ (.slice (some ⟨a1, 0, none⟩) n1 c1)) P Q g0 g1 a1 a1 n1 n1 c1 c1 y0 y1 x1 x1 := by
  obtain ⟨d0, d1, d2, d3, d4, d5, d6, d7, d8, d9, d10, d11, d12, d13⟩ := h.d
  have f : ∀ i, i ≠ Q → (wr.setCell ⟨Q, 0, none⟩ (.slice (some ⟨a1, 0, none⟩) n1 c1)).heap[i]? = wr.heap[i]? := fun i hi => heap_setCell_other _ _ _ _ hi
  have hq := h.q.set_ 0 (.slice (some ⟨a1, 0, none⟩) n1 c1)
  refine ⟨(f _ d13).trans h.p, hq, h.s0.far (f _ (Ne.symm d9)), h.s1.far (f _ (Ne.symm d10)), h.b1.blocks (fun x hx => by cases hx; exact f _ (Ne.symm d12)), h.b1.blocks (fun x hx => by cases hx; exact f _ (Ne.symm d12)), h.l1, h.l1, h.k1, h.k1, h.t1, h.t1, ?_, ?_, h.lo, h.bel.setCell (show w.heap.size ≤ Q from h.lo.2.2.2) _⟩
  · refine ⟨d0, ?_, ?_, ?_, ?_, d5, d6, ?_, ?_, d9, d10, ?_, ?_, d13⟩ <;> assumption
  · refine ⟨?_, ?_⟩ <;> simp only [World.size_setCell] <;> first | exact h.a.1 | exact h.a.2
theorem St.write1 (h : St w wr P Q g0 g1 a0 a1 n0 n1 c0 c1 y0 y1 x0 x1) {zs : List Nat} (hs : SR w' g1 zs) (hg : wr.grownBy w' (some g1)) : St w w' P Q g0 g1 a0 a1 n0 n1 c0 c1 y0 zs x0 x1 := by
  obtain ⟨d0, d1, d2, d3, d4, d5, d6, d7, d8, d9, d10, d11, d12, d13⟩ := h.d
  have f : ∀ i, i < wr.heap.size → i ≠ g1 → w'.heap[i]? = wr.heap[i]? := fun i hi hne => hg.block i hi (fun e => hne (by injection e))
  have hbel : Below w.heap.size w w' := h.bel.grown hg h.bel.size (fun q hq => by cases hq; exact h.lo.2.1)
  exact ⟨(f _ h.p.lt d6).trans h.p, (f _ h.q.lt d10).trans h.q, h.s0.far (f _ h.s0.lt d0), hs, h.b0.blocks (fun x hx => by cases hx; exact f _ h.a.1 d2), h.b1.blocks (fun x hx => by cases hx; exact f _ h.a.2 d4), h.l0, h.l1, h.k0, h.k1, h.t0, h.t1, h.d, ⟨Nat.lt_of_lt_of_le h.a.1 hg.size, Nat.lt_of_lt_of_le h.a.2 hg.size⟩, h.lo, hbel⟩
theorem St.text1 (h : St w wr P Q g0 g1 a0 a1 n0 n1 c0 c1 y0 y1 x0 x1) (hb : Below wr.heap.size wr w') {a8 n8 c8 : Nat} {z : List Nat} (hby : Bytes w' (some ⟨a8, 0, none⟩) z) (ha : wr.heap.size ≤ a8) (ha2 : a8 < w'.heap.size) (hn : n8 = z.length) (hc : n8 ≤ c8) (hz : ∀ y ∈ z, y < 256) : St w (w'.setCell ⟨Q, 1, none⟩ (.slice (some ⟨a8, 0, none⟩) n8 c8)) P Q g0 g1 a0 a8 n0 n8 c0 c8 y0 y1 x0 z := by
  obtain ⟨d0, d1, d2, d3, d4, d5, d6, d7, d8, d9, d10, d11, d12, d13⟩ := h.d
  have e := h.below hb
  have p1 := h.p.lt
  have p2 := h.q.lt
  have p3 := h.s0.lt
  have p4 := h.s1.lt
  have f : ∀ i, i ≠ Q → (w'.setCell ⟨Q, 1, none⟩ (.slice (some ⟨a8, 0, none⟩) n8 c8)).heap[i]? = w'.heap[i]? := fun i hi => heap_setCell_other _ _ _ _ hi
  have hq := e.q.set_ 1 (.slice (some ⟨a8, 0, none⟩) n8 c8)
  refine ⟨(f _ d13).trans e.p, hq, e.s0.far (f _ (Ne.symm d9)), e.s1.far (f _ (Ne.symm d10)), e.b0.blocks (fun x hx => by cases hx; exact f _ (Ne.symm d11)), hby.blocks (fun x hx => by cases hx; exact f _ (by show a8 ≠ Q; omega)), h.l0, hn, h.k0, hc, h.t0, hz, ?_, ?_, h.lo, e.bel.setCell (show w.heap.size ≤ Q from h.lo.2.2.2) _⟩
  · refine ⟨d0, ?_, ?_, ?_, ?_, d5, d6, ?_, ?_, d9, d10, ?_, ?_, d13⟩ <;> first | assumption | omega
  · refine ⟨?_, ?_⟩ <;> simp only [World.size_setCell] <;> first | exact ha2 | exact e.a.1 | exact e.a.2
theorem St.clone1 (h : St w wr P Q g0 g1 a0 a1 n0 n1 c0 c1 y0 y1 x0 x1) (hb : Below wr.heap.size wr w') {g9 : Nat} {z : List Nat} (hs : SR w' g9 z) (hg : wr.heap.size ≤ g9) : St w (w'.setCell ⟨P, 1, none⟩ (.pointer (some ⟨g9, 0, none⟩))) P Q g0 g9 a0 a1 n0 n1 c0 c1 y0 z x0 x1 := by
  obtain ⟨d0, d1, d2, d3, d4, d5, d6, d7, d8, d9, d10, d11, d12, d13⟩ := h.d
  have e := h.below hb
  have p0 := h.bel.size
  have p1 := h.p.lt
  have p2 := h.q.lt
  have p3 := h.s0.lt
  have p4 := h.s1.lt
  have p5 := h.a.1
  have p6 := h.a.2
  have f : ∀ i, i ≠ P → (w'.setCell ⟨P, 1, none⟩ (.pointer (some ⟨g9, 0, none⟩))).heap[i]? = w'.heap[i]? := fun i hi => heap_setCell_other _ _ _ _ hi
  have hp := e.p.set_ 1 (.pointer (some ⟨g9, 0, none⟩))
  refine ⟨hp, (f _ (Ne.symm d13)).trans e.q, e.s0.far (f _ (Ne.symm d5)), hs.far (f _ (by show g9 ≠ P; omega)), e.b0.blocks (fun x hx => by cases hx; exact f _ (Ne.symm d7)), e.b1.blocks (fun x hx => by cases hx; exact f _ (Ne.symm d8)), h.l0, h.l1, h.k0, h.k1, h.t0, h.t1, ?_, ?_, ?_, e.bel.setCell (show w.heap.size ≤ P from h.lo.2.2.1) _⟩
  · refine ⟨?_, ?_, ?_, ?_, ?_, ?_, ?_, d7, d8, ?_, ?_, d11, d12, d13⟩ <;> first | assumption | omega
  · refine ⟨?_, ?_⟩ <;> simp only [World.size_setCell] <;> first | exact e.a.1 | exact e.a.2
  · obtain ⟨r0, r1, r2, r3⟩ := h.lo
    refine ⟨?_, ?_, r2, r3⟩ <;> first | assumption | omega
theorem St.same1 (h : St w wr P Q g0 g1 a0 a1 n0 n1 c0 c1 y0 y1 x0 x1) : St w (wr.setCell ⟨Q, 1, none⟩ (.slice (some ⟨a0, 0, none⟩) n0 c0)) P Q g0 g1 a0 a0 n0 n0 c0 c0 y0 y1 x0 x0 := by
  obtain ⟨d0, d1, d2, d3, d4, d5, d6, d7, d8, d9, d10, d11, d12, d13⟩ := h.d
  have f : ∀ i, i ≠ Q → (wr.setCell ⟨Q, 1, none⟩ (.slice (some ⟨a0, 0, none⟩) n0 c0)).heap[i]? = wr.heap[i]? := fun i hi => heap_setCell_other _ _ _ _ hi
  have hq := h.q.set_ 1 (.slice (some ⟨a0, 0, none⟩) n0 c0)
  refine ⟨(f _ d13).trans h.p, hq, h.s0.far (f _ (Ne.symm d9)), h.s1.far (f _ (Ne.symm d10)), h.b0.blocks (fun x hx => by cases hx; exact f _ (Ne.symm d11)), h.b0.blocks (fun x hx => by cases hx; exact f _ (Ne.symm d11)), h.l0, h.l0, h.k0, h.k0, h.t0, h.t0, ?_, ?_, h.lo, h.bel.setCell (show w.heap.size ≤ Q from h.lo.2.2.2) _⟩
  · refine ⟨d0, ?_, ?_, ?_, ?_, d5, d6, ?_, ?_, d9, d10, ?_, ?_, d13⟩ <;> assumption
  · refine ⟨?_, ?_⟩ <;> simp only [World.size_setCell] <;> first | exact h.a.1 | exact h.a.2
end
end Go.Proofs.YtpfekbbmbdegbaaDoor
