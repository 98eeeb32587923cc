import Derived.Test.YtlpggkdmjmlpkaaDpl
import Derived.Test.YtlpggkdmjmlpkaaFrame
import Derived.Deep.Fields
import Derived.Deep.Grids
import Derived.SizedLaws
namespace Go.Proofs.Ytlpggkdmjmlpkaa
open Go.ChangeShapes Go.WideShapes Go.ChangeAt Go.RowKit
/-- a slice of operations as it comes in -/
structure OpsR (w : World) (a : Option Addr) (len : Nat) (O : Nat → Opd) (A : Nat → Option Addr) (L C : Nat → Nat) (KA : Nat → Option Addr) (KL KC : Nat → Nat) : Prop where
  top : ∀ i, i < len → ∃ b off, a = some ⟨b, off, none⟩ ∧ w.cell? ⟨b, off + i * 6, none⟩ = some (.int .i64 (O i).k) ∧ w.cell? ⟨b, off + i * 6 + 1, none⟩ = some (.int .i64 (O i).s) ∧ w.cell? ⟨b, off + i * 6 + 2, none⟩ = some (.slice (A i) (L i) (C i)) ∧
    w.cell? ⟨b, off + i * 6 + 3, none⟩ = some (.int .i64 (O i).n) ∧ w.cell? ⟨b, off + i * 6 + 4, none⟩ = some (.slice (KA i) (KL i) (KC i)) ∧ w.cell? ⟨b, off + i * 6 + 5, none⟩ = some (.int .u8 ((O i).x : Int))
  row : ∀ i, i < len → RowB w (A i) (L i) (C i) (O i).bs
  bo : ∀ i, i < len → Bools w (KA i) (O i).ks ∧ KL i = (O i).ks.length
  x : ∀ i, i < len → (O i).x < 256 ∧ (O i).n < 9223372036854775808
theorem cellsOp : Try.prog.cellsOf 44 = 6 := by kernel_rfl
theorem cellsInt : Try.prog.cellsOf 3 = 1 := by kernel_rfl
theorem cellsSl : Try.prog.cellsOf 39 = 1 := by kernel_rfl
theorem cellsKs : Try.prog.cellsOf 42 = 1 := by kernel_rfl
theorem cellsU8 : Try.prog.cellsOf 5 = 1 := by kernel_rfl
theorem add_zero_addr (y : Addr) : y.add 0 = y := by simp [Addr.add]
/-- a slice of bools as it comes in -/
theorem bools_open {H : Type} {enc : TypeId × Value → H} {W : World} {fuel : Nat} {a : Option Addr} {len cap : Nat} {x : DataW H × List MemPlace}
    (h : DataW.trod enc Try.prog W 0 (fun _ => true) true fuel 42 [Value.slice a len cap] = some x) : ∃ ks, Bools W a ks ∧ len = ks.length := by
  rcases Go.Deep.open_bools Try.underlying42 Try.underlying4 (by kernel_rfl) h with ⟨hcs, _⟩ | ⟨y, l, c, B, hcs, _, hl, _, _, hc⟩
  · simp only [List.cons.injEq, and_true, Value.slice.injEq] at hcs
    obtain ⟨rfl, rfl, rfl⟩ := hcs
    exact ⟨[], fun i hi => by simp at hi, rfl⟩
  · simp only [List.cons.injEq, and_true, Value.slice.injEq] at hcs
    obtain ⟨rfl, rfl, rfl⟩ := hcs
    refine ⟨(List.range len).map B, fun i hi => ?_, by simp⟩
    have hi' : i < len := by simpa using hi
    obtain ⟨b, off, e1, e2⟩ := plain_addr (j := i) (hc 0 (by omega))
    refine ⟨b, off, by rw [e1], ?_⟩
    rw [← e2, hc i (by omega)]
    simp [List.getD, hi']
theorem ops_open {H : Type} {enc : TypeId × Value → H} {W : World} {fuel : Nat} {a : Option Addr} {len cap : Nat} {x : DataW H × List MemPlace}
    (h : DataW.trod enc Try.prog W 0 (fun _ => true) true fuel 37 (Value.slice a len cap).cells.toList = some x) :
    ∃ O A L C KA KL KC, OpsR W a len O A L C KA KL KC := by
  rcases Go.Deep.open_slice Try.underlying37 h with ⟨hcs, _⟩ | ⟨y, l, c, m, n, D, Pl, hcs, _, hl, hm, hmm, hxe, hi⟩
  · simp [Value.cells] at hcs
    obtain ⟨rfl, rfl, rfl⟩ := hcs
    exact ⟨fun _ => ⟨0, 0, [], 0, [], 0⟩, fun _ => none, fun _ => 0, fun _ => 0, fun _ => none, fun _ => 0, fun _ => 0, ⟨fun i hi => by omega, fun i hi => by omega, fun i hi => by omega, fun i hi => by omega⟩⟩
  · simp [Value.cells] at hcs
    obtain ⟨rfl, rfl, rfl⟩ := hcs
    simp only [if_true] at hmm
    subst hmm
    have each : ∀ i, i < m → ∃ z : Opd × Option Addr × Nat × Nat × Option Addr × Nat × Nat, W.cell? (y.add (i * 6)) = some (.int .i64 z.1.k) ∧ W.cell? ((y.add (i * 6)).add 1) = some (.int .i64 z.1.s) ∧ W.cell? ((y.add (i * 6)).add 2) = some (.slice z.2.1 z.2.2.1 z.2.2.2.1) ∧
        W.cell? ((y.add (i * 6)).add 3) = some (.int .i64 z.1.n) ∧ W.cell? ((y.add (i * 6)).add 4) = some (.slice z.2.2.2.2.1 z.2.2.2.2.2.1 z.2.2.2.2.2.2) ∧ W.cell? ((y.add (i * 6)).add 5) = some (.int .u8 (z.1.x : Int)) ∧
        RowB W z.2.1 z.2.2.1 z.2.2.2.1 z.1.bs ∧ (Bools W z.2.2.2.2.1 z.1.ks ∧ z.2.2.2.2.2.1 = z.1.ks.length) ∧ z.1.x < 256 ∧ z.1.n < 9223372036854775808 := by
      intro i hi'
      obtain ⟨cs, hc, ht⟩ := hi i hi'
      rw [cellsOp] at hc
      obtain ⟨ys, n', _, hye, hlen, hyl, hf⟩ := DataW.trod_struct Try.underlying44 ht
      obtain ⟨_, hcl, hat⟩ := World.cells?_some hc
      have f0 : DataW.trod enc Try.prog W 0 (fun _ => true) true n' 3 (List.take (Try.prog.cellsOf 3) (List.drop 0 cs)) = ys[0]? := hf 0 _ rfl
      have f1 : DataW.trod enc Try.prog W 0 (fun _ => true) true n' 3 (List.take (Try.prog.cellsOf 3) (List.drop 1 cs)) = ys[1]? := hf 1 _ rfl
      have f2 : DataW.trod enc Try.prog W 0 (fun _ => true) true n' 39 (List.take (Try.prog.cellsOf 39) (List.drop 2 cs)) = ys[2]? := hf 2 _ rfl
      have f3 : DataW.trod enc Try.prog W 0 (fun _ => true) true n' 3 (List.take (Try.prog.cellsOf 3) (List.drop 3 cs)) = ys[3]? := hf 3 _ rfl
      have f4 : DataW.trod enc Try.prog W 0 (fun _ => true) true n' 42 (List.take (Try.prog.cellsOf 42) (List.drop 4 cs)) = ys[4]? := hf 4 _ rfl
      have f5 : DataW.trod enc Try.prog W 0 (fun _ => true) true n' 5 (List.take (Try.prog.cellsOf 5) (List.drop 5 cs)) = ys[5]? := hf 5 _ rfl
      rw [cellsInt] at f0 f1 f3
      rw [cellsSl] at f2
      rw [cellsKs] at f4
      rw [cellsU8] at f5
      match cs, hcl, f0, f1, f2, f3, f4, f5, hat with
      | [v0, v1, v2, v3, v4, v5], _, j0, j1, j2, j3, j4, j5, hat =>
        match ys, hyl, j0, j1, j2, j3, j4, j5, hye with
        | [y0, y1, y2, y3, y4, y5], _, k0, k1, k2, k3, k4, k5, hye =>
          simp only [List.drop_zero, List.take_succ_cons, List.take_zero, List.drop_succ_cons, List.getElem?_cons_zero, List.getElem?_cons_succ] at k0 k1 k2 k3 k4 k5
          obtain ⟨kd, e0, _, _⟩ := DataW.trod_int Try.underlying3 k0
          obtain ⟨sc, e1, _, _⟩ := DataW.trod_int Try.underlying3 k1
          obtain ⟨nn, e3, _, wn⟩ := DataW.trod_int Try.underlying3 k3
          obtain ⟨xx, e5, _, wx⟩ := DataW.trod_int Try.underlying5 k5
          simp only [List.cons.injEq, and_true] at e0 e1 e3 e5
          subst e0 e1 e3 e5
          have bx := bounds_u8 wx
          have bn := bounds_i64 wn
          have h0 := hat 0 (by omega)
          have h1 := hat 1 (by omega)
          have h2 := hat 2 (by omega)
          have h3 := hat 3 (by omega)
          have h4 := hat 4 (by omega)
          have h5 := hat 5 (by omega)
          have hz : (y.add (i * 6)).add 0 = y.add (i * 6) := add_zero_addr _
          rw [hz] at h0
          have hxx : ((xx.toNat : Nat) : Int) = xx := by omega
          have hks : ∃ ka kl kc ks, v4 = .slice ka kl kc ∧ Bools W ka ks ∧ kl = ks.length := by
            have k4' := k4
            rcases Go.Deep.open_bools Try.underlying42 Try.underlying4 (by kernel_rfl) k4 with ⟨hcs, _⟩ | ⟨a', len', cap', B, hcs, _⟩
            · simp only [List.cons.injEq, and_true] at hcs
              subst hcs
              obtain ⟨ks, q1, q2⟩ := bools_open k4'
              exact ⟨none, 0, 0, ks, rfl, q1, q2⟩
            · simp only [List.cons.injEq, and_true] at hcs
              subst hcs
              obtain ⟨ks, q1, q2⟩ := bools_open k4'
              exact ⟨some a', len', cap', ks, rfl, q1, q2⟩
          obtain ⟨ka, kl, kc, ks, rfl, q1, q2⟩ := hks
          rcases open_ints Try.underlying39 Try.underlying5 (by kernel_rfl) k2 with ⟨hcs, _⟩ | ⟨a', len', cap', zs, hcs, _, hl', hm', hz', hy2, hcell, hwz⟩
          · simp only [List.cons.injEq, and_true] at hcs
            subst hcs
            exact ⟨(⟨kd, sc, [], nn, ks, xx.toNat⟩, none, 0, 0, ka, kl, kc), h0, h1, h2, h3, h4, by rw [hxx]; exact h5, ⟨fun i hi => by simp at hi, rfl, fun _ => ⟨rfl, rfl⟩, fun x hx => by simp at hx, by simp, Nat.zero_le _⟩, ⟨q1, q2⟩, by show xx.toNat < 256; omega, by show nn < _; omega⟩
          · simp only [List.cons.injEq, and_true] at hcs
            subst hcs
            simp only [if_true] at hz'
            exact ⟨(⟨kd, sc, (zs.take len').map Int.toNat, nn, ks, xx.toNat⟩, some a', len', cap', ka, kl, kc), h0, h1, h2, h3, h4, by rw [hxx]; exact h5, rowB_of (some a') len' cap' zs hl' hm' hz' hwz (fun h => by cases h) (fun x hx c hc => by cases hx; exact hcell c (by omega)), ⟨q1, q2⟩, by show xx.toNat < 256; omega, by show nn < _; omega⟩
    haveI : Inhabited Opd := ⟨⟨0, 0, [], 0, [], 0⟩⟩
    obtain ⟨z, hz⟩ := Go.Deep.choose_lt each
    refine ⟨fun i => (z i).1, fun i => (z i).2.1, fun i => (z i).2.2.1, fun i => (z i).2.2.2.1, fun i => (z i).2.2.2.2.1, fun i => (z i).2.2.2.2.2.1, fun i => (z i).2.2.2.2.2.2, ⟨fun i hi => ?_, fun i hi => (hz i (by omega)).2.2.2.2.2.2.1, fun i hi => (hz i (by omega)).2.2.2.2.2.2.2.1, fun i hi => (hz i (by omega)).2.2.2.2.2.2.2.2⟩⟩
    obtain ⟨h0, h1, h2, h3, h4, h5, _⟩ := hz i (by omega)
    obtain ⟨g0, _⟩ := hz 0 (by omega)
    rw [Nat.zero_mul] at g0
    obtain ⟨b, off, e1, e2⟩ := plain_addr (j := i * 6) g0
    have ad : ∀ k, (⟨b, off + i * 6, none⟩ : Addr).add k = ⟨b, off + i * 6 + k, none⟩ := fun k => by unfold Addr.add; split <;> simp_all
    rw [e2] at h0 h1 h2 h3 h4 h5
    rw [ad] at h1 h2 h3 h4 h5
    exact ⟨b, off, by rw [e1], h0, h1, h2, h3, h4, h5⟩
/-- one operation in a later world -/
theorem OpsR.opv {w W : World} {S : Nat → Prop} {a : Option Addr} {len : Nat} {O : Nat → Opd} {A : Nat → Option Addr} {L C : Nat → Nat} {KA : Nat → Option Addr} {KL KC : Nat → Nat} (h : OpsR w a len O A L C KA KL KC) (hb : Below w.heap.size w W) (hS : ∀ b, S b → w.heap.size ≤ b) {i : Nat} (hi : i < len) : OpV W S (O i) (A i) (L i) (KA i) (KL i) := by
  obtain ⟨b1, b2⟩ := h.bo i hi
  have hr := h.row i hi
  refine ⟨hr.bytes.below hb, hr.len, hr.lt, b1.below hb, b2, fun x e h0 => ?_, (h.x i hi).1, (h.x i hi).2⟩
  obtain ⟨b, off, e1, e2⟩ := b1 0 h0
  rw [e] at e1
  cases e1
  have hlt : b < w.heap.size := bytes_lt e2
  exact ⟨Nat.lt_of_lt_of_le hlt hb.size, fun e3 => by have := hS _ e3; simp only at this; omega⟩
/-- one operation of a slice in a later world, as the walk loads it -/
structure OpC (W : World) (a : Option Addr) (i : Nat) (o : Opd) (x : Option Addr) (l c : Nat) (ka : Option Addr) (kl kc : Nat) (b off : Nat) : Prop where
  a : a = some ⟨b, off, none⟩
  c0 : W.cell? ⟨b, off + i * 6, none⟩ = some (.int .i64 o.k)
  c1 : W.cell? ⟨b, off + i * 6 + 1, none⟩ = some (.int .i64 o.s)
  c2 : W.cell? ⟨b, off + i * 6 + 2, none⟩ = some (.slice x l c)
  c3 : W.cell? ⟨b, off + i * 6 + 3, none⟩ = some (.int .i64 o.n)
  c4 : W.cell? ⟨b, off + i * 6 + 4, none⟩ = some (.slice ka kl kc)
  c5 : W.cell? ⟨b, off + i * 6 + 5, none⟩ = some (.int .u8 (o.x : Int))
theorem OpsR.at {w W : World} {a : Option Addr} {len : Nat} {O : Nat → Opd} {A : Nat → Option Addr} {L C : Nat → Nat} {KA : Nat → Option Addr} {KL KC : Nat → Nat} (h : OpsR w a len O A L C KA KL KC) (hb : Below w.heap.size w W) {i : Nat} (hi : i < len) : ∃ b off, OpC W a i (O i) (A i) (L i) (C i) (KA i) (KL i) (KC i) b off := by
  obtain ⟨b, off, e, h0, h1, h2, h3, h4, h5⟩ := h.top i hi
  have t : ∀ {k v}, w.cell? ⟨b, k, none⟩ = some v → W.cell? ⟨b, k, none⟩ = some v := fun {k v} q => (hb.cell (p := ⟨b, k, none⟩) (bytes_lt q)).trans q
  exact ⟨b, off, e, t h0, t h1, t h2, t h3, t h4, t h5⟩
end Go.Proofs.Ytlpggkdmjmlpkaa
