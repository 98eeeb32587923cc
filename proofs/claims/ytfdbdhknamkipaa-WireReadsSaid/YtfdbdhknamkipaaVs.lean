import Derived.Test.YtfdbdhknamkipaaGetAny
import Derived.ProofKit
import Derived.OpenShut
import Derived.Deep.Fields
import Derived.Deep.Matrix
import Derived.SizedLaws
namespace Go.Proofs.Ytfdbdhknamkipaa
open Go.ChangeShapes Go.WideShapes Go.ChangeAt Go.RowKit
/-- what a value that comes in keeps to -/
structure VK (v : RV) : Prop where
  k1 : -9223372036854775808 ≤ v.kind
  k2 : v.kind ≤ 9223372036854775807
  u : v.u < 18446744073709551616
  n1 : -9223372036854775808 ≤ v.n
  n2 : v.n ≤ 9223372036854775807
  s : v.s.size ≤ 140737488355328
  m1 : -9223372036854775808 ≤ v.most
  m2 : v.most ≤ 9223372036854775807
theorem VK.ok {v : RV} (h : VK v) : v.ok := ⟨h.u, h.n1, h.n2, by have := h.s; omega⟩
/-- the cells of a value -/
def RV.cells (v : RV) : List Value := [.int .i64 v.kind, .int .u64 v.u, .int .i64 v.n, .bool v.b, .string v.s, .int .i64 v.most]
/-- a slice of values as it comes in -/
structure VR (w : World) (a : Option Addr) (len : Nat) (V : Nat → RV) : Prop where
  top : ∀ i, i < len → ∃ b off, a = some ⟨b, off, none⟩ ∧ w.rangeAt b (off + i * 6) (V i).cells
  ok : ∀ i, i < len → VK (V i)
theorem nat_u64' {a : Int} (h : (Lit.int .u64 a).wf = true) : ∃ n : Nat, a = n ∧ n < 18446744073709551616 := by
  have := bounds_u64 h
  exact ⟨a.toNat, by omega, by omega⟩
instance : Inhabited RV := ⟨zeroV 0 0⟩
theorem cellsV : Try.prog.cellsOf 37 = 6 := by kernel_rfl
theorem cellsI : Try.prog.cellsOf 3 = 1 := by kernel_rfl
theorem cellsU : Try.prog.cellsOf 35 = 1 := by kernel_rfl
theorem cellsB : Try.prog.cellsOf 4 = 1 := by kernel_rfl
theorem cellsS : Try.prog.cellsOf 9 = 1 := by kernel_rfl
theorem bytesV : 1 ≤ Try.prog.bytesOf 37 := by
  have : Try.prog.bytesOf 37 = 56 := by kernel_rfl
  omega
theorem add_zero_addr (y : Addr) : y.add 0 = y := by simp [Addr.add]
theorem add_plain1 (b off j : Nat) : (⟨b, off, none⟩ : Addr).add j = ⟨b, off + j, none⟩ := by unfold Addr.add; split <;> simp_all
theorem plain_at {w : World} {x : Addr} {v : Value} (h0 : w.cell? x = some v) : ∃ b off, x = ⟨b, off, none⟩ := by
  obtain ⟨b, off, spot⟩ := x
  have hspot : spot = none := by simpa using World.cell?_spot h0
  exact ⟨b, off, by rw [hspot]⟩
theorem mem_weightsAll {H : Type} {e : TypeId} (ds : List (DataW H)) (d : DataW H) (hd : d ∈ ds) (q : Nat) (hq : q ∈ d.weights Try.prog e) : q ∈ DataW.weightsAll Try.prog e ds := by
  induction ds with
  | nil => simp at hd
  | cons a r ih =>
    simp only [DataW.weightsAll, List.mem_append]
    rcases List.mem_cons.1 hd with h | h
    · left; rw [← h]; exact hq
    · right; exact ih h
theorem range6 {w : World} {b o : Nat} {c0 c1 c2 c3 c4 c5 : Value} (h0 : w.cell? ⟨b, o, none⟩ = some c0) (h1 : w.cell? ⟨b, o + 1, none⟩ = some c1) (h2 : w.cell? ⟨b, o + 2, none⟩ = some c2) (h3 : w.cell? ⟨b, o + 3, none⟩ = some c3) (h4 : w.cell? ⟨b, o + 4, none⟩ = some c4) (h5 : w.cell? ⟨b, o + 5, none⟩ = some c5) :
    w.rangeAt b o [c0, c1, c2, c3, c4, c5] := by
  intro j v hv
  match j, hv with
  | 0, hv => cases hv; exact h0
  | 1, hv => cases hv; exact h1
  | 2, hv => cases hv; exact h2
  | 3, hv => cases hv; exact h3
  | 4, hv => cases hv; exact h4
  | 5, hv => cases hv; exact h5
theorem vals_open {H : Type} {enc : TypeId × Value → H} {W : World} {fuel : Nat} {a : Option Addr} {len cap : Nat} {x : DataW H × List MemPlace}
    (h : DataW.trod enc Try.prog W 0 (fun _ => true) true fuel 22 (Value.slice a len cap).cells.toList = some x) (hx : ∀ q ∈ x.1.weights Try.prog 22, q ≤ 140737488355328) :
    ∃ V, VR W a len V ∧ len ≤ cap ∧ cap ≤ maxLen ∧ len ≤ 140737488355328 := by
  rcases Go.Deep.open_slice Try.underlying22 h with ⟨hcs, _⟩ | ⟨y, l, c, m, n, D, Pl, hcs, _, hl, hm, hmm, hxe, hi⟩
  · simp [Value.cells] at hcs
    obtain ⟨rfl, rfl, rfl⟩ := hcs
    exact ⟨fun _ => zeroV 0 0, ⟨fun i hi => by omega, fun i hi => by omega⟩, Nat.le_refl _, Nat.zero_le _, by omega⟩
  · simp [Value.cells] at hcs
    obtain ⟨rfl, rfl, rfl⟩ := hcs
    simp only [if_true] at hmm
    subst hmm
    have hmw : ∀ i, i < len → ∀ q, q ∈ (D i).weights Try.prog 37 → q ≤ 140737488355328 := by
      intro i hi q hq
      refine hx q ?_
      rw [show x.1 = _ from congrArg Prod.fst hxe]
      simp only [DataW.weights, Try.underlying22]
      exact List.mem_cons_of_mem _ (List.mem_append_left _ (mem_weightsAll _ (D i) (List.mem_map.2 ⟨i, List.mem_range.2 hi, rfl⟩) q hq))
    have hll : len ≤ 140737488355328 := by
      have h2 : ∃ q ∈ x.1.weights Try.prog 22, len ≤ q := by
        rw [show x.1 = _ from congrArg Prod.fst hxe]
        simp only [DataW.weights, Try.underlying22]
        refine ⟨_, List.mem_cons_self, ?_⟩
        rw [List.length_map, List.length_range]
        exact Nat.le_trans (Nat.le_add_right _ _) (Nat.le_mul_of_pos_right _ bytesV)
      obtain ⟨q, hq, hle⟩ := h2
      exact Nat.le_trans hle (hx q hq)
    have each : ∀ i, i < len → ∃ v : RV, (∃ b o, y.add (i * 6) = ⟨b, o, none⟩ ∧ W.rangeAt b o v.cells) ∧ VK v := by
      intro i hil
      obtain ⟨cs, hc, ht⟩ := hi i (by omega)
      rw [cellsV] at hc
      obtain ⟨ys, n', _, hye, hlen, hyl, hf⟩ := DataW.trod_struct Try.underlying37 ht
      obtain ⟨_, hcl, hat⟩ := World.cells?_some hc
      have f0 : DataW.trod enc Try.prog W 0 (fun _ => true) true n' 3 (List.take (Try.prog.cellsOf 3) (List.drop 0 cs)) = ys[0]? := hf 0 _ rfl
      have f1 : DataW.trod enc Try.prog W 0 (fun _ => true) true n' 35 (List.take (Try.prog.cellsOf 35) (List.drop 1 cs)) = ys[1]? := hf 1 _ rfl
      have f2 : DataW.trod enc Try.prog W 0 (fun _ => true) true n' 3 (List.take (Try.prog.cellsOf 3) (List.drop 2 cs)) = ys[2]? := hf 2 _ rfl
      have f3 : DataW.trod enc Try.prog W 0 (fun _ => true) true n' 4 (List.take (Try.prog.cellsOf 4) (List.drop 3 cs)) = ys[3]? := hf 3 _ rfl
      have f4 : DataW.trod enc Try.prog W 0 (fun _ => true) true n' 9 (List.take (Try.prog.cellsOf 9) (List.drop 4 cs)) = ys[4]? := hf 4 _ rfl
      have f5 : DataW.trod enc Try.prog W 0 (fun _ => true) true n' 3 (List.take (Try.prog.cellsOf 3) (List.drop 5 cs)) = ys[5]? := hf 5 _ rfl
      rw [cellsI] at f0 f2 f5
      rw [cellsU] at f1
      rw [cellsB] at f3
      rw [cellsS] at f4
      match cs, hcl, f0, f1, f2, f3, f4, f5, hat with
      | [v0, v1, v2, v3, v4, v5], _, j0, j1, j2, j3, j4, j5, hat =>
        match ys, hyl, j0, j1, j2, j3, j4, j5, hye with
        | [y0, y1, y2, y3, y4, y5], _, k0, k1, k2, k3, k4, k5, hye =>
          have hD : D i = .agg [y0.1, y1.1, y2.1, y3.1, y4.1, y5.1] := congrArg Prod.fst hye
          simp only [List.drop_zero, List.take_succ_cons, List.take_zero, List.drop_succ_cons, List.getElem?_cons_zero, List.getElem?_cons_succ] at k0 k1 k2 k3 k4 k5
          obtain ⟨a0, e0, _, w0⟩ := DataW.trod_int Try.underlying3 k0
          obtain ⟨a1, e1, _, w1⟩ := DataW.trod_int Try.underlying35 k1
          obtain ⟨a2, e2, _, w2⟩ := DataW.trod_int Try.underlying3 k2
          obtain ⟨a3, e3, _⟩ := DataW.trod_bool Try.underlying4 k3
          obtain ⟨a4, e4, d4, _⟩ := DataW.trod_string Try.underlying9 k4
          obtain ⟨a5, e5, _, w5⟩ := DataW.trod_int Try.underlying3 k5
          simp only [List.cons.injEq, and_true] at e0 e1 e2 e3 e4 e5
          subst e0 e1 e2 e3 e4 e5
          have hsz : a4.size ≤ 140737488355328 := by
            refine hmw i hil _ ?_
            rw [hD]
            simp only [DataW.weights, Try.underlying37]
            refine DataW.weights_mem_each (j := 4) (t := 9) (d := y4.1) rfl rfl _ ?_
            rw [show y4.1 = _ from congrArg Prod.fst d4]
            simp only [DataW.weights, List.mem_singleton, Array.length_toList]
            rfl
          obtain ⟨u, rfl, hu⟩ := nat_u64' w1
          have b0 := bounds_i64 w0
          have b2 := bounds_i64 w2
          have b5 := bounds_i64 w5
          have h0 := hat 0 (by omega)
          rw [show (y.add (i * 6)).add 0 = y.add (i * 6) from add_zero_addr _] at h0
          obtain ⟨b, o, hbo⟩ := plain_at h0
          have h1 := hat 1 (by omega)
          have h2 := hat 2 (by omega)
          have h3 := hat 3 (by omega)
          have h4 := hat 4 (by omega)
          have h5 := hat 5 (by omega)
          rw [hbo, add_plain1] at h1 h2 h3 h4 h5
          rw [hbo] at h0
          exact ⟨⟨a0, u, a2, a3, a4, a5⟩, ⟨b, o, hbo, range6 h0 h1 h2 h3 h4 h5⟩, b0.1, b0.2, hu, b2.1, b2.2, hsz, b5.1, b5.2⟩
    obtain ⟨V, hV⟩ := Go.Deep.choose_lt each
    refine ⟨V, ⟨fun i hi => ?_, fun i hi => (hV i hi).2⟩, hl, hm, hll⟩
    obtain ⟨b, o, hbo, hr⟩ := (hV i hi).1
    obtain ⟨b0, o0, hbo0, _⟩ := (hV 0 (by omega)).1
    rw [Nat.zero_mul, add_zero_addr] at hbo0
    rw [hbo0, add_plain1] at hbo
    cases hbo
    exact ⟨_, _, by rw [hbo0], hr⟩
end Go.Proofs.Ytfdbdhknamkipaa
