import Derived.Test.YtpfekbbmbdegbaaDoorFrame
import Derived.Test.YtpfekbbmbdegbaaDoorTwo
import Derived.Deep.Fields
import Derived.SizedLaws
import Derived.Deep.RegionLaw
namespace Go.Proofs.YtpfekbbmbdegbaaDoor
open Go.ChangeShapes Go.WideShapes Go.ChangeAt Go.RowKit
/-- a slice of calls on states as it comes in -/
structure OpsR (w : World) (a : Option Addr) (len : Nat) (S K : Nat → Int) (A : Nat → Option Addr) (L C : Nat → Nat) (bs : Nat → List Nat) : Prop where
  top : ∀ i, i < len → ∃ b off, a = some ⟨b, off, none⟩ ∧ w.cell? ⟨b, off + i * 3, none⟩ = some (.int .i64 (S i)) ∧ w.cell? ⟨b, off + i * 3 + 1, none⟩ = some (.int .i64 (K i)) ∧ w.cell? ⟨b, off + i * 3 + 2, none⟩ = some (.slice (A i) (L i) (C i))
  row : ∀ i, i < len → RowB w (A i) (L i) (C i) (bs i)
theorem cellsOp : Tryd.prog.cellsOf 31 = 3 := by kernel_rfl
theorem cellsInt : Tryd.prog.cellsOf 3 = 1 := by kernel_rfl
theorem cellsSl : Tryd.prog.cellsOf 28 = 1 := by kernel_rfl
theorem add_zero_addr (y : Addr) : y.add 0 = y := by simp [Addr.add]
theorem bytesOp : Tryd.prog.bytesOf 31 = 40 := by kernel_rfl
theorem bytesU8 : Tryd.prog.bytesOf 5 = 1 := by kernel_rfl
theorem lits_len (k : IntKind) (zs : List Int) {H : Type} : (lits (H := H) k zs).length = zs.length := by simp [lits]
theorem mem_weightsAll {H : Type} {e : TypeId} (ds : List (DataW H)) (d : DataW H) (hd : d ∈ ds) (q : Nat) (hq : q ∈ d.weights Tryd.prog e) : q ∈ DataW.weightsAll Tryd.prog e ds := by
  induction ds with
  | nil => simp at hd
  | cons a r ih =>
    simp only [DataW.weightsAll, List.mem_append]
    rcases List.mem_cons.1 hd with h | h
    · left; rw [← h]; exact hq
    · right; exact ih h
theorem ops_open {H : Type} {enc : TypeId × Value → H} {W : World} {fuel : Nat} {a : Option Addr} {len cap : Nat} {x : DataW H × List MemPlace}
    (h : DataW.trod enc Tryd.prog W 0 (fun _ => true) true fuel 22 (Value.slice a len cap).cells.toList = some x) :
    ∃ S K A L C bs, OpsR W a len S K A L C bs ∧ len ≤ cap ∧ cap ≤ maxLen ∧ (len = 0 ∨ ∃ m ∈ x.1.weights Tryd.prog 22, len ≤ m) ∧ ∀ i, i < len → ∃ m ∈ x.1.weights Tryd.prog 22, L i ≤ m := by
  rcases Go.Deep.open_slice Tryd.underlying22 h with ⟨hcs, _⟩ | ⟨y, l, c, m, n, D, Pl, hcs, _, hl, hm, hmm, hxe, hi⟩
  · simp [Value.cells] at hcs
    obtain ⟨rfl, rfl, rfl⟩ := hcs
    exact ⟨fun _ => 0, fun _ => 0, fun _ => none, fun _ => 0, fun _ => 0, fun _ => [], ⟨fun i hi => by omega, fun i hi => by omega⟩, Nat.le_refl _, Nat.zero_le _, .inl rfl, fun i hi => by omega⟩
  · simp [Value.cells] at hcs
    obtain ⟨rfl, rfl, rfl⟩ := hcs
    simp only [if_true] at hmm
    subst hmm
    have each : ∀ i, i < m → ∃ z : Int × Int × Option Addr × Nat × Nat × List Nat, W.cell? (y.add (i * 3)) = some (.int .i64 z.1) ∧ W.cell? ((y.add (i * 3)).add 1) = some (.int .i64 z.2.1) ∧ W.cell? ((y.add (i * 3)).add 2) = some (.slice z.2.2.1 z.2.2.2.1 z.2.2.2.2.1) ∧ RowB W z.2.2.1 z.2.2.2.1 z.2.2.2.2.1 z.2.2.2.2.2 ∧ (z.2.2.2.1 = 0 ∨ ∃ mm ∈ (D i).weights Tryd.prog 31, z.2.2.2.1 ≤ mm) := by
      intro i hi'
      obtain ⟨cs, hc, ht⟩ := hi i hi'
      rw [cellsOp] at hc
      obtain ⟨ys, n', _, hye, hlen, hyl, hf⟩ := DataW.trod_struct Tryd.underlying31 ht
      obtain ⟨_, hcl, hat⟩ := World.cells?_some hc
      have f0 : DataW.trod enc Tryd.prog W 0 (fun _ => true) true n' 3 (List.take (Tryd.prog.cellsOf 3) (List.drop 0 cs)) = ys[0]? := hf 0 _ rfl
      have f1 : DataW.trod enc Tryd.prog W 0 (fun _ => true) true n' 3 (List.take (Tryd.prog.cellsOf 3) (List.drop 1 cs)) = ys[1]? := hf 1 _ rfl
      have f2 : DataW.trod enc Tryd.prog W 0 (fun _ => true) true n' 28 (List.take (Tryd.prog.cellsOf 28) (List.drop 2 cs)) = ys[2]? := hf 2 _ rfl
      rw [cellsInt] at f0 f1
      rw [cellsSl] at f2
      match cs, hcl, f0, f1, f2, hat with
      | [v0, v1, v2], _, j0, j1, j2, hat =>
        match ys, hyl, j0, j1, j2, hye with
        | [y0, y1, y2], _, k0, k1, k2, hye =>
          have hD : D i = .agg [y0.1, y1.1, y2.1] := congrArg Prod.fst hye
          have hwt : ∀ q ∈ y2.1.weights Tryd.prog 28, q ∈ (D i).weights Tryd.prog 31 := by
            intro q hq
            rw [hD]
            simp only [DataW.weights, Tryd.underlying31]
            exact DataW.weights_mem_each (j := 2) rfl rfl q hq
          simp only [List.drop_zero, List.take_succ_cons, List.take_zero, List.drop_succ_cons, List.getElem?_cons_zero, List.getElem?_cons_succ] at k0 k1 k2
          obtain ⟨st, e0, _, _⟩ := DataW.trod_int Tryd.underlying3 k0
          obtain ⟨kd, e1, _, _⟩ := DataW.trod_int Tryd.underlying3 k1
          simp only [List.cons.injEq, and_true] at e0 e1
          subst e0 e1
          have h0 := hat 0 (by omega)
          have h1 := hat 1 (by omega)
          have h2 := hat 2 (by omega)
          have hz : (y.add (i * 3)).add 0 = y.add (i * 3) := add_zero_addr _
          rw [hz] at h0
          rcases open_ints Tryd.underlying28 Tryd.underlying5 (by kernel_rfl) k2 with ⟨hcs, _⟩ | ⟨a', len', cap', zs, hcs, _, hl', hm', hz', hy2, hcell, hwz⟩
          · simp only [List.cons.injEq, and_true] at hcs
            subst hcs
            exact ⟨(st, kd, none, 0, 0, []), h0, h1, h2, ⟨fun i hi => by simp at hi, rfl, fun _ => ⟨rfl, rfl⟩, fun x hx => by simp at hx, by simp, Nat.zero_le _⟩, .inl rfl⟩
          · simp only [List.cons.injEq, and_true] at hcs
            subst hcs
            simp only [if_true] at hz'
            exact ⟨(st, kd, some a', len', cap', (zs.take len').map Int.toNat), h0, h1, h2, rowB_of (some a') len' cap' zs hl' hm' hz' hwz (fun h => by cases h) (fun x hx c hc => by cases hx; exact hcell c (by omega)), .inr ⟨cap', hwt _ (by
              rw [show y2.1 = _ from congrArg Prod.fst hy2]
              simp only [DataW.weights, Tryd.underlying28, List.mem_cons]
              left
              rw [bytesU8, lits_len, lits_len, List.length_take, List.length_drop]
              omega), hl'⟩⟩
    obtain ⟨z, hz⟩ := Go.Deep.choose_lt each
    refine ⟨fun i => (z i).1, fun i => (z i).2.1, fun i => (z i).2.2.1, fun i => (z i).2.2.2.1, fun i => (z i).2.2.2.2.1, fun i => (z i).2.2.2.2.2, ⟨?top, fun i hi => (hz i (by omega)).2.2.2.1⟩, hl, hm, .inr ?ln, ?wt⟩
    case ln =>
      rw [show x.1 = _ from congrArg Prod.fst hxe]
      simp only [DataW.weights, Tryd.underlying22]
      refine ⟨_, List.mem_cons_self, ?_⟩
      rw [bytesOp, List.length_map, List.length_range]
      omega
    case wt =>
      intro i hi
      have hmw : ∀ q, q ∈ (D i).weights Tryd.prog 31 → q ∈ x.1.weights Tryd.prog 22 := by
        intro q hq
        rw [show x.1 = _ from congrArg Prod.fst hxe]
        simp only [DataW.weights, Tryd.underlying22]
        exact List.mem_cons_of_mem _ (List.mem_append_left _ (mem_weightsAll _ (D i) (List.mem_map.2 ⟨i, List.mem_range.2 hi, rfl⟩) q hq))
      rcases (hz i (by omega)).2.2.2.2 with h | ⟨q, hq, hle⟩
      · have hne : ∃ q, q ∈ x.1.weights Tryd.prog 22 := by
          rw [show x.1 = _ from congrArg Prod.fst hxe]
          simp only [DataW.weights, Tryd.underlying22]
          exact ⟨_, List.mem_cons_self⟩
        obtain ⟨q, hq⟩ := hne
        exact ⟨q, hq, by show (z i).2.2.2.1 ≤ q; rw [h]; exact Nat.zero_le _⟩
      · exact ⟨q, hmw q hq, hle⟩
    case top =>
      intro i hi
      obtain ⟨h0, h1, h2, _⟩ := hz i (by omega)
      obtain ⟨g0, _⟩ := hz 0 (by omega)
      rw [Nat.zero_mul] at g0
      obtain ⟨b, off, e1, e2⟩ := plain_addr (j := i * 3) g0
      have a1 : (⟨b, off + i * 3, none⟩ : Addr).add 1 = ⟨b, off + i * 3 + 1, none⟩ := by unfold Addr.add; simp
      have a2 : (⟨b, off + i * 3, none⟩ : Addr).add 2 = ⟨b, off + i * 3 + 2, none⟩ := by unfold Addr.add; simp
      rw [e2] at h0 h1 h2
      rw [a1] at h1
      rw [a2] at h2
      exact ⟨b, off, by rw [e1], h0, h1, h2⟩
/-- append of bytes, nil or not, at a step of a region that draws -/
theorem step_append_bytes (w : World) {ops : Array Oper} {o : Oper} {act : Act} {K : Act → World → Prop} {Q : Exit → Act → World → Prop} {E : Prop} (hgd : o.guard = none) (s x : Operand)
    (ho : o.op = .call { callee := .builtin .append, args := #[s, x], argTypes := #[28, 28] })
    (base : Nat) (v : Value) (n : Nat) (xs : List Value) (hs : act.eval s = v) (hown : w.ownsRow base 5 1 v n xs)
    (a : Option Addr) (len cap : Nat) (bs : List Nat) (hx : act.eval x = .slice a len cap) (hl : len = bs.length) (hb : Bytes w a bs) (hnil : a = none → cap = 0 ∧ bs = []) (hbig : n + bs.length ≤ 140737488355328) (hbase : base ≤ w.heap.size)
    (h : ∀ v' w', w'.ownsRow base 5 1 v' (n + bs.length) (xs ++ vals bs) → w.grownBy w' v.ownBlock → (v ≠ .slice none 0 0 → v' ≠ .slice none 0 0) → K (act.put o.dst v') w') :
    if Region.wanted o (yielded ops act.tmps) = true then Oper.wp Tryd.prog o act w K Q else E := by
  have hw : Region.wanted o (yielded ops act.tmps) = true := by simp [Region.wanted, hgd]
  rw [if_pos hw]
  subst hl
  obtain ⟨i0, hi, hz0, hz1, hz2⟩ := info_parts info5
  match a, hb, hnil, hx with
  | none, _, hnil, hx =>
    obtain ⟨rfl, rfl⟩ := hnil rfl
    have hrun := run_append_owned_none (P := Tryd.prog) (w := w) base 28 o.type 5 i0 1 Tryd.underlying28 hi v n xs hown
    have hx' : act.eval x = .slice none 0 0 := hx
    unfold Oper.wp
    simp only [execOp, ho, resolve, invoke, builtin, Sem.run_bind, Sem.run_pure, Result.andThen_ok, List.map_toArray, List.map_cons, List.map_nil, hs, hx', hrun]
    exact h v w (by simpa [vals] using hown) (g_refl _ _) (fun e => e)
  | some y, hb, _, hx =>
    exact wp_append_own w s x 28 ho base 5 i0 (.int .u8 0) 1 1 Tryd.underlying28 hi hz0 hz1 hz2 rfl (by decide) v n xs hs hown y bs.length cap (vals bs) hx (by simp [vals]) (bytes_cells hb) vals_one (by unfold maxLen; omega) (by omega) hbase (fun v' w' h1 h2 h3 => h v' w' h1 h2 (fun e e2 => e (h3.1 e2).1))
/-- the form of a row that is not nil -/
theorem own_form {w : World} {base n : Nat} {v : Value} {l : List Nat} (h : w.ownsRow base 5 1 v n (vals l)) (hv : v ≠ .slice none 0 0) (hn : n = l.length) : ∃ b c, v = .slice (some ⟨b, 0, none⟩) n c ∧ base ≤ b ∧ b < w.heap.size ∧ n ≤ c ∧ Bytes w (some ⟨b, 0, none⟩) l := by
  obtain ⟨a2, c2, e2, hby, _⟩ := owned_bytes h hn
  rcases h.2 with ⟨h0, _⟩ | ⟨b, cap, cur, e, hb, hg, hle, _⟩
  · exact absurd h0 hv
  · subst e
    simp only [Value.slice.injEq] at e2
    obtain ⟨rfl, _, _⟩ := e2
    refine ⟨b, cap, rfl, hb, ?_, hle, hby⟩
    rcases Nat.lt_or_ge b w.heap.size with h1 | h1
    · exact h1
    · rw [Array.getElem?_eq_none h1] at hg; cases hg
end Go.Proofs.YtpfekbbmbdegbaaDoor
