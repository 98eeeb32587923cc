import Derived.Test.YtlpggkdmjmlpkaaDq1
namespace Go.Proofs.Ytlpggkdmjmlpkaa
open Go.RowKit
/-- what an operation's numbers keep -/
def Opd.good (o : Opd) : Prop := (∀ x ∈ o.bs, x < 256) ∧ o.x < 256 ∧ o.n < 9223372036854775808
theorem OpsR.good {w : World} {a : Option Addr} {len : Nat} {O : Nat → Opd} {A : Nat → Option Addr} {L C : Nat → Nat} {KA : Nat → Option Addr} {KL KC : Nat → Nat} (h : OpsR w a len O A L C KA KL KC) {i : Nat} (hi : i < len) : (O i).good := ⟨(h.row i hi).lt, h.x i hi⟩
namespace Dsk
theorem WF.play {D : Dsk} (h : D.WF) {o : Opd} (ho : o.good) : (D.play o).2.2.WF := by
  unfold Dsk.play
  split
  · exact h.write o.s ho.1
  · split
    · exact h
    · split
      · exact h.sync
      · split
        · exact h.fail ho.2.2
        · split
          · exact h.crash _ _
          · split
            · exact h.spoil _ _ ho.2.1
            · exact h
def plays (D : Dsk) (O : Nat → Opd) : Nat → Dsk
  | 0 => D
  | k + 1 => ((D.plays O k).play (O k)).2.2
theorem plays_ok {D : Dsk} (h : D.WF) (O : Nat → Opd) : ∀ k, (∀ i, i < k → (O i).good) → (D.plays O k).WF ∧ (D.plays O k).size = D.size ∧ (D.plays O k).n = D.n ∧ (D.plays O k).np ≤ D.np + k
  | 0, _ => ⟨h, rfl, rfl, Nat.le_refl _⟩
  | k + 1, hg => by
    obtain ⟨a, b, c, d⟩ := plays_ok h O k (fun i hi => hg i (by omega))
    obtain ⟨e1, e2, e3⟩ := play_same (D.plays O k) a (O k) (hg k (by omega)).1
    exact ⟨a.play (hg k (by omega)), e1.trans b, e2.trans c, by show ((D.plays O k).play (O k)).2.2.np ≤ _; omega⟩
theorem sync_err {D : Dsk} (h : D.WF) (e : D.sync.1 ≠ 0) : D.sync.2.down = true := by
  unfold Dsk.sync at e ⊢
  split
  · assumption
  · rename_i hd
    rw [if_neg hd] at e
    split
    · rename_i h0; rw [if_pos h0] at e; exact absurd rfl e
    · rename_i h0
      rcases oper_cases D h with ⟨_, e2⟩ | ⟨_, e2⟩ | ⟨_, e2⟩
      · rw [e2] at h0; exact absurd rfl h0
      · rw [e2] at h0; exact absurd rfl h0
      · rw [e2]
theorem sync_fine {D : Dsk} (h : D.WF) (e : D.sync.1 = 0) : D.sync.2.down = false ∧ D.sync.2.np = 0 := by
  unfold Dsk.sync at e ⊢
  split
  · rename_i hd; rw [if_pos hd] at e; cases e
  · rename_i hd
    rw [if_neg hd] at e
    split
    · rename_i h0
      refine ⟨?_, rfl⟩
      obtain ⟨_, _, _, _, _, _, c⟩ := crN_same (fun _ => true) 0 D.oper.2 D.np
      show (crN _ _ _ _).2.down = false
      rw [c]
      have hdf : D.down = false := by simpa using hd
      rcases oper_cases D h with ⟨_, e2⟩ | ⟨_, e2⟩ | ⟨_, e2⟩
      · rw [e2]; exact hdf
      · rw [e2]; exact hdf
      · rw [e2] at h0; cases h0
    · rename_i h0; rw [if_neg h0] at e; exact absurd e h0
theorem cur_none {D : Dsk} (h : D.np = 0) (s : Nat) : D.cur s = D.dur s := by unfold Dsk.cur; rw [h]; rfl
theorem crash_none {D : Dsk} (h : D.np = 0) (keep : Nat → Bool) (t : Int) : (D.crash keep t).dur = D.dur ∧ (D.crash keep t).down = false := by
  refine ⟨?_, rfl⟩
  show (crN _ _ D D.np).2.dur = D.dur
  rw [h]; rfl
end Dsk
/-- append of one slice to a row of slices of the call's own -/
theorem wpList_snoc_sl (w : World) {ops : Array Oper} {rest : List Oper} {o : Oper} {act : Act} {Q : Exit → Act → World → Prop} (hgd : o.guard = none) (s x : Operand)
    (ho : o.op = .call { callee := .builtin .append, args := #[s, x], argTypes := #[30, 30] })
    (base : Nat) (v : Value) (n : Nat) (xs : List Value) (hs : act.eval s = v) (hown : w.ownsRow base 39 1 v n xs)
    (q : Nat) (u : Value) (hx : act.eval x = .slice (some ⟨q, 0, none⟩) 1 1) (hc : w.cell? ⟨q, 0, none⟩ = some u) (hu : u.oneCell' = true) (hbig : n ≤ 1000000000) (hbase : base ≤ w.heap.size)
    (h : ∀ v' w', w'.ownsRow base 39 1 v' (n + 1) (xs ++ [u]) → w.grownBy w' v.ownBlock → (v'.ownBlock = v.ownBlock ∨ v'.ownBlock = some w.heap.size) → wpList Try.prog ops Q rest (act.put o.dst v') w') : wpList Try.prog ops Q (o :: rest) act w := by
  obtain ⟨i0, hi, hz0, hz1, hz2⟩ := info_parts infoSl
  exact wpList_append_own_at w hgd s x 30 ho base 39 i0 (.slice none 0 0) 1 24 Try.underlying30 hi hz0 hz1 hz2 rfl (by decide) v n xs hs hown ⟨q, 0, none⟩ 1 1 [u] hx rfl (fun j y hy => by
    match j, hy with
    | 0, hy => simp at hy; subst hy; exact hc) (fun y hy => by simp at hy; subst hy; exact hu) (by unfold maxLen; omega) (by omega) hbase (fun v' w' h1 h2 _ h4 => h v' w' h1 h2 h4)
def qv (q : Nat → Nat) (z k : Nat) : List Value := (List.range k).map fun i => .slice (some ⟨q i, 0, none⟩) z z
theorem qv_snoc (q : Nat → Nat) (z k : Nat) : qv q z (k + 1) = qv q z k ++ [.slice (some ⟨q k, 0, none⟩) z z] := by simp [qv, List.range_succ]
theorem qv_congr {q q' : Nat → Nat} {z k : Nat} (h : ∀ i, i < k → q i = q' i) : qv q z k = qv q' z k := by
  unfold qv
  apply List.map_congr_left
  intro i hi
  rw [h i (List.mem_range.1 hi)]
theorem own_sl2 {w : World} {base n z : Nat} {v : Value} {q : Nat → Nat} {F : Nat → List Nat} (h : w.ownsRow base 39 1 v n (qv q z n)) (hF : ∀ i, i < n → BB w (q i) (F i)) (hl : ∀ i, i < n → (F i).length = z ∧ ∀ x ∈ F i, x < 256) : ∃ a c, v = .slice a n c ∧ Sl2 w a n F := by
  rcases h.2 with ⟨hv, h0⟩ | ⟨b, cap, cur, hv, _, hg, hle, _, _, htk⟩
  · exact ⟨none, 0, by rw [hv, h0], fun i hi => by omega⟩
  · refine ⟨_, cap, hv, fun i hi => ⟨b, 0, some ⟨q i, 0, none⟩, z, z, rfl, ?_, (hF i hi).bytes, (hl i hi).1.symm, (hl i hi).2⟩⟩
    rw [Nat.zero_add, cell_of_row w b i _ _ _ hg]
    have h1 : (qv q z n)[i]? = some (.slice (some ⟨q i, 0, none⟩) z z) := by simp [qv, hi]
    rw [← htk, List.getElem?_take, if_pos (by omega)] at h1
    rw [← h1, Array.getElem?_toList]
theorem own_lo {w : World} {base n k : Nat} {t : TypeId} {v : Value} {xs : List Value} (h : w.ownsRow base t k v n xs) {b : Nat} (hb : v.ownBlock = some b) : base ≤ b ∧ b < w.heap.size := by
  rcases h.2 with ⟨rfl, _⟩ | ⟨g, cap, cur, rfl, h0, hg, _⟩
  · simp [Value.ownBlock] at hb
  · simp only [Value.ownBlock, Option.some.injEq] at hb
    exact ⟨hb ▸ h0, hb ▸ Blk.lt hg⟩
theorem own_belowA {w w' : World} {base n k : Nat} {t : TypeId} {v : Value} {xs : List Value} (h : w.ownsRow base t k v n xs) (hb : Below w.heap.size w w') : w'.ownsRow base t k v n xs := own_blocks h fun b e => hb.block b (own_lo h e).2
/-- an empty slice of slices that the call has made -/
theorem emptySl (w : World) : (w.alloc (.cells #[] 39)).ownsRow w.heap.size 39 1 (.slice (some ⟨w.heap.size, 0, none⟩) 0 0) 0 [] :=
  ⟨rfl, .inr ⟨w.heap.size, 0, _, rfl, Nat.le_refl _, heap_alloc_new _ _, by omega, by unfold maxLen; omega, by simp, by simp⟩⟩
/-- the slices that were put together: their row and their bytes -/
structure Bef (w w' : World) (v : Value) (q : Nat → Nat) (z k : Nat) (F : Nat → List Nat) : Prop where
  own : w'.ownsRow w.heap.size 39 1 v k (qv q z k)
  bb : ∀ i, i < k → BB w' (q i) (F i)
  lo : ∀ i, i < k → w.heap.size ≤ q i
  bel : Below w.heap.size w w'
theorem Bef.below {w w' w'' : World} {v : Value} {q : Nat → Nat} {z k : Nat} {F : Nat → List Nat} (h : Bef w w' v q z k F) (hb : Below w'.heap.size w' w'') : Bef w w'' v q z k F := ⟨own_belowA h.own hb, fun i hi => Blk.below (h.bb i hi) hb (Blk.lt (h.bb i hi)), h.lo, below_then h.bel hb⟩
theorem Bef.snoc {w w' w'' : World} {v v' : Value} {q : Nat → Nat} {z k p : Nat} {F : Nat → List Nat} (h : Bef w w' v q z k F) (hp : BB w' p (F k)) (hpl : w.heap.size ≤ p) (ho : w''.ownsRow w.heap.size 39 1 v' (k + 1) (qv q z k ++ [.slice (some ⟨p, 0, none⟩) z z])) (hg : w'.grownBy w'' v.ownBlock) : Bef w w'' v' (fun i => if i = k then p else q i) z (k + 1) F := by
  have keep : ∀ {b bs}, BB w' b bs → BB w'' b bs := fun {b bs} hb => (hg.block b (Blk.lt hb) (fun e => by
    obtain ⟨cs, hc⟩ := own_blk h.own e.symm
    exact blk_ne hb hc (by decide) rfl)).trans hb
  refine ⟨?_, fun i hi => ?_, fun i hi => ?_, h.bel.grown hg h.bel.size (fun b e => (own_lo h.own e).1)⟩
  · rw [qv_snoc, if_pos rfl, qv_congr (q' := q) (fun i hi => if_neg (by omega))]
    exact ho
  · by_cases e : i = k
    · rw [if_pos e, e]; exact keep hp
    · rw [if_neg e]; exact keep (h.bb i (by omega))
  · by_cases e : i = k
    · rw [if_pos e]; exact hpl
    · rw [if_neg e]; exact h.lo i (by omega)
theorem Bef.sl2 {w w' : World} {v : Value} {q : Nat → Nat} {z k : Nat} {F : Nat → List Nat} (h : Bef w w' v q z k F) (hl : ∀ i, i < k → (F i).length = z ∧ ∀ x ∈ F i, x < 256) : ∃ a c, v = .slice a k c ∧ Sl2 w' a k F := own_sl2 h.own h.bb hl
/-- after a step that writes none of these blocks -/
theorem Bef.after {w w' w'' : World} {S S' : Nat → Prop} {v : Value} {q : Nat → Nat} {z k : Nat} {F : Nat → List Nat} (h : Bef w w' v q z k F) (hst : Step w' w'' S S') (hS : ∀ b, S b → b < w.heap.size) (hl : ∀ i, i < k → (F i).length = z ∧ ∀ x ∈ F i, x < 256) : ∃ a c, v = .slice a k c ∧ Sl2 w'' a k F := by
  refine own_sl2 (own_blocks h.own (fun b e => hst.block b (own_lo h.own e).2 (fun e2 => by have := hS b e2; have := (own_lo h.own e).1; omega))) (fun i hi => (hst.block (q i) (Blk.lt (h.bb i hi)) (fun e2 => by have := hS _ e2; have := h.lo i hi; omega)).trans (h.bb i hi)) hl
end Go.Proofs.Ytlpggkdmjmlpkaa
