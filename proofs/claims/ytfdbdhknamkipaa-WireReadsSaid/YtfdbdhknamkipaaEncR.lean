import Derived.Test.YtfdbdhknamkipaaRet
import Derived.Test.YtfdbdhknamkipaaCan
namespace Go.Proofs.Ytfdbdhknamkipaa
open Go.RowKit
theorem own_keep {B n : Nat} {v : Value} {xs : List Value} {w w' : World} (h : w.ownsRow B 5 1 v n xs) (hb : Below w.heap.size w w') : w'.ownsRow B 5 1 v n xs := by
  refine ⟨h.1, ?_⟩
  rcases h.2 with h0 | ⟨g, cap, cur, e, hg0, hg, r⟩
  · exact Or.inl h0
  · exact Or.inr ⟨g, cap, cur, e, hg0, (hb.block g (lt_of_row hg)).trans hg, r⟩
theorem own_ne {B n S : Nat} {v : Value} {xs : List Value} {w : World} {cs : Array Value} {t : TypeId} {fz : Nat × Nat} (h : w.ownsRow B 5 1 v n xs) (hr : w.heap[S]? = some (.cells cs t fz)) (ht : t ≠ 5) : v.ownBlock ≠ some S := by
  rcases h.2 with ⟨rfl, -⟩ | ⟨g, cap, cur, rfl, hg0, hg, r⟩
  · intro e; cases e
  · intro e
    cases e
    rw [hg] at hr
    cases hr
    exact ht rfl
theorem wp_app_bytes {B S : Nat} {w0 w : World} {o : Oper} {act : Act} {K : Act → World → Prop} {Q : Exit → Act → World → Prop} (s x : Operand)
    (ho : o.op = .call { callee := .builtin .append, args := #[s, x], argTypes := #[25, 25] })
    (v : Value) (xs : List Nat) (hs : act.eval s = v) (hown : w.ownsRow B 5 1 v xs.length (vals xs)) (hb : Below B w0 w) (hB : B ≤ w.heap.size)
    {cs : Array Value} (hr : w.heap[S]? = some (.cells cs 37 (0, 0)))
    (y : Addr) (bs : List Nat) (cap : Nat) (hx : act.eval x = .slice (some y) bs.length cap) (hby : ∀ j u, (vals bs)[j]? = some u → w.cell? (y.add j) = some u) (hbig : xs.length + bs.length ≤ 140737488355328)
    (h : ∀ a' c' w', w'.ownsRow B 5 1 (.slice a' (xs ++ bs).length c') (xs ++ bs).length (vals (xs ++ bs)) → Below B w0 w' → w'.heap[S]? = some (.cells cs 37 (0, 0)) → K (act.put o.dst (.slice a' (xs ++ bs).length c')) w') : o.wp Try.prog act w K Q := by
  obtain ⟨i0, hi, hz0, hz1, hz2⟩ := info_parts info5
  refine wp_append_own w s x 25 ho B 5 i0 (.int .u8 0) 1 1 Try.underlying25 hi hz0 hz1 hz2 rfl (by decide) v _ _ hs hown y bs.length cap (vals bs) hx (by simp [vals]) hby vals_one (by unfold maxLen; omega) (by omega) hB (fun v' w' h1 h2 _ => ?_)
  have h1' := owned_append h1 (show xs.length + bs.length = (xs ++ bs).length by simp)
  obtain ⟨a', c', rfl, _, _⟩ := owned_bytes h1' rfl
  exact h a' c' w' h1' (hb.grown h2 hB (fun q hq => (hown.lt q hq).1)) ((h2.block S (lt_of_row hr) (fun e => own_ne hown hr (by decide) e.symm)).trans hr)
theorem wpList_app_bytes {B : Nat} {w0 w : World} {ops : Array Oper} {rest : List Oper} {o : Oper} {act : Act} {Q : Exit → Act → World → Prop} (hgd : o.guard = none) (s x : Operand)
    (ho : o.op = .call { callee := .builtin .append, args := #[s, x], argTypes := #[25, 25] })
    (v : Value) (xs : List Nat) (hs : act.eval s = v) (hown : w.ownsRow B 5 1 v xs.length (vals xs)) (hb : Below B w0 w) (hB : B ≤ w.heap.size)
    (y : Addr) (bs : List Nat) (cap : Nat) (hx : act.eval x = .slice (some y) bs.length cap) (hby : ∀ j u, (vals bs)[j]? = some u → w.cell? (y.add j) = some u) (hbig : xs.length + bs.length ≤ 140737488355328)
    (h : ∀ a' c' w', w'.ownsRow B 5 1 (.slice a' (xs ++ bs).length c') (xs ++ bs).length (vals (xs ++ bs)) → Below B w0 w' → wpList Try.prog ops Q rest (act.put o.dst (.slice a' (xs ++ bs).length c')) w') : wpList Try.prog ops Q (o :: rest) act w := by
  obtain ⟨i0, hi, hz0, hz1, hz2⟩ := info_parts info5
  refine wpList_append_own w hgd s x 25 ho B 5 i0 (.int .u8 0) 1 1 Try.underlying25 hi hz0 hz1 hz2 rfl (by decide) v _ _ hs hown y bs.length cap (vals bs) hx (by simp [vals]) hby vals_one (by unfold maxLen; omega) (by omega) hB (fun v' w' h1 h2 _ => ?_)
  have h1' := owned_append h1 (show xs.length + bs.length = (xs ++ bs).length by simp)
  obtain ⟨a', c', rfl, _, _⟩ := owned_bytes h1' rfl
  exact h a' c' w' h1' (hb.grown h2 hB (fun q hq => (hown.lt q hq).1))
theorem wpList_app_str {B : Nat} {w0 w : World} {ops : Array Oper} {rest : List Oper} {o : Oper} {act : Act} {Q : Exit → Act → World → Prop} (hgd : o.guard = none) (sl x : Operand)
    (ho : o.op = .call { callee := .builtin .append, args := #[sl, x], argTypes := #[25, 9] })
    (v : Value) (xs : List Nat) (hs : act.eval sl = v) (hown : w.ownsRow B 5 1 v xs.length (vals xs)) (hb : Below B w0 w) (hB : B ≤ w.heap.size)
    (s : ByteArray) (hx : act.eval x = .string s) (hbig : xs.length + s.size ≤ 140737488355328)
    (h : ∀ a' c' w', w'.ownsRow B 5 1 (.slice a' (xs ++ ofStr s).length c') (xs ++ ofStr s).length (vals (xs ++ ofStr s)) → Below B w0 w' → wpList Try.prog ops Q rest (act.put o.dst (.slice a' (xs ++ ofStr s).length c')) w') : wpList Try.prog ops Q (o :: rest) act w :=
  wpList_append_str w hgd sl x ho B v _ xs hs rfl hown s hx hbig hB fun a' c' w' h1 h2 => h a' c' w' h1 (hb.grown h2 hB (fun q hq => (hown.lt q hq).1))
theorem wp_app_str {B : Nat} {w0 w : World} {o : Oper} {act : Act} {K : Act → World → Prop} {Q : Exit → Act → World → Prop} (sl x : Operand)
    (ho : o.op = .call { callee := .builtin .append, args := #[sl, x], argTypes := #[25, 9] })
    (v : Value) (xs : List Nat) (hs : act.eval sl = v) (hown : w.ownsRow B 5 1 v xs.length (vals xs)) (hb : Below B w0 w) (hB : B ≤ w.heap.size)
    (s : ByteArray) (hx : act.eval x = .string s) (hbig : xs.length + s.size ≤ 140737488355328)
    (h : ∀ a' c' w', w'.ownsRow B 5 1 (.slice a' (xs ++ ofStr s).length c') (xs ++ ofStr s).length (vals (xs ++ ofStr s)) → Below B w0 w' → w.grownBy w' v.ownBlock → K (act.put o.dst (.slice a' (xs ++ ofStr s).length c')) w') : o.wp Try.prog act w K Q := by
  obtain ⟨i0, hi, hz0, hz1, hz2⟩ := info_parts info5
  obtain ⟨v', w', hr, h1, h2, _⟩ := Lib.run_append_own_string (P := Try.prog) w B 25 9 o.type 5 i0 Try.underlying25 Try.underlying9 hi hz0 hz1 hz2 v _ _ hown s (by unfold maxLen; omega) hbig hB
  rw [strCells_vals, vals_append] at h1
  have hl : xs.length + s.size = (xs ++ ofStr s).length := by simp [ofStr_len]
  rw [hl] at h1
  obtain ⟨a', c', rfl, _, _⟩ := owned_bytes h1 rfl
  have := h a' c' w' h1 (hb.grown h2 hB (fun q hq => (hown.lt q hq).1)) h2
  unfold Oper.wp
  simp only [execOp, ho, resolve, invoke, builtin, Sem.run_bind, Sem.run_pure, Result.andThen, List.map_toArray, List.map_cons, List.map_nil, hs, hx, hr]
  exact this
theorem number_row {n : Nat} {w w' : World} {a : Option Addr} {cap : Nat} (h : w'.ownsRow w.heap.size 5 1 (.slice a (En.enc n).length cap) (En.enc n).length (vals (En.enc n))) : ∃ y, a = some y ∧ ∀ j u, (vals (En.enc n))[j]? = some u → w'.cell? (y.add j) = some u := by
  have hp := (En.enc_len n).1
  rcases h.2 with ⟨_, h0⟩ | ⟨g, c, cur, e, _⟩
  · omega
  · simp only [Value.slice.injEq] at e
    obtain ⟨a6, c6, hv6, hB6, -⟩ := owned_bytes h rfl
    cases hv6
    have ha := e.1
    subst ha
    exact ⟨_, rfl, bytes_cells hB6⟩
theorem zig_wrap1 {n : Int} (h0 : 0 ≤ n) (h2 : n ≤ 9223372036854775807) : IntKind.u64.wrap n = n := by rw [IntKind.wrap_u64]; omega
end Go.Proofs.Ytfdbdhknamkipaa
