import Derived.Test.YtlpggkdmjmlpkaaBy2
namespace Go.Proofs.Ytlpggkdmjmlpkaa
open Go.RowKit
theorem wpList_append_byte (w0 wr : World) {ops : Array Oper} {rest : List Oper} {o : Oper} {act : Act} {Q : Exit → Act → World → Prop} (hgd : o.guard = none) (s x : Operand)
    (ho : o.op = .call { callee := .builtin .append, args := #[s, x], argTypes := #[39, 39] })
    (v : Value) (n : Nat) (xs : List Nat) (hs : act.eval s = v) (hn : n = xs.length) (hown : wr.ownsRow w0.heap.size 5 1 v n (vals xs)) (z : Int) (y : Nat) (hzy : z = (y : Int))
    (hx : act.eval x = .slice (some ⟨wr.heap.size, 0, none⟩) 1 1) (hbig : n + 1 ≤ 140737488355328) (hb : Below w0.heap.size w0 wr)
    (h : ∀ a c w', w'.ownsRow w0.heap.size 5 1 (.slice a (n + 1) c) (n + 1) (vals (xs ++ [y])) → Below w0.heap.size w0 w' → wpList Try.prog ops Q rest (act.put o.dst (.slice a (n + 1) c)) w') :
    wpList Try.prog ops Q (o :: rest) act (wr.alloc (.cells #[.int .u8 z] 5)) := by
  subst hzy hn
  obtain ⟨i0, hi, hz0, hz1, hz2⟩ := info_parts info5
  refine wpList_append_own _ hgd s x 39 ho w0.heap.size 5 i0 (.int .u8 0) 1 1 Try.underlying39 hi hz0 hz1 hz2 rfl (by decide) v xs.length (vals xs) hs (hown.alloc _) ⟨wr.heap.size, 0, none⟩ 1 1 [.int .u8 (y : Int)] hx rfl ?c1 ?c2 ?c3 ?c4 ?c5 ?_
  case c1 =>
    intro j u hj
    match j, hj with
    | 0, hj => simp at hj; subst hj; simp [Addr.add]
  case c2 => intro u hu; simp at hu; subst hu; rfl
  case c3 => unfold maxLen; omega
  case c4 => omega
  case c5 => have := hb.size; simp; omega
  intro v' w3 hown3 hg3 _
  have hb3 := (hb.alloc hb.size _).grown hg3 (by have := hb.size; simp; omega) (fun q hq => (hown.lt q hq).1)
  have hown4 : w3.ownsRow w0.heap.size 5 1 v' (xs.length + 1) (vals (xs ++ [y])) := by
    rw [← vals_append]; exact hown3
  obtain ⟨a2, cap2, hv, _, _⟩ := owned_bytes hown4 (by simp)
  have hv' : v' = .slice a2 (xs.length + 1) cap2 := by rw [hv]; simp
  subst hv'
  exact h _ _ _ hown4 hb3
end Go.Proofs.Ytlpggkdmjmlpkaa
