import Derived.Test.YtfdbdhknamkipaaUint
namespace Go.Proofs.Ytfdbdhknamkipaa
open Go.RowKit
/-- a slice of bytes as it comes in: it reads as bs -/
structure RowB (w : World) (a : Option Addr) (len cap : Nat) (bs : List Nat) : Prop where
  bytes : Bytes w a bs
  len : len = bs.length
  nil : a = none → cap = 0 ∧ bs = []
  lt : ∀ x ∈ bs, x < 256
  lecap : bs.length ≤ cap
  capm : cap ≤ maxLen
theorem getD_take_map (zs : List Int) (n i : Nat) (hi : i < n) (h : n ≤ zs.length) : ((zs.take n).map Int.toNat).getD i 0 = (zs.getD i 0).toNat := by
  have h2 : i < zs.length := by omega
  simp [List.getD, hi, h2]
/-- append of bytes, nil or not, to a row of the call's own -/
theorem wpList_append_bytes (w : World) {ops : Array Oper} {rest : List Oper} {o : Oper} {act : Act} {Q : Exit → Act → World → Prop} (hgd : o.guard = none) (s x : Operand)
    (ho : o.op = .call { callee := .builtin .append, args := #[s, x], argTypes := #[25, 25] })
    (base : Nat) (v : Value) (n : Nat) (xs : List Value) (hs : act.eval s = v) (hown : w.ownsRow base 5 1 v n xs)
    (a : Option Addr) (len cap : Nat) (bs : List Nat) (hx : act.eval x = .slice a len cap) (hl : len = bs.length) (hb : Bytes w a bs) (hnil : a = none → cap = 0 ∧ bs = []) (hbig : n + bs.length ≤ 140737488355328) (hbase : base ≤ w.heap.size)
    (h : ∀ v' w', w'.ownsRow base 5 1 v' (n + bs.length) (xs ++ vals bs) → w.grownBy w' v.ownBlock → wpList Try.prog ops Q rest (act.put o.dst v') w') : wpList Try.prog ops Q (o :: rest) act w := by
  subst hl
  obtain ⟨i0, hi, hz0, hz1, hz2⟩ := info_parts info5
  match a, hb, hnil, hx with
  | none, _, hnil, hx =>
    obtain ⟨rfl, rfl⟩ := hnil rfl
    exact wpList_append_own_none hgd s x 25 ho base 5 i0 1 Try.underlying25 hi v n xs hs hown hx (h v w (by simpa [vals] using hown) (g_refl _ _))
  | some y, hb, _, hx =>
    exact wpList_append_own _ hgd s x 25 ho base 5 i0 (.int .u8 0) 1 1 Try.underlying25 hi hz0 hz1 hz2 rfl (by decide) v n xs hs hown y bs.length cap (vals bs) hx (by simp [vals]) (bytes_cells hb) vals_one (by unfold maxLen; omega) (by omega) hbase (fun v' w' h1 h2 _ => h v' w' h1 h2)
theorem owned_append {w : World} {base : Nat} {v : Value} {n m : Nat} {xs ys : List Nat} (h : w.ownsRow base 5 1 v n (vals xs ++ vals ys)) (hn : n = m) : w.ownsRow base 5 1 v m (vals (xs ++ ys)) := by
  subst hn; rw [← vals_append]; exact h
end Go.Proofs.Ytfdbdhknamkipaa
