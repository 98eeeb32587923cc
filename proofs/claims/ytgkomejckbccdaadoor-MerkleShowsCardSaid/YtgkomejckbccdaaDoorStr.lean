import Derived.Test.YtgkomejckbccdaaDoorTwo
import Derived.Test.YtgkomejckbccdaaDoorMkP
namespace Go.Proofs.YtgkomejckbccdaaDoor
open Go.RowKit
theorem infoStr : (Tryd.prog.info? 9).map (fun i => (i.zero, i.size, i.bytes)) = some (some (.string ByteArray.empty), 1, 16) := by kernel_rfl
def svals (ss : List ByteArray) : List Value := ss.map Value.string
theorem svals_append (a b : List ByteArray) : svals a ++ svals b = svals (a ++ b) := by simp [svals]
theorem svals_len (a : List ByteArray) : (svals a).length = a.length := by simp [svals]
theorem svals_one {ss : List ByteArray} : ∀ u ∈ svals ss, u.oneCell' = true := by
  intro u hu
  simp only [svals, List.mem_map] at hu
  obtain ⟨b, _, rfl⟩ := hu
  rfl
theorem add_lit' (b off j : Nat) : (⟨b, off, none⟩ : Addr).add j = ⟨b, off + j, none⟩ := by unfold Addr.add; split <;> simp_all
theorem Strs.nil (w : World) (a : Option Addr) : Strs w a [] := fun i hi => by simp at hi
theorem Strs.take {w : World} {a : Option Addr} {ss : List ByteArray} (h : Strs w a ss) (k : Nat) : Strs w a (ss.take k) := by
  intro i hi
  rw [List.length_take] at hi
  obtain ⟨b, off, h2, h3⟩ := h i (by omega)
  refine ⟨b, off, h2, ?_⟩
  rw [h3]
  simp [List.getD, show i < k by omega]
theorem Strs.drop {w : World} {a : Option Addr} {ss : List ByteArray} (h : Strs w a ss) (k cap : Nat) (hcap : ss.length ≤ cap) : Strs w (if cap = k then a else a.map fun x => x.add k) (ss.drop k) := by
  intro i hi
  rw [List.length_drop] at hi
  rw [if_neg (by omega)]
  obtain ⟨b, off, rfl, h3⟩ := h (k + i) (by omega)
  refine ⟨b, off + k, by simp [add_lit'], ?_⟩
  rw [Nat.add_assoc, h3]
  simp [List.getD]
theorem sliceSH (a : Option Addr) (n cap k : Nat) (h : k ≤ cap) (W : World) :
    (Instr.slice 27 (.slice a n cap) none (some (.int .i64 (k : Int))) none).run Tryd.prog W = .ok (.slice a k cap) W := by
  have e := run_slice_h W 27 a n cap (P := Tryd.prog) (by kernel_rfl) .i64 (k : Int) (by omega) (by omega)
  rw [e]
  have e2 : (sizeOf (Tryd.prog.elem 27)).run Tryd.prog W = .ok 1 W := by kernel_rfl
  rw [e2]
  have e3 : (a.map fun x => x.add (0 * 1)) = a := by cases a <;> simp [Addr.add]
  simp only [Result.andThen, sliced, Int.toNat_natCast, e3, ite_self, Nat.sub_zero]
theorem sliceSL (a : Option Addr) (n cap k : Nat) (h : k ≤ n) (W : World) :
    (Instr.slice 27 (.slice a n cap) (some (.int .i64 (k : Int))) none none).run Tryd.prog W = .ok (.slice (if cap = k then a else a.map fun x => x.add k) (n - k) (cap - k)) W := by
  have e := run_slice_l W 27 a n cap (P := Tryd.prog) (by kernel_rfl) .i64 (k : Int) (by omega) (by omega)
  rw [e]
  have e2 : (sizeOf (Tryd.prog.elem 27)).run Tryd.prog W = .ok 1 W := by kernel_rfl
  rw [e2]
  simp only [Result.andThen, sliced, Int.toNat_natCast, Nat.mul_one]
theorem str_cells {w : World} {x : Addr} {ss : List ByteArray} (h : Strs w (some x) ss) : ∀ j u, (svals ss)[j]? = some u → w.cell? (x.add j) = some u := by
  intro j u hj
  by_cases hjl : j < ss.length
  · obtain ⟨b, off, hx, hc⟩ := h j hjl
    simp only [Option.some.injEq] at hx
    subst hx
    have hu : u = .string (ss.getD j ByteArray.empty) := by
      have : (svals ss)[j]? = some (.string (ss.getD j ByteArray.empty)) := by simp [svals, List.getD, hjl]
      rw [this] at hj; exact (Option.some.inj hj).symm
    subst hu
    rw [add_lit']; exact hc
  · rw [List.getElem?_eq_none (by simp [svals]; omega)] at hj; cases hj
/-- a row of strings of the call's own, read as a slice -/
theorem owned_strs {w : World} {base n : Nat} {v : Value} {ss : List ByteArray} (h : w.ownsRow base 9 1 v n (svals ss)) (hn : n = ss.length) :
    ∃ a cap, v = .slice a ss.length cap ∧ ss.length ≤ cap ∧ Strs w a ss ∧ (∀ x, a = some x → base ≤ x.block) := by
  subst hn
  rcases h.2 with ⟨rfl, h0⟩ | ⟨g, cap, cur, rfl, hg0, hg, hle, hcs, hsz, ht⟩
  · exact ⟨none, 0, by rw [h0], by omega, fun i hi => by omega, fun x hx => by cases hx⟩
  · refine ⟨_, cap, rfl, hle, fun i hi => ⟨g, 0, rfl, ?_⟩, fun x hx => by cases hx; exact hg0⟩
    rw [cell_of_row w g (0 + i) _ _ _ hg, Nat.zero_add]
    have h1 : (svals ss)[i]? = some (.string (ss.getD i ByteArray.empty)) := by simp [svals, List.getD, hi]
    rw [← ht, List.getElem?_take] at h1
    split at h1
    · simpa using h1
    · cases h1
theorem own_belowS {w w' : World} {base n : Nat} {v : Value} {xs : List Value} (h : w.ownsRow base 9 1 v n xs) (hb : Below w.heap.size w w') : w'.ownsRow base 9 1 v n xs := by
  refine ⟨h.1, ?_⟩
  rcases h.2 with h1 | ⟨b, cap, cur, hv, hb0, hgg, hr⟩
  · exact Or.inl h1
  · have hlt : b < w.heap.size := by
      rcases Nat.lt_or_ge b w.heap.size with hlt | hge
      · exact hlt
      · rw [Array.getElem?_eq_none hge] at hgg; cases hgg
    exact Or.inr ⟨b, cap, cur, hv, hb0, (hb.block b hlt).trans hgg, hr⟩
theorem strs_lt {w : World} {a : Option Addr} {ss : List ByteArray} (h : Strs w a ss) (h0 : 0 < ss.length) : ∀ x, a = some x → x.block < w.heap.size := by
  obtain ⟨b, off, rfl, hc⟩ := h 0 h0
  intro x hx; cases hx; exact bytes_lt hc
theorem strs_three (w : World) (s t u : ByteArray) : Strs (w.alloc (.cells #[.string s, .string t, .string u] 9)) (some ⟨w.heap.size, 0, none⟩) [s, t, u] := by
  intro i hi
  have h2 : i < 3 := hi
  refine ⟨_, 0, rfl, ?_⟩
  rw [cell_of_row _ _ _ _ _ _ (heap_alloc_new w _)]
  match i, h2 with
  | 0, _ | 1, _ | 2, _ => rfl
theorem ownS_snoc {w : World} {base n : Nat} {v : Value} {ss : List ByteArray} {s : ByteArray} (h : w.ownsRow base 9 1 v (n + 1) (svals ss ++ [.string s])) : w.ownsRow base 9 1 v (n + 1) (svals (ss ++ [s])) := by
  rw [← svals_append]; exact h
theorem wp_snoc_str (w : World) {o : Oper} {act : Act} {K : Act → World → Prop} {Q : Exit → Act → World → Prop} (s x : Operand)
    (ho : o.op = .call { callee := .builtin .append, args := #[s, x], argTypes := #[27, 27] })
    (base : Nat) (v : Value) (n : Nat) (ss : List ByteArray) (hs : act.eval s = v) (hown : w.ownsRow base 9 1 v n (svals ss))
    (q : Nat) (st : ByteArray) (hx : act.eval x = .slice (some ⟨q, 0, none⟩) 1 1) (hc : w.cell? ⟨q, 0, none⟩ = some (.string st)) (hbig : n ≤ 1000000000) (hbase : base ≤ w.heap.size)
    (h : ∀ v' w', w'.ownsRow base 9 1 v' (n + 1) (svals (ss ++ [st])) → Below base w w' → K (act.put o.dst v') w') : Oper.wp Tryd.prog o act w K Q := by
  obtain ⟨i0, hi, hz0, hz1, hz2⟩ := info_parts infoStr
  refine wp_append_own w s x 27 ho base 9 i0 (.string ByteArray.empty) 1 16 Tryd.underlying27 hi hz0 hz1 hz2 rfl (by decide) v n (svals ss) hs hown ⟨q, 0, none⟩ 1 1 [.string st] hx rfl (fun j u hu => ?_) (fun u hu => ?_) (by unfold maxLen; omega) (by omega) hbase (fun v' w' h1 h2 _ => h v' w' (ownS_snoc h1) ((Below.refl base w).grown h2 hbase (fun p hp => (hown.lt p hp).1)))
  · match j, hu with
    | 0, hu => simp at hu; subst hu; exact hc
  · simp at hu; subst hu; rfl
theorem step_snoc_str (w : World) {ops : Array Oper} {o : Oper} {act : Act} {K : Act → World → Prop} {Q : Exit → Act → World → Prop} {E : Prop} (hgd : o.guard = none) (s x : Operand)
    (ho : o.op = .call { callee := .builtin .append, args := #[s, x], argTypes := #[27, 27] })
    (base : Nat) (v : Value) (n : Nat) (ss : List ByteArray) (hs : act.eval s = v) (hown : w.ownsRow base 9 1 v n (svals ss))
    (q : Nat) (st : ByteArray) (hx : act.eval x = .slice (some ⟨q, 0, none⟩) 1 1) (hc : w.cell? ⟨q, 0, none⟩ = some (.string st)) (hbig : n ≤ 1000000000) (hbase : base ≤ w.heap.size)
    (h : ∀ v' w', w'.ownsRow base 9 1 v' (n + 1) (svals (ss ++ [st])) → Below base w w' → K (act.put o.dst v') w') :
    if Region.wanted o (yielded ops act.tmps) = true then Oper.wp Tryd.prog o act w K Q else E := by
  have hw : Region.wanted o (yielded ops act.tmps) = true := by simp [Region.wanted, hgd]
  rw [if_pos hw]
  exact wp_snoc_str w s x ho base v n ss hs hown q st hx hc hbig hbase h
theorem wpList_snoc_str (w : World) {ops : Array Oper} {rest : List Oper} {o : Oper} {act : Act} {Q : Exit → Act → World → Prop} (hgd : o.guard = none) (s x : Operand)
    (ho : o.op = .call { callee := .builtin .append, args := #[s, x], argTypes := #[27, 27] })
    (base : Nat) (v : Value) (n : Nat) (ss : List ByteArray) (hs : act.eval s = v) (hown : w.ownsRow base 9 1 v n (svals ss))
    (q : Nat) (st : ByteArray) (hx : act.eval x = .slice (some ⟨q, 0, none⟩) 1 1) (hc : w.cell? ⟨q, 0, none⟩ = some (.string st)) (hbig : n ≤ 1000000000) (hbase : base ≤ w.heap.size)
    (h : ∀ v' w', w'.ownsRow base 9 1 v' (n + 1) (svals (ss ++ [st])) → Below base w w' → wpList Tryd.prog ops Q rest (act.put o.dst v') w') : wpList Tryd.prog ops Q (o :: rest) act w :=
  wpList_plain hgd fun _ hK => wp_snoc_str w s x ho base v n ss hs hown q st hx hc hbig hbase fun v' w' h1 h2 => hK _ _ (h v' w' h1 h2)
theorem str_new (w : World) (s : ByteArray) : (w.alloc (.cells #[.string s] 9)).cell? ⟨w.heap.size, 0, none⟩ = some (.string s) := by rw [cell_of_row _ _ _ _ _ _ (heap_alloc_new w _)]; rfl
end Go.Proofs.YtgkomejckbccdaaDoor
