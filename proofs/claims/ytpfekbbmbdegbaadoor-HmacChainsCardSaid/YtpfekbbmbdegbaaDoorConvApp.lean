import Derived.Test.YtpfekbbmbdegbaaDoorBy3
namespace Go.Proofs.YtpfekbbmbdegbaaDoor
open Go.RowKit
/-- the row that a conversion of a string to bytes has made -/
def ConvRow (w : World) (g n c : Nat) (bs : List Nat) : Prop := ∃ cur : Array Value, w.heap[g]? = some (.cells cur 5 (cur.size, cur.size + 1)) ∧ cur.size = c ∧ n ≤ c ∧ n = bs.length ∧ cur.toList.take n = vals bs
theorem conv_row (s : ByteArray) (W : World) : ∃ c W', (convert 9 28 (.string s)).run Tryd.prog W = .ok (.slice (some ⟨W.heap.size, 0, none⟩) s.size c) W' ∧ ConvRow W' W.heap.size s.size c (ofStr s) ∧ Below W.heap.size W W' ∧ W.heap.size < W'.heap.size := by
  have h := Lib.run_convert_string_bytes (P := Tryd.prog) W 9 28 5 s Tryd.underlying9 Tryd.underlying28 Tryd.underlying5
  have hge := grownCap_ge W s.size 0 5
  have hds : s.data.size = s.size := rfl
  have hsz : (Lib.bytesCells W 5 s).size = grownCap W s.size 0 5 := by
    unfold Lib.bytesCells
    rw [Array.size_append, Array.size_map, Array.size_replicate, hds]; omega
  refine ⟨_, _, h, ⟨_, Lib.bytesWorld_at_new W 5 s, hsz, hge, (ofStr_len s).symm, ?_⟩, ⟨rfl, rfl, rfl, by rw [Lib.bytesWorld_size]; omega, fun i hi => Lib.bytesWorld_at_old W _ s i hi⟩, by rw [Lib.bytesWorld_size]; omega⟩
  unfold Lib.bytesCells
  rw [Array.toList_append, Array.toList_map, List.take_append_of_le_length (by rw [List.length_map, Array.length_toList, hds]; omega), List.take_of_length_le (by rw [List.length_map, Array.length_toList, hds]; omega), ← strCells_vals]
  rfl
theorem ConvRow.below {w w' : World} {B g n c : Nat} {bs : List Nat} (h : ConvRow w g n c bs) (hb : Below B w w') (hg : g < B) : ConvRow w' g n c bs := by
  obtain ⟨cur, h1, h2⟩ := h
  exact ⟨cur, (hb.block g hg).trans h1, h2⟩
theorem store_one {P : Program} (w : World) (g n : Nat) (cur : Array Value) (t : TypeId) (hg : w.heap[g]? = some (.cells cur t (cur.size, cur.size + 1))) (hn : n < cur.size) (v : Value) (h1 : v.oneCell' = true) :
    (storeCells ⟨g, n, none⟩ [v]).run P w = .ok () (w.setCell ⟨g, n, none⟩ v) := by
  have hcell : w.cell? ⟨g, n, none⟩ = some cur[n] := by simp [World.cell?, hg, hn]
  have hfro : w.frozen? ⟨g, n, none⟩ = false := by
    simp only [World.frozen?, hg, Bool.and_eq_false_iff, decide_eq_false_iff_not]
    left; omega
  have hadd : (⟨g, n, none⟩ : Addr).add 0 = ⟨g, n, none⟩ := by unfold Addr.add; split <;> simp_all
  have hst : (store ((⟨g, n, none⟩ : Addr).add 0) v).run P w = .ok () (w.setCell ⟨g, n, none⟩ v) := by
    rw [hadd, run_store P w _ v _ h1, hcell]
    simp [hfro]
  simp only [storeCells, Sem.run_bind, hst, Result.andThen_ok]
  rfl
theorem vals_get (bs : List Nat) (j : Nat) (h : j < bs.length) : (vals bs)[j]? = some (.int .u8 (bs.getD j 0 : Nat)) := by simp [vals, List.getD, h]
theorem snoc_lt (bs : List Nat) (y j : Nat) (h : j < bs.length) : (bs ++ [y]).getD j 0 = bs.getD j 0 := by
  rw [List.getD_eq_getElem?_getD, List.getElem?_append_left h, List.getD_eq_getElem?_getD]
theorem snoc_eq (bs : List Nat) (y : Nat) : (bs ++ [y]).getD bs.length 0 = y := by simp [List.getD]
theorem run_conv_append (w : World) (ty : TypeId) (g n c : Nat) (bs : List Nat) (h : ConvRow w g n c bs) (q y : Nat) (hq : w.cell? ⟨q, 0, none⟩ = some (.int .u8 (y : Int))) (hbig : n + 1 ≤ 140737488355328) :
    ∃ b c' w', (Builtin.append_ #[28, 28] ty #[.slice (some ⟨g, 0, none⟩) n c, .slice (some ⟨q, 0, none⟩) 1 1]).run Tryd.prog w = .ok (.slice (some ⟨b, 0, none⟩) (n + 1) c') w' ∧ Bytes w' (some ⟨b, 0, none⟩) (bs ++ [y]) ∧ n + 1 ≤ c' ∧ Below g w w' := by
  obtain ⟨i, hi, hz0, hz1, hz2⟩ := info_parts info5
  obtain ⟨cur, hg, hc, hnc, hn, htake⟩ := h
  have hlt : g < w.heap.size := by
    rcases Nat.lt_or_ge g w.heap.size with h | h
    · exact h
    · rw [Array.getElem?_eq_none h] at hg; cases hg
  have hnews : ∀ j u, ([Value.int .u8 (y : Int)])[j]? = some u → w.cell? ((⟨q, 0, none⟩ : Addr).add j) = some u := by
    intro j u hu
    match j, hu with
    | 0, hu => simp at hu; subst hu; exact hq
  by_cases hroom : n + 1 ≤ c
  · have hst := store_one (P := Tryd.prog) w g n cur 5 hg (by omega) (.int .u8 (y : Int)) rfl
    have hf := run_firstCells_some (P := Tryd.prog) w 1 1 ⟨q, 0, none⟩ 1 1 [.int .u8 (y : Int)] rfl hnews
    refine ⟨g, c, w.setCell ⟨g, n, none⟩ (.int .u8 (y : Int)), ?_, ?_, hroom, (Below.refl g w).setCell (show g ≤ (⟨g, n, none⟩ : Addr).block from Nat.le_refl g) _⟩
    · simp [Builtin.append_, run_underlying Tryd.underlying28, sizeOf, typeInfo, hi, hz1, Builtin.lenOf, hroom, hf, Addr.add_lit, hst]
    · intro j hj
      rw [List.length_append, List.length_singleton] at hj
      refine ⟨g, 0, rfl, ?_⟩
      rw [Nat.zero_add]
      have hset : (w.setCell ⟨g, n, none⟩ (.int .u8 (y : Int))).heap[g]? = some (.cells (cur.setIfInBounds n (.int .u8 (y : Int))) 5 (cur.size, cur.size + 1)) := by
        rw [setCell_eq_setRow w g n cur 5 (cur.size, cur.size + 1) (.int .u8 (y : Int)) hg]
        exact setRow_heap _ _ _ _ _ _ hg
      rw [cell_of_row _ _ _ _ _ _ hset, Array.getElem?_setIfInBounds]
      by_cases hjn : n = j
      · subst hjn
        rw [if_pos rfl, if_pos (by omega)]
        simp [List.getD, hn]
      · rw [if_neg hjn]
        have hj2 : j < bs.length := by omega
        have e : cur[j]? = (vals bs)[j]? := by rw [← htake, List.getElem?_take, if_pos (by omega), Array.getElem?_toList]
        rw [e, vals_get _ _ hj2, snoc_lt _ _ _ hj2]
  · have holds : ∀ j u, (vals bs)[j]? = some u → w.cell? ((⟨g, 0, none⟩ : Addr).add j) = some u := by
      intro j u hu
      have hadd : (⟨g, 0, none⟩ : Addr).add j = ⟨g, j, none⟩ := by unfold Addr.add; split <;> simp_all
      rw [hadd, cell_of_row _ _ _ _ _ _ hg, ← Array.getElem?_toList]
      rw [← htake, List.getElem?_take] at hu
      split at hu
      · exact hu
      · cases hu
    have hr := run_append_grow (P := Tryd.prog) w 28 ty 5 i (.int .u8 0) Tryd.underlying28 hi hz0 ⟨g, 0, none⟩ n c (vals bs) (by rw [vals_len, hz1]; omega) holds ⟨q, 0, none⟩ 1 1 [.int .u8 (y : Int)] (by rw [hz1]; rfl) hnews (by omega) (by omega) (growslice_fits (by omega) (by rw [hz2]; omega))
    refine ⟨w.heap.size, _, _, hr, ?_, grownCap_ge _ _ _ _, ⟨rfl, rfl, rfl, by simp, fun k hk => heap_alloc_old w.drew _ (show k < w.drew.heap.size from Nat.lt_trans hk hlt)⟩⟩
    intro j hj
    rw [List.length_append, List.length_singleton] at hj
    refine ⟨w.heap.size, 0, rfl, ?_⟩
    have hnew : (w.drew.alloc (.cells ((vals bs).toArray ++ #[Value.int .u8 (y : Int)] ++ Builtin.zeroCells (Value.int .u8 0).cells (grownCap w (n + 1) c 5 - (n + 1))) 5)).heap[w.heap.size]? = _ := heap_alloc_new w.drew _
    rw [Nat.zero_add, cell_of_row _ _ _ _ _ _ hnew]
    rw [Array.getElem?_append_left (by simp [vals_len]; omega)]
    by_cases hjn : j < bs.length
    · rw [Array.getElem?_append_left (by simp [vals_len]; omega), List.getElem?_toArray, vals_get _ _ hjn, snoc_lt _ _ _ hjn]
    · obtain rfl : j = bs.length := by omega
      rw [Array.getElem?_append_right (by simp [vals_len]), snoc_eq]
      simp [vals_len]
/-- append of one byte to the row of a conversion -/
theorem wpList_conv_append (w : World) {ops : Array Oper} {rest : List Oper} {o : Oper} {act : Act} {Q : Exit → Act → World → Prop} (hgd : o.guard = none) (s x : Operand)
    (ho : o.op = .call { callee := .builtin .append, args := #[s, x], argTypes := #[28, 28] })
    (g n c : Nat) (bs : List Nat) (hs : act.eval s = .slice (some ⟨g, 0, none⟩) n c) (q y : Nat) (hx : act.eval x = .slice (some ⟨q, 0, none⟩) 1 1) (h : ConvRow w g n c bs) (hq : w.cell? ⟨q, 0, none⟩ = some (.int .u8 (y : Int))) (hbig : n + 1 ≤ 140737488355328)
    (hK : ∀ b c' w', Bytes w' (some ⟨b, 0, none⟩) (bs ++ [y]) → n + 1 ≤ c' → Below g w w' → wpList Tryd.prog ops Q rest (act.put o.dst (.slice (some ⟨b, 0, none⟩) (n + 1) c')) w') : wpList Tryd.prog ops Q (o :: rest) act w := by
  obtain ⟨b, c', w', hr, h1, h2, h3⟩ := run_conv_append w o.type g n c bs h q y hq hbig
  refine wpList_plain hgd fun K hK2 => ?_
  unfold Oper.wp
  simp only [execOp, ho, resolve, invoke, builtin, Sem.run_bind, Sem.run_pure, Result.andThen_ok, List.map_toArray, List.map_cons, List.map_nil, hs, hx, hr]
  exact hK2 _ _ (hK b c' w' h1 h2 h3)
end Go.Proofs.YtpfekbbmbdegbaaDoor
