import Derived.Test.YtlpggkdmjmlpkaaBy2
import Derived.Laws.CopyOwn
namespace Go.Proofs.Ytlpggkdmjmlpkaa
open Go.RowKit
theorem size5 : (Try.prog.info? 5).map (·.size) = some 1 := by kernel_rfl
theorem copied_rowA (F : Nat → Nat) (n off : Nat) (ds : List Nat) (h : off + ds.length ≤ n) : ((rowA .u8 F n n).toList.take off ++ (vals ds ++ (rowA .u8 F n n).toList.drop (off + (vals ds).length))).toArray = rowA .u8 (fun i => if off ≤ i ∧ i < off + ds.length then ds.getD (i - off) 0 else F i) n n := by
  have hs : (rowA .u8 F n n).toList.length = n := by rw [Array.length_toList, rowA_size]
  apply Array.ext_getElem?
  intro i
  rw [List.getElem?_toArray, List.getElem?_append, List.getElem?_append, vals_len, List.length_take, hs, Nat.min_eq_left (by omega)]
  by_cases h1 : i < off
  · rw [if_pos h1, List.getElem?_take, if_pos h1, Array.getElem?_toList, rowA_all _ _ _ _ (by omega), rowA_all _ _ _ _ (by omega), if_neg (by omega)]
  · rw [if_neg h1]
    by_cases h2 : i - off < ds.length
    · rw [if_pos h2, rowA_all _ _ _ _ (by omega), if_pos (by omega)]
      simp [vals, List.getD, h2]
    · rw [if_neg h2, List.getElem?_drop, Array.getElem?_toList, show off + ds.length + (i - off - ds.length) = i by omega]
      by_cases h3 : i < n
      · rw [rowA_all _ _ _ _ h3, rowA_all _ _ _ _ h3, if_neg (by omega)]
      · rw [Array.getElem?_eq_none (by rw [rowA_size]; omega), Array.getElem?_eq_none (by rw [rowA_size]; omega)]
theorem grownBy_refl (w : World) (r : Option Nat) : w.grownBy w r := ⟨rfl, rfl, rfl, Nat.le_refl _, fun _ _ _ => rfl⟩
/-- copy into a row of bytes, the source nil or not -/
theorem wpList_copy_blk {w : World} {ops : Array Oper} {rest : List Oper} {o : Oper} {a : Act} {Q : Exit → Act → World → Prop} (hgd : o.guard = none) (d s : Operand)
    (ho : o.op = .call { callee := .builtin .copy, args := #[d, s], argTypes := #[39, 39] })
    (dp sp : Option Addr) (dLen dCap sLen sCap : Nat) (hd : a.eval d = .slice dp dLen dCap) (hs : a.eval s = .slice sp sLen sCap)
    (g off n : Nat) (F : Nat → Nat) (t : TypeId) (hg : Blk w g t (rowA .u8 F n n)) (ys : List Nat) (hy : Bytes w sp ys) (m : Nat) (hm : m = Nat.min sLen dLen) (hys : m ≤ ys.length)
    (hpos : 0 < m → dp = some ⟨g, off, none⟩) (hfit : off + m ≤ n)
    (h : ∀ w', Blk w' g t (rowA .u8 (fun i => if off ≤ i ∧ i < off + m then ys.getD (i - off) 0 else F i) n n) → w.grownBy w' (some g) → wpList Try.prog ops Q rest (a.put o.dst (goInt m)) w') : wpList Try.prog ops Q (o :: rest) a w := by
  by_cases h0 : m = 0
  · subst h0
    refine wpList_copy_nothing hgd d s _ _ ho 5 Try.underlying39 size5 dp sp dLen dCap sLen sCap hd hs hm.symm ?_
    refine h w ?_ (grownBy_refl _ _)
    rw [rowA_congr (g := F) (fun i _ => by rw [if_neg (by omega)])]
    exact hg
  · have hp := hpos (by omega)
    subst hp
    obtain ⟨b, o1, rfl, _⟩ := hy 0 (by omega)
    have hl : (ys.take m).length = m := by rw [List.length_take]; omega
    refine wpList_copy_own hgd d s _ _ ho 5 Try.underlying39 size5 g off dLen dCap ⟨b, o1, none⟩ sLen sCap hd hs (rowA .u8 F n n) t hg (vals (ys.take m)) (by rw [vals_len, hl, hm]) ?_ (by rw [vals_len, hl, rowA_size]; omega) vals_one ?_
    · intro j v hj
      have hjl : j < m := by
        rcases Nat.lt_or_ge j m with h | h
        · exact h
        · rw [List.getElem?_eq_none (by rw [vals_len, hl]; exact h)] at hj; cases hj
      refine bytes_cells hy j v ?_
      rw [← hj]
      unfold vals
      rw [List.getElem?_map, List.getElem?_map, List.getElem?_take, if_pos hjl]
    · rw [copied_rowA F n off (ys.take m) (by rw [hl]; exact hfit), vals_len, hl]
      refine h _ ?_ ⟨rfl, rfl, rfl, by simp [World.setRow], fun i _ hne => setRow_other _ _ i _ (fun e => hne (by rw [e]))⟩
      rw [rowA_congr (f := fun i => if off ≤ i ∧ i < off + m then ys.getD (i - off) 0 else F i) (g := fun i => if off ≤ i ∧ i < off + m then (ys.take m).getD (i - off) 0 else F i) (fun i _ => ?_)]
      · exact setRow_heap _ _ _ _ _ _ hg
      · by_cases hi : off ≤ i ∧ i < off + m
        · rw [if_pos hi, if_pos hi, List.getD_eq_getElem?_getD, List.getD_eq_getElem?_getD, List.getElem?_take, if_pos (by omega)]
        · rw [if_neg hi, if_neg hi]
/-- the same as one step of a region that draws its order -/
theorem step_copy_blk {w : World} {ops : Array Oper} {o : Oper} {a : Act} {K : Act → World → Prop} {Q : Exit → Act → World → Prop} {E : Prop} (hgd : o.guard = none) (d s : Operand)
    (ho : o.op = .call { callee := .builtin .copy, args := #[d, s], argTypes := #[39, 39] })
    (dp sp : Option Addr) (dLen dCap sLen sCap : Nat) (hd : a.eval d = .slice dp dLen dCap) (hs : a.eval s = .slice sp sLen sCap)
    (g off n : Nat) (F : Nat → Nat) (t : TypeId) (hg : Blk w g t (rowA .u8 F n n)) (ys : List Nat) (hy : Bytes w sp ys) (m : Nat) (hm : m = Nat.min sLen dLen) (hys : m ≤ ys.length)
    (hpos : 0 < m → dp = some ⟨g, off, none⟩) (hfit : off + m ≤ n)
    (h : ∀ w', Blk w' g t (rowA .u8 (fun i => if off ≤ i ∧ i < off + m then ys.getD (i - off) 0 else F i) n n) → w.grownBy w' (some g) → K (a.put o.dst (goInt m)) w') :
    if Region.wanted o (yielded ops a.tmps) = true then Oper.wp Try.prog o a w K Q else E := by
  have hw : Region.wanted o (yielded ops a.tmps) = true := by simp [Region.wanted, hgd]
  rw [if_pos hw]
  by_cases h0 : m = 0
  · subst h0
    have hrun := run_copy_none (P := Try.prog) w 39 39 o.type 5 dp sp dLen dCap sLen sCap Try.underlying39 size5 hm.symm
    unfold Oper.wp
    simp [execOp, ho, resolve, invoke, builtin, hd, hs, hrun, Result.andThen]
    refine h w ?_ (grownBy_refl _ _)
    rw [rowA_congr (g := F) (fun i _ => by rw [if_neg (by omega)])]
    exact hg
  · have hp := hpos (by omega)
    subst hp
    obtain ⟨b, o1, rfl, _⟩ := hy 0 (by omega)
    have hl : (ys.take m).length = m := by rw [List.length_take]; omega
    have hrun := run_copy_row (P := Try.prog) w 39 39 o.type 5 g off dLen dCap ⟨b, o1, none⟩ sLen sCap (rowA .u8 F n n) t (vals (ys.take m)) Try.underlying39 size5 hg (by rw [vals_len, hl, hm]) (by
      intro j v hj
      have hjl : j < m := by
        rcases Nat.lt_or_ge j m with h | h
        · exact h
        · rw [List.getElem?_eq_none (by rw [vals_len, hl]; exact h)] at hj; cases hj
      refine bytes_cells hy j v ?_
      rw [← hj]
      unfold vals
      rw [List.getElem?_map, List.getElem?_map, List.getElem?_take, if_pos hjl]) (by rw [vals_len, hl, rowA_size]; omega) vals_one
    rw [List.append_assoc, copied_rowA F n off (ys.take m) (by rw [hl]; exact hfit), vals_len, hl] at hrun
    unfold Oper.wp
    simp [execOp, ho, resolve, invoke, builtin, hd, hs, hrun, Result.andThen]
    refine h _ ?_ ⟨rfl, rfl, rfl, by simp [World.setRow], fun i _ hne => setRow_other _ _ i _ (fun e => hne (by rw [e]))⟩
    rw [rowA_congr (f := fun i => if off ≤ i ∧ i < off + m then ys.getD (i - off) 0 else F i) (g := fun i => if off ≤ i ∧ i < off + m then (ys.take m).getD (i - off) 0 else F i) (fun i _ => ?_)]
    · simp only [List.getD_eq_getElem?_getD]
      exact setRow_heap _ _ _ _ _ _ hg
    · by_cases hi : off ≤ i ∧ i < off + m
      · rw [if_pos hi, if_pos hi, List.getD_eq_getElem?_getD, List.getD_eq_getElem?_getD, List.getElem?_take, if_pos (by omega)]
      · rw [if_neg hi, if_neg hi]
theorem sliceHead (g off len cap m : Nat) (hc : m ≤ cap) (W : World) : (Instr.slice 39 (.slice (some ⟨g, off, none⟩) len cap) none (some (.int .i64 (m : Int))) none).run Try.prog W = .ok (.slice (some ⟨g, off, none⟩) m cap) W := by
  have h := run_slice_h W 39 (some ⟨g, off, none⟩) len cap (P := Try.prog) (by kernel_rfl) .i64 (m : Int) (by omega) (by omega)
  rw [h]
  have e2 : (sizeOf (Try.prog.elem 39)).run Try.prog W = .ok 1 W := by kernel_rfl
  rw [e2]
  simp only [Result.andThen, sliced, Int.toNat_natCast]
  split <;> simp [Addr.add]
theorem sliceTail (b off n cap k : Nat) (h : k < n) (hc : k < cap) (W : World) : (Instr.slice 39 (.slice (some ⟨b, off, none⟩) n cap) (some (.int .i64 (k : Int))) none none).run Try.prog W = .ok (.slice (some ⟨b, off + k, none⟩) (n - k) (cap - k)) W := by
  have h := run_slice_l W 39 (some ⟨b, off, none⟩) n cap (P := Try.prog) (by kernel_rfl) .i64 (k : Int) (by omega) (by omega)
  rw [h]
  have e2 : (sizeOf (Try.prog.elem 39)).run Try.prog W = .ok 1 W := by kernel_rfl
  rw [e2]
  simp only [Result.andThen, sliced, Int.toNat_natCast]
  rw [if_neg (by omega)]
  simp [Addr.add]
theorem blk_bytes {w : World} {g n off : Nat} {t : TypeId} {F : Nat → Nat} {N : Nat} (h : Blk w g t (rowA .u8 F N N)) (xs : List Nat) (hl : xs.length = n) (hfit : off + n ≤ N) (hx : ∀ i, i < n → xs.getD i 0 = F (off + i)) : Bytes w (some ⟨g, off, none⟩) xs := by
  intro i hi
  exact ⟨g, off, rfl, by rw [h.cell, rowA_all _ _ _ _ (by omega), hx i (by omega)]⟩
end Go.Proofs.Ytlpggkdmjmlpkaa
