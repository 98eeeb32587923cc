import Derived.Test.YtneiglhcfgnclaaDoorRo2
namespace Go.Proofs.YtneiglhcfgnclaaDoor
open Go.RowKit
/-- the cells of a rolling hash -/
def rolC (T : Nat → Nat) (win : Nat) (R : Nat → Nat) (nx ct sm : Nat) : List Value := (rowA .u64 T 256 256).toList ++ (Value.int .i64 (win : Int) :: ((rowA .u8 R 64 64).toList ++ [Value.int .i64 (nx : Int), Value.int .i64 (ct : Int), Value.int .u64 (sm : Int)]))
theorem rowA_llen (kd : IntKind) (f : Nat → Nat) (n k : Nat) : (rowA kd f n k).toList.length = n := by rw [Array.length_toList, rowA_size]
theorem rolC_len (T : Nat → Nat) (win : Nat) (R : Nat → Nat) (nx ct sm : Nat) : (rolC T win R nx ct sm).length = 324 := by simp [rolC, rowA_size]
theorem rolC_tab {T : Nat → Nat} {win : Nat} {R : Nat → Nat} {nx ct sm : Nat} (i : Nat) (h : i < 256) : (rolC T win R nx ct sm).toArray[i]? = some (.int .u64 (T i : Int)) := by
  rw [List.getElem?_toArray]; unfold rolC
  rw [List.getElem?_append_left (by rw [rowA_llen]; exact h), Array.getElem?_toList, rowA_all _ _ _ _ h]
theorem rolC_win {T : Nat → Nat} {win : Nat} {R : Nat → Nat} {nx ct sm : Nat} : (rolC T win R nx ct sm).toArray[256]? = some (.int .i64 (win : Int)) := by
  rw [List.getElem?_toArray]; unfold rolC
  rw [List.getElem?_append_right (by rw [rowA_llen]; exact Nat.le_refl _), rowA_llen]; rfl
theorem rolC_beh {T : Nat → Nat} {win : Nat} {R : Nat → Nat} {nx ct sm : Nat} (i : Nat) : (rolC T win R nx ct sm)[257 + i]? = ((rowA .u8 R 64 64).toList ++ [Value.int .i64 (nx : Int), Value.int .i64 (ct : Int), Value.int .u64 (sm : Int)])[i]? := by
  unfold rolC
  rw [List.getElem?_append_right (by rw [rowA_llen]; omega), rowA_llen, show 257 + i - 256 = i + 1 by omega]; rfl
theorem rolC_ring {T : Nat → Nat} {win : Nat} {R : Nat → Nat} {nx ct sm : Nat} (i : Nat) (h : i < 64) : (rolC T win R nx ct sm).toArray[257 + i]? = some (.int .u8 (R i : Int)) := by
  rw [List.getElem?_toArray, rolC_beh, List.getElem?_append_left (by rw [rowA_llen]; exact h), Array.getElem?_toList, rowA_all _ _ _ _ h]
theorem rolC_nx {T : Nat → Nat} {win : Nat} {R : Nat → Nat} {nx ct sm : Nat} : (rolC T win R nx ct sm).toArray[321]? = some (.int .i64 (nx : Int)) := by
  rw [List.getElem?_toArray, show 321 = 257 + 64 from rfl, rolC_beh, List.getElem?_append_right (by rw [rowA_llen]; exact Nat.le_refl _), rowA_llen]; rfl
theorem rolC_ct {T : Nat → Nat} {win : Nat} {R : Nat → Nat} {nx ct sm : Nat} : (rolC T win R nx ct sm).toArray[322]? = some (.int .i64 (ct : Int)) := by
  rw [List.getElem?_toArray, show 322 = 257 + 65 from rfl, rolC_beh, List.getElem?_append_right (by rw [rowA_llen]; decide), rowA_llen]; rfl
theorem rolC_sm {T : Nat → Nat} {win : Nat} {R : Nat → Nat} {nx ct sm : Nat} : (rolC T win R nx ct sm).toArray[323]? = some (.int .u64 (sm : Int)) := by
  rw [List.getElem?_toArray, show 323 = 257 + 66 from rfl, rolC_beh, List.getElem?_append_right (by rw [rowA_llen]; decide), rowA_llen]; rfl
theorem rolC_put {T : Nat → Nat} {win : Nat} {R R' : Nat → Nat} {nx ct sm nx' ct' sm' : Nat} (i : Nat) (v : Value) (h : ((rowA .u8 R 64 64).toList ++ [Value.int .i64 (nx : Int), Value.int .i64 (ct : Int), Value.int .u64 (sm : Int)]).set i v = (rowA .u8 R' 64 64).toList ++ [Value.int .i64 (nx' : Int), Value.int .i64 (ct' : Int), Value.int .u64 (sm' : Int)]) :
    (rolC T win R nx ct sm).toArray.setIfInBounds (257 + i) v = (rolC T win R' nx' ct' sm').toArray := by
  apply Array.ext'
  simp only [Array.toList_setIfInBounds]
  unfold rolC
  rw [List.set_append_right _ _ (by rw [rowA_llen]; omega), rowA_llen, show 257 + i - 256 = i + 1 by omega, List.set_cons_succ, h]
theorem rolC_putR {T : Nat → Nat} {win : Nat} {R : Nat → Nat} {nx ct sm : Nat} (i b : Nat) (hi : i < 64) : (rolC T win R nx ct sm).toArray.setIfInBounds (257 + i) (.int .u8 (b : Int)) = (rolC T win (fun j => if j = i then b else R j) nx ct sm).toArray := by
  apply rolC_put
  rw [List.set_append_left _ _ (by rw [rowA_llen]; exact hi), ← Array.toList_setIfInBounds, rowA_upd]
theorem rolC_putN {T : Nat → Nat} {win : Nat} {R : Nat → Nat} {nx ct sm : Nat} (m : Nat) : (rolC T win R nx ct sm).toArray.setIfInBounds 321 (.int .i64 (m : Int)) = (rolC T win R m ct sm).toArray := by
  apply rolC_put 64
  rw [List.set_append_right _ _ (by rw [rowA_llen]; exact Nat.le_refl _), rowA_llen]; rfl
theorem rolC_putC {T : Nat → Nat} {win : Nat} {R : Nat → Nat} {nx ct sm : Nat} (m : Nat) : (rolC T win R nx ct sm).toArray.setIfInBounds 322 (.int .i64 (m : Int)) = (rolC T win R nx m sm).toArray := by
  apply rolC_put 65
  rw [List.set_append_right _ _ (by rw [rowA_llen]; decide), rowA_llen]; rfl
theorem rolC_putS {T : Nat → Nat} {win : Nat} {R : Nat → Nat} {nx ct sm : Nat} (m : Nat) : (rolC T win R nx ct sm).toArray.setIfInBounds 323 (.int .u64 (m : Int)) = (rolC T win R nx ct m).toArray := by
  apply rolC_put 66
  rw [List.set_append_right _ _ (by rw [rowA_llen]; decide), rowA_llen]; rfl
theorem rolC_one (T : Nat → Nat) (win : Nat) (R : Nat → Nat) (nx ct sm : Nat) : (rolC T win R nx ct sm).toArray.all (·.oneCell') = true := by
  have h1 := rowA_one .u64 T 256 256
  have h2 := rowA_one .u8 R 64 64
  rw [Array.all_eq_true_iff_forall_mem] at h1 h2 ⊢
  intro x hx
  simp only [rolC, List.mem_toArray, List.mem_append, List.mem_cons, Array.mem_toList_iff, List.not_mem_nil, or_false] at hx
  rcases hx with hx | rfl | hx | rfl | rfl | rfl
  · exact h1 x hx
  · rfl
  · exact h2 x hx
  · rfl
  · rfl
  · rfl
theorem infoRoll {T : Nat → Nat} {win : Nat} {R : Nat → Nat} {nx ct sm : Nat} : (Tryd.prog.info? 52).map (·.size) = some (rolC T win R nx ct sm).toArray.size := by rw [List.size_toArray, rolC_len]; kernel_rfl
theorem builtRoll (T : Nat → Nat) (win : Nat) : Tryd.prog.built 52 [(0, .agg (rowA .u64 T 256 256)), (1, .int .i64 (win : Int))] = some (rolC T win (fun _ => 0) 0 0 0).toArray := by kernel_rfl
/-- the rolling hash in block g, of a window, contains the end of these bytes -/
structure RS (w : World) (g : Nat) (T : Nat → Nat) (win : Nat) (ys : List Nat) : Prop where
  tl : ∀ i, T i < 18446744073709551616
  w1 : 1 ≤ win
  w2 : win ≤ 64
  yl : ∀ y ∈ ys, y < 256
  ex : ∃ R, Rh.Ring R ys ∧ (∀ i, R i < 256) ∧ Blk w g 52 (rolC T win R (ys.length % 64) (min ys.length win) (Rh.hsh T (Rh.last win ys))).toArray
theorem RS.lt {w : World} {g : Nat} {T : Nat → Nat} {win : Nat} {ys : List Nat} (h : RS w g T win ys) : g < w.heap.size := by
  obtain ⟨R, _, _, hB⟩ := h.ex
  exact hB.lt
theorem RS.below {w w' : World} {g B : Nat} {T : Nat → Nat} {win : Nat} {ys : List Nat} (h : RS w g T win ys) (hb : Below B w w') (hg : g < B) : RS w' g T win ys := by
  obtain ⟨R, h1, h2, hB⟩ := h.ex
  exact ⟨h.tl, h.w1, h.w2, h.yl, R, h1, h2, hB.below hb hg⟩
theorem RS.grown {w w' : World} {g : Nat} {r : Option Nat} {T : Nat → Nat} {win : Nat} {ys : List Nat} (h : RS w g T win ys) (hb : w.grownBy w' r) (hg : some g ≠ r) : RS w' g T win ys := by
  obtain ⟨R, h1, h2, hB⟩ := h.ex
  exact ⟨h.tl, h.w1, h.w2, h.yl, R, h1, h2, hB.grown hb hg⟩
/-- what a window counts as -/
def wnd (n : Int) : Nat := if n < 1 then 1 else if 64 < n then 64 else n.toNat
theorem wnd_ok (n : Int) : 1 ≤ wnd n ∧ wnd n ≤ 64 := by unfold wnd; split; · omega
                                                        split <;> omega
theorem len_any (g : Nat) (T : Nat → Nat) (win : Nat) (ys : List Nat) (w : World) (h : Hid (RS w g T win ys)) :
    Calls Tryd.prog 17 #[.pointer (some ⟨g, 0, none⟩)] w fun e w' => e = .returned (.int .i64 (min ys.length win : Nat)) ∧ w = w' := by
  obtain ⟨R, -, -, hB⟩ := h.out.ex
  have c := hB.cell 322
  rw [rolC_ct] at c
  obtain ⟨m, hm⟩ : ∃ m, Hid (min ys.length win = m) := ⟨_, rfl⟩
  rw [hm.out] at c ⊢
  clear hB
  go_enter Tryd.func17, Tryd.ntmps17
  go_wp2
  go_ret
  exact ⟨rfl, rfl⟩
theorem sum_any (g : Nat) (T : Nat → Nat) (win : Nat) (ys : List Nat) (w : World) (h : Hid (RS w g T win ys)) :
    Calls Tryd.prog 18 #[.pointer (some ⟨g, 0, none⟩)] w fun e w' => e = .returned (.int .u64 (Rh.hsh T (Rh.last win ys))) ∧ w = w' := by
  obtain ⟨R, -, -, hB⟩ := h.out.ex
  have c := hB.cell 323
  rw [rolC_sm] at c
  obtain ⟨m, hm⟩ : ∃ m, Hid (Rh.hsh T (Rh.last win ys) = m) := ⟨_, rfl⟩
  rw [hm.out] at c ⊢
  clear hB
  go_enter Tryd.func18, Tryd.ntmps18
  go_wp2
  go_ret
  exact ⟨rfl, rfl⟩
theorem wpList_build_is {P : Program} {ops : Array Oper} {rest : List Oper} {o : Oper} {a : Act} {w : World} {Q : Exit → Act → World → Prop} (hg : o.guard = none) (t : TypeId) (parts : Array (Nat × Operand)) (ho : o.op = .build t parts) (cs : Array Value)
    (hf : P.built t (parts.map fun (i, x) => (i, a.eval x)).toList = some cs) (h : wpList P ops Q rest (a.put o.dst (.agg cs)) w) : wpList P ops Q (o :: rest) a w :=
  wpList_build hg t parts ho (by rw [hf]; rfl) (by rw [hf]; exact h)
theorem num_all (s : Nat) : ∀ i, Rh.num s i < 18446744073709551616 := fun i => Rh.num_lt s i
theorem new_rs (w : World) (s win : Nat) (h1 : 1 ≤ win) (h2 : win ≤ 64) : RS (w.alloc (.cells (rolC (Rh.num s) win (fun _ => 0) 0 0 0).toArray 52)) w.heap.size (Rh.num s) win [] :=
  ⟨num_all s, h1, h2, fun _ h => absurd h (by simp), fun _ => 0, Rh.Ring.nil _, fun _ => (by decide : (0 : Nat) < 256), by
    have e : Rh.hsh (Rh.num s) (Rh.last win []) = 0 := by unfold Rh.last; rw [List.drop_nil]; rfl
    rw [e, List.length_nil, Nat.zero_min]
    exact Blk.new _ _ _⟩
end Go.Proofs.YtneiglhcfgnclaaDoor
