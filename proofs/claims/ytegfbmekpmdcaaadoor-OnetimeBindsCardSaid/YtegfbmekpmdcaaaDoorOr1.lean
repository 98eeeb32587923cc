import Derived.Test.YtegfbmekpmdcaaaDoorOl2
namespace Go.Proofs.YtegfbmekpmdcaaaDoor
open Go.RowKit
theorem infoStr : (Tryd.prog.info? 9).map (fun i => (i.zero, i.size, i.bytes)) = some (some (.string ByteArray.empty), 1, 16) := by kernel_rfl
def svals (ss : List ByteArray) : List Value := ss.map Value.string
theorem svals_append (a b : List ByteArray) : svals a ++ svals b = svals (a ++ b) := by simp [svals]
theorem svals_len (a : List ByteArray) : (svals a).length = a.length := by simp [svals]
theorem svals_one {ss : List ByteArray} : ∀ u ∈ svals ss, u.oneCell' = true := by
  intro u hu
  simp only [svals, List.mem_map] at hu
  obtain ⟨b, _, rfl⟩ := hu
  rfl
theorem add_lit' (b off j : Nat) : (⟨b, off, none⟩ : Addr).add j = ⟨b, off + j, none⟩ := by unfold Addr.add; split <;> simp_all
theorem str_cells {w : World} {x : Addr} {ss : List ByteArray} (h : Strs w (some x) ss) : ∀ j u, (svals ss)[j]? = some u → w.cell? (x.add j) = some u := by
  intro j u hj
  by_cases hjl : j < ss.length
  · obtain ⟨b, off, hx, hc⟩ := h j hjl
    simp only [Option.some.injEq] at hx
    subst hx
    have hu : u = .string (ss.getD j ByteArray.empty) := by
      have : (svals ss)[j]? = some (.string (ss.getD j ByteArray.empty)) := by simp [svals, List.getD, hjl]
      rw [this] at hj; exact (Option.some.inj hj).symm
    subst hu
    rw [add_lit']; exact hc
  · rw [List.getElem?_eq_none (by simp [svals]; omega)] at hj; cases hj
/-- a row of strings of the call's own, read as a slice -/
theorem owned_strs {w : World} {base n : Nat} {v : Value} {ss : List ByteArray} (h : w.ownsRow base 9 1 v n (svals ss)) (hn : n = ss.length) :
    ∃ a cap, v = .slice a ss.length cap ∧ ss.length ≤ cap ∧ Strs w a ss ∧ (∀ x, a = some x → base ≤ x.block) := by
  subst hn
  rcases h.2 with ⟨rfl, h0⟩ | ⟨g, cap, cur, rfl, hg0, hg, hle, hcs, hsz, ht⟩
  · exact ⟨none, 0, by rw [h0], by omega, fun i hi => by omega, fun x hx => by cases hx⟩
  · refine ⟨_, cap, rfl, hle, fun i hi => ⟨g, 0, rfl, ?_⟩, fun x hx => by cases hx; exact hg0⟩
    rw [cell_of_row w g (0 + i) _ _ _ hg, Nat.zero_add]
    have h1 : (svals ss)[i]? = some (.string (ss.getD i ByteArray.empty)) := by simp [svals, List.getD, hi]
    rw [← ht, List.getElem?_take] at h1
    split at h1
    · simpa using h1
    · cases h1
theorem own_belowS {w w' : World} {base n : Nat} {v : Value} {xs : List Value} (h : w.ownsRow base 9 1 v n xs) (hb : Below w.heap.size w w') : w'.ownsRow base 9 1 v n xs := by
  refine ⟨h.1, ?_⟩
  rcases h.2 with h1 | ⟨b, cap, cur, hv, hb0, hgg, hr⟩
  · exact Or.inl h1
  · have hlt : b < w.heap.size := by
      rcases Nat.lt_or_ge b w.heap.size with hlt | hge
      · exact hlt
      · rw [Array.getElem?_eq_none hge] at hgg; cases hgg
    exact Or.inr ⟨b, cap, cur, hv, hb0, (hb.block b hlt).trans hgg, hr⟩
theorem ownS_snoc {w : World} {base n : Nat} {v : Value} {ss : List ByteArray} {s : ByteArray} (h : w.ownsRow base 9 1 v (n + 1) (svals ss ++ [.string s])) : w.ownsRow base 9 1 v (n + 1) (svals (ss ++ [s])) := by
  rw [← svals_append]; exact h
theorem wp_snoc_str (w : World) {o : Oper} {act : Act} {K : Act → World → Prop} {Q : Exit → Act → World → Prop} (s x : Operand)
    (ho : o.op = .call { callee := .builtin .append, args := #[s, x], argTypes := #[47, 47] })
    (base : Nat) (v : Value) (n : Nat) (ss : List ByteArray) (hs : act.eval s = v) (hown : w.ownsRow base 9 1 v n (svals ss))
    (q : Nat) (st : ByteArray) (hx : act.eval x = .slice (some ⟨q, 0, none⟩) 1 1) (hc : w.cell? ⟨q, 0, none⟩ = some (.string st)) (hbig : n ≤ 1000000000) (hbase : base ≤ w.heap.size)
    (h : ∀ v' w', w'.ownsRow base 9 1 v' (n + 1) (svals (ss ++ [st])) → Below base w w' → K (act.put o.dst v') w') : Oper.wp Tryd.prog o act w K Q := by
  obtain ⟨i0, hi, hz0, hz1, hz2⟩ := info_parts infoStr
  refine wp_append_own w s x 47 ho base 9 i0 (.string ByteArray.empty) 1 16 Tryd.underlying47 hi hz0 hz1 hz2 rfl (by decide) v n (svals ss) hs hown ⟨q, 0, none⟩ 1 1 [.string st] hx rfl (fun j u hu => ?_) (fun u hu => ?_) (by unfold maxLen; omega) (by omega) hbase (fun v' w' h1 h2 _ => h v' w' (ownS_snoc h1) ((Below.refl base w).grown h2 hbase (fun p hp => (hown.lt p hp).1)))
  · match j, hu with
    | 0, hu => simp at hu; subst hu; exact hc
  · simp at hu; subst hu; rfl
theorem step_snoc_str (w : World) {ops : Array Oper} {o : Oper} {act : Act} {K : Act → World → Prop} {Q : Exit → Act → World → Prop} {E : Prop} (hgd : o.guard = none) (s x : Operand)
    (ho : o.op = .call { callee := .builtin .append, args := #[s, x], argTypes := #[47, 47] })
    (base : Nat) (v : Value) (n : Nat) (ss : List ByteArray) (hs : act.eval s = v) (hown : w.ownsRow base 9 1 v n (svals ss))
    (q : Nat) (st : ByteArray) (hx : act.eval x = .slice (some ⟨q, 0, none⟩) 1 1) (hc : w.cell? ⟨q, 0, none⟩ = some (.string st)) (hbig : n ≤ 1000000000) (hbase : base ≤ w.heap.size)
    (h : ∀ v' w', w'.ownsRow base 9 1 v' (n + 1) (svals (ss ++ [st])) → Below base w w' → K (act.put o.dst v') w') :
    if Region.wanted o (yielded ops act.tmps) = true then Oper.wp Tryd.prog o act w K Q else E := by
  have hw : Region.wanted o (yielded ops act.tmps) = true := by simp [Region.wanted, hgd]
  rw [if_pos hw]
  exact wp_snoc_str w s x ho base v n ss hs hown q st hx hc hbig hbase h
theorem wpList_snoc_str (w : World) {ops : Array Oper} {rest : List Oper} {o : Oper} {act : Act} {Q : Exit → Act → World → Prop} (hgd : o.guard = none) (s x : Operand)
    (ho : o.op = .call { callee := .builtin .append, args := #[s, x], argTypes := #[47, 47] })
    (base : Nat) (v : Value) (n : Nat) (ss : List ByteArray) (hs : act.eval s = v) (hown : w.ownsRow base 9 1 v n (svals ss))
    (q : Nat) (st : ByteArray) (hx : act.eval x = .slice (some ⟨q, 0, none⟩) 1 1) (hc : w.cell? ⟨q, 0, none⟩ = some (.string st)) (hbig : n ≤ 1000000000) (hbase : base ≤ w.heap.size)
    (h : ∀ v' w', w'.ownsRow base 9 1 v' (n + 1) (svals (ss ++ [st])) → Below base w w' → wpList Tryd.prog ops Q rest (act.put o.dst v') w') : wpList Tryd.prog ops Q (o :: rest) act w :=
  wpList_plain hgd fun _ hK => wp_snoc_str w s x ho base v n ss hs hown q st hx hc hbig hbase fun v' w' h1 h2 => hK _ _ (h v' w' h1 h2)
theorem str_new (w : World) (s : ByteArray) : (w.alloc (.cells #[.string s] 9)).cell? ⟨w.heap.size, 0, none⟩ = some (.string s) := by rw [cell_of_row _ _ _ _ _ _ (heap_alloc_new w _)]; rfl
def ivals (xs : List Nat) : List Value := xs.map fun (x : Nat) => Value.int .i64 (x : Int)
theorem ivals_append (a b : List Nat) : ivals a ++ ivals b = ivals (a ++ b) := by simp [ivals]
theorem ivals_len (a : List Nat) : (ivals a).length = a.length := by simp [ivals]
theorem owned_ints {w : World} {base n : Nat} {v : Value} {xs : List Nat} (h : w.ownsRow base 3 1 v n (ivals xs)) (hn : n = xs.length) :
    ∃ a cap, v = .slice a xs.length cap ∧ xs.length ≤ cap ∧ Ints w a xs.length (fun i => xs.getD i 0) ∧ (∀ x, a = some x → base ≤ x.block) := by
  subst hn
  rcases h.2 with ⟨rfl, h0⟩ | ⟨g, cap, cur, rfl, hg0, hg, hle, hcs, hsz, ht⟩
  · exact ⟨none, 0, by rw [h0], by omega, fun i hi => by omega, fun x hx => by cases hx⟩
  · refine ⟨_, cap, rfl, hle, fun i hi => ⟨g, 0, rfl, ?_⟩, fun x hx => by cases hx; exact hg0⟩
    rw [cell_of_row w g (0 + i) _ _ _ hg, Nat.zero_add]
    have h1 : (ivals xs)[i]? = some (.int .i64 (xs.getD i 0 : Nat)) := by simp [ivals, List.getD, hi]
    rw [← ht, List.getElem?_take] at h1
    split at h1
    · simpa using h1
    · cases h1
theorem own_belowI {w w' : World} {base n : Nat} {v : Value} {xs : List Value} (h : w.ownsRow base 3 1 v n xs) (hb : Below w.heap.size w w') : w'.ownsRow base 3 1 v n xs := by
  refine ⟨h.1, ?_⟩
  rcases h.2 with h1 | ⟨b, cap, cur, hv, hb0, hgg, hr⟩
  · exact Or.inl h1
  · have hlt : b < w.heap.size := by
      rcases Nat.lt_or_ge b w.heap.size with hlt | hge
      · exact hlt
      · rw [Array.getElem?_eq_none hge] at hgg; cases hgg
    exact Or.inr ⟨b, cap, cur, hv, hb0, (hb.block b hlt).trans hgg, hr⟩
theorem ownI_snoc {w : World} {base n : Nat} {v : Value} {xs : List Nat} {x : Nat} (h : w.ownsRow base 3 1 v (n + 1) (ivals xs ++ [.int .i64 (x : Int)])) : w.ownsRow base 3 1 v (n + 1) (ivals (xs ++ [x])) := by
  rw [← ivals_append]; exact h
theorem wp_snoc_int (w : World) {o : Oper} {act : Act} {K : Act → World → Prop} {Q : Exit → Act → World → Prop} (s x : Operand)
    (ho : o.op = .call { callee := .builtin .append, args := #[s, x], argTypes := #[27, 27] })
    (base : Nat) (v : Value) (n : Nat) (xs : List Nat) (hs : act.eval s = v) (hown : w.ownsRow base 3 1 v n (ivals xs))
    (q : Nat) (y : Nat) (hx : act.eval x = .slice (some ⟨q, 0, none⟩) 1 1) (hc : w.cell? ⟨q, 0, none⟩ = some (.int .i64 (y : Int))) (hbig : n ≤ 1000000000) (hbase : base ≤ w.heap.size)
    (h : ∀ v' w', w'.ownsRow base 3 1 v' (n + 1) (ivals (xs ++ [y])) → Below base w w' → K (act.put o.dst v') w') : Oper.wp Tryd.prog o act w K Q := by
  obtain ⟨i0, hi, hz0, hz1, hz2⟩ := info_parts infoI
  refine wp_append_own w s x 27 ho base 3 i0 (.int .i64 0) 1 8 Tryd.underlying27 hi hz0 hz1 hz2 rfl (by decide) v n (ivals xs) hs hown ⟨q, 0, none⟩ 1 1 [.int .i64 (y : Int)] hx rfl (fun j u hu => ?_) (fun u hu => ?_) (by unfold maxLen; omega) (by omega) hbase (fun v' w' h1 h2 _ => h v' w' (ownI_snoc h1) ((Below.refl base w).grown h2 hbase (fun p hp => (hown.lt p hp).1)))
  · match j, hu with
    | 0, hu => simp at hu; subst hu; exact hc
  · simp at hu; subst hu; rfl
theorem step_snoc_int (w : World) {ops : Array Oper} {o : Oper} {act : Act} {K : Act → World → Prop} {Q : Exit → Act → World → Prop} {E : Prop} (hgd : o.guard = none) (s x : Operand)
    (ho : o.op = .call { callee := .builtin .append, args := #[s, x], argTypes := #[27, 27] })
    (base : Nat) (v : Value) (n : Nat) (xs : List Nat) (hs : act.eval s = v) (hown : w.ownsRow base 3 1 v n (ivals xs))
    (q : Nat) (y : Nat) (hx : act.eval x = .slice (some ⟨q, 0, none⟩) 1 1) (hc : w.cell? ⟨q, 0, none⟩ = some (.int .i64 (y : Int))) (hbig : n ≤ 1000000000) (hbase : base ≤ w.heap.size)
    (h : ∀ v' w', w'.ownsRow base 3 1 v' (n + 1) (ivals (xs ++ [y])) → Below base w w' → K (act.put o.dst v') w') :
    if Region.wanted o (yielded ops act.tmps) = true then Oper.wp Tryd.prog o act w K Q else E := by
  have hw : Region.wanted o (yielded ops act.tmps) = true := by simp [Region.wanted, hgd]
  rw [if_pos hw]
  exact wp_snoc_int w s x ho base v n xs hs hown q y hx hc hbig hbase h
theorem wpList_snoc_int (w : World) {ops : Array Oper} {rest : List Oper} {o : Oper} {act : Act} {Q : Exit → Act → World → Prop} (hgd : o.guard = none) (s x : Operand)
    (ho : o.op = .call { callee := .builtin .append, args := #[s, x], argTypes := #[27, 27] })
    (base : Nat) (v : Value) (n : Nat) (xs : List Nat) (hs : act.eval s = v) (hown : w.ownsRow base 3 1 v n (ivals xs))
    (q : Nat) (y : Nat) (hx : act.eval x = .slice (some ⟨q, 0, none⟩) 1 1) (hc : w.cell? ⟨q, 0, none⟩ = some (.int .i64 (y : Int))) (hbig : n ≤ 1000000000) (hbase : base ≤ w.heap.size)
    (h : ∀ v' w', w'.ownsRow base 3 1 v' (n + 1) (ivals (xs ++ [y])) → Below base w w' → wpList Tryd.prog ops Q rest (act.put o.dst v') w') : wpList Tryd.prog ops Q (o :: rest) act w :=
  wpList_plain hgd fun _ hK => wp_snoc_int w s x ho base v n xs hs hown q y hx hc hbig hbase fun v' w' h1 h2 => hK _ _ (h v' w' h1 h2)
theorem int_new (w : World) (x : Nat) : (w.alloc (.cells #[.int .i64 (x : Int)] 3)).cell? ⟨w.heap.size, 0, none⟩ = some (.int .i64 (x : Int)) := by rw [cell_of_row _ _ _ _ _ _ (heap_alloc_new w _)]; rfl
theorem PS.nextB {w W W' : World} {G B : Nat} {b s : Int} (h : PS w G b s W) (hb : Below B W W') (hG : G < B) (hw : w.heap.size ≤ B) : PS w G b s W' :=
  ⟨(hb.cell (p := ⟨G, 0, none⟩) hG).trans h.c0, (hb.cell (p := ⟨G, 1, none⟩) hG).trans h.c1, h.bel.trans (hb.mono hw)⟩
set_option maxRecDepth 100000 in
theorem refbase_any (b s : Nat) (ho : Ot.okB b s = true) (w : World) :
    Calls Tryd.prog 43 #[.agg #[.int .i64 (b : Int), .int .i64 (s : Int)]] w fun e w' => e = .returned (.int .i64 ((Ot.las b + 1 : Nat) : Int)) ∧ Below w.heap.size w w' := by
  have hl := Ot.las_bd b s ho
  have hp := shl_pow b hl.2.2.2
  obtain ⟨p, hpp⟩ : ∃ p : Nat, Hid ((2 : Nat) ^ b = p) := ⟨2 ^ b, hidIt rfl⟩
  have hlp : Hid (Ot.las b + 1 = p) := by show _ = _; rw [← hpp.out]; exact hl.2.2.1
  rw [hpp.out] at hp
  rw [hlp.out]
  have e1 : wrap64 ((2 : Int) ^ b) = (p : Int) := hp.1
  have h8 : b ≤ 8 := hl.2.2.2
  clear hl hp hpp
  go_enter Tryd.func43, Tryd.ntmps43
  go_wp2_with (fail)
  go_ret
  exact ⟨ret_int (by rw [← e1]), (Below.refl _ _).alloc (Nat.le_refl _) _⟩
theorem refmain_any (b s : Nat) (ho : Ot.okB b s = true) (w : World) :
    Calls Tryd.prog 19 #[.agg #[.int .i64 (b : Int), .int .i64 (s : Int)]] w fun e w' => e = .returned (.int .i64 (Ot.mn b s : Int)) ∧ Below w.heap.size w w' := by
  have h := (Ot.ok_iff b s).1 ho
  have hs1 := h.2.1
  have hs2 := h.2.2
  have hb1 : 1 ≤ b := by omega
  have hb2 : b ≤ 8 := by omega
  have hfin : Hid ((8 * (s : Int)) / (b : Int) = (Ot.mn b s : Int)) := by show _ = _; unfold Ot.mn; push_cast; rfl
  clear h
  go_enter Tryd.func19, Tryd.ntmps19
  go_wp2_with (fail)
  go_ret
  exact ⟨ret_int hfin.out, (Below.refl _ _).alloc (Nat.le_refl _) _⟩
set_option maxRecDepth 100000 in
set_option maxHeartbeats 1000000 in
theorem refcheck_any (b s : Nat) (ho : Ot.okB b s = true) (w : World) :
    Calls Tryd.prog 20 #[.agg #[.int .i64 (b : Int), .int .i64 (s : Int)]] w fun e w' => e = .returned (.int .i64 (Ot.cd b s : Int)) ∧ Below w.heap.size w w' := by
  have hl := Ot.las_bd b s ho
  have hm := Ot.mn_bd b s ho
  have hc := Ot.cd_bd b s ho
  have d1 : Hid (∀ W, Calls Tryd.prog 19 #[.agg #[.int .i64 (b : Int), .int .i64 (s : Int)]] W fun e w' => e = .returned (.int .i64 (Ot.mn b s : Int)) ∧ Below W.heap.size W w') := fun W => refmain_any b s ho W
  have d2 : Hid (∀ W, Calls Tryd.prog 43 #[.agg #[.int .i64 (b : Int), .int .i64 (s : Int)]] W fun e w' => e = .returned (.int .i64 ((Ot.las b + 1 : Nat) : Int)) ∧ Below W.heap.size W w') := fun W => refbase_any b s ho W
  obtain ⟨c, hcd⟩ : ∃ c, Hid (Ot.cd b s = c) := ⟨_, rfl⟩
  obtain ⟨m, hmn⟩ : ∃ m, Hid (Ot.mn b s = m) := ⟨_, rfl⟩
  obtain ⟨l, hll⟩ : ∃ l, Hid (Ot.las b = l) := ⟨_, rfl⟩
  obtain ⟨p, hp⟩ : ∃ p, Hid (l + 1 = p) := ⟨_, rfl⟩
  obtain ⟨q, hq⟩ : ∃ q, Hid (m * l = q) := ⟨_, rfl⟩
  have hcd2 : Hid (Ot.cdF 10 b 1 q = c) := by show _ = _; rw [← hcd.out, ← hq.out, ← hmn.out, ← hll.out]; rfl
  rw [hcd.out] at hc ⊢
  rw [hmn.out] at hm d1
  rw [hll.out] at hl d2
  rw [hp.out] at d2
  have hqb : q ≤ 65280 := by rw [← hq.out]; exact Nat.mul_le_mul hm.2.1 hl.2.1
  have hq1 : 1 ≤ q := by rw [← hq.out]; exact Nat.mul_le_mul hm.1 hl.1
  have hpw : Hid (p = 2 ^ b) := by show _ = _; rw [← hp.out]; exact hl.2.2.1
  have hp256 : p ≤ 256 := by have := hp.out; omega
  have hp2 : 2 ≤ p := by have := hp.out; omega
  have k1 : (p : Int) - 1 = (l : Int) := by have := hp.out; omega
  have k2 : (m : Int) * (l : Int) = (q : Int) := by rw [← hq.out]; push_cast; rfl
  have k3 : IntKind.i64.wrap (l : Int) = (l : Int) := IntWalk.i64_in _ (by omega)
  have k4 : IntKind.i64.wrap (q : Int) = (q : Int) := IntWalk.i64_in _ (by omega)
  have hc9 : c ≤ 9 := hc.2
  have hc1 : 1 ≤ c := hc.1
  have hst : Hid (1 + Ot.cdF 9 b p q = c) := by
    have := hcd2.out
    show _ = _
    rw [Ot.cdF, if_pos hq1, Nat.one_mul, ← hpw.out] at this
    exact this
  have p0 := rs_new w (b : Int) (s : Int)
  obtain ⟨w1, hw1⟩ : ∃ w1, Hid (w.alloc (.cells #[.int .i64 (b : Int), .int .i64 (s : Int)] 23) = w1) := ⟨_, rfl⟩
  obtain ⟨G, hG⟩ : ∃ G, Hid (w.heap.size = G) := ⟨_, rfl⟩
  rw [hw1.out, hG.out] at p0
  have e0 := p0.c0
  have e1 := p0.c1
  clear hl hm hc hmn hll hq hcd hcd2 hp
  go_enter Tryd.func20, Tryd.ntmps20
  go_wp2_with (fail)
  rw [hw1.out]
  try rw [hG.out]
  refine (d2.out _).mono ?_
  rintro e w2 ⟨rfl, hb2⟩
  have p2 := p0.next hb2
  clear hb2 p0 e0 e1 hw1
  go_wp2_with (fail)
  go_loopw [3, 4] (fun n x wr => ∃ k f y : Nat, n = .int .i64 (k : Int) ∧ x = .int .i64 (y : Int) ∧ k + f = 10 ∧ 1 ≤ k ∧ Hid (k + Ot.cdF f b y q = c) ∧ y ≤ 16711680 ∧ PS w G (b : Int) (s : Int) wr) (fun n _ _ => 10 - (intOf n).toNat)
  case atStart => exact ⟨1, 9, p, rfl, rfl, rfl, by omega, hst, by omega, p2⟩
  case round =>
    obtain ⟨k, f, y, rfl, rfl, hkf, hk, hrel, hy, hS⟩ := hrel
    clear p2 hst
    have e0 := hS.c0
    have e1 := hS.c1
    by_cases hlt : y ≤ q
    · have hf : ∃ g, f = g + 1 := ⟨f - 1, by cases f with | zero => have h1 := hrel.out; simp [Ot.cdF] at h1; omega | succ f => rfl⟩
      obtain ⟨g, rfl⟩ := hf
      obtain ⟨z, hz⟩ : ∃ z : Nat, Hid (y * p = z) := ⟨y * p, hidIt rfl⟩
      have hr2 : Hid (k + 1 + Ot.cdF g b z q = c) := by
        have h1 := hrel.out
        show _ = _
        rw [Ot.cdF, if_pos hlt, ← hpw.out, hz.out] at h1
        omega
      have hz2 : z ≤ 16711680 := by rw [← hz.out]; exact Nat.le_trans (Nat.mul_le_mul hlt hp256) (by omega)
      have k5 : (y : Int) * (p : Int) = (z : Int) := by rw [← hz.out]; push_cast; rfl
      have k6 : decide ((y : Int) ≤ (q : Int)) = true := by simpa using hlt
      have k10 : k < 10 := by omega
      clear hrel hz
      go_wp2
      go_region_held3 (fun W' => PS w G (b : Int) (s : Int) W' ∧ W'.cell? ⟨G, 0, none⟩ = some (.int .i64 (b : Int)) ∧ W'.cell? ⟨G, 1, none⟩ = some (.int .i64 (s : Int)))
        (first
          | exact PS.all (by assumption)
          | (go_split_ands; exact PS.all (by assumption))
          | (go_split_ands; exact PS.all (PS.drew (by assumption)))
          | (go_split_ands; exact PS.all (PS.behind (by assumption) (by assumption))))
        (first
          | (go_at_call 19; (with_reducible refine Calls.mono (d1.out _) ?_); rintro e w7 ⟨rfl, hb7⟩)
          | (go_at_call 43; (with_reducible refine Calls.mono (d2.out _) ?_); rintro e w8 ⟨rfl, hb8⟩))
      all_goals
        go_split_ands
        have hS8 : PS w G (b : Int) (s : Int) w8 := by assumption
        clear hS e0 e1 hb7 hb8
        have e0 := hS8.c0
        have e1 := hS8.c1
        go_wp2_with (fail)
        refine (d2.out _).mono ?_
        rintro e w9 ⟨rfl, hb9⟩
        have p9 := hidIt (hS8.next hb9)
        clear hb9 hS8 e0 e1
        go_wp2_with (fail)
        go_roundw
        case rel => exact ⟨k + 1, g, z, by go_num, rfl, by omega, by omega, hr2, hz2, p9.out⟩
        case measure => simp [intOf]; omega
    · have hkc : Hid (k = c) := by
        have h1 := hrel.out
        show _ = _
        cases f with
        | zero => simpa [Ot.cdF] using h1
        | succ f => rw [Ot.cdF, if_neg hlt] at h1; omega
      have k6 : decide ((y : Int) ≤ (q : Int)) = false := by simp; omega
      clear hrel
      go_wp2
      go_region_held3 (fun W' => PS w G (b : Int) (s : Int) W' ∧ W'.cell? ⟨G, 0, none⟩ = some (.int .i64 (b : Int)) ∧ W'.cell? ⟨G, 1, none⟩ = some (.int .i64 (s : Int)))
        (first
          | exact PS.all (by assumption)
          | (go_split_ands; exact PS.all (by assumption))
          | (go_split_ands; exact PS.all (PS.drew (by assumption)))
          | (go_split_ands; exact PS.all (PS.behind (by assumption) (by assumption))))
        (first
          | (go_at_call 19; (with_reducible refine Calls.mono (d1.out _) ?_); rintro e w7 ⟨rfl, hb7⟩)
          | (go_at_call 43; (with_reducible refine Calls.mono (d2.out _) ?_); rintro e w8 ⟨rfl, hb8⟩))
      all_goals
        go_split_ands
        have hS8 : PS w G (b : Int) (s : Int) w8 := by assumption
        have HB := hidIt hS8.bel
        clear hS hS8 e0 e1 hb7 hb8
        go_wp2_with (fail)
        go_ret
        exact ⟨ret_int (by have := hkc.out; omega), HB.out⟩
set_option maxRecDepth 100000 in
theorem refbit_any (dig : ByteArray) (xs : List Nat) (hx : Hid (ofStr dig = xs)) (i : Nat) (hi : i / 8 < dig.size) (hi9 : i ≤ 1000000) (w : World) :
    Calls Tryd.prog 44 #[.string dig, .int .i64 (i : Int)] w fun e w' => e = .returned (.int .i64 (Ot.bitAt xs i : Int)) ∧ w = w' := by
  obtain ⟨q, hq⟩ : ∃ q, Hid (i / 8 = q) := ⟨_, rfl⟩
  obtain ⟨x, hxq⟩ : ∃ x, Hid (xs.getD q 0 = x) := ⟨_, rfl⟩
  have i1 := fun W => idxStr dig q (by rw [← hq.out]; exact hi) .i64 W
  rw [hx.out, hxq.out] at i1
  obtain ⟨r, hr⟩ : ∃ r, Hid (7 - i % 8 = r) := ⟨_, rfl⟩
  obtain ⟨y, hy⟩ : ∃ y : Nat, Hid (x / (2 : Nat) ^ r = y) := ⟨x / 2 ^ r, hidIt rfl⟩
  obtain ⟨v, hv⟩ : ∃ v, Hid (Ot.bitAt xs i = v) := ⟨_, rfl⟩
  have hv2 : Hid (y % 2 ^ 1 = v) := by show _ = _; rw [← hv.out, ← hy.out, ← hxq.out, ← hr.out, ← hq.out]; rfl
  have hx256 : x < 256 := by rw [← hxq.out, ← hx.out]; exact Hm.getD_lt (ofStr_lt dig) q
  have hyb : y ≤ x := by rw [← hy.out]; exact Nat.div_le_self _ _
  have m1 : (i : Int) / 8 = (q : Int) := by have := hq.out; omega
  have m2 : 7 - (i : Int) % 8 = (r : Int) := by have := hr.out; omega
  have m3 : (x : Int) / 2 ^ r = (y : Int) := by rw [← hy.out]; push_cast; rfl
  have m4 : bits BinOp.and IntKind.i64 (y : Int) 1 = (v : Int) := by
    have h1 := i64_mask y 1 (by omega) (by omega)
    rw [hv2.out] at h1
    exact h1
  have hr7 : r ≤ 7 := by have := hr.out; omega
  rw [hv.out]
  clear hq hxq hr hy hv hv2 hx
  go_enter Tryd.func44, Tryd.ntmps44
  go_wp2
  go_ret
  exact ⟨rfl, rfl⟩
end Go.Proofs.YtegfbmekpmdcaaaDoor
