import Derived.Test.YtneiglhcfgnclaaDoorRo5
import Derived.Test.YtneiglhcfgnclaaDoorPerm
import Derived.Deep.MidRow
namespace Go.Proofs.YtneiglhcfgnclaaDoor
open Go.RowKit
theorem rolC_take {T : Nat → Nat} {win : Nat} {R : Nat → Nat} {nx ct sm : Nat} : (rolC T win R nx ct sm).take 256 = (rowA .u64 T 256 256).toList := by
  unfold rolC
  rw [List.take_append_of_le_length (by rw [rowA_llen]; exact Nat.le_refl _), List.take_of_length_le (by rw [rowA_llen]; exact Nat.le_refl _)]
theorem reset_rs {w w' : World} {g : Nat} {T : Nat → Nat} {win : Nat} {ys : List Nat} (h : RS w g T win ys) (hB : Blk w' g 52 (rolC T win (fun _ => 0) 0 0 0).toArray) : RS w' g T win [] :=
  ⟨h.tl, h.w1, h.w2, fun _ h => absurd h (by simp), fun _ => 0, Rh.Ring.nil _, fun _ => (by decide : (0 : Nat) < 256), by
    have e : Rh.hsh T (Rh.last win []) = 0 := by unfold Rh.last; rw [List.drop_nil]; rfl
    rw [e, List.length_nil, Nat.zero_min]
    exact hB⟩
theorem run_built_is {P : Program} {ρ : Operand → Value} {o : Oper} {w : World} {t : TypeId} {parts : Array (Nat × Operand)} {cs : Array Value} (ho : o.op = .build t parts) (hf : P.built t (parts.map fun (i, x) => (i, ρ x)).toList = some cs) :
    (execOp ρ o).run P w = .ok (.value (.agg cs)) w := by
  unfold execOp
  simp only [ho, Sem.run_bind, run_build w t _ cs hf, Result.andThen_ok, Sem.run_pure]
theorem run_load_mid_is {P : Program} {ρ : Operand → Value} {op : Oper} {w : World} (ty : TypeId) (x : Operand) (ho : op.op = .load ty x) (b o : Nat) (hx : ρ x = .pointer (some ⟨b, o, none⟩)) (cs : List Value) (d : TypeDesc) (hS : w.rangeAt b o cs)
    (hu : P.underlying ty = some d) (hd : d.isRow = true) (hi : (P.info? ty).map (·.size) = some cs.length) : (execOp ρ op).run P w = .ok (.value (.agg cs.toArray)) w := by
  unfold execOp
  simp only [ho, hx, Instr.loadAt, Instr.sureAddr, Sem.run_bind, Sem.run_pure, Result.andThen_ok, run_loadVar_mid w b o ty cs d hS hu hd hi]
theorem still_val {P : Program} {ops : Array Oper} {w : World} {Q : Act → Prop} {a : Act} {o : Oper} {rest : List Oper} (d : Option Tmp) (v : Value) (hg : Region.wanted o (yielded ops a.tmps) = true) (hd : o.dst = d) (hv : (execOp a.eval o).run P w = .ok (.value v) w)
    (h : wpStill P ops w Q rest (a.put d v)) : wpStill P ops w Q (o :: rest) a := by
  subst hd
  refine wpStill_step (fun K hK => ?_)
  rw [if_pos hg]
  unfold Oper.still
  rw [hv, Oper.stillUpon_value]
  exact hK _ h
set_option maxRecDepth 100000 in
set_option maxHeartbeats 1000000 in
theorem reset_any (g : Nat) (T : Nat → Nat) (win : Nat) (ys : List Nat) (w : World) (h : Hid (RS w g T win ys)) :
    Calls Tryd.prog 22 #[.pointer (some ⟨g, 0, none⟩)] w fun e w' => e = .returned (.tuple #[]) ∧ RS w' g T win [] ∧ w.grownBy w' (some g) := by
  obtain ⟨R, -, -, hB⟩ := h.out.ex
  obtain ⟨V, hV⟩ : ∃ V, Hid (rowA .u64 T 256 256 = V) := ⟨_, rfl⟩
  generalize ys.length % 64 = nx at hB
  generalize min ys.length win = ct at hB
  generalize Rh.hsh T (Rh.last win ys) = sm at hB
  obtain ⟨old, hold, ho1, ho2, ho3⟩ : ∃ old, Hid ((rolC T win R nx ct sm).toArray = old) ∧ Hid (old.size = 324) ∧ Hid ((Tryd.prog.info? 52).map (·.size) = some old.size) ∧ Hid (old.all (·.oneCell') = true) := ⟨_, rfl, by show _ = _; rw [List.size_toArray, rolC_len], infoRoll, rolC_one _ _ _ _ _ _⟩
  obtain ⟨cs, hcs, hc1, hc2, hc3, hd⟩ : ∃ cs, Hid (Tryd.prog.built 52 [(0, .agg V), (1, .int .i64 (win : Int))] = some cs) ∧ Hid (cs.size = old.size) ∧ Hid ((Tryd.prog.info? 52).map (·.size) = some cs.size) ∧ Hid (cs.all (·.oneCell') = true) ∧ Hid (∀ w' : World, Blk w' g 52 cs → RS w' g T win []) :=
    ⟨_, by rw [← hV.out]; exact builtRoll T win, by show _ = _; rw [ho1.out, List.size_toArray, rolC_len], infoRoll, rolC_one _ _ _ _ _ _, fun w' hB' => reset_rs h.out hB'⟩
  have hw256 : Hid (old[256]? = some (.int .i64 (win : Int))) := by show _ = _; rw [← hold.out, rolC_win]
  have hVi : Hid ((Tryd.prog.info? 47).map (·.size) = some V.toList.length) := by rw [← hV.out, Array.length_toList]; exact info256
  have hl : Hid (∀ W : World, Blk W g 52 old → W.rangeAt g 0 V.toList) := fun W hW => by
    rw [← hV.out]
    intro j u hj
    have hjl : j < 256 := by
      rcases Nat.lt_or_ge j 256 with h | h
      · exact h
      · rw [List.getElem?_eq_none (by rw [rowA_llen]; exact h)] at hj; cases hj
    rw [Array.getElem?_toList, rowA_all _ _ _ _ hjl] at hj
    cases hj
    rw [Nat.zero_add, hW.cell j, ← hold.out, rolC_tab j hjl]
  rw [hold.out] at hB
  have hBh := hidIt hB
  clear hB
  go_enter Tryd.func22, Tryd.ntmps22
  go_wp2_with (fail)
  have c256 : (w.drew).cell? ⟨g, 256, none⟩ = some (.int .i64 (win : Int)) := by
    have := (hBh.out.drewN 1).cell 256
    rw [hw256.out] at this; exact this
  go_still_tail 11, (by kernel_rfl)
  refine still_val (some 6) (.agg V) rfl rfl (run_load_mid_is 47 _ rfl g 0 rfl V.toList _ (hl.out _ (hBh.out.drewN 1)) Tryd.underlying47 rfl hVi.out) ?_
  simp only [Act.put, List.setIfInBounds_toArray, List.set_cons_zero, List.set_cons_succ]
  change wpStill _ _ w.drew _ _ _
  repeat still_step
  refine still_val (some 11) (.agg cs) rfl rfl (run_built_is rfl ?hb) ?_
  case hb => simp only [List.map_toArray, List.map_cons, List.map_nil]; exact hcs.out
  simp only [Act.put, List.setIfInBounds_toArray, List.set_cons_zero, List.set_cons_succ]
  change wpStill _ _ w.drew _ _ _
  repeat still_step
  refine wpStill_nil ?_
  obtain ⟨w1, hw1, B1, G1⟩ : ∃ w1, Hid (w.drew.setRow g cs = w1) ∧ Hid (RS w1 g T win []) ∧ Hid (w.grownBy w1 (some g)) := ⟨_, rfl, hd.out _ (setRow_heap _ _ _ _ _ _ (hBh.out.drewN 1)), ⟨rfl, rfl, rfl, by simp, fun k _ hk => setRow_other _ _ k _ (fun e => hk (by rw [e]))⟩⟩
  change wpList _ _ _ _ _ w.drew
  refine wpList_store_row rfl 52 _ _ rfl g cs rfl rfl 52 old (hBh.out.drewN 1) hc2.out hc1.out.symm hc3.out ?_
  rw [hw1.out]
  clear c256 hBh hl
  go_wp2_with (fail)
  go_end0
  exact ⟨rfl, B1.out, G1.out⟩
end Go.Proofs.YtneiglhcfgnclaaDoor
