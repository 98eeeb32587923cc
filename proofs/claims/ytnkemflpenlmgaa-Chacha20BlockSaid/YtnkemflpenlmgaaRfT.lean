import Derived.Test.YtnkemflpenlmgaaRfW
import Derived.Test.YtnkemflpenlmgaaMix
import Derived.Test.YtnkemflpenlmgaaSl
namespace Go.Proofs.Ytnkemflpenlmgaa
open Go.RowKit
theorem zeroW (w : World) : (zeroValue 40).run Try.prog w = .ok (.agg (rowA .u32 (fun _ => 0) 16 0)) w := by kernel_rfl
theorem infoW {f : Nat → Nat} : (Try.prog.info? 40).map (·.size) = some (rowA .u32 f 16 16).size := by rw [rowA_size]; kernel_rfl
theorem four_infoW : (Try.prog.info? 40).map (·.size) = some four.size := by rw [four_is]; exact infoW
theorem infoW0 : (Try.prog.info? 40).map (·.size) = some (rowA .u32 (fun _ => 0) 16 0).size := by rw [rowA_size]; kernel_rfl
def tabW : Array Value := #[.int .i64 0, .int .i64 4, .int .i64 8, .int .i64 12, .int .i64 1, .int .i64 5, .int .i64 9, .int .i64 13, .int .i64 2, .int .i64 6, .int .i64 10, .int .i64 14, .int .i64 3, .int .i64 7, .int .i64 11, .int .i64 15, .int .i64 0, .int .i64 5, .int .i64 10, .int .i64 15, .int .i64 1, .int .i64 6, .int .i64 11, .int .i64 12, .int .i64 2, .int .i64 7, .int .i64 8, .int .i64 13, .int .i64 3, .int .i64 4, .int .i64 9, .int .i64 14]
abbrev Z32W : Array Value := #[.int .i64 0, .int .i64 0, .int .i64 0, .int .i64 0, .int .i64 0, .int .i64 0, .int .i64 0, .int .i64 0, .int .i64 0, .int .i64 0, .int .i64 0, .int .i64 0, .int .i64 0, .int .i64 0, .int .i64 0, .int .i64 0, .int .i64 0, .int .i64 0, .int .i64 0, .int .i64 0, .int .i64 0, .int .i64 0, .int .i64 0, .int .i64 0, .int .i64 0, .int .i64 0, .int .i64 0, .int .i64 0, .int .i64 0, .int .i64 0, .int .i64 0, .int .i64 0]
theorem zeroTabW (w : World) : (zeroValue 46).run Try.prog w = .ok (.agg #[.int .i64 0, .int .i64 0, .int .i64 0, .int .i64 0, .int .i64 0, .int .i64 0, .int .i64 0, .int .i64 0, .int .i64 0, .int .i64 0, .int .i64 0, .int .i64 0, .int .i64 0, .int .i64 0, .int .i64 0, .int .i64 0, .int .i64 0, .int .i64 0, .int .i64 0, .int .i64 0, .int .i64 0, .int .i64 0, .int .i64 0, .int .i64 0, .int .i64 0, .int .i64 0, .int .i64 0, .int .i64 0, .int .i64 0, .int .i64 0, .int .i64 0, .int .i64 0]) w := by kernel_rfl
theorem infoTabW : (Try.prog.info? 46).map (·.size) = some tabW.size := by kernel_rfl
theorem tabWOne : tabW.all (·.oneCell') = true := by simp [tabW, Value.oneCell']
theorem idxTabW (t : Nat) (ht : t < 8) : ∃ i j k l : Nat, Cc.T t = (i, j, k, l) ∧ (i < 16 ∧ j < 16 ∧ k < 16 ∧ l < 16) ∧ (i ≠ j ∧ i ≠ k ∧ i ≠ l ∧ j ≠ k ∧ j ≠ l ∧ k ≠ l) ∧
    ∀ W, (Instr.index 46 (.agg tabW) (.int .i64 t)).run Try.prog W = .ok (.agg #[.int .i64 i, .int .i64 j, .int .i64 k, .int .i64 l]) W := by
  match t, ht with
  | 0, _ => exact ⟨0, 4, 8, 12, rfl, by decide, by decide, fun W => by kernel_rfl⟩
  | 1, _ => exact ⟨1, 5, 9, 13, rfl, by decide, by decide, fun W => by kernel_rfl⟩
  | 2, _ => exact ⟨2, 6, 10, 14, rfl, by decide, by decide, fun W => by kernel_rfl⟩
  | 3, _ => exact ⟨3, 7, 11, 15, rfl, by decide, by decide, fun W => by kernel_rfl⟩
  | 4, _ => exact ⟨0, 5, 10, 15, rfl, by decide, by decide, fun W => by kernel_rfl⟩
  | 5, _ => exact ⟨1, 6, 11, 12, rfl, by decide, by decide, fun W => by kernel_rfl⟩
  | 6, _ => exact ⟨2, 7, 8, 13, rfl, by decide, by decide, fun W => by kernel_rfl⟩
  | 7, _ => exact ⟨3, 4, 9, 14, rfl, by decide, by decide, fun W => by kernel_rfl⟩
/-- the words while those of a text are read -/
def rwF (F : Nat → Nat) (m : Nat → Nat) (first k i : Nat) : Nat := if first ≤ i ∧ i < first + k then Cc.word m (i - first) else F i
theorem rwF_zero (F m : Nat → Nat) (first i : Nat) : rwF F m first 0 i = F i := by unfold rwF; rw [if_neg (by omega)]
theorem rwF_step {F m : Nat → Nat} {first k v : Nat} (hv : v = Cc.word m k) : (rowA .u32 (rwF F m first k) 16 16).setIfInBounds (first + k) (.int .u32 v) = rowA .u32 (rwF F m first (k + 1)) 16 16 := by
  rw [rowA_upd]
  apply rowA_congr
  intro i _
  unfold rwF
  by_cases hk : i = first + k
  · subst hk
    rw [if_pos rfl, if_pos ⟨by omega, by omega⟩, hv, Nat.add_sub_cancel_left]
  · rw [if_neg hk]
    by_cases hc : first ≤ i ∧ i < first + k
    · rw [if_pos hc, if_pos ⟨by omega, by omega⟩]
    · rw [if_neg hc, if_neg (by omega)]
structure RwR (w : World) (F : Nat → Nat) (wr : World) : Prop where
  row : Blk wr w.heap.size 40 (rowA .u32 F 16 16)
  bel : Below w.heap.size w wr
theorem RwR.after {w wr w2 : World} {F : Nat → Nat} (R : RwR w F wr) (hb : Below wr.heap.size wr w2) : RwR w F w2 := ⟨R.row.below hb R.row.lt, R.bel.trans (hb.mono R.bel.size)⟩
theorem RwR.set {w wr : World} {F : Nat → Nat} (R : RwR w F wr) (i v : Nat) : RwR w (fun n => if n = i then v else F n) (wr.setCell ⟨w.heap.size, i, none⟩ (.int .u32 v)) :=
  ⟨by have := R.row.set_ i (.int .u32 v); rwa [rowA_upd] at this, R.bel.setCell (Nat.le_refl _) _⟩
theorem RwR.step {w wr : World} {F m : Nat → Nat} {first k v : Nat} (R : RwR w (rwF F m first k) wr) (hv : v = Cc.word m k) : RwR w (rwF F m first (k + 1)) (wr.setCell ⟨w.heap.size, first + k, none⟩ (.int .u32 v)) :=
  ⟨by have := R.row.set_ (first + k) (.int .u32 v); rwa [rwF_step hv] at this, R.bel.setCell (Nat.le_refl _) _⟩
theorem rw_start (w : World) : RwR w c4F ((w.alloc (.cells (rowA .u32 (fun _ => 0) 16 0) 40)).setRow w.heap.size four) :=
  ⟨by rw [four_is]; exact setRow_heap _ _ _ _ _ _ (Blk.new w _ _), below_setRow ((Below.refl _ _).alloc (Nat.le_refl _) _) (Nat.le_refl _) _⟩
theorem RwR.congr {w wr : World} {F G : Nat → Nat} (R : RwR w F wr) (h : ∀ i, i < 16 → F i = G i) : RwR w G wr := ⟨by rw [← rowA_congr h]; exact R.row, R.bel⟩
theorem rw_fin (ks ns : List Nat) (c i : Nat) (h : i < 16) : rwF (fun n => if n = 12 then c else rwF c4F (fun k => ks.getD k 0) 4 8 n) (fun k => ns.getD k 0) 13 3 i = (Cc.init ks ns c).getD i 0 := by
  rw [init_get _ _ _ _ h]
  unfold rwF
  by_cases h13 : 13 ≤ i
  · rw [if_pos ⟨h13, by omega⟩, if_pos h13]
  · rw [if_neg (by omega), if_neg h13]
    show (if i = 12 then c else if 4 ≤ i ∧ i < 4 + 8 then Cc.word (fun k => ks.getD k 0) (i - 4) else c4F i) = _
    by_cases h12 : i = 12
    · rw [if_pos h12, if_pos h12]
    · rw [if_neg h12, if_neg h12]
      by_cases h4 : 4 ≤ i
      · rw [if_pos ⟨h4, by omega⟩, if_pos h4]
      · rw [if_neg (by omega), if_neg h4]
structure RxR (w : World) (B : Nat) (fx : Nat → Nat) (S : List Nat) (wr : World) : Prop where
  fst : Blk wr w.heap.size 40 (rowA .u32 fx 16 16)
  tab : Blk wr B 46 tabW
  x : Blk wr (B + 1) 40 (rowA .u32 (fun k => S.getD k 0) 16 16)
  bel : Below w.heap.size w wr
  lt : w.heap.size < B
theorem rx_mid {w wr : World} {fx : Nat → Nat} (R : RwR w fx wr) : Blk ((wr.alloc (.cells Z32W 46)).setRow wr.heap.size tabW) w.heap.size 40 (rowA .u32 fx 16 16) :=
  (setRow_other _ _ _ _ (by have := R.row.lt; omega)).trans (R.row.alloc _)
theorem rx_new (wr : World) : Blk (((wr.alloc (.cells Z32W 46)).setRow wr.heap.size tabW).alloc (.cells (rowA .u32 (fun _ => 0) 16 0) 40)) (wr.heap.size + 1) 40 (rowA .u32 (fun _ => 0) 16 0) := by
  have := Blk.new ((wr.alloc (.cells Z32W 46)).setRow wr.heap.size tabW) 40 (rowA .u32 (fun _ => 0) 16 0)
  rwa [show ((wr.alloc (.cells Z32W 46)).setRow wr.heap.size tabW).heap.size = wr.heap.size + 1 by simp] at this
theorem rx_start {w wr : World} {fx : Nat → Nat} {X : List Nat} (R : RwR w fx wr) (hf : (fun i => X.getD i 0) = fx) :
    RxR w wr.heap.size fx X ((((wr.alloc (.cells Z32W 46)).setRow wr.heap.size tabW).alloc (.cells (rowA .u32 (fun _ => 0) 16 0) 40)).setRow (wr.heap.size + 1) (rowA .u32 fx 16 16)) := by
  have hlt := R.row.lt
  refine ⟨(setRow_other _ _ _ _ (by omega)).trans ((rx_mid R).alloc _), (setRow_other _ _ _ _ (by omega)).trans (Blk.alloc (setRow_heap _ _ _ _ _ _ (Blk.new wr _ _)) _), ?_, ?_, hlt⟩
  · rw [hf]; exact setRow_heap _ _ _ _ _ _ (rx_new wr)
  · refine below_setRow (Below.alloc (below_setRow (R.bel.alloc R.bel.size _) (by omega) _) (by simp; have := R.bel.size; omega) _) (by omega) _
theorem RxR.drewN {w wr : World} {B : Nat} {fx : Nat → Nat} {S : List Nat} (R : RxR w B fx S wr) (n : Nat) : RxR w B fx S (wr.drewN n) := ⟨R.fst.drewN n, R.tab.drewN n, R.x.drewN n, below_drewN R.bel n, R.lt⟩
theorem RxR.alloc {w wr : World} {B : Nat} {fx : Nat → Nat} {S : List Nat} (R : RxR w B fx S wr) (o : Obj) : RxR w B fx S (wr.alloc o) := ⟨R.fst.alloc o, R.tab.alloc o, R.x.alloc o, R.bel.alloc R.bel.size o, R.lt⟩
theorem RxR.step {w wq : World} {B : Nat} {fx : Nat → Nat} {S : List Nat} (R : RxR w B fx S wq) {i j k l : Nat} (_hi : i < 16) (_hj : j < 16) (_hk : k < 16) (_hl : l < 16) (a b c d : Nat) (hS : S.length = 16) :
    RxR w B fx (Cc.put4 S (i, j, k, l) ⟨a, b, c, d⟩) ((((wq.setCell ⟨B + 1, i, none⟩ (.int .u32 a)).setCell ⟨B + 1, j, none⟩ (.int .u32 b)).setCell ⟨B + 1, k, none⟩ (.int .u32 c)).setCell ⟨B + 1, l, none⟩ (.int .u32 d)) := by
  have hlt := R.lt
  refine ⟨?_, ?_, ?_, ?_, hlt⟩
  · have h : ∀ q, w.heap.size ≠ (⟨B + 1, q, none⟩ : Addr).block := fun q => by show _ ≠ B + 1; omega
    exact (((R.fst.far (h i) _).far (h j) _).far (h k) _).far (h l) _
  · have h : ∀ q, B ≠ (⟨B + 1, q, none⟩ : Addr).block := fun q => by show _ ≠ B + 1; omega
    exact (((R.tab.far (h i) _).far (h j) _).far (h k) _).far (h l) _
  · have h := (((R.x.set_ i (.int .u32 a)).set_ j (.int .u32 b)).set_ k (.int .u32 c)).set_ l (.int .u32 d)
    rw [rowA_upd, rowA_upd, rowA_upd, rowA_upd] at h
    rw [rowA_congr (g := fun n => if n = l then d else if n = k then c else if n = j then b else if n = i then a else S.getD n 0) (fun n hn => ?_)]
    · exact h
    · show ((((S.set i a).set j b).set k c).set l d).getD n 0 = _
      rw [getD_set _ _ _ _ (by simp only [List.length_set]; omega), getD_set _ _ _ _ (by simp only [List.length_set]; omega), getD_set _ _ _ _ (by simp only [List.length_set]; omega), getD_set _ _ _ _ (by omega)]
  · have h : ∀ q, w.heap.size ≤ (⟨B + 1, q, none⟩ : Addr).block := fun q => by show _ ≤ B + 1; omega
    exact (((R.bel.setCell (h i) _).setCell (h j) _).setCell (h k) _).setCell (h l) _
theorem RxR.below {w wr w2 : World} {B : Nat} {fx : Nat → Nat} {S : List Nat} (R : RxR w B fx S wr) {N : Nat} (hb : Below N wr w2) (h1 : B + 1 < N) : RxR w B fx S w2 :=
  ⟨R.fst.below hb (by have := R.lt; omega), R.tab.below hb (by omega), R.x.below hb h1, R.bel.trans (hb.mono (by have := R.lt; omega)), R.lt⟩
theorem block_take (X : List Nat) (k : Nat) (hk : k < 16) : (Cc.block X).take (4 * (k + 1)) = (Cc.block X).take (4 * k) ++ [Cc.byt (Cc.sumw X k) 0, Cc.byt (Cc.sumw X k) 1, Cc.byt (Cc.sumw X k) 2, Cc.byt (Cc.sumw X k) 3] := by
  unfold Cc.block
  rw [← List.map_take, ← List.map_take, List.take_range, List.take_range, Nat.min_eq_left (by omega), Nat.min_eq_left (by omega), show 4 * (k + 1) = 4 * k + 1 + 1 + 1 + 1 by omega,
    List.range_succ, List.range_succ, List.range_succ, List.range_succ]
  simp only [List.map_append, List.map_cons, List.map_nil, List.append_assoc, List.cons_append, List.nil_append]
  rw [show (4 * k) / 4 = k by omega, show (4 * k) % 4 = 0 by omega, show (4 * k + 1) / 4 = k by omega, show (4 * k + 1) % 4 = 1 by omega, show (4 * k + 1 + 1) / 4 = k by omega, show (4 * k + 1 + 1) % 4 = 2 by omega, show (4 * k + 1 + 1 + 1) / 4 = k by omega, show (4 * k + 1 + 1 + 1) % 4 = 3 by omega]
end Go.Proofs.Ytnkemflpenlmgaa
