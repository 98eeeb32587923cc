import Derived.Test.YtlpggkdmjmlpkaaDq0
namespace Go.Proofs.Ytlpggkdmjmlpkaa
open Go.RowKit
/-- block b begins with these bytes -/
def RB (w : World) (b : Nat) (bs : List Nat) : Prop := ∃ cs, Blk w b 5 cs ∧ cs.toList.take bs.length = vals bs
theorem RB.lt {w : World} {b : Nat} {bs : List Nat} (h : RB w b bs) : b < w.heap.size := by obtain ⟨cs, h1, _⟩ := h; exact h1.lt
theorem RB.keep {w w' : World} {b : Nat} {bs : List Nat} (h : RB w b bs) (hb : w'.heap[b]? = w.heap[b]?) : RB w' b bs := by obtain ⟨cs, h1, h2⟩ := h; exact ⟨cs, hb.trans h1, h2⟩
theorem RB.bytes {w : World} {b : Nat} {bs : List Nat} (h : RB w b bs) : Bytes w (some ⟨b, 0, none⟩) bs := by
  obtain ⟨cs, h1, h2⟩ := h
  intro i hi
  refine ⟨b, 0, rfl, ?_⟩
  rw [h1.cell, Nat.zero_add]
  have h3 : (vals bs)[i]? = some (.int .u8 (bs.getD i 0 : Nat)) := by simp [vals, List.getD, hi]
  rw [← h2, List.getElem?_take, if_pos hi, Array.getElem?_toList] at h3
  exact h3
theorem RB.ne {w : World} {b q : Nat} {t : TypeId} {bs : List Nat} {cs : Array Value} (h : RB w b bs) (k : Blk w q t cs) (ht : t ≠ 5) : b ≠ q := by obtain ⟨c, h1, _⟩ := h; exact blk_ne h1 k (fun e => ht e.symm)
theorem rowb_list (bs : List Nat) : (rowb bs).toList.take bs.length = vals bs := by
  unfold rowb
  rw [List.take_of_length_le (by rw [Array.length_toList, rowA_size]; exact Nat.le_refl _)]
  apply List.ext_getElem?
  intro i
  rw [Array.getElem?_toList]
  by_cases h : i < bs.length
  · rw [rowA_all _ _ _ _ h]; simp [vals, List.getD, h]
  · rw [Array.getElem?_eq_none (by rw [rowA_size]; omega), List.getElem?_eq_none (by rw [vals_len]; omega)]
theorem BB.rb {w : World} {b : Nat} {bs : List Nat} (h : BB w b bs) : RB w b bs := ⟨_, h, rowb_list bs⟩
/-- the slices of the durable sectors -/
def rcl (Q C : Nat → Nat) (size n : Nat) : List Value := (List.range n).map fun i => .slice (some ⟨Q i, 0, none⟩) size (C i)
theorem rcl_snoc (Q C : Nat → Nat) (size n : Nat) : rcl Q C size (n + 1) = rcl Q C size n ++ [.slice (some ⟨Q n, 0, none⟩) size (C n)] := by simp [rcl, List.range_succ]
theorem rcl_congr {Q Q' C C' : Nat → Nat} {size n : Nat} (h : ∀ i, i < n → Q i = Q' i ∧ C i = C' i) : rcl Q C size n = rcl Q' C' size n := by
  unfold rcl
  apply List.map_congr_left
  intro i hi
  obtain ⟨e1, e2⟩ := h i (List.mem_range.1 hi)
  rw [e1, e2]
theorem rcl_get (Q C : Nat → Nat) (size n i : Nat) (h : i < n) : (rcl Q C size n)[i]? = some (.slice (some ⟨Q i, 0, none⟩) size (C i)) := by simp [rcl, h]
/-- a row's slice, and its cells -/
theorem own_cells {w : World} {base n : Nat} {t : TypeId} {v : Value} {xs : List Value} (h : w.ownsRow base t 1 v n xs) : ∃ a c, v = .slice a n c ∧ n ≤ c ∧ ∀ i u, i < n → xs[i]? = some u → ∃ b, a = some ⟨b, 0, none⟩ ∧ v.ownBlock = some b ∧ w.cell? ⟨b, i, none⟩ = some u ∧ w.frozen? ⟨b, i, none⟩ = false := by
  rcases h.2 with ⟨hv, h0⟩ | ⟨b, cap, cur, hv, _, hg, hle, _, _, htk⟩
  · exact ⟨none, 0, by rw [hv, h0], by omega, fun i u hi => by omega⟩
  · refine ⟨_, cap, hv, hle, fun i u hi hx => ⟨b, rfl, by rw [hv]; rfl, ?_, Blk.frozen hg i⟩⟩
    rw [← htk, List.getElem?_take, if_pos (by omega)] at hx
    rw [cell_of_row w b i _ _ _ hg, ← hx, Array.getElem?_toList]
/-- the reference's disk in the block g -/
structure RefX (w : World) (g : Nat) (dv lv : Value) (Q C P PC : Nat → Nat) (D : Dsk) : Prop where
  wf : D.WF
  blk : Blk w g 34 #[.int .i64 (D.size : Int), dv, lv, .bool D.down, .int .i64 D.left]
  row : w.ownsRow 0 39 1 dv D.n (rcl Q C D.size D.n)
  sec : ∀ i, i < D.n → RB w (Q i) (D.dur i)
  cap : ∀ i, i < D.n → D.size ≤ C i
  own : w.ownsRow 0 73 2 lv D.np ((List.range D.np).flatMap fun j => [.int .i64 (D.ps j : Int), .slice (some ⟨P j, 0, none⟩) D.size (PC j)])
  pen : ∀ j, j < D.np → RB w (P j) (D.pb j)
  pcap : ∀ j, j < D.np → D.size ≤ PC j
  inj : ∀ i k, i < D.n → k < D.n → Q i = Q k → i = k
  dis : ∀ i j, i < D.n → j < D.np → Q i ≠ P j
/-- the blocks of the reference's disk -/
def RF (g : Nat) (dv lv : Value) (Q P : Nat → Nat) (n np : Nat) (b : Nat) : Prop := b = g ∨ dv.ownBlock = some b ∨ lv.ownBlock = some b ∨ (∃ i, i < n ∧ Q i = b) ∨ ∃ j, j < np ∧ P j = b
def RK (w : World) (S : Nat → Prop) (g : Nat) (D : Dsk) : Prop := (∃ dv lv Q C P PC, RefX w g dv lv Q C P PC D ∧ ∀ b, RF g dv lv Q P D.n D.np b → S b) ∧ ∀ b, S b → b < w.heap.size
theorem step_snoc_sl (w : World) {ops : Array Oper} {o : Oper} {act : Act} {K : Act → World → Prop} {Q : Exit → Act → World → Prop} {E : Prop} (hgd : o.guard = none) (s x : Operand)
    (ho : o.op = .call { callee := .builtin .append, args := #[s, x], argTypes := #[30, 30] })
    (base : Nat) (v : Value) (n : Nat) (xs : List Value) (hs : act.eval s = v) (hown : w.ownsRow base 39 1 v n xs)
    (q : Nat) (u : Value) (hx : act.eval x = .slice (some ⟨q, 0, none⟩) 1 1) (hc : w.cell? ⟨q, 0, none⟩ = some u) (hu : u.oneCell' = true) (hbig : n ≤ 1000000000) (hbase : base ≤ w.heap.size)
    (h : ∀ v' w', w'.ownsRow base 39 1 v' (n + 1) (xs ++ [u]) → w.grownBy w' v.ownBlock → (v'.ownBlock = v.ownBlock ∨ v'.ownBlock = some w.heap.size) → K (act.put o.dst v') w') :
    if Region.wanted o (yielded ops act.tmps) = true then Oper.wp Try.prog o act w K Q else E := by
  have hw : Region.wanted o (yielded ops act.tmps) = true := by simp [Region.wanted, hgd]
  rw [if_pos hw]
  obtain ⟨i0, hi, hz0, hz1, hz2⟩ := info_parts infoSl
  obtain ⟨v', w', hr, h2, h3, _, h5⟩ := run_append_own_at (P := Try.prog) w base 30 o.type 39 i0 (.slice none 0 0) 1 24 Try.underlying30 hi hz0 hz1 hz2 rfl (by decide) v n xs hown ⟨q, 0, none⟩ 1 1 [u] rfl (fun j y hy => by
    match j, hy with
    | 0, hy => simp at hy; subst hy; exact hc) (fun y hy => by simp at hy; subst hy; exact hu) (by unfold maxLen; omega) (by omega) hbase
  unfold Oper.wp execOp
  simp only [ho, resolve, invoke, builtin, Sem.run_bind, Sem.run_pure, Result.andThen_ok, List.map_toArray, List.map_cons, List.map_nil, hs, hx, hr]
  exact h v' w' h2 h3 h5
/-- the reference's disk with k of its sectors -/
structure RN (w w' : World) (g : Nat) (dv : Value) (Q : Nat → Nat) (z k : Nat) : Prop where
  blk : Blk w' g 34 #[.int .i64 (z : Int), dv, .slice none 0 0, .bool false, .int .i64 (-1)]
  row : w'.ownsRow w.heap.size 39 1 dv k (rcl Q (fun _ => z) z k)
  sec : ∀ i, i < k → BB w' (Q i) (List.replicate z 0) ∧ w.heap.size ≤ Q i
  inj : ∀ i j, i < k → j < k → Q i = Q j → i = j
  g : w.heap.size ≤ g
  bel : Below w.heap.size w w'
theorem RN.below {w w' w'' : World} {g : Nat} {dv : Value} {Q : Nat → Nat} {z k : Nat} (h : RN w w' g dv Q z k) (hb : Below w'.heap.size w' w'') : RN w w'' g dv Q z k :=
  ⟨h.blk.below hb h.blk.lt, own_belowA h.row hb, fun i hi => ⟨Blk.below (h.sec i hi).1 hb (Blk.lt (h.sec i hi).1), (h.sec i hi).2⟩, h.inj, h.g, below_then h.bel hb⟩
theorem RN.put {w w' w1 w2 : World} {g : Nat} {dv dv' : Value} {Q : Nat → Nat} {z k q : Nat} (h : RN w w' g dv Q z k) (hb : Below w'.heap.size w' w1) (hq : BB w1 q (List.replicate z 0)) (hql : w'.heap.size ≤ q)
    (ho : w2.ownsRow w.heap.size 39 1 dv' (k + 1) (rcl Q (fun _ => z) z k ++ [.slice (some ⟨q, 0, none⟩) z z])) (hg : w1.grownBy w2 dv.ownBlock) :
    w2.cell? ⟨g, 1, none⟩ = some dv ∧ w2.frozen? ⟨g, 1, none⟩ = false ∧ RN w (w2.setCell ⟨g, 1, none⟩ dv') g dv' (fun i => if i = k then q else Q i) z (k + 1) := by
  have h1 := h.below hb
  have gne : some g ≠ dv.ownBlock := fun e => by
    obtain ⟨cs, hc⟩ := own_blk h1.row e.symm
    exact blk_ne hc h1.blk (by decide) rfl
  have hgb := hg.block g h1.blk.lt gne
  have hB2 : Blk w2 g _ _ := hgb.trans h1.blk
  have keep : ∀ {b bs}, BB w1 b bs → BB (w2.setCell ⟨g, 1, none⟩ dv') b bs := fun {b bs} hb => by
    refine Blk.far ((hg.block b (Blk.lt hb) (fun e => ?_)).trans hb) (blk_ne hb h1.blk (by decide)) _
    obtain ⟨cs, hc⟩ := own_blk h1.row e.symm
    exact blk_ne hb hc (by decide) rfl
  refine ⟨(hB2.cell 1).trans rfl, hB2.frozen 1, ⟨hB2.set_ 1 dv', ?_, fun i hi => ?_, fun i j hi hj => ?_, h.g, (h1.bel.grown hg h1.bel.size (fun b e => (own_lo h1.row e).1)).setCell h.g _⟩⟩
  · rw [rcl_snoc, if_pos rfl, rcl_congr (Q' := Q) (C' := fun _ => z) (fun i hi => ⟨if_neg (by omega), rfl⟩)]
    exact own_blocks ho fun b e => Below.heap_setCell _ _ _ _ (by
      show b ≠ g
      obtain ⟨cs, hc⟩ := own_blk ho e
      exact blk_ne hc hB2 (by decide))
  · show BB _ (if i = k then q else Q i) _ ∧ _ ≤ (if i = k then q else Q i)
    by_cases e : i = k
    · rw [if_pos e]; exact ⟨keep hq, Nat.le_trans h.bel.size hql⟩
    · rw [if_neg e]; exact ⟨keep (h1.sec i (by omega)).1, (h1.sec i (by omega)).2⟩
  · show (if i = k then q else Q i) = (if j = k then q else Q j) → _
    by_cases e : i = k
    · by_cases e' : j = k
      · intro _; omega
      · rw [if_pos e, if_neg e']
        intro e2
        have := Blk.lt (h.sec j (by omega)).1
        omega
    · by_cases e' : j = k
      · rw [if_neg e, if_pos e']
        intro e2
        have := Blk.lt (h.sec i (by omega)).1
        omega
      · rw [if_neg e, if_neg e']
        exact h.inj i j (by omega) (by omega)
theorem RN.rx {w w' : World} {g : Nat} {dv : Value} {Q : Nat → Nat} {z k : Nat} (h : RN w w' g dv Q z k) (h1 : 1 ≤ k) (h2 : k ≤ 65536) (h3 : 1 ≤ z) (h4 : z ≤ 4096) : RefX w' g dv (.slice none 0 0) Q (fun _ => z) (fun _ => 0) (fun _ => 0) (Dsk.fresh k z) := by
  refine ⟨Dsk.fresh_wf h1 h2 h3 h4, h.blk, ⟨h.row.1, ?_⟩, fun i hi => (h.sec i hi).1.rb, fun i _ => Nat.le_refl _, World.ownsRow_nil _ _ _ _, fun j hj => absurd hj (Nat.not_lt_zero _), fun j hj => absurd hj (Nat.not_lt_zero _), h.inj, fun i j _ hj => absurd hj (Nat.not_lt_zero _)⟩
  rcases h.row.2 with a | ⟨b, c, cur, a1, _, a3⟩
  · exact .inl a
  · exact .inr ⟨b, c, cur, a1, Nat.zero_le _, a3⟩
set_option maxRecDepth 100000 in
set_option maxHeartbeats 2000000 in
theorem refnew_any (n z : Nat) (hn : n ≤ 65536) (hz : z ≤ 4096) (w : World) :
    Calls Try.prog 20 #[.int .i64 (n : Int), .int .i64 (z : Int)] w fun e w' => ∃ g dv Q, e = .returned (.pointer (some ⟨g, 0, none⟩)) ∧ RN w w' g dv Q z n := by
  have hN0 : Hid (RN w (w.alloc (.cells #[.int .i64 (z : Int), .slice none 0 0, .slice none 0 0, .bool false, .int .i64 (-1)] 34)) w.heap.size (.slice none 0 0) (fun _ => 0) z 0) := ⟨Blk.new w _ _, World.ownsRow_nil _ _ _ _, fun i hi => absurd hi (Nat.not_lt_zero _), fun i j hi => absurd hi (Nat.not_lt_zero _), Nat.le_refl _, (Below.refl _ _).alloc (Nat.le_refl _) _⟩
  obtain ⟨g, hg⟩ : ∃ g, Hid (w.heap.size = g) := ⟨_, rfl⟩
  go_enter Try.func20, Try.ntmps20
  go_wp2_with (fail)
  rw [hg.out]
  go_loopw [6] (fun i wr => ∃ k : Nat, i = .int .i64 (k : Int) ∧ k ≤ n ∧ Hid (∃ dv Q, RN w wr g dv Q z k)) (fun i _ => n - (intOf i).toNat)
  case atStart => exact ⟨0, rfl, by omega, _, _, by have := hN0.out; rw [hg.out] at this; exact this⟩
  case round =>
    obtain ⟨k, rfl, hk, hr⟩ := hrel
    obtain ⟨dv, Q, hR⟩ := hr.out
    clear hr hN0
    by_cases hkn : k < n
    · have t1 : (k : Int) < (n : Int) := by omega
      have hmk := makeLen z (by omega) wr
      have hmk2 := makeLen z (by omega) wr.drew
      have f1 := (hR.blk.cell 1).trans (show _ = some dv from rfl)
      obtain ⟨W1, hW1, bW1⟩ : ∃ W1, Hid (wr.alloc (.cells (rowA .u8 (fun _ => 0) z 0) 5) = W1) ∧ Below wr.heap.size wr (wr.alloc (.cells (rowA .u8 (fun _ => 0) z 0) 5)) := ⟨_, rfl, (Below.refl _ _).alloc (Nat.le_refl _) _⟩
      have f2 := (bW1.cell (p := ⟨g, 1, none⟩) (bytes_lt f1)).trans f1
      have bW2 := bW1.alloc bW1.size (.cells #[.slice (some ⟨wr.heap.size, 0, none⟩) z z] 39)
      have f3 := (bW2.cell (p := ⟨g, 1, none⟩) (bytes_lt f1)).trans f1
      have hq : BB ((wr.alloc (.cells (rowA .u8 (fun _ => 0) z 0) 5)).alloc (.cells #[.slice (some ⟨wr.heap.size, 0, none⟩) z z] 39)) wr.heap.size (List.replicate z 0) := by
        refine Blk.alloc ?_ _
        show Blk _ _ _ _
        rw [← rowb_zero]
        exact Blk.new wr _ _
      have hrow := hidIt (own_belowA hR.row bW2)
      have hnw : ((wr.alloc (.cells (rowA .u8 (fun _ => 0) z 0) 5)).alloc (.cells #[.slice (some ⟨wr.heap.size, 0, none⟩) z z] 39)).cell? ⟨wr.heap.size + 1, 0, none⟩ = some (.slice (some ⟨wr.heap.size, 0, none⟩) z z) := by
        have h := (Blk.new (wr.alloc (.cells (rowA .u8 (fun _ => 0) z 0) 5)) 39 #[.slice (some ⟨wr.heap.size, 0, none⟩) z z]).cell 0
        rw [World.size_alloc] at h
        exact h.trans rfl
      have hput : Hid (∀ (w2 w2' : World) (dv' : Value), w2.ownsRow w.heap.size 39 1 dv' (k + 1) (rcl Q (fun _ => z) z k ++ [.slice (some ⟨wr.heap.size, 0, none⟩) z z]) → w2'.grownBy w2 dv.ownBlock → w2'.heap = ((wr.alloc (.cells (rowA .u8 (fun _ => 0) z 0) 5)).alloc (.cells #[.slice (some ⟨wr.heap.size, 0, none⟩) z z] 39)).heap → w2'.os = wr.os → w2'.tape = wr.tape → w2'.output = wr.output → w2.cell? ⟨g, 1, none⟩ = some dv ∧ w2.frozen? ⟨g, 1, none⟩ = false ∧ RN w (w2.setCell ⟨g, 1, none⟩ dv') g dv' (fun i => if i = k then wr.heap.size else Q i) z (k + 1)) := fun w2 w2' dv' ho hg e1 e2 e3 e4 => by
        have hb : Below wr.heap.size wr w2' := ⟨e2, e3, e4, by rw [e1]; exact bW2.size, fun i hi => by rw [e1]; exact bW2.block i hi⟩
        have hq2 : BB w2' wr.heap.size (List.replicate z 0) := by show w2'.heap[_]? = _; rw [e1]; exact hq
        exact hR.put hb hq2 (Nat.le_refl _) ho hg
      have hbs : Hid (w.heap.size ≤ ((wr.alloc (.cells (rowA .u8 (fun _ => 0) z 0) 5)).alloc (.cells #[.slice (some ⟨wr.heap.size, 0, none⟩) z z] 39)).heap.size) := Nat.le_trans hR.bel.size bW2.size
      clear hR hq bW1 bW2
      go_wp2_with (fail)
      go_region_law (refine step_snoc_sl _ rfl (.tmp 19) (.tmp 22) rfl w.heap.size dv k (rcl Q (fun _ => z) z k) (by simp [Act.eval]) hrow.out (wr.heap.size + 1) (.slice (some ⟨wr.heap.size, 0, none⟩) z z) (by simp [Act.eval]) hnw rfl (by omega) hbs.out ?_; intro v5 w5 ho5 hg5 _; obtain ⟨p5, p6, hP⟩ := hput.out _ _ _ ho5 hg5 rfl rfl rfl rfl; replace hP := hidIt hP; obtain ⟨b5, c5, rfl⟩ := own_shape ho5; clear ho5 hg5)
      all_goals first
        | exact ⟨⟨k + 1, by go_num, by omega, _, _, hP.out⟩, by simp [intOf]; omega⟩
        | (go_wp2_with (fail)
           exact ⟨⟨k + 1, by go_num, by omega, _, _, hP.out⟩, by simp [intOf]; omega⟩)
    · have hkn' : k = n := by omega
      have t1 : ¬ (k : Int) < (n : Int) := by omega
      have hR' := hidIt hR
      clear hR
      go_wp2_with (fail)
      go_ret
      rw [hkn'] at hR'
      first
        | exact ⟨g, rfl, dv, Q, hR'.out⟩
        | exact ⟨g, dv, Q, rfl, hR'.out⟩
end Go.Proofs.Ytlpggkdmjmlpkaa
