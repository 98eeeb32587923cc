import Derived.Test.YtlpggkdmjmlpkaaRf1
import Derived.Test.YtlpggkdmjmlpkaaAppB
import Derived.Test.YtlpggkdmjmlpkaaSl
import Derived.Maps.AppendAt
namespace Go.Proofs.Ytlpggkdmjmlpkaa
open Go.RowKit
/-- append of bytes at a step of a region that draws -/
theorem step_app_bytes (w : World) {ops : Array Oper} {o : Oper} {act : Act} {K : Act → World → Prop} {Q : Exit → Act → World → Prop} {E : Prop} (hgd : o.guard = none) (s x : Operand)
    (ho : o.op = .call { callee := .builtin .append, args := #[s, x], argTypes := #[39, 39] })
    (base : Nat) (v : Value) (n : Nat) (xs : List Nat) (hs : act.eval s = v) (hown : w.ownsRow base 5 1 v n (vals xs))
    (a : Option Addr) (len cap : Nat) (bs : List Nat) (hx : act.eval x = .slice a len cap) (hl : len = bs.length) (hb : Bytes w a bs) (hnil : a = none → cap = 0 ∧ bs = []) (hbig : n + bs.length ≤ 140737488355328) (hbase : base ≤ w.heap.size)
    (h : ∀ v' w', w'.ownsRow base 5 1 v' (n + bs.length) (vals (xs ++ bs)) → w.grownBy w' v.ownBlock → K (act.put o.dst v') w') :
    if Region.wanted o (yielded ops act.tmps) = true then Oper.wp Try.prog o act w K Q else E := by
  have hw : Region.wanted o (yielded ops act.tmps) = true := by simp [Region.wanted, hgd]
  rw [if_pos hw]
  subst hl
  obtain ⟨i0, hi, hz0, hz1, hz2⟩ := info_parts info5
  match a, hb, hnil, hx with
  | none, _, hnil, hx =>
    obtain ⟨rfl, rfl⟩ := hnil rfl
    have hrun := run_append_owned_none (P := Try.prog) (w := w) base 39 o.type 5 i0 1 Try.underlying39 hi v n (vals xs) hown
    have hx' : act.eval x = .slice none 0 0 := hx
    unfold Oper.wp
    simp only [execOp, ho, resolve, invoke, builtin, Sem.run_bind, Sem.run_pure, Result.andThen_ok, List.map_toArray, List.map_cons, List.map_nil, hs, hx', hrun]
    exact h v w (by simpa [vals] using hown) (g_refl _ _)
  | some y, hb, _, hx =>
    exact wp_append_own w s x 39 ho base 5 i0 (.int .u8 0) 1 1 Try.underlying39 hi hz0 hz1 hz2 rfl (by decide) v n (vals xs) hs hown y bs.length cap (vals bs) hx (by simp [vals]) (bytes_cells hb) vals_one (by unfold maxLen; omega) (by omega) hbase (fun v' w' h1 h2 _ => h v' w' (by rw [← vals_append]; exact h1) h2)
theorem own_rb {w : World} {base n : Nat} {v : Value} {bs : List Nat} (h : w.ownsRow base 5 1 v n (vals bs)) (hn : 1 ≤ n) : ∃ b c, v = .slice (some ⟨b, 0, none⟩) n c ∧ base ≤ b ∧ b < w.heap.size ∧ n ≤ c ∧ RB w b bs := by
  have hl := owned_row h
  rcases h.2 with ⟨_, h0⟩ | ⟨b, cap, cur, e, hb, hg, hle, _, _, ht⟩
  · omega
  · refine ⟨b, cap, e, hb, Blk.lt hg, hle, cur, hg, ?_⟩
    rw [← hl]
    rw [Nat.mul_one] at ht
    exact ht
/-- a cell of a row was stored -/
theorem own_set {w : World} {base b n c k : Nat} {t : TypeId} {xs : List Value} (h : w.ownsRow base t 1 (.slice (some ⟨b, 0, none⟩) n c) n xs) (v : Value) : (w.setCell ⟨b, k, none⟩ v).ownsRow base t 1 (.slice (some ⟨b, 0, none⟩) n c) n (xs.set k v) := by
  refine ⟨by rw [List.length_set]; exact h.1, ?_⟩
  rcases h.2 with ⟨h0, _⟩ | ⟨b', cap, cur, e, hb, hg, hle, hm, hs, ht⟩
  · cases h0
  · cases e
    refine .inr ⟨b, c, _, rfl, hb, Blk.set_ (show Blk w b t cur from hg) k v, hle, hm, by rw [Array.size_setIfInBounds]; exact hs, ?_⟩
    rw [Array.toList_setIfInBounds, List.take_set, ht]
theorem rcl_set (Q C : Nat → Nat) (z n s b c : Nat) : (rcl Q C z n).set s (.slice (some ⟨b, 0, none⟩) z c) = rcl (fun i => if i = s then b else Q i) (fun i => if i = s then c else C i) z n := by
  apply List.ext_getElem?
  intro i
  rw [List.getElem?_set]
  by_cases hi : i < n
  · rw [rcl_get (fun i => if i = s then b else Q i) (fun i => if i = s then c else C i) z n i hi, rcl_get Q C z n i hi]
    by_cases e : s = i
    · have e' : i = s := e.symm
      rw [if_pos e, if_pos (by simp [rcl]; omega)]; simp [e']
    · have e' : ¬ i = s := fun x => e x.symm
      rw [if_neg e]; simp [e']
  · rw [List.getElem?_eq_none (l := rcl _ _ _ _) (by simp [rcl]; omega), List.getElem?_eq_none (l := rcl _ _ _ _) (by simp [rcl]; omega)]
    by_cases e : s = i
    · rw [if_pos e, if_neg (by simp [rcl]; omega)]
    · rw [if_neg e]
theorem sliceTailE (b off n cap k : Nat) (h : k ≤ n) (hc : n ≤ cap) : ∃ o, (∀ W : World, (Instr.slice 39 (.slice (some ⟨b, off, none⟩) n cap) (some (.int .i64 (k : Int))) none none).run Try.prog W = .ok (.slice (some ⟨b, o, none⟩) (n - k) (cap - k)) W) ∧ (k < n → o = off + k) := by
  refine ⟨if cap - k = 0 then off else off + k, fun W => ?_, fun hk => if_neg (by omega)⟩
  have h := run_slice_l W 39 (some ⟨b, off, none⟩) n cap (P := Try.prog) (by kernel_rfl) .i64 (k : Int) (by omega) (by omega)
  rw [h]
  have e2 : (sizeOf (Try.prog.elem 39)).run Try.prog W = .ok 1 W := by kernel_rfl
  rw [e2]
  simp only [Result.andThen, sliced, Int.toNat_natCast]
  by_cases hz : cap - k = 0
  · rw [if_pos hz, if_pos (by omega)]
  · rw [if_neg hz, if_neg (by omega)]
    simp [Addr.add]
theorem RB.tail {w : World} {b k o n : Nat} {bs : List Nat} (h : RB w b bs) (hl : bs.length = n) (ho : k < n → o = 0 + k) : Bytes w (some ⟨b, o, none⟩) (bs.drop k) := by
  intro i hi
  rw [List.length_drop] at hi
  obtain ⟨b', o', e1, e2⟩ := h.bytes (k + i) (by omega)
  cases e1
  refine ⟨b, o, rfl, ?_⟩
  rw [ho (by omega), Nat.add_assoc, e2]
  simp [List.getD]
theorem RB.head {w : World} {b : Nat} {bs : List Nat} (h : RB w b bs) (k : Nat) : Bytes w (some ⟨b, 0, none⟩) (bs.take k) := by
  intro i hi
  rw [List.length_take] at hi
  obtain ⟨b', o', e1, e2⟩ := h.bytes i (by omega)
  cases e1
  refine ⟨b, 0, rfl, ?_⟩
  rw [e2]
  simp [List.getD, show i < k by omega]
/-- the reference's disk in blocks of S' -/
structure RPut (w w' : World) (S S' : Nat → Prop) (g : Nat) (dv lv : Value) (Q C P PC : Nat → Nat) (D : Dsk) : Prop where
  dx : RefX w' g dv lv Q C P PC D
  fp : ∀ b, RF g dv lv Q P D.n D.np b → S' b
  lt : ∀ b, S' b → b < w'.heap.size
  step : Step w w' S S'
theorem RPut.below {w w1 w2 : World} {S S1 : Nat → Prop} {g : Nat} {dv lv : Value} {Q C P PC : Nat → Nat} {D : Dsk} (h : RPut w w1 S S1 g dv lv Q C P PC D) (k : Below w1.heap.size w1 w2) : RPut w w2 S S1 g dv lv Q C P PC D := ⟨h.dx.below k, h.fp, fun b hb => Nat.lt_of_lt_of_le (h.lt b hb) k.size, h.step.then k⟩
theorem RPut.trans {w w1 w2 : World} {S S1 S2 : Nat → Prop} {g : Nat} {dv lv dv2 lv2 : Value} {Q C P PC Q2 C2 P2 PC2 : Nat → Nat} {D D2 : Dsk} (h : RPut w w1 S S1 g dv lv Q C P PC D) (k : RPut w1 w2 S1 S2 g dv2 lv2 Q2 C2 P2 PC2 D2) : RPut w w2 S S2 g dv2 lv2 Q2 C2 P2 PC2 D2 := ⟨k.dx, k.fp, k.lt, h.step.trans k.step⟩
theorem RPut.rk {w w1 : World} {S S1 : Nat → Prop} {g : Nat} {dv lv : Value} {Q C P PC : Nat → Nat} {D : Dsk} (h : RPut w w1 S S1 g dv lv Q C P PC D) : RK w1 S1 g D := ⟨⟨dv, lv, Q, C, P, PC, h.dx, h.fp⟩, h.lt⟩
/-- a sector got a new row -/
theorem RefX.put {w w4 : World} {S : Nat → Prop} {g db dc : Nat} {lv : Value} {Q C P PC : Nat → Nat} {D : Dsk} {s b4 c4 k : Nat} {bs : List Nat} (h : RefX w g (.slice (some ⟨db, 0, none⟩) D.n dc) lv Q C P PC D) (hS : ∀ b, RF g (.slice (some ⟨db, 0, none⟩) D.n dc) lv Q P D.n D.np b → S b) (hlt : ∀ b, S b → b < w.heap.size)
    (hwf : (D.put s bs k).WF) (hb : Below w.heap.size w w4) (hr : RB w4 b4 (bs.take k ++ (D.dur s).drop k)) (h4 : w.heap.size ≤ b4) (hc4 : D.size ≤ c4) :
    RPut w (w4.setCell ⟨db, s, none⟩ (.slice (some ⟨b4, 0, none⟩) D.size c4)) S (fun b => S b ∨ (w.heap.size ≤ b ∧ b < w4.heap.size)) g (.slice (some ⟨db, 0, none⟩) D.n dc) lv (fun i => if i = s then b4 else Q i) (fun i => if i = s then c4 else C i) P PC (D.put s bs k) := by
  have h1 := h.below hb
  obtain ⟨dcs, hdb⟩ := own_blk h1.row (b := db) rfl
  have hdl : db < w.heap.size := h.lt (.inr (.inl rfl))
  have ot : ∀ b, b ≠ db → (w4.setCell ⟨db, s, none⟩ (.slice (some ⟨b4, 0, none⟩) D.size c4)).heap[b]? = w4.heap[b]? := fun b e => Below.heap_setCell _ _ _ _ e
  refine ⟨⟨hwf, (ot g (blk_ne h1.blk hdb (by decide))).trans h1.blk, ?_, fun i hi => ?_, fun i hi => ?_, own_blocks h1.own (fun b e => ot b (by obtain ⟨cs, hc⟩ := own_blk h1.own e; exact blk_ne hc hdb (by decide))), fun j hj => (h1.pen j hj).keep (ot _ ((h1.pen j hj).ne hdb (by decide))), h.pcap, fun i j hi hj => ?_, fun i j hi hj => ?_⟩, fun b hb' => ?_, fun b hb' => ?_, ?_⟩
  · have := own_set h1.row (k := s) (.slice (some ⟨b4, 0, none⟩) D.size c4)
    rw [rcl_set] at this
    exact this
  · show RB _ (if i = s then b4 else Q i) (if i = s then _ else D.dur i)
    by_cases e : i = s
    · rw [if_pos e, if_pos e]; exact hr.keep (ot _ (hr.ne hdb (by decide)))
    · rw [if_neg e, if_neg e]; exact (h1.sec i hi).keep (ot _ ((h1.sec i hi).ne hdb (by decide)))
  · show D.size ≤ (if i = s then c4 else C i)
    by_cases e : i = s
    · rw [if_pos e]; exact hc4
    · rw [if_neg e]; exact h.cap i hi
  · show (if i = s then b4 else Q i) = (if j = s then b4 else Q j) → _
    by_cases e : i = s
    · by_cases e' : j = s
      · intro _; omega
      · rw [if_pos e, if_neg e']
        intro e2
        have := (h.sec j hj).lt
        omega
    · by_cases e' : j = s
      · rw [if_neg e, if_pos e']
        intro e2
        have := (h.sec i hi).lt
        omega
      · rw [if_neg e, if_neg e']; exact h.inj i j hi hj
  · show (if i = s then b4 else Q i) ≠ P j
    by_cases e : i = s
    · rw [if_pos e]
      intro e2
      have := (h.pen j hj).lt
      omega
    · rw [if_neg e]; exact h.dis i j hi hj
  · rcases hb' with e | e | e | ⟨i, hi, e⟩ | e
    · exact .inl (hS _ (.inl e))
    · exact .inl (hS _ (.inr (.inl e)))
    · exact .inl (hS _ (.inr (.inr (.inl e))))
    · replace e : (if i = s then b4 else Q i) = b := e
      by_cases e' : i = s
      · rw [if_pos e'] at e; subst e; exact .inr ⟨h4, hr.lt⟩
      · rw [if_neg e'] at e; exact .inl (hS _ (.inr (.inr (.inr (.inl ⟨i, hi, e⟩)))))
    · exact .inl (hS _ (.inr (.inr (.inr (.inr e)))))
  · simp only [World.size_setCell]
    have := hb.size
    rcases hb' with e | ⟨_, e⟩
    · have := hlt b e; omega
    · exact e
  · refine ⟨hb.os, hb.tape, hb.output, by simp only [World.size_setCell]; exact hb.size, fun i hi hn => (ot i (fun e => hn (by rw [e]; exact hS _ (.inr (.inl rfl))))).trans (hb.block i hi), fun b hb' => by simp only [World.size_setCell]; exact hb'⟩
end Go.Proofs.Ytlpggkdmjmlpkaa
