import Derived.Test.YtlpggkdmjmlpkaaDk
import Derived.Test.YtlpggkdmjmlpkaaBy2
namespace Go.Proofs.Ytlpggkdmjmlpkaa
open Go.RowKit
/-- block b holds these bytes -/
def rowb (bs : List Nat) : Array Value := rowA .u8 (fun i => bs.getD i 0) bs.length bs.length
def BB (w : World) (b : Nat) (bs : List Nat) : Prop := Blk w b 5 (rowb bs)
theorem BB.bytes {w : World} {b : Nat} {bs : List Nat} (h : BB w b bs) : Bytes w (some ⟨b, 0, none⟩) bs := fun i hi => ⟨b, 0, rfl, by
  have := Blk.cell h (0 + i); rw [this]; unfold rowb; rw [Nat.zero_add, rowA_all _ _ _ _ hi]⟩
theorem rowb_zero (n : Nat) : rowA .u8 (fun _ => 0) n 0 = rowb (List.replicate n 0) := by
  apply Array.ext_getElem?
  intro i
  by_cases hi : i < n
  · unfold rowb
    rw [rowA_get _ _ _ _ _ hi, rowA_all _ _ _ _ (by simpa using hi), if_neg (Nat.not_lt_zero _)]
    simp [List.getD, hi]
  · rw [Array.getElem?_eq_none (by rw [rowA_size]; omega), Array.getElem?_eq_none (by unfold rowb; rw [rowA_size, List.length_replicate]; omega)]
theorem blk_ne {w : World} {a b : Nat} {t t' : TypeId} {cs cs' : Array Value} (h : Blk w a t cs) (k : Blk w b t' cs') (ht : t ≠ t') : a ≠ b := by
  rintro rfl
  have e : some (Obj.cells cs t (0, 0)) = some (Obj.cells cs' t' (0, 0)) := h.symm.trans k
  simp at e
  exact ht e.2
theorem own_blk {w : World} {base n k : Nat} {t : TypeId} {v : Value} {xs : List Value} (h : w.ownsRow base t k v n xs) {b : Nat} (hb : v.ownBlock = some b) : ∃ cs, Blk w b t cs := by
  rcases h.2 with ⟨rfl, _⟩ | ⟨g, cap, cur, rfl, _, hg, _⟩
  · simp [Value.ownBlock] at hb
  · simp only [Value.ownBlock, Option.some.injEq] at hb
    exact ⟨cur, by rw [← hb]; exact hg⟩
theorem own_blocks {w w' : World} {base n k : Nat} {t : TypeId} {v : Value} {xs : List Value} (h : w.ownsRow base t k v n xs) (hb : ∀ b, v.ownBlock = some b → w'.heap[b]? = w.heap[b]?) : w'.ownsRow base t k v n xs := by
  refine ⟨h.1, ?_⟩
  rcases h.2 with h1 | ⟨g, cap, cur, rfl, h0, hg, hr⟩
  · exact .inl h1
  · exact .inr ⟨g, cap, cur, rfl, h0, (hb g rfl).trans hg, hr⟩
def hv (size : Nat) : Option Nat → Value
  | none => .slice none 0 0
  | some b => .slice (some ⟨b, 0, none⟩) size size
def hdr (A : Nat → Option Nat) (size n : Nat) : Array Value := ((List.range n).map fun i => hv size (A i)).toArray
theorem hdr_get (A : Nat → Option Nat) (size n i : Nat) (h : i < n) : (hdr A size n)[i]? = some (hv size (A i)) := by simp [hdr, h]
theorem hdr_size (A : Nat → Option Nat) (size n : Nat) : (hdr A size n).size = n := by simp [hdr]
theorem hdr_set (A : Nat → Option Nat) (size n s : Nat) (b : Nat) : (hdr A size n).setIfInBounds s (.slice (some ⟨b, 0, none⟩) size size) = hdr (fun i => if i = s then some b else A i) size n := by
  apply Array.ext_getElem?
  intro i
  rw [Array.getElem?_setIfInBounds, hdr_size]
  by_cases hi : i < n
  · rw [hdr_get _ _ _ _ hi, hdr_get _ _ _ _ hi]
    by_cases hk : s = i
    · subst hk; rw [if_pos rfl, if_pos hi, if_pos rfl]; rfl
    · rw [if_neg hk, if_neg (fun e => hk e.symm)]
  · rw [Array.getElem?_eq_none (by rw [hdr_size]; omega), Array.getElem?_eq_none (by rw [hdr_size]; omega)]
    by_cases hk : s = i
    · subst hk; rw [if_pos rfl, if_neg hi]
    · rw [if_neg hk]
/-- the cells of the pending writes -/
def pcl (P : Nat → Nat) (ps : Nat → Nat) (size np : Nat) : List Value := (List.range np).flatMap fun j => [.int .i64 (ps j : Int), .slice (some ⟨P j, 0, none⟩) size size]
theorem pcl_snoc (P : Nat → Nat) (ps : Nat → Nat) (size np : Nat) : pcl P ps size (np + 1) = pcl P ps size np ++ [.int .i64 (ps np : Int), .slice (some ⟨P np, 0, none⟩) size size] := by
  simp [pcl, List.range_succ, List.flatMap_append]
theorem pcl_congr {P P' ps ps' : Nat → Nat} {size np : Nat} (h : ∀ j, j < np → P j = P' j ∧ ps j = ps' j) : pcl P ps size np = pcl P' ps' size np := by
  unfold pcl
  rw [List.flatMap_def, List.flatMap_def]
  congr 1
  apply List.map_congr_left
  intro j hj
  obtain ⟨e1, e2⟩ := h j (List.mem_range.1 hj)
  rw [e1, e2]
theorem pcl_len (P ps : Nat → Nat) (size : Nat) : ∀ np, (pcl P ps size np).length = np * 2
  | 0 => rfl
  | np + 1 => by rw [pcl_snoc, List.length_append, pcl_len P ps size np]; simp; omega
theorem pcl_get (P ps : Nat → Nat) (size : Nat) : ∀ np j, j < np → (pcl P ps size np)[j * 2]? = some (.int .i64 (ps j : Int)) ∧ (pcl P ps size np)[j * 2 + 1]? = some (.slice (some ⟨P j, 0, none⟩) size size)
  | np + 1, j, h => by
    rw [pcl_snoc]
    by_cases e : j = np
    · subst e
      constructor
      · rw [List.getElem?_append_right (by rw [pcl_len]; omega), pcl_len, Nat.sub_self]; rfl
      · rw [List.getElem?_append_right (by rw [pcl_len]; omega), pcl_len, show j * 2 + 1 - j * 2 = 1 by omega]; rfl
    · obtain ⟨a, b⟩ := pcl_get P ps size np j (by omega)
      constructor
      · rw [List.getElem?_append_left (by rw [pcl_len]; omega)]; exact a
      · rw [List.getElem?_append_left (by rw [pcl_len]; omega)]; exact b
/-- a disk in the block g: the row of its sectors in dB, the sector i in A i, the slice of the pending writes pv, their bytes in P j -/
structure DX (w : World) (g dB : Nat) (A : Nat → Option Nat) (pv : Value) (P : Nat → Nat) (D : Dsk) : Prop where
  wf : D.WF
  blk : Blk w g 62 #[.int .i64 (D.size : Int), .slice (some ⟨dB, 0, none⟩) D.n D.n, pv, .int .i64 D.left, .bool D.down]
  row : Blk w dB 39 (hdr A D.size D.n)
  nil : ∀ i, i < D.n → A i = none → D.dur i = List.replicate D.size 0
  sec : ∀ i b, i < D.n → A i = some b → BB w b (D.dur i)
  own : w.ownsRow 0 66 2 pv D.np (pcl P D.ps D.size D.np)
  pen : ∀ j, j < D.np → BB w (P j) (D.pb j)
  inj : ∀ i k b, i < D.n → k < D.n → A i = some b → A k = some b → i = k
  dis : ∀ i j, i < D.n → j < D.np → A i ≠ some (P j)
/-- the blocks of a disk -/
def FP (g dB : Nat) (A : Nat → Option Nat) (pv : Value) (P : Nat → Nat) (n np : Nat) (b : Nat) : Prop := b = g ∨ b = dB ∨ (∃ i, i < n ∧ A i = some b) ∨ pv.ownBlock = some b ∨ ∃ j, j < np ∧ P j = b
section
variable {w w' : World} {g dB : Nat} {A : Nat → Option Nat} {pv : Value} {P : Nat → Nat} {D : Dsk}
theorem DX.lt (h : DX w g dB A pv P D) {b : Nat} (hb : FP g dB A pv P D.n D.np b) : b < w.heap.size := by
  rcases hb with rfl | rfl | ⟨i, hi, hA⟩ | hp | ⟨j, hj, rfl⟩
  · exact h.blk.lt
  · exact h.row.lt
  · exact Blk.lt (h.sec i b hi hA)
  · obtain ⟨cs, hc⟩ := own_blk h.own hp; exact hc.lt
  · exact Blk.lt (h.pen j hj)
theorem DX.frame (h : DX w g dB A pv P D) (hb : ∀ b, FP g dB A pv P D.n D.np b → w'.heap[b]? = w.heap[b]?) : DX w' g dB A pv P D :=
  ⟨h.wf, (hb g (.inl rfl)).trans h.blk, (hb dB (.inr (.inl rfl))).trans h.row, h.nil, fun i b hi hA => (hb b (.inr (.inr (.inl ⟨i, hi, hA⟩)))).trans (h.sec i b hi hA),
    own_blocks h.own (fun b e => hb b (.inr (.inr (.inr (.inl e))))), fun j hj => (hb (P j) (.inr (.inr (.inr (.inr ⟨j, hj, rfl⟩))))).trans (h.pen j hj), h.inj, h.dis⟩
theorem DX.below (h : DX w g dB A pv P D) (hb : Below w.heap.size w w') : DX w' g dB A pv P D := h.frame fun b k => hb.block b (h.lt k)
end
/-- a disk whose blocks are among S -/
def DK (w : World) (S : Nat → Prop) (g : Nat) (D : Dsk) : Prop := (∃ dB A pv P, DX w g dB A pv P D ∧ ∀ b, FP g dB A pv P D.n D.np b → S b) ∧ ∀ b, S b → b < w.heap.size
/-- only blocks of S have been written; S' has only new ones besides -/
structure Step (w w' : World) (S S' : Nat → Prop) : Prop where
  os : w'.os = w.os
  tape : w'.tape = w.tape
  output : w'.output = w.output
  size : w.heap.size ≤ w'.heap.size
  block : ∀ i, i < w.heap.size → ¬ S i → w'.heap[i]? = w.heap[i]?
  sub : ∀ b, S' b → S b ∨ (w.heap.size ≤ b ∧ b < w'.heap.size)
section
variable {w w' w'' : World} {S S' S'' : Nat → Prop}
theorem Step.refl (w : World) (S : Nat → Prop) : Step w w S S := ⟨rfl, rfl, rfl, Nat.le_refl _, fun _ _ _ => rfl, fun _ h => .inl h⟩
theorem Step.trans (h : Step w w' S S') (k : Step w' w'' S' S'') : Step w w'' S S'' :=
  ⟨k.os.trans h.os, k.tape.trans h.tape, k.output.trans h.output, Nat.le_trans h.size k.size, fun i hi hn => (k.block i (Nat.lt_of_lt_of_le hi h.size) (fun e => (h.sub i e).elim hn (fun e => by omega))).trans (h.block i hi hn), fun b hb => by
    have h1 := h.size; have h2 := k.size
    rcases k.sub b hb with e | ⟨e1, e2⟩
    · rcases h.sub b e with e | ⟨e1, e2⟩
      · exact .inl e
      · exact .inr ⟨e1, by omega⟩
    · exact .inr ⟨by omega, e2⟩⟩
theorem Step.of_below (h : Below w.heap.size w w') (S : Nat → Prop) : Step w w' S S := ⟨h.os, h.tape, h.output, h.size, fun i hi _ => h.block i hi, fun _ h => .inl h⟩
theorem Step.then (h : Step w w' S S') (k : Below w'.heap.size w' w'') : Step w w'' S S' := h.trans (Step.of_below k S')
theorem Step.after (h : Below w.heap.size w w') (k : Step w' w'' S S') : Step w w'' S S' := (Step.of_below h S).trans k
theorem Step.below (h : Step w w' S S') {B : Nat} (hB : B ≤ w.heap.size) (hS : ∀ b, S b → B ≤ b) : Below B w w' :=
  ⟨h.os, h.tape, h.output, h.size, fun i hi => h.block i (by omega) (fun e => by have := hS i e; omega)⟩
theorem Step.lo (h : Step w w' S S') {B : Nat} (hB : B ≤ w.heap.size) (hS : ∀ b, S b → B ≤ b) : ∀ b, S' b → B ≤ b := fun b hb => by
  rcases h.sub b hb with e | ⟨e, _⟩
  · exact hS b e
  · omega
theorem DK.below {g : Nat} {D : Dsk} (h : DK w S g D) (hb : Below w.heap.size w w') : DK w' S g D := by
  obtain ⟨⟨dB, A, pv, P, h1, h2⟩, h3⟩ := h
  exact ⟨⟨dB, A, pv, P, h1.below hb, h2⟩, fun b k => Nat.lt_of_lt_of_le (h3 b k) hb.size⟩
end
/-- a block that is none of S -/
def Away (w : World) (S : Nat → Prop) (b : Nat) : Prop := b < w.heap.size ∧ ¬ S b
section
variable {w w' : World} {S S' : Nat → Prop} {b : Nat}
theorem Away.step (h : Away w S b) (k : Step w w' S S') : Away w' S' b := ⟨Nat.lt_of_lt_of_le h.1 k.size, fun e => by
  rcases k.sub b e with e | ⟨e, _⟩
  · exact h.2 e
  · have := h.1; omega⟩
theorem Away.new (hS : ∀ b, S b → b < w.heap.size) (hb : w.heap.size ≤ b) (hb2 : b < w'.heap.size) : Away w' S b := ⟨hb2, fun e => by have := hS b e; omega⟩
theorem Step.same (k : Step w w' S S') (h : Away w S b) : w'.heap[b]? = w.heap[b]? := k.block b h.1 h.2
theorem Bytes.step {a : Option Addr} {bs : List Nat} (h : Bytes w a bs) (k : Step w w' S S') (ha : ∀ x, a = some x → Away w S x.block) : Bytes w' a bs := h.blocks fun x hx => k.same (ha x hx)
end
end Go.Proofs.Ytlpggkdmjmlpkaa
