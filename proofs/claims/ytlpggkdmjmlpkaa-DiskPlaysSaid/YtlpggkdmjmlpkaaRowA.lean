import Derived.Test.YtlpggkdmjmlpkaaBy
namespace Go.Proofs.Ytlpggkdmjmlpkaa
open Go.RowKit
/-- a row of n integers: the first k are f, the others 0 -/
def rowA (kd : IntKind) (f : Nat → Nat) (n k : Nat) : Array Value := ((List.range n).map fun i => Value.int kd (if i < k then (f i : Int) else 0)).toArray
theorem rowA_size (kd : IntKind) (f : Nat → Nat) (n k : Nat) : (rowA kd f n k).size = n := by simp [rowA]
theorem rowA_get (kd : IntKind) (f : Nat → Nat) (n k i : Nat) (h : i < n) : (rowA kd f n k)[i]? = some (.int kd (if i < k then (f i : Int) else 0)) := by simp [rowA, h]
theorem rowA_set (kd : IntKind) (f : Nat → Nat) (n k : Nat) (v : Int) (hv : v = (f k : Int)) : (rowA kd f n k).setIfInBounds k (.int kd v) = rowA kd f n (k + 1) := by
  subst hv
  apply Array.ext_getElem?
  intro i
  rw [Array.getElem?_setIfInBounds, rowA_size]
  by_cases hi : i < n
  · rw [rowA_get _ _ _ _ _ hi]
    by_cases hk : k = i
    · subst hk; rw [if_pos rfl, if_pos hi, rowA_get _ _ _ _ _ hi, if_pos (by omega)]
    · rw [if_neg hk, rowA_get _ _ _ _ _ hi]
      by_cases h1 : i < k
      · rw [if_pos h1, if_pos (by omega)]
      · rw [if_neg h1, if_neg (by omega)]
  · have e1 : (rowA kd f n (k + 1))[i]? = none := by simp [rowA_size]; omega
    have e2 : (rowA kd f n k)[i]? = none := by simp [rowA_size]; omega
    rw [e1, e2]
    by_cases hk : k = i
    · subst hk; rw [if_pos rfl, if_neg hi]
    · rw [if_neg hk]
theorem rowA_at (kd : IntKind) (f : Nat → Nat) (n k : Nat) (h : k < n) : (rowA kd f n k)[k]? = some (.int kd 0) := by rw [rowA_get _ _ _ _ _ h, if_neg (by omega)]
theorem rowA_all (kd : IntKind) (f : Nat → Nat) (n i : Nat) (h : i < n) : (rowA kd f n n)[i]? = some (.int kd (f i)) := by rw [rowA_get _ _ _ _ _ h, if_pos h]
theorem rowA_lo (kd : IntKind) (f : Nat → Nat) (n k i : Nat) (h : i < n) (hk : i < k) : (rowA kd f n k)[i]? = some (.int kd (f i)) := by rw [rowA_get _ _ _ _ _ h, if_pos hk]
theorem rowA_one (kd : IntKind) (f : Nat → Nat) (n k : Nat) : (rowA kd f n k).all (·.oneCell') = true := by
  rw [Array.all_eq_true_iff_forall_mem]
  intro x hx
  simp only [rowA, List.mem_toArray, List.mem_map] at hx
  obtain ⟨i, _, rfl⟩ := hx
  rfl
theorem rowA_congr {kd : IntKind} {f g : Nat → Nat} {n : Nat} (h : ∀ i, i < n → f i = g i) : rowA kd f n n = rowA kd g n n := by
  unfold rowA
  congr 1
  apply List.map_congr_left
  intro i hi
  rw [h i (List.mem_range.1 hi)]
theorem rowA_zero (kd : IntKind) (f g : Nat → Nat) (n : Nat) : rowA kd f n 0 = rowA kd g n 0 := by simp [rowA]
theorem rowA_upd (kd : IntKind) (f : Nat → Nat) (n k v : Nat) : (rowA kd f n n).setIfInBounds k (.int kd v) = rowA kd (fun i => if i = k then v else f i) n n := by
  apply Array.ext_getElem?
  intro i
  rw [Array.getElem?_setIfInBounds, rowA_size]
  by_cases hi : i < n
  · rw [rowA_all _ _ _ _ hi, rowA_all _ _ _ _ hi]
    by_cases hk : k = i
    · subst hk; rw [if_pos rfl, if_pos hi, if_pos rfl]
    · rw [if_neg hk, if_neg (fun e => hk e.symm)]
  · have e1 : (rowA kd f n n)[i]? = none := by simp [rowA_size]; omega
    have e2 : (rowA kd (fun i => if i = k then v else f i) n n)[i]? = none := by simp [rowA_size]; omega
    rw [e1, e2]
    by_cases hk : k = i
    · subst hk; rw [if_pos rfl, if_neg hi]
    · rw [if_neg hk]
/-- block g is this row -/
def Blk (w : World) (g : Nat) (t : TypeId) (cs : Array Value) : Prop := w.heap[g]? = some (.cells cs t (0, 0))
section
variable {w w' : World} {g : Nat} {t : TypeId} {cs : Array Value}
theorem Blk.lt (h : Blk w g t cs) : g < w.heap.size := by
  rcases Nat.lt_or_ge g w.heap.size with hlt | hge
  · exact hlt
  · unfold Blk at h; rw [Array.getElem?_eq_none hge] at h; cases h
theorem Blk.cell (h : Blk w g t cs) (i : Nat) : w.cell? ⟨g, i, none⟩ = cs[i]? := cell_of_row w g i cs t (0, 0) h
theorem Blk.frozen (h : Blk w g t cs) (i : Nat) : w.frozen? ⟨g, i, none⟩ = false := frozen_of_row w g i cs t h
theorem Blk.new (w : World) (t : TypeId) (cs : Array Value) : Blk (w.alloc (.cells cs t)) w.heap.size t cs := heap_alloc_new w _
theorem Blk.drewN (h : Blk w g t cs) (n : Nat) : Blk (w.drewN n) g t cs := h
theorem Blk.alloc (h : Blk w g t cs) (o : Obj) : Blk (w.alloc o) g t cs := (Below.heap_alloc w o g h.lt).trans h
theorem Blk.set_ (h : Blk w g t cs) (i : Nat) (u : Value) : Blk (w.setCell ⟨g, i, none⟩ u) g t (cs.setIfInBounds i u) := heap_setCell_same w g i cs t u h
theorem Blk.far (h : Blk w g t cs) {p : Addr} (hp : g ≠ p.block) (u : Value) : Blk (w.setCell p u) g t cs := (Below.heap_setCell w p u g hp).trans h
theorem Blk.below {B : Nat} (h : Blk w g t cs) (hb : Below B w w') (hg : g < B) : Blk w' g t cs := (hb.block g hg).trans h
theorem Blk.grown {row : Option Nat} (h : Blk w g t cs) (hb : w.grownBy w' row) (hg : some g ≠ row) : Blk w' g t cs := (hb.block g h.lt hg).trans h
end
end Go.Proofs.Ytlpggkdmjmlpkaa
