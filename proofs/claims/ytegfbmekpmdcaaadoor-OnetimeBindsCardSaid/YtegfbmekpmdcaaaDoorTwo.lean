import Derived.Test.YtegfbmekpmdcaaaDoorSumF
import Derived.Test.YtegfbmekpmdcaaaDoorBy3
namespace Go.Proofs.YtegfbmekpmdcaaaDoor
open Go.RowKit
theorem ofStr_str (bs : List Nat) (h : ∀ x ∈ bs, x < 256) : ofStr (str bs) = bs := by
  unfold ofStr str
  rw [List.map_map]
  conv => rhs; rw [← List.map_id bs]
  apply List.map_congr_left
  intro x hx
  have := h x hx
  simp [Nat.mod_eq_of_lt this]
theorem str_size (bs : List Nat) : (str bs).size = bs.length := by unfold str; simp [ByteArray.size]
theorem strs_one (w : World) (s : ByteArray) : Strs (w.alloc (.cells #[.string s] 9)) (some ⟨w.heap.size, 0, none⟩) [s] := by
  intro i hi
  have h0 : i = 0 := by simpa using hi
  subst h0
  exact ⟨_, 0, rfl, by rw [cell_of_row _ _ _ _ _ _ (heap_alloc_new w _)]; rfl⟩
theorem SR.grown {w w' : World} {g g' : Nat} {ys : List Nat} (h : SR w g ys) (hg : w.grownBy w' (some g')) (hne : g ≠ g') : SR w' g ys := h.far (hg.block g h.lt (fun e => hne (by injection e)))
theorem SR.below {w w' : World} {g : Nat} {ys : List Nat} (h : SR w g ys) (hb : Below w.heap.size w w') : SR w' g ys := h.far (hb.block g h.lt)
theorem RowB.blk {w : World} {a : Option Addr} {len cap : Nat} {bs : List Nat} (h : RowB w a len cap bs) (h0 : 0 < bs.length) : ∀ x, a = some x → x.block < w.heap.size := by
  obtain ⟨b, off, rfl, hc⟩ := h.bytes 0 h0
  intro x hx; cases hx; exact bytes_lt hc
theorem strs_two (w : World) (s t : ByteArray) : Strs (w.alloc (.cells #[.string s, .string t] 9)) (some ⟨w.heap.size, 0, none⟩) [s, t] := by
  intro i hi
  have h2 : i < 2 := hi
  refine ⟨_, 0, rfl, ?_⟩
  rw [cell_of_row _ _ _ _ _ _ (heap_alloc_new w _)]
  match i, h2 with
  | 0, _ | 1, _ => rfl
theorem Strs.drew {w : World} {a : Option Addr} {ss : List ByteArray} (h : Strs w a ss) : Strs w.drew a ss := h
theorem join2 (a : Option Addr) (xs ys : List Nat) (hx : ∀ x ∈ xs, x < 256) (hy : ∀ x ∈ ys, x < 256) (hbig : xs.length + ys.length ≤ 1000000) (w : World) (hL : Laid w) (h : Strs w a [str xs, str ys]) :
    Calls Tryd.prog 71 #[.slice a 2 2] w fun e w' => e = .returned (.string (str (Sh.sum (xs ++ ys)))) ∧ Below w.heap.size w w' := by
  have e : cat [str xs, str ys] = xs ++ ys := by simp [cat, ofStr_str xs hx, ofStr_str ys hy]
  have h1 := join_any a 2 [str xs, str ys] (by rw [e, List.length_append]; omega) (by simp) w hL h
  rw [e] at h1
  exact h1
/-- integers as they come in -/
def RowI (w : World) (a : Option Addr) (len : Nat) (zs : List Int) : Prop := ∀ i, i < len → ∃ b off, a = some ⟨b, off, none⟩ ∧ w.cell? ⟨b, off + i, none⟩ = some (.int .i64 (zs.getD i 0))
theorem RowI.below {w wr : World} {a : Option Addr} {len : Nat} {zs : List Int} (h : RowI w a len zs) (hb : Below w.heap.size w wr) : RowI wr a len zs := by
  intro i hi
  obtain ⟨b, off, h2, h3⟩ := h i hi
  exact ⟨b, off, h2, (hb.cell (p := ⟨b, off + i, none⟩) (bytes_lt h3)).trans h3⟩
theorem cut_bytes {w : World} {a : Option Addr} {bs : List Nat} {cap lo hi : Nat} (h : Bytes w a bs) (h2 : hi ≤ bs.length) (h3 : bs.length ≤ cap) : Bytes w (if cap = lo then a else a.map fun x => x.add lo) ((bs.drop lo).take (hi - lo)) := by
  by_cases hc : cap = lo
  · intro i hi'
    rw [List.length_take, List.length_drop] at hi'
    omega
  · rw [if_neg hc]; exact sub_bytes h lo (hi - lo)
theorem sliceLH (a : Option Addr) (bs : List Nat) (cap lo hi : Nat) (h1 : lo ≤ hi) (h2 : hi ≤ bs.length) (h3 : bs.length ≤ cap) (W : World) :
    (Instr.slice 66 (.slice a bs.length cap) (some (.int .i64 (lo : Int))) (some (.int .i64 (hi : Int))) none).run Tryd.prog W = .ok (.slice (if cap = lo then a else a.map fun x => x.add lo) (hi - lo) (cap - lo)) W := by
  have h := run_slice_lh W 66 a bs.length cap (P := Tryd.prog) (by kernel_rfl) .i64 .i64 (lo : Int) (hi : Int) (by omega) (by omega) (by omega)
  rw [h]
  have e2 : (sizeOf (Tryd.prog.elem 66)).run Tryd.prog W = .ok 1 W := by kernel_rfl
  rw [e2]
  simp only [Result.andThen, sliced, Int.toNat_natCast, Nat.mul_one]
theorem sliceL (a : Option Addr) (bs : List Nat) (cap lo : Nat) (h1 : lo ≤ bs.length) (W : World) :
    (Instr.slice 66 (.slice a bs.length cap) (some (.int .i64 (lo : Int))) none none).run Tryd.prog W = .ok (.slice (if cap = lo then a else a.map fun x => x.add lo) (bs.length - lo) (cap - lo)) W := by
  have h := run_slice_l W 66 a bs.length cap (P := Tryd.prog) (by kernel_rfl) .i64 (lo : Int) (by omega) (by omega)
  rw [h]
  have e2 : (sizeOf (Tryd.prog.elem 66)).run Tryd.prog W = .ok 1 W := by kernel_rfl
  rw [e2]
  simp only [Result.andThen, sliced, Int.toNat_natCast, Nat.mul_one]
theorem Bytes.blk {w : World} {a : Option Addr} {bs : List Nat} (h : Bytes w a bs) (h0 : 0 < bs.length) : ∀ x, a = some x → x.block < w.heap.size := by
  obtain ⟨b, off, rfl, hc⟩ := h 0 h0
  intro x hx; cases hx; exact bytes_lt hc
theorem smWrite_at (g : Nat) (ys : List Nat) (a : Option Addr) (n cap : Nat) (xs : List Nat) (hn : n = xs.length) (hx : ∀ x ∈ xs, x < 256) (hbig : ys.length + xs.length ≤ 140737488355328) (hcap : xs.length ≤ cap) (w : World) (hL : Laid w) (hS : SR w g ys) (h : Bytes w a xs) (hne : 0 < xs.length → ∀ x, a = some x → x.block ≠ g) :
    Calls Tryd.prog 69 #[.pointer (some ⟨g, 0, none⟩), .slice a n cap] w fun e w' => e = .returned (.tuple #[]) ∧ SR w' g (ys ++ xs) ∧ w.grownBy w' (some g) := by
  subst hn; exact smWrite_any g ys a cap xs hx hbig hcap w hL hS h hne
end Go.Proofs.YtegfbmekpmdcaaaDoor
