import Derived.Test.YtlpggkdmjmlpkaaRowA
namespace Go.Proofs.Ytlpggkdmjmlpkaa
open Go.RowKit
theorem ofStr_getD (s : ByteArray) (k : Nat) (h : k < s.size) : (ofStr s).getD k 0 = (s[k]'h).toNat := by
  unfold ofStr
  have h2 : k < s.data.toList.length := by rw [Array.length_toList]; exact h
  rw [List.getD_eq_getElem?_getD, List.getElem?_map, List.getElem?_eq_getElem h2]
  rfl
theorem idxStr (s : ByteArray) (k : Nat) (h : k < s.size) (kd : IntKind) (w : World) : (Instr.index 9 (.string s) (.int kd (k : Int))).run Try.prog w = .ok (.int .u8 ((ofStr s).getD k 0 : Nat)) w := by
  rw [run_index_string w 9 s kd (k : Int) (by kernel_rfl), dif_pos ⟨by omega, by omega⟩, ofStr_getD s k h]
  simp
set_option maxRecDepth 100000 in
theorem makeCap (n : Nat) (hn : n ≤ 140737488355328) (w : World) : (Instr.makeSlice 39 (.int .i64 0) (.int .i64 (n : Int))).run Try.prog w = .ok (.slice (some ⟨w.heap.size, 0, none⟩) 0 n) (w.alloc (.cells (rowA .u8 (fun _ => 0) n 0) 5)) := by
  obtain ⟨i, hi, hz0, hz1, hz2⟩ := info_parts info5
  have h := run_make (P := Try.prog) w 39 5 i (.int .u8 0) Try.underlying39 hi hz0 .i64 .i64 0 n (by omega) (by omega) (by rw [hz2]; omega) (by omega)
  rw [hz1] at h
  simp only [Int.toNat_natCast] at h
  have e : madeCells (Value.int .u8 0).cells (n * 1) = rowA .u8 (fun _ => 0) n 0 := by
    apply Array.ext_getElem?
    intro j
    by_cases h : j < n
    · rw [rowA_get _ _ _ _ _ h]; simp [madeCells, Value.cells, h, Nat.mod_one]
    · have e1 : (rowA .u8 (fun _ => 0) n 0)[j]? = none := by simp [rowA_size]; omega
      rw [e1]; simp [madeCells]; omega
  rwa [e] at h
set_option maxRecDepth 100000 in
theorem makeLen (n : Nat) (hn : n ≤ 140737488355328) (w : World) : (Instr.makeSlice 39 (.int .i64 (n : Int)) (.int .i64 (n : Int))).run Try.prog w = .ok (.slice (some ⟨w.heap.size, 0, none⟩) n n) (w.alloc (.cells (rowA .u8 (fun _ => 0) n 0) 5)) := by
  obtain ⟨i, hi, hz0, hz1, hz2⟩ := info_parts info5
  have h := run_make (P := Try.prog) w 39 5 i (.int .u8 0) Try.underlying39 hi hz0 .i64 .i64 n n (by omega) (by omega) (by rw [hz2]; omega) (by omega)
  rw [hz1] at h
  simp only [Int.toNat_natCast] at h
  have e : madeCells (Value.int .u8 0).cells (n * 1) = rowA .u8 (fun _ => 0) n 0 := by
    apply Array.ext_getElem?
    intro j
    by_cases h : j < n
    · rw [rowA_get _ _ _ _ _ h]; simp [madeCells, Value.cells, h, Nat.mod_one]
    · have e1 : (rowA .u8 (fun _ => 0) n 0)[j]? = none := by simp [rowA_size]; omega
      rw [e1]; simp [madeCells]; omega
  rwa [e] at h
theorem madeOwn (w : World) (n : Nat) (hn : n ≤ 140737488355328) : (w.alloc (.cells (rowA .u8 (fun _ => 0) n 0) 5)).ownsRow w.heap.size 5 1 (.slice (some ⟨w.heap.size, 0, none⟩) 0 n) 0 (vals []) := by
  refine ⟨by simp [vals], .inr ⟨w.heap.size, n, _, rfl, Nat.le_refl _, heap_alloc_new _ _, by omega, by unfold maxLen; omega, by rw [rowA_size]; omega, by simp [vals]⟩⟩
theorem owned_row {w : World} {base n : Nat} {v : Value} {bs : List Nat} (h : w.ownsRow base 5 1 v n (vals bs)) : n = bs.length := by
  have := h.1; rw [vals_len] at this; omega
end Go.Proofs.Ytlpggkdmjmlpkaa
