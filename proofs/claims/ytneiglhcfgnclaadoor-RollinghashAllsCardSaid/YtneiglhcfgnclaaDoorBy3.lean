import Derived.Test.YtneiglhcfgnclaaDoorBy2
import Derived.Lib.ConvBytes
namespace Go.Proofs.YtneiglhcfgnclaaDoor
open Go.RowKit
theorem conv_to (s : ByteArray) (W : World) : ∃ c W', (convert 9 28 (.string s)).run Tryd.prog W = .ok (.slice (some ⟨W.heap.size, 0, none⟩) s.size c) W' ∧ Bytes W' (some ⟨W.heap.size, 0, none⟩) (ofStr s) ∧ Below W.heap.size W W' ∧ s.size ≤ c ∧ W.heap.size < W'.heap.size := by
  have h := Lib.run_convert_string_bytes (P := Tryd.prog) W 9 28 5 s Tryd.underlying9 Tryd.underlying28 Tryd.underlying5
  refine ⟨_, _, h, ?_, ⟨rfl, rfl, rfl, by rw [Lib.bytesWorld_size]; omega, fun i hi => Lib.bytesWorld_at_old W _ s i hi⟩, ?_, by rw [Lib.bytesWorld_size]; omega⟩
  · intro i hi
    rw [ofStr_len] at hi
    refine ⟨W.heap.size, 0, rfl, ?_⟩
    rw [Nat.zero_add, Lib.bytesWorld_cell W _ s i hi]
    have h2 : i < s.data.toList.length := by rw [Array.length_toList]; exact hi
    unfold ofStr
    simp [List.getD, List.getElem?_eq_getElem h2]
  · exact grownCap_ge _ _ _ _
end Go.Proofs.YtneiglhcfgnclaaDoor
