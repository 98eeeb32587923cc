import Derived.Test.YtlpggkdmjmlpkaaBy2
namespace Go.Proofs.Ytlpggkdmjmlpkaa
open Go.RowKit
/-- a slice that reads as zs and the error OK have been returned -/
def SlB (e : Ending) (w' : World) (zs : List Nat) : Prop := ∃ a' c', e = .returned (.tuple #[.slice a' zs.length c', .int .i64 0]) ∧ Bytes w' a' zs ∧ zs.length ≤ c'
theorem owned_cap {w : World} {base n c m : Nat} {a : Option Addr} {xs : List Value} (h : w.ownsRow base 5 1 (.slice a m c) n xs) : n ≤ c := by
  rcases h.2 with ⟨_, h0⟩ | ⟨g, cap, cur, hv, _, _, h1, _⟩
  · omega
  · cases hv; exact h1
/-- an empty slice of bytes that the call has made -/
theorem emptyOwnAt (w : World) (base : Nat) (h : base ≤ w.heap.size) : (w.alloc (.cells #[] 5)).ownsRow base 5 1 (.slice (some ⟨w.heap.size, 0, none⟩) 0 0) 0 (vals []) := by
  refine ⟨by simp [vals], .inr ⟨w.heap.size, 0, _, rfl, h, heap_alloc_new _ _, by omega, by unfold maxLen; omega, by simp, by simp [vals]⟩⟩
end Go.Proofs.Ytlpggkdmjmlpkaa
