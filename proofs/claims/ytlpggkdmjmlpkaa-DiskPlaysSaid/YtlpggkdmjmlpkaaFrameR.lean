import Derived.Test.YtlpggkdmjmlpkaaFrame
namespace Go.Proofs.Ytlpggkdmjmlpkaa
open Go.ChangeShapes Go.WideShapes Go.ChangeAt Go.RowKit
theorem rows_open {H : Type} {enc : TypeId × Value → H} {W : World} {fuel : Nat} {a : Option Addr} {len cap : Nat} {x : DataW H × List MemPlace}
    (h : DataW.trod enc Try.prog W 0 (fun _ => true) true fuel 30 (Value.slice a len cap).cells.toList = some x) :
    ∃ A L C bs, RowsB W a len A L C bs ∧ len ≤ cap ∧ cap ≤ maxLen := by
  rcases Go.Deep.open_int_rows Try.underlying30 Try.underlying39 Try.underlying5 (by kernel_rfl) (by kernel_rfl) h with ⟨hcs, _⟩ | ⟨y, l, c, A, L, C, Z, hcs, _, hl, hm, _, hr⟩
  · simp [Value.cells] at hcs
    obtain ⟨rfl, rfl, rfl⟩ := hcs
    exact ⟨fun _ => none, fun _ => 0, fun _ => 0, fun _ => [], ⟨fun i hi => by omega, fun i hi => by omega⟩, Nat.le_refl _, Nat.zero_le _⟩
  · simp [Value.cells] at hcs
    obtain ⟨rfl, rfl, rfl⟩ := hcs
    refine ⟨A, L, C, fun i => ((Z i).take (L i)).map Int.toNat, ⟨fun i hi => ?_, fun i hi => ?_⟩, hl, hm⟩
    · obtain ⟨b, off, e1, e2⟩ := plain_addr (j := i) (hr 0 (by omega)).1
      refine ⟨b, off, by rw [e1], ?_⟩
      rw [← e2]; exact (hr i (by omega)).1
    · obtain ⟨_, h2, h3, h4, h5, h6, h7⟩ := hr i (by omega)
      exact rowB_of (A i) (L i) (C i) (Z i) h2 h3 h4 h5 h6 (fun x hx c hc => (h7 x hx).2 c hc)
end Go.Proofs.Ytlpggkdmjmlpkaa
