import Derived.Test.YtegfbmekpmdcaaaDoorOr5
import Derived.OpenShut
import Derived.SizedLaws
namespace Go.Proofs.YtegfbmekpmdcaaaDoor
open Go.ChangeShapes Go.WideShapes Go.ChangeAt Go.RowKit
theorem strs_open {H : Type} {enc : TypeId × Value → H} {W : World} {fuel : Nat} {a : Option Addr} {len cap : Nat} {x : DataW H × List MemPlace}
    (h : DataW.trod enc Tryd.prog W 0 (fun _ => true) true fuel 47 (Value.slice a len cap).cells.toList = some x) :
    ∃ ss, RdS W a len cap ss ∧ cap ≤ maxLen := by
  rcases open_strings Tryd.underlying47 Tryd.underlying9 (by kernel_rfl) h with ⟨hcs, _⟩ | ⟨y, l, c, ss, hcs, _, hl, hm, hlen, _, hcell, _⟩
  · simp [Value.cells] at hcs
    obtain ⟨rfl, rfl, rfl⟩ := hcs
    exact ⟨[], ⟨rfl, Nat.le_refl _, fun i hi => by simp at hi⟩, Nat.zero_le _⟩
  · simp [Value.cells] at hcs
    obtain ⟨rfl, rfl, rfl⟩ := hcs
    have hlen' : ss.length = cap := by simpa using hlen
    refine ⟨ss.take len, ⟨by rw [List.length_take]; omega, hl, fun i hi => ?_⟩, hm⟩
    rw [List.length_take] at hi
    obtain ⟨b, off, spot⟩ := y
    have hc := hcell i (by omega)
    have hc0 := hcell 0 (by omega)
    have hspot : spot = none := by simpa [Addr.add] using World.cell?_spot hc0
    subst hspot
    rw [add_lit'] at hc
    refine ⟨b, off, rfl, ?_⟩
    rw [hc]
    have hi2 : i < len := by omega
    have hi3 : i < ss.length := by omega
    simp [List.getD, hi2]
end Go.Proofs.YtegfbmekpmdcaaaDoor
