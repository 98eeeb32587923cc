import Derived.Test.YtneiglhcfgnclaaDoorRo9
import Derived.Test.YtneiglhcfgnclaaDoorRows
import Derived.ProofKit
import Derived.LaidMore
import Derived.OpenShut
import Derived.Stop.Joined
import Derived.Lib.LaidTab
namespace Go.Proofs.YtneiglhcfgnclaaDoor
open Go.ChangeShapes Go.WideShapes Go.ChangeAt Go.RowKit
abbrev laidLZ : List (String × DataW Unit) := [("math/bits.deBruijn64tab", Rows.laid_math_bits_deBruijn64tab)]
theorem gTab : Tryd.prog.globalNamed "math/bits.deBruijn64tab" = some 0 := by kernel_rfl
theorem tTab : (Tryd.prog.globals[(0 : Nat)]?).map (·.type) = some 50 := by kernel_rfl
theorem door_metZ (os : Os) (args : Array Value) : laidMetH Tryd.prog laidLZ ((World.doorLaid Tryd.prog 400 os).forCall (fun _ _ => 0) ⟨#[], args, []⟩).memory :=
  laidMetH_of_parts3 (fuel := 8) (laidMet_of_run' 8 (by kernel_rfl) (by kernel_rfl)) (by kernel_rfl) (by kernel_rfl)
theorem tabTab {H : Type} : (Rows.laid_math_bits_deBruijn64tab : DataW H) = Lib.tabData .u8 (Lib.deBruijn64tab.map Int.ofNat) := rfl
theorem heap_of_var {W : World} {n : String} {g : Nat} {cs : Array Value} (hg : Tryd.prog.globalNamed n = some g) (h : W.var? Tryd.prog n = some cs) : ∃ t fr, W.heap[g]? = some (.cells cs t fr) := by
  unfold World.var? at h
  rw [hg] at h
  simp only [Option.bind_some] at h
  split at h
  · rename_i c t fr he
    cases h
    exact ⟨_, _, he⟩
  · cases h
theorem of_laidZ {W : World} (h : laidMetH Tryd.prog laidLZ W) : LaidZ W := by
  rw [MakeChecks.laidMetH_plain _ _ _ (by kernel_rfl)] at h
  obtain ⟨ps, ⟨g0, t0, cs0, f0, p0, q0, hg0, ht0, hv0, hd0, _, _⟩, _, _⟩ := h
  obtain rfl := Option.some.inj (gTab.symm.trans hg0)
  obtain rfl := Option.some.inj (tTab.symm.trans ht0)
  rw [tabTab] at hd0
  have e0 := Lib.cells_of_tab Tryd.underlying50 Tryd.underlying5 (by kernel_rfl) (by kernel_rfl) hd0
  obtain ⟨ta, fa, ha⟩ := heap_of_var gTab hv0
  have hc0 : cs0 = ((Lib.deBruijn64tab.map Int.ofNat).map fun z => Value.int .u8 z).toArray := by rw [← e0]
  refine ⟨?_, ?_⟩
  · have : (0 : Nat) < W.heap.size := by
      rcases Nat.lt_or_ge 0 W.heap.size with h | h
      · exact h
      · rw [Array.getElem?_eq_none h] at ha; cases ha
    omega
  · intro i hi
    rw [cell_of_row W _ i _ _ _ ha, hc0]
    have hl : i < Lib.deBruijn64tab.length := by have : Lib.deBruijn64tab.length = 64 := by decide +kernel
                                                 omega
    simp only [List.getElem?_toArray, List.getElem?_map, List.getElem?_eq_getElem hl, Option.map_some]
    rw [List.getD_eq_getElem?_getD, List.getElem?_eq_getElem hl]
    rfl
end Go.Proofs.YtneiglhcfgnclaaDoor
