import Derived.Test.YtegfbmekpmdcaaaDoorTwo
import Derived.Test.YtegfbmekpmdcaaaDoorRows
import Derived.ProofKit
import Derived.LaidMore
import Derived.OpenShut
import Derived.Stop.Joined
import Derived.Lib.LaidTab
import Derived.Test.YtegfbmekpmdcaaaDoorMac
namespace Go.Proofs.YtegfbmekpmdcaaaDoor
open Go.ChangeShapes Go.WideShapes Go.ChangeAt Go.RowKit
abbrev laidL : List (String × DataW Unit) := [("kinkeep/sha256.initial", Rows.laid_kinkeep_sha256_initial), ("kinkeep/sha256.constants", Rows.laid_kinkeep_sha256_constants)]
theorem gInit : Tryd.prog.globalNamed "kinkeep/sha256.initial" = some 1 := by kernel_rfl
theorem gCons : Tryd.prog.globalNamed "kinkeep/sha256.constants" = some 2 := by kernel_rfl
theorem tInit : (Tryd.prog.globals[(1 : Nat)]?).map (·.type) = some 85 := by kernel_rfl
theorem tCons : (Tryd.prog.globals[(2 : Nat)]?).map (·.type) = some 104 := by kernel_rfl
theorem door_met (os : Os) (args : Array Value) : laidMetH Tryd.prog laidL ((World.doorLaid Tryd.prog 400 os).forCall (fun _ _ => 0) ⟨#[], args, []⟩).memory :=
  laidMetH_of_parts3 (fuel := 8) (laidMet_of_run' 8 (by kernel_rfl) (by kernel_rfl)) (by kernel_rfl) (by kernel_rfl)
theorem tabInit {H : Type} : (Rows.laid_kinkeep_sha256_initial : DataW H) = Lib.tabData .u32 ([Sh.H0.a, Sh.H0.b, Sh.H0.c, Sh.H0.d, Sh.H0.e, Sh.H0.f, Sh.H0.g, Sh.H0.h].map Int.ofNat) := rfl
theorem tabCons {H : Type} : (Rows.laid_kinkeep_sha256_constants : DataW H) = Lib.tabData .u32 (Sh.K.map Int.ofNat) := rfl
theorem heap_of_var {W : World} {n : String} {g : Nat} {cs : Array Value} (hg : Tryd.prog.globalNamed n = some g) (h : W.var? Tryd.prog n = some cs) : ∃ t fr, W.heap[g]? = some (.cells cs t fr) := by
  unfold World.var? at h
  rw [hg] at h
  simp only [Option.bind_some] at h
  split at h
  · rename_i c t fr he
    cases h
    exact ⟨_, _, he⟩
  · cases h
theorem of_laid {W : World} (h : laidMetH Tryd.prog laidL W) : Laid W := by
  rw [MakeChecks.laidMetH_plain _ _ _ (by kernel_rfl)] at h
  obtain ⟨ps, ⟨g0, t0, cs0, f0, p0, q0, hg0, ht0, hv0, hd0, ⟨g1, t1, cs1, f1, p1, q1, hg1, ht1, hv1, hd1, _, _⟩, _⟩, _, _⟩ := h
  obtain rfl := Option.some.inj (gInit.symm.trans hg0)
  obtain rfl := Option.some.inj (gCons.symm.trans hg1)
  obtain rfl := Option.some.inj (tInit.symm.trans ht0)
  obtain rfl := Option.some.inj (tCons.symm.trans ht1)
  rw [tabInit] at hd0
  rw [tabCons] at hd1
  have e0 := Lib.cells_of_tab Tryd.underlying85 Tryd.underlying84 (by kernel_rfl) (by kernel_rfl) hd0
  have e1 := Lib.cells_of_tab Tryd.underlying104 Tryd.underlying84 (by kernel_rfl) (by kernel_rfl) hd1
  obtain ⟨ta, fa, ha⟩ := heap_of_var gInit hv0
  obtain ⟨tb, fb, hb⟩ := heap_of_var gCons hv1
  have hc1 : cs1 = ((Sh.K.map Int.ofNat).map fun z => Value.int .u32 z).toArray := by rw [← e1]
  have hc0 : cs0 = stA Sh.H0 := by
    have : cs0 = (([Sh.H0.a, Sh.H0.b, Sh.H0.c, Sh.H0.d, Sh.H0.e, Sh.H0.f, Sh.H0.g, Sh.H0.h].map Int.ofNat).map fun z => Value.int .u32 z).toArray := by rw [← e0]
    rw [this]; rfl
  refine ⟨?_, ?_, ⟨ta, fa, by rw [ha, hc0]⟩⟩
  · have : (2 : Nat) < W.heap.size := by
      rcases Nat.lt_or_ge 2 W.heap.size with h | h
      · exact h
      · rw [Array.getElem?_eq_none h] at hb; cases hb
    omega
  · intro i hi
    rw [cell_of_row W _ i _ _ _ hb, hc1]
    have hl : i < Sh.K.length := by have : Sh.K.length = 64 := by decide +kernel
                                    omega
    simp only [List.getElem?_toArray, List.getElem?_map, List.getElem?_eq_getElem hl, Option.map_some]
    unfold Sh.k
    rw [List.getD_eq_getElem?_getD, List.getElem?_eq_getElem hl]
    rfl
end Go.Proofs.YtegfbmekpmdcaaaDoor
namespace Go.Proofs.YtegfbmekpmdcaaaDoor
open Go.ChangeShapes Go.WideShapes Go.ChangeAt Go.RowKit
abbrev laidL3 : List (String × DataW Unit) := [("kinkeep/sha256.initial", Rows.laid_kinkeep_sha256_initial), ("kinkeep/sha256.constants", Rows.laid_kinkeep_sha256_constants), ("kinkeep/hmac.masks", Rows.laid_kinkeep_hmac_masks)]
theorem gMask : Tryd.prog.globalNamed "kinkeep/hmac.masks" = some 0 := by kernel_rfl
theorem tMask : (Tryd.prog.globals[(0 : Nat)]?).map (·.type) = some 98 := by kernel_rfl
theorem door_met3 (os : Os) (args : Array Value) : laidMetH Tryd.prog laidL3 ((World.doorLaid Tryd.prog 400 os).forCall (fun _ _ => 0) ⟨#[], args, []⟩).memory :=
  laidMetH_of_parts3 (fuel := 8) (laidMet_of_run' 8 (by kernel_rfl) (by kernel_rfl)) (by kernel_rfl) (by kernel_rfl)
theorem tabMask {H : Type} : (Rows.laid_kinkeep_hmac_masks : DataW H) = Lib.tabData .u8 ([54, 92].map Int.ofNat) := rfl
theorem of_laid3 {W : World} (h : laidMetH Tryd.prog laidL3 W) : LaidH W := by
  rw [MakeChecks.laidMetH_plain _ _ _ (by kernel_rfl)] at h
  obtain ⟨ps, ⟨g0, t0, cs0, f0, p0, q0, hg0, ht0, hv0, hd0, ⟨g1, t1, cs1, f1, p1, q1, hg1, ht1, hv1, hd1, ⟨g2, t2, cs2, f2, p2, q2, hg2, ht2, hv2, hd2, _, _⟩, _⟩, _⟩, _, _⟩ := h
  obtain rfl := Option.some.inj (gInit.symm.trans hg0)
  obtain rfl := Option.some.inj (gCons.symm.trans hg1)
  obtain rfl := Option.some.inj (gMask.symm.trans hg2)
  obtain rfl := Option.some.inj (tInit.symm.trans ht0)
  obtain rfl := Option.some.inj (tCons.symm.trans ht1)
  obtain rfl := Option.some.inj (tMask.symm.trans ht2)
  rw [tabInit] at hd0
  rw [tabCons] at hd1
  rw [tabMask] at hd2
  have e0 := Lib.cells_of_tab Tryd.underlying85 Tryd.underlying84 (by kernel_rfl) (by kernel_rfl) hd0
  have e1 := Lib.cells_of_tab Tryd.underlying104 Tryd.underlying84 (by kernel_rfl) (by kernel_rfl) hd1
  have e2 := Lib.cells_of_tab Tryd.underlying98 Tryd.underlying5 (by kernel_rfl) (by kernel_rfl) hd2
  obtain ⟨ta, fa, ha⟩ := heap_of_var gInit hv0
  obtain ⟨tb, fb, hb⟩ := heap_of_var gCons hv1
  obtain ⟨tc, fc, hc⟩ := heap_of_var gMask hv2
  have hc1 : cs1 = ((Sh.K.map Int.ofNat).map fun z => Value.int .u32 z).toArray := by rw [← e1]
  have hc2 : cs2 = (([54, 92].map Int.ofNat).map fun z => Value.int .u8 z).toArray := by rw [← e2]
  have hc0 : cs0 = stA Sh.H0 := by
    have : cs0 = (([Sh.H0.a, Sh.H0.b, Sh.H0.c, Sh.H0.d, Sh.H0.e, Sh.H0.f, Sh.H0.g, Sh.H0.h].map Int.ofNat).map fun z => Value.int .u32 z).toArray := by rw [← e0]
    rw [this]; rfl
  refine ⟨⟨?_, ?_, ⟨ta, fa, by rw [ha, hc0]⟩⟩, ?_, ?_⟩
  · have : (2 : Nat) < W.heap.size := by
      rcases Nat.lt_or_ge 2 W.heap.size with h | h
      · exact h
      · rw [Array.getElem?_eq_none h] at hb; cases hb
    omega
  · intro i hi
    rw [cell_of_row W _ i _ _ _ hb, hc1]
    have hl : i < Sh.K.length := by have : Sh.K.length = 64 := by decide +kernel
                                    omega
    simp only [List.getElem?_toArray, List.getElem?_map, List.getElem?_eq_getElem hl, Option.map_some]
    unfold Sh.k
    rw [List.getD_eq_getElem?_getD, List.getElem?_eq_getElem hl]
    rfl
  · rw [cell_of_row W _ 0 _ _ _ hc, hc2]; rfl
  · rw [cell_of_row W _ 1 _ _ _ hc, hc2]; rfl
end Go.Proofs.YtegfbmekpmdcaaaDoor
