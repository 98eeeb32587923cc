import Derived.Test.YtlpggkdmjmlpkaaBy
import Derived.ProofKit
import Derived.OpenShut
import Derived.Deep.Matrix
namespace Go.Proofs.Ytlpggkdmjmlpkaa
open Go.ChangeShapes Go.WideShapes Go.ChangeAt Go.RowKit
/-- a slice of slices of bytes as it comes in -/
structure RowsB (w : World) (a : Option Addr) (len : Nat) (A : Nat → Option Addr) (L C : Nat → Nat) (bs : Nat → List Nat) : Prop where
  top : ∀ i, i < len → ∃ b off, a = some ⟨b, off, none⟩ ∧ w.cell? ⟨b, off + i, none⟩ = some (.slice (A i) (L i) (C i))
  row : ∀ i, i < len → RowB w (A i) (L i) (C i) (bs i)
theorem plain_addr {w : World} {x : Addr} {v : Value} {j : Nat} (h0 : w.cell? (x.add 0) = some v) : ∃ b off, x = ⟨b, off, none⟩ ∧ x.add j = ⟨b, off + j, none⟩ := by
  obtain ⟨b, off, spot⟩ := x
  have hspot : spot = none := by simpa [Addr.add] using World.cell?_spot h0
  subst hspot
  exact ⟨b, off, rfl, by unfold Addr.add; split <;> simp_all⟩
theorem rowB_of {w : World} (a : Option Addr) (len cap : Nat) (zs : List Int) (hl : len ≤ cap) (hm : cap ≤ maxLen) (hz : zs.length = cap) (hwz : ∀ n ∈ zs, (Lit.int .u8 n).wf = true) (hnil : a = none → cap = 0)
    (hcell : ∀ x, a = some x → ∀ c, c < cap → w.cell? (x.add c) = some (.int .u8 (zs.getD c 0))) : RowB w a len cap ((zs.take len).map Int.toNat) := by
  refine ⟨fun i hi => ?_, by simp; omega, fun h => ?_, fun x hx => ?_, by simp; omega, hm⟩
  · have hi2 : i < len := by simp at hi; omega
    cases a with
    | none => exfalso; have := hnil rfl; omega
    | some x =>
      obtain ⟨b, off, rfl, hadd⟩ := plain_addr (j := i) (hcell x rfl 0 (by omega))
      have hc := hcell _ rfl i (by omega)
      have hlt : i < zs.length := by omega
      have hmem : zs.getD i 0 ∈ zs := by
        rw [show zs.getD i 0 = zs[i] by simp [List.getD, List.getElem?_eq_getElem hlt]]
        exact List.getElem_mem _
      have hw := bounds_u8 (hwz _ hmem)
      refine ⟨b, off, rfl, ?_⟩
      rw [hadd] at hc
      rw [hc, getD_take_map zs len i hi2 (by omega), show (((zs.getD i 0).toNat : Nat) : Int) = zs.getD i 0 by omega]
  · have hc := hnil h
    refine ⟨hc, ?_⟩
    have : zs = [] := List.eq_nil_of_length_eq_zero (by omega)
    rw [this]; simp
  · simp only [List.mem_map] at hx
    obtain ⟨z, hz2, rfl⟩ := hx
    have hw := bounds_u8 (hwz z (List.mem_of_mem_take hz2))
    omega
end Go.Proofs.Ytlpggkdmjmlpkaa
