/-
  No cell of these rows narrows 'for every input' (looked for: loops, veiled, ifaces, maps, wideKeys, modest, calm, conditions, laid).
  DERIVED. THE GIVEN ROWS OF THIS SEAT. 6 by the template 'for every input the law returns true; each argument reads behind the call as it read before'; 0 by the template 'total and deterministic' (their statements: YtcnjcfmgkkghjaaTotals.lean).
  GIVEN WITH THE SEED: the statements are not yours to turn. If you find one false, say at which input.
  Laid BY PROGRAM, IN A SANDBOX (cutbox-rows.mjs): the forced cells as the released guide's own fill.sh prints them over the translation 3d5b5eab8178a9b6… (all of the seat's roots in one cut). By AI agents, Wed Nov 11 2026. No macro, syntax, notation, axiom, sorry.
-/
import Derived.Test.YtcnjcfmgkkghjaaChecked
import GoSem.Claim
import GoSem.ClaimJoined
import GoSem.ClaimMapViews
import Derived.JoinedTies
import Derived.KernelRfl
namespace Go.Proofs.Ytcnjcfmgkkghjaa
/- THE CELL 'sum', in the pinned program and in every row, IS THE sha256 OF THE DUMP (.gsa) THAT YtcnjcfmgkkghjaaProg.lean LOADS. Nothing in Lean hashes anything: it is a label: what it is worth is what the hold of that sum in a sandbox is worth. -/
noncomputable def Try.pinned : Pinned := { name := "ytcnjcfmgkkghjaa", sum := "3d5b5eab8178a9b60de88048bd8a26cc1cd4202fb635a7c7486d16776966b85b", checked := Try.checked }
namespace Rows
def none {H : Type} : Left H := { results := [], args := [] }

/-- 'kinkeeplaw06.PolynomialValues': WHATEVER THE INPUT: true; the input reads as it did. -/
def polynomialValuesSpec : ChangeSpec := { name := "polynomialValues", fn := fun _ => fun
  | [d1, d2] => { results := [.lit (.bool true)], args := [d1, d2] }
  | _ => none }
def polynomialValuesRow : OpenClaim := { program := "ytcnjcfmgkkghjaa", sum := "3d5b5eab8178a9b60de88048bd8a26cc1cd4202fb635a7c7486d16776966b85b", func := "kinkeep/kinkeeplaw06.PolynomialValues", spec := "polynomialValues", unfollowed := true, recurses := true, apart := false }
def PolynomialValuesSaid : Prop := polynomialValuesRow.holds Try.pinned (OpenSpec.ofChange polynomialValuesSpec)

/-- ITS FALSE NEIGHBOUR: 'it returns false'. Refute it at one input. -/
def polynomialValuesWrong : ChangeSpec := { name := "polynomialValues", fn := fun _ => fun
  | [d1, d2] => { results := [.lit (.bool false)], args := [d1, d2] }
  | _ => none }
def PolynomialValuesWrongFalsely : Prop := polynomialValuesRow.holds Try.pinned (OpenSpec.ofChange polynomialValuesWrong)

/-- 'kinkeeplaw06.PolynomialInterpolates': WHATEVER THE INPUT: true; the input reads as it did. -/
def polynomialInterpolatesSpec : ChangeSpec := { name := "polynomialInterpolates", fn := fun _ => fun
  | [d1, d2] => { results := [.lit (.bool true)], args := [d1, d2] }
  | _ => none }
def polynomialInterpolatesRow : OpenClaim := { program := "ytcnjcfmgkkghjaa", sum := "3d5b5eab8178a9b60de88048bd8a26cc1cd4202fb635a7c7486d16776966b85b", func := "kinkeep/kinkeeplaw06.PolynomialInterpolates", spec := "polynomialInterpolates", unfollowed := true, recurses := true, apart := false }
def PolynomialInterpolatesSaid : Prop := polynomialInterpolatesRow.holds Try.pinned (OpenSpec.ofChange polynomialInterpolatesSpec)

/-- ITS FALSE NEIGHBOUR: 'it returns false'. Refute it at one input. -/
def polynomialInterpolatesWrong : ChangeSpec := { name := "polynomialInterpolates", fn := fun _ => fun
  | [d1, d2] => { results := [.lit (.bool false)], args := [d1, d2] }
  | _ => none }
def PolynomialInterpolatesWrongFalsely : Prop := polynomialInterpolatesRow.holds Try.pinned (OpenSpec.ofChange polynomialInterpolatesWrong)

/-- 'kinkeeplaw06.PolynomialUnique': WHATEVER THE INPUT: true; the input reads as it did. -/
def polynomialUniqueSpec : ChangeSpec := { name := "polynomialUnique", fn := fun _ => fun
  | [d1, d2, d3] => { results := [.lit (.bool true)], args := [d1, d2, d3] }
  | _ => none }
def polynomialUniqueRow : OpenClaim := { program := "ytcnjcfmgkkghjaa", sum := "3d5b5eab8178a9b60de88048bd8a26cc1cd4202fb635a7c7486d16776966b85b", func := "kinkeep/kinkeeplaw06.PolynomialUnique", spec := "polynomialUnique", unfollowed := true, recurses := true, apart := false }
def PolynomialUniqueSaid : Prop := polynomialUniqueRow.holds Try.pinned (OpenSpec.ofChange polynomialUniqueSpec)

/-- ITS FALSE NEIGHBOUR: 'it returns false'. Refute it at one input. -/
def polynomialUniqueWrong : ChangeSpec := { name := "polynomialUnique", fn := fun _ => fun
  | [d1, d2, d3] => { results := [.lit (.bool false)], args := [d1, d2, d3] }
  | _ => none }
def PolynomialUniqueWrongFalsely : Prop := polynomialUniqueRow.holds Try.pinned (OpenSpec.ofChange polynomialUniqueWrong)

/-- 'kinkeeplaw06.PolynomialCommon': WHATEVER THE INPUT: true; the input reads as it did. -/
def polynomialCommonSpec : ChangeSpec := { name := "polynomialCommon", fn := fun _ => fun
  | [d1, d2, d3] => { results := [.lit (.bool true)], args := [d1, d2, d3] }
  | _ => none }
def polynomialCommonRow : OpenClaim := { program := "ytcnjcfmgkkghjaa", sum := "3d5b5eab8178a9b60de88048bd8a26cc1cd4202fb635a7c7486d16776966b85b", func := "kinkeep/kinkeeplaw06.PolynomialCommon", spec := "polynomialCommon", unfollowed := true, recurses := true, apart := false }
def PolynomialCommonSaid : Prop := polynomialCommonRow.holds Try.pinned (OpenSpec.ofChange polynomialCommonSpec)

/-- ITS FALSE NEIGHBOUR: 'it returns false'. Refute it at one input. -/
def polynomialCommonWrong : ChangeSpec := { name := "polynomialCommon", fn := fun _ => fun
  | [d1, d2, d3] => { results := [.lit (.bool false)], args := [d1, d2, d3] }
  | _ => none }
def PolynomialCommonWrongFalsely : Prop := polynomialCommonRow.holds Try.pinned (OpenSpec.ofChange polynomialCommonWrong)

/-- 'kinkeeplaw06.PolynomialFactors': WHATEVER THE INPUT: true; the input reads as it did. -/
def polynomialFactorsSpec : ChangeSpec := { name := "polynomialFactors", fn := fun _ => fun
  | [d1, d2] => { results := [.lit (.bool true)], args := [d1, d2] }
  | _ => none }
def polynomialFactorsRow : OpenClaim := { program := "ytcnjcfmgkkghjaa", sum := "3d5b5eab8178a9b60de88048bd8a26cc1cd4202fb635a7c7486d16776966b85b", func := "kinkeep/kinkeeplaw06.PolynomialFactors", spec := "polynomialFactors", unfollowed := true, recurses := true, apart := false }
def PolynomialFactorsSaid : Prop := polynomialFactorsRow.holds Try.pinned (OpenSpec.ofChange polynomialFactorsSpec)

/-- ITS FALSE NEIGHBOUR: 'it returns false'. Refute it at one input. -/
def polynomialFactorsWrong : ChangeSpec := { name := "polynomialFactors", fn := fun _ => fun
  | [d1, d2] => { results := [.lit (.bool false)], args := [d1, d2] }
  | _ => none }
def PolynomialFactorsWrongFalsely : Prop := polynomialFactorsRow.holds Try.pinned (OpenSpec.ofChange polynomialFactorsWrong)

/-- 'kinkeeplaw06.PolynomialDerives': WHATEVER THE INPUT: true; the input reads as it did. -/
def polynomialDerivesSpec : ChangeSpec := { name := "polynomialDerives", fn := fun _ => fun
  | [d1, d2, d3] => { results := [.lit (.bool true)], args := [d1, d2, d3] }
  | _ => none }
def polynomialDerivesRow : OpenClaim := { program := "ytcnjcfmgkkghjaa", sum := "3d5b5eab8178a9b60de88048bd8a26cc1cd4202fb635a7c7486d16776966b85b", func := "kinkeep/kinkeeplaw06.PolynomialDerives", spec := "polynomialDerives", unfollowed := true, recurses := true, apart := false }
def PolynomialDerivesSaid : Prop := polynomialDerivesRow.holds Try.pinned (OpenSpec.ofChange polynomialDerivesSpec)

/-- ITS FALSE NEIGHBOUR: 'it returns false'. Refute it at one input. -/
def polynomialDerivesWrong : ChangeSpec := { name := "polynomialDerives", fn := fun _ => fun
  | [d1, d2, d3] => { results := [.lit (.bool false)], args := [d1, d2, d3] }
  | _ => none }
def PolynomialDerivesWrongFalsely : Prop := polynomialDerivesRow.holds Try.pinned (OpenSpec.ofChange polynomialDerivesWrong)

/- THE SECOND FORM. 'bulk': how many values and letters a reading holds, each counted each time it is reached (what is shared counts as often as it is met; a slice's spare places count too). A statement '..UptoSaid' is the law's where the arguments, and the package variables that the reading takes, are together of bulk at most 1048576: NARROWER than '..Said'. Prove '..Said' where nothing that the law and all that it calls make is longer than what came in: it says more and counts as full. Else prove '..UptoSaid'. A law counts once. -/
mutual
def uptoBulk {H : Type} : DataW H → Nat
  | .lit (.string bytes) => bytes.length + 1
  | .lit _ => 1
  | .nil => 1
  | .ptr d => uptoBulk d + 1
  | .slice elems spare => uptoBulkAll elems + uptoBulkAll spare + 1
  | .agg parts => uptoBulkAll parts + 1
  | .iface _ d => uptoBulk d + 1
  | .map entries => uptoBulkEntries entries + 1
  | .held _ => 1
def uptoBulkAll {H : Type} : List (DataW H) → Nat
  | [] => 0
  | d :: r => uptoBulk d + uptoBulkAll r
def uptoBulkEntries {H : Type} : List (Lit × DataW H) → Nat
  | [] => 0
  | x :: r => uptoBulkEntry x + uptoBulkEntries r
def uptoBulkEntry {H : Type} : Lit × DataW H → Nat
  | (.string bytes, d) => bytes.length + uptoBulk d + 1
  | (_, d) => uptoBulk d + 1
 end
def uptoSmall : (H : Type) → List (DataW H) → Bool := fun _ ds => decide (uptoBulkAll ds ≤ 1048576)
def OpenSpec.upto (s : _root_.Go.ChangeSpec) : _root_.Go.OpenSpec := { _root_.Go.OpenSpec.ofChange s with cond := some uptoSmall }

/-- 'kinkeeplaw06.PolynomialValues', WHERE WHAT IT READS IS OF BULK AT MOST 1048576: true; the input reads as it did. -/
def polynomialValuesUptoRow : OpenClaim := { program := "ytcnjcfmgkkghjaa", sum := "3d5b5eab8178a9b60de88048bd8a26cc1cd4202fb635a7c7486d16776966b85b", func := "kinkeep/kinkeeplaw06.PolynomialValues", spec := "polynomialValues", unfollowed := true, recurses := true, apart := false, narrowed := true }
def PolynomialValuesUptoSaid : Prop := polynomialValuesUptoRow.holds Try.pinned (OpenSpec.upto polynomialValuesSpec)

/-- 'kinkeeplaw06.PolynomialInterpolates', WHERE WHAT IT READS IS OF BULK AT MOST 1048576: true; the input reads as it did. -/
def polynomialInterpolatesUptoRow : OpenClaim := { program := "ytcnjcfmgkkghjaa", sum := "3d5b5eab8178a9b60de88048bd8a26cc1cd4202fb635a7c7486d16776966b85b", func := "kinkeep/kinkeeplaw06.PolynomialInterpolates", spec := "polynomialInterpolates", unfollowed := true, recurses := true, apart := false, narrowed := true }
def PolynomialInterpolatesUptoSaid : Prop := polynomialInterpolatesUptoRow.holds Try.pinned (OpenSpec.upto polynomialInterpolatesSpec)

/-- 'kinkeeplaw06.PolynomialUnique', WHERE WHAT IT READS IS OF BULK AT MOST 1048576: true; the input reads as it did. -/
def polynomialUniqueUptoRow : OpenClaim := { program := "ytcnjcfmgkkghjaa", sum := "3d5b5eab8178a9b60de88048bd8a26cc1cd4202fb635a7c7486d16776966b85b", func := "kinkeep/kinkeeplaw06.PolynomialUnique", spec := "polynomialUnique", unfollowed := true, recurses := true, apart := false, narrowed := true }
def PolynomialUniqueUptoSaid : Prop := polynomialUniqueUptoRow.holds Try.pinned (OpenSpec.upto polynomialUniqueSpec)

/-- 'kinkeeplaw06.PolynomialCommon', WHERE WHAT IT READS IS OF BULK AT MOST 1048576: true; the input reads as it did. -/
def polynomialCommonUptoRow : OpenClaim := { program := "ytcnjcfmgkkghjaa", sum := "3d5b5eab8178a9b60de88048bd8a26cc1cd4202fb635a7c7486d16776966b85b", func := "kinkeep/kinkeeplaw06.PolynomialCommon", spec := "polynomialCommon", unfollowed := true, recurses := true, apart := false, narrowed := true }
def PolynomialCommonUptoSaid : Prop := polynomialCommonUptoRow.holds Try.pinned (OpenSpec.upto polynomialCommonSpec)

/-- 'kinkeeplaw06.PolynomialFactors', WHERE WHAT IT READS IS OF BULK AT MOST 1048576: true; the input reads as it did. -/
def polynomialFactorsUptoRow : OpenClaim := { program := "ytcnjcfmgkkghjaa", sum := "3d5b5eab8178a9b60de88048bd8a26cc1cd4202fb635a7c7486d16776966b85b", func := "kinkeep/kinkeeplaw06.PolynomialFactors", spec := "polynomialFactors", unfollowed := true, recurses := true, apart := false, narrowed := true }
def PolynomialFactorsUptoSaid : Prop := polynomialFactorsUptoRow.holds Try.pinned (OpenSpec.upto polynomialFactorsSpec)

/-- 'kinkeeplaw06.PolynomialDerives', WHERE WHAT IT READS IS OF BULK AT MOST 1048576: true; the input reads as it did. -/
def polynomialDerivesUptoRow : OpenClaim := { program := "ytcnjcfmgkkghjaa", sum := "3d5b5eab8178a9b60de88048bd8a26cc1cd4202fb635a7c7486d16776966b85b", func := "kinkeep/kinkeeplaw06.PolynomialDerives", spec := "polynomialDerives", unfollowed := true, recurses := true, apart := false, narrowed := true }
def PolynomialDerivesUptoSaid : Prop := polynomialDerivesUptoRow.holds Try.pinned (OpenSpec.upto polynomialDerivesSpec)

end Rows
end Go.Proofs.Ytcnjcfmgkkghjaa
