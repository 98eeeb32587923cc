/-
  No cell of these rows narrows 'for every input' (looked for: loops, veiled, ifaces, maps, wideKeys, modest, calm, conditions, laid).
  DERIVED. THE GIVEN ROWS OF THIS SEAT. 8 by the template 'for every input the law returns true; each argument reads behind the call as it read before'; 0 by the template 'total and deterministic' (their statements: YtnkemflpenlmgaaTotals.lean).
  GIVEN WITH THE SEED: the statements are not yours to turn. If you find one false, say at which input.
  Laid BY PROGRAM, IN A SANDBOX (cutbox-rows.mjs): the forced cells as the released guide's own fill.sh prints them over the translation 20054ff0306cd020… (all of the seat's roots in one cut). By AI agents, Wed Nov 11 2026. No macro, syntax, notation, axiom, sorry.
-/
import Derived.Test.YtnkemflpenlmgaaChecked
import GoSem.Claim
import GoSem.ClaimJoined
import GoSem.ClaimMapViews
import Derived.JoinedTies
import Derived.KernelRfl
namespace Go.Proofs.Ytnkemflpenlmgaa
/- THE CELL 'sum', in the pinned program and in every row, IS THE sha256 OF THE DUMP (.gsa) THAT YtnkemflpenlmgaaProg.lean LOADS. Nothing in Lean hashes anything: it is a label: what it is worth is what the hold of that sum in a sandbox is worth. -/
noncomputable def Try.pinned : Pinned := { name := "ytnkemflpenlmgaa", sum := "20054ff0306cd02074e39bf8981db6f852a7ec5a42d594a91cf7a7b27cc09e85", checked := Try.checked }
namespace Rows
def none {H : Type} : Left H := { results := [], args := [] }

/-- 'kinkeeplaw07.Chacha20Quarter': WHATEVER THE INPUT: true; the input reads as it did. -/
def chacha20QuarterSpec : ChangeSpec := { name := "chacha20Quarter", fn := fun _ => fun
  | [d1, d2, d3, d4] => { results := [.lit (.bool true)], args := [d1, d2, d3, d4] }
  | _ => none }
def chacha20QuarterRow : OpenClaim := { program := "ytnkemflpenlmgaa", sum := "20054ff0306cd02074e39bf8981db6f852a7ec5a42d594a91cf7a7b27cc09e85", func := "kinkeep/kinkeeplaw07.Chacha20Quarter", spec := "chacha20Quarter", apart := false }
def Chacha20QuarterSaid : Prop := chacha20QuarterRow.holds Try.pinned (OpenSpec.ofChange chacha20QuarterSpec)

/-- ITS FALSE NEIGHBOUR: 'it returns false'. Refute it at one input. -/
def chacha20QuarterWrong : ChangeSpec := { name := "chacha20Quarter", fn := fun _ => fun
  | [d1, d2, d3, d4] => { results := [.lit (.bool false)], args := [d1, d2, d3, d4] }
  | _ => none }
def Chacha20QuarterWrongFalsely : Prop := chacha20QuarterRow.holds Try.pinned (OpenSpec.ofChange chacha20QuarterWrong)

/-- 'kinkeeplaw07.Chacha20Inverts': WHATEVER THE INPUT: true; the input reads as it did. -/
def chacha20InvertsSpec : ChangeSpec := { name := "chacha20Inverts", fn := fun _ => fun
  | [d1, d2, d3, d4] => { results := [.lit (.bool true)], args := [d1, d2, d3, d4] }
  | _ => none }
def chacha20InvertsRow : OpenClaim := { program := "ytnkemflpenlmgaa", sum := "20054ff0306cd02074e39bf8981db6f852a7ec5a42d594a91cf7a7b27cc09e85", func := "kinkeep/kinkeeplaw07.Chacha20Inverts", spec := "chacha20Inverts", apart := false }
def Chacha20InvertsSaid : Prop := chacha20InvertsRow.holds Try.pinned (OpenSpec.ofChange chacha20InvertsSpec)

/-- ITS FALSE NEIGHBOUR: 'it returns false'. Refute it at one input. -/
def chacha20InvertsWrong : ChangeSpec := { name := "chacha20Inverts", fn := fun _ => fun
  | [d1, d2, d3, d4] => { results := [.lit (.bool false)], args := [d1, d2, d3, d4] }
  | _ => none }
def Chacha20InvertsWrongFalsely : Prop := chacha20InvertsRow.holds Try.pinned (OpenSpec.ofChange chacha20InvertsWrong)

/-- 'kinkeeplaw07.Chacha20Block': WHATEVER THE INPUT: true; the input reads as it did. -/
def chacha20BlockSpec : ChangeSpec := { name := "chacha20Block", fn := fun _ => fun
  | [d1, d2, d3] => { results := [.lit (.bool true)], args := [d1, d2, d3] }
  | _ => none }
def chacha20BlockRow : OpenClaim := { program := "ytnkemflpenlmgaa", sum := "20054ff0306cd02074e39bf8981db6f852a7ec5a42d594a91cf7a7b27cc09e85", func := "kinkeep/kinkeeplaw07.Chacha20Block", spec := "chacha20Block", apart := false }
def Chacha20BlockSaid : Prop := chacha20BlockRow.holds Try.pinned (OpenSpec.ofChange chacha20BlockSpec)

/-- ITS FALSE NEIGHBOUR: 'it returns false'. Refute it at one input. -/
def chacha20BlockWrong : ChangeSpec := { name := "chacha20Block", fn := fun _ => fun
  | [d1, d2, d3] => { results := [.lit (.bool false)], args := [d1, d2, d3] }
  | _ => none }
def Chacha20BlockWrongFalsely : Prop := chacha20BlockRow.holds Try.pinned (OpenSpec.ofChange chacha20BlockWrong)

/-- 'kinkeeplaw07.Chacha20Stream': WHATEVER THE INPUT: true; the input reads as it did. -/
def chacha20StreamSpec : ChangeSpec := { name := "chacha20Stream", fn := fun _ => fun
  | [d1, d2, d3, d4] => { results := [.lit (.bool true)], args := [d1, d2, d3, d4] }
  | _ => none }
def chacha20StreamRow : OpenClaim := { program := "ytnkemflpenlmgaa", sum := "20054ff0306cd02074e39bf8981db6f852a7ec5a42d594a91cf7a7b27cc09e85", func := "kinkeep/kinkeeplaw07.Chacha20Stream", spec := "chacha20Stream", apart := false }
def Chacha20StreamSaid : Prop := chacha20StreamRow.holds Try.pinned (OpenSpec.ofChange chacha20StreamSpec)

/-- ITS FALSE NEIGHBOUR: 'it returns false'. Refute it at one input. -/
def chacha20StreamWrong : ChangeSpec := { name := "chacha20Stream", fn := fun _ => fun
  | [d1, d2, d3, d4] => { results := [.lit (.bool false)], args := [d1, d2, d3, d4] }
  | _ => none }
def Chacha20StreamWrongFalsely : Prop := chacha20StreamRow.holds Try.pinned (OpenSpec.ofChange chacha20StreamWrong)

/-- 'kinkeeplaw07.Chacha20Parts': WHATEVER THE INPUT: true; the input reads as it did. -/
def chacha20PartsSpec : ChangeSpec := { name := "chacha20Parts", fn := fun _ => fun
  | [d1, d2, d3, d4, d5] => { results := [.lit (.bool true)], args := [d1, d2, d3, d4, d5] }
  | _ => none }
def chacha20PartsRow : OpenClaim := { program := "ytnkemflpenlmgaa", sum := "20054ff0306cd02074e39bf8981db6f852a7ec5a42d594a91cf7a7b27cc09e85", func := "kinkeep/kinkeeplaw07.Chacha20Parts", spec := "chacha20Parts", apart := false }
def Chacha20PartsSaid : Prop := chacha20PartsRow.holds Try.pinned (OpenSpec.ofChange chacha20PartsSpec)

/-- ITS FALSE NEIGHBOUR: 'it returns false'. Refute it at one input. -/
def chacha20PartsWrong : ChangeSpec := { name := "chacha20Parts", fn := fun _ => fun
  | [d1, d2, d3, d4, d5] => { results := [.lit (.bool false)], args := [d1, d2, d3, d4, d5] }
  | _ => none }
def Chacha20PartsWrongFalsely : Prop := chacha20PartsRow.holds Try.pinned (OpenSpec.ofChange chacha20PartsWrong)

/-- 'kinkeeplaw07.Chacha20Aligned': WHATEVER THE INPUT: true; the input reads as it did. -/
def chacha20AlignedSpec : ChangeSpec := { name := "chacha20Aligned", fn := fun _ => fun
  | [d1, d2, d3] => { results := [.lit (.bool true)], args := [d1, d2, d3] }
  | _ => none }
def chacha20AlignedRow : OpenClaim := { program := "ytnkemflpenlmgaa", sum := "20054ff0306cd02074e39bf8981db6f852a7ec5a42d594a91cf7a7b27cc09e85", func := "kinkeep/kinkeeplaw07.Chacha20Aligned", spec := "chacha20Aligned", apart := false }
def Chacha20AlignedSaid : Prop := chacha20AlignedRow.holds Try.pinned (OpenSpec.ofChange chacha20AlignedSpec)

/-- ITS FALSE NEIGHBOUR: 'it returns false'. Refute it at one input. -/
def chacha20AlignedWrong : ChangeSpec := { name := "chacha20Aligned", fn := fun _ => fun
  | [d1, d2, d3] => { results := [.lit (.bool false)], args := [d1, d2, d3] }
  | _ => none }
def Chacha20AlignedWrongFalsely : Prop := chacha20AlignedRow.holds Try.pinned (OpenSpec.ofChange chacha20AlignedWrong)

/-- 'kinkeeplaw07.Chacha20Xor': WHATEVER THE INPUT: true; the input reads as it did. -/
def chacha20XorSpec : ChangeSpec := { name := "chacha20Xor", fn := fun _ => fun
  | [d1, d2] => { results := [.lit (.bool true)], args := [d1, d2] }
  | _ => none }
def chacha20XorRow : OpenClaim := { program := "ytnkemflpenlmgaa", sum := "20054ff0306cd02074e39bf8981db6f852a7ec5a42d594a91cf7a7b27cc09e85", func := "kinkeep/kinkeeplaw07.Chacha20Xor", spec := "chacha20Xor", apart := false }
def Chacha20XorSaid : Prop := chacha20XorRow.holds Try.pinned (OpenSpec.ofChange chacha20XorSpec)

/-- ITS FALSE NEIGHBOUR: 'it returns false'. Refute it at one input. -/
def chacha20XorWrong : ChangeSpec := { name := "chacha20Xor", fn := fun _ => fun
  | [d1, d2] => { results := [.lit (.bool false)], args := [d1, d2] }
  | _ => none }
def Chacha20XorWrongFalsely : Prop := chacha20XorRow.holds Try.pinned (OpenSpec.ofChange chacha20XorWrong)

/-- 'kinkeeplaw07.Chacha20Twice': WHATEVER THE INPUT: true; the input reads as it did. -/
def chacha20TwiceSpec : ChangeSpec := { name := "chacha20Twice", fn := fun _ => fun
  | [d1, d2] => { results := [.lit (.bool true)], args := [d1, d2] }
  | _ => none }
def chacha20TwiceRow : OpenClaim := { program := "ytnkemflpenlmgaa", sum := "20054ff0306cd02074e39bf8981db6f852a7ec5a42d594a91cf7a7b27cc09e85", func := "kinkeep/kinkeeplaw07.Chacha20Twice", spec := "chacha20Twice", apart := false }
def Chacha20TwiceSaid : Prop := chacha20TwiceRow.holds Try.pinned (OpenSpec.ofChange chacha20TwiceSpec)

/-- ITS FALSE NEIGHBOUR: 'it returns false'. Refute it at one input. -/
def chacha20TwiceWrong : ChangeSpec := { name := "chacha20Twice", fn := fun _ => fun
  | [d1, d2] => { results := [.lit (.bool false)], args := [d1, d2] }
  | _ => none }
def Chacha20TwiceWrongFalsely : Prop := chacha20TwiceRow.holds Try.pinned (OpenSpec.ofChange chacha20TwiceWrong)

/- THE SECOND FORM. 'bulk': how many values and letters a reading holds, each counted each time it is reached (what is shared counts as often as it is met; a slice's spare places count too). A statement '..UptoSaid' is the law's where the arguments, and the package variables that the reading takes, are together of bulk at most 1048576: NARROWER than '..Said'. Prove '..Said' where nothing that the law and all that it calls make is longer than what came in: it says more and counts as full. Else prove '..UptoSaid'. A law counts once. -/
mutual
def uptoBulk {H : Type} : DataW H → Nat
  | .lit (.string bytes) => bytes.length + 1
  | .lit _ => 1
  | .nil => 1
  | .ptr d => uptoBulk d + 1
  | .slice elems spare => uptoBulkAll elems + uptoBulkAll spare + 1
  | .agg parts => uptoBulkAll parts + 1
  | .iface _ d => uptoBulk d + 1
  | .map entries => uptoBulkEntries entries + 1
  | .held _ => 1
def uptoBulkAll {H : Type} : List (DataW H) → Nat
  | [] => 0
  | d :: r => uptoBulk d + uptoBulkAll r
def uptoBulkEntries {H : Type} : List (Lit × DataW H) → Nat
  | [] => 0
  | x :: r => uptoBulkEntry x + uptoBulkEntries r
def uptoBulkEntry {H : Type} : Lit × DataW H → Nat
  | (.string bytes, d) => bytes.length + uptoBulk d + 1
  | (_, d) => uptoBulk d + 1
 end
def uptoSmall : (H : Type) → List (DataW H) → Bool := fun _ ds => decide (uptoBulkAll ds ≤ 1048576)
def OpenSpec.upto (s : _root_.Go.ChangeSpec) : _root_.Go.OpenSpec := { _root_.Go.OpenSpec.ofChange s with cond := some uptoSmall }

/-- 'kinkeeplaw07.Chacha20Quarter', WHERE WHAT IT READS IS OF BULK AT MOST 1048576: true; the input reads as it did. -/
def chacha20QuarterUptoRow : OpenClaim := { program := "ytnkemflpenlmgaa", sum := "20054ff0306cd02074e39bf8981db6f852a7ec5a42d594a91cf7a7b27cc09e85", func := "kinkeep/kinkeeplaw07.Chacha20Quarter", spec := "chacha20Quarter", apart := false, narrowed := true }
def Chacha20QuarterUptoSaid : Prop := chacha20QuarterUptoRow.holds Try.pinned (OpenSpec.upto chacha20QuarterSpec)

/-- 'kinkeeplaw07.Chacha20Inverts', WHERE WHAT IT READS IS OF BULK AT MOST 1048576: true; the input reads as it did. -/
def chacha20InvertsUptoRow : OpenClaim := { program := "ytnkemflpenlmgaa", sum := "20054ff0306cd02074e39bf8981db6f852a7ec5a42d594a91cf7a7b27cc09e85", func := "kinkeep/kinkeeplaw07.Chacha20Inverts", spec := "chacha20Inverts", apart := false, narrowed := true }
def Chacha20InvertsUptoSaid : Prop := chacha20InvertsUptoRow.holds Try.pinned (OpenSpec.upto chacha20InvertsSpec)

/-- 'kinkeeplaw07.Chacha20Block', WHERE WHAT IT READS IS OF BULK AT MOST 1048576: true; the input reads as it did. -/
def chacha20BlockUptoRow : OpenClaim := { program := "ytnkemflpenlmgaa", sum := "20054ff0306cd02074e39bf8981db6f852a7ec5a42d594a91cf7a7b27cc09e85", func := "kinkeep/kinkeeplaw07.Chacha20Block", spec := "chacha20Block", apart := false, narrowed := true }
def Chacha20BlockUptoSaid : Prop := chacha20BlockUptoRow.holds Try.pinned (OpenSpec.upto chacha20BlockSpec)

/-- 'kinkeeplaw07.Chacha20Stream', WHERE WHAT IT READS IS OF BULK AT MOST 1048576: true; the input reads as it did. -/
def chacha20StreamUptoRow : OpenClaim := { program := "ytnkemflpenlmgaa", sum := "20054ff0306cd02074e39bf8981db6f852a7ec5a42d594a91cf7a7b27cc09e85", func := "kinkeep/kinkeeplaw07.Chacha20Stream", spec := "chacha20Stream", apart := false, narrowed := true }
def Chacha20StreamUptoSaid : Prop := chacha20StreamUptoRow.holds Try.pinned (OpenSpec.upto chacha20StreamSpec)

/-- 'kinkeeplaw07.Chacha20Parts', WHERE WHAT IT READS IS OF BULK AT MOST 1048576: true; the input reads as it did. -/
def chacha20PartsUptoRow : OpenClaim := { program := "ytnkemflpenlmgaa", sum := "20054ff0306cd02074e39bf8981db6f852a7ec5a42d594a91cf7a7b27cc09e85", func := "kinkeep/kinkeeplaw07.Chacha20Parts", spec := "chacha20Parts", apart := false, narrowed := true }
def Chacha20PartsUptoSaid : Prop := chacha20PartsUptoRow.holds Try.pinned (OpenSpec.upto chacha20PartsSpec)

/-- 'kinkeeplaw07.Chacha20Aligned', WHERE WHAT IT READS IS OF BULK AT MOST 1048576: true; the input reads as it did. -/
def chacha20AlignedUptoRow : OpenClaim := { program := "ytnkemflpenlmgaa", sum := "20054ff0306cd02074e39bf8981db6f852a7ec5a42d594a91cf7a7b27cc09e85", func := "kinkeep/kinkeeplaw07.Chacha20Aligned", spec := "chacha20Aligned", apart := false, narrowed := true }
def Chacha20AlignedUptoSaid : Prop := chacha20AlignedUptoRow.holds Try.pinned (OpenSpec.upto chacha20AlignedSpec)

/-- 'kinkeeplaw07.Chacha20Xor', WHERE WHAT IT READS IS OF BULK AT MOST 1048576: true; the input reads as it did. -/
def chacha20XorUptoRow : OpenClaim := { program := "ytnkemflpenlmgaa", sum := "20054ff0306cd02074e39bf8981db6f852a7ec5a42d594a91cf7a7b27cc09e85", func := "kinkeep/kinkeeplaw07.Chacha20Xor", spec := "chacha20Xor", apart := false, narrowed := true }
def Chacha20XorUptoSaid : Prop := chacha20XorUptoRow.holds Try.pinned (OpenSpec.upto chacha20XorSpec)

/-- 'kinkeeplaw07.Chacha20Twice', WHERE WHAT IT READS IS OF BULK AT MOST 1048576: true; the input reads as it did. -/
def chacha20TwiceUptoRow : OpenClaim := { program := "ytnkemflpenlmgaa", sum := "20054ff0306cd02074e39bf8981db6f852a7ec5a42d594a91cf7a7b27cc09e85", func := "kinkeep/kinkeeplaw07.Chacha20Twice", spec := "chacha20Twice", apart := false, narrowed := true }
def Chacha20TwiceUptoSaid : Prop := chacha20TwiceUptoRow.holds Try.pinned (OpenSpec.upto chacha20TwiceSpec)

end Rows
end Go.Proofs.Ytnkemflpenlmgaa
