/-
  NARROWER THAN 'FOR EVERY INPUT', by the rows' own cells (each row's printed sentence says how): RollinghashTables: laid · RollinghashHashes: laid · RollinghashPushes: laid · RollinghashResets: laid · RollinghashForgets: laid · RollinghashAlls: laid · RollinghashJoins: laid · RollinghashZeros: laid.
  DERIVED. THE GIVEN ROWS OF THIS SEAT. 8 by the template 'for every input the law returns true; each argument reads behind the call as it read before'; 0 by the template 'total and deterministic' (their statements: YtneiglhcfgnclaaDoorTotals.lean).
  GIVEN WITH THE SEED: the statements are not yours to turn. If you find one false, say at which input.
  Laid BY PROGRAM, IN A SANDBOX (cutbox-rows.mjs): the forced cells as the released guide's own fill.sh prints them over the translation 5f415733bde3ab67… (all of the seat's roots in one cut). By AI agents, Wed Nov 11 2026. No macro, syntax, notation, axiom, sorry.
-/
import Derived.Test.YtneiglhcfgnclaaDoorChecked
import GoSem.Claim
import GoSem.ClaimJoined
import GoSem.ClaimMapViews
import Derived.JoinedTies
import Derived.KernelRfl
namespace Go.Proofs.YtneiglhcfgnclaaDoor
/- THE CELL 'sum', in the pinned program and in every row, IS THE sha256 OF THE DUMP (.gsa) THAT YtneiglhcfgnclaaDoorProg.lean LOADS. Nothing in Lean hashes anything: it is a label: what it is worth is what the hold of that sum in a sandbox is worth. -/
noncomputable def Tryd.pinned : Pinned := { name := "ytneiglhcfgnclaadoor", sum := "5f415733bde3ab67e0031c51ba53371174a6fae12a5a4ea3940f0a46df104fcb", checked := Tryd.checked }
namespace Rows
def none {H : Type} : Left H := { results := [], args := [] }

/- WHAT THE LISTED PACKAGE-LEVEL VARIABLES READ AS WHEN THE CALL BEGINS. Each datum BY PROGRAM (the guide's laid-datum.mjs) off the statement by which the dump's own 'gosem.cut.vars' lays the variable. In a bare row this is a premise. The card (YtneiglhcfgnclaaDoorCards.lean) ties it to the program's text. -/
def laid_math_bits_deBruijn64tab {H : Type} : DataW H := .agg [.lit (.int .u8 0), .lit (.int .u8 1), .lit (.int .u8 56), .lit (.int .u8 2), .lit (.int .u8 57), .lit (.int .u8 49), .lit (.int .u8 28), .lit (.int .u8 3), .lit (.int .u8 61), .lit (.int .u8 58), .lit (.int .u8 42), .lit (.int .u8 50), .lit (.int .u8 38), .lit (.int .u8 29), .lit (.int .u8 17), .lit (.int .u8 4), .lit (.int .u8 62), .lit (.int .u8 47), .lit (.int .u8 59), .lit (.int .u8 36), .lit (.int .u8 45), .lit (.int .u8 43), .lit (.int .u8 51), .lit (.int .u8 22), .lit (.int .u8 53), .lit (.int .u8 39), .lit (.int .u8 33), .lit (.int .u8 30), .lit (.int .u8 24), .lit (.int .u8 18), .lit (.int .u8 12), .lit (.int .u8 5), .lit (.int .u8 63), .lit (.int .u8 55), .lit (.int .u8 48), .lit (.int .u8 27), .lit (.int .u8 60), .lit (.int .u8 41), .lit (.int .u8 37), .lit (.int .u8 16), .lit (.int .u8 46), .lit (.int .u8 35), .lit (.int .u8 44), .lit (.int .u8 21), .lit (.int .u8 52), .lit (.int .u8 32), .lit (.int .u8 23), .lit (.int .u8 11), .lit (.int .u8 54), .lit (.int .u8 26), .lit (.int .u8 40), .lit (.int .u8 15), .lit (.int .u8 34), .lit (.int .u8 20), .lit (.int .u8 31), .lit (.int .u8 10), .lit (.int .u8 25), .lit (.int .u8 14), .lit (.int .u8 19), .lit (.int .u8 9), .lit (.int .u8 13), .lit (.int .u8 8), .lit (.int .u8 7), .lit (.int .u8 6)]

/-- 'kinkeeplaw14.RollinghashTables': WHATEVER THE INPUT: true; the input reads as it did. -/
def rollinghashTablesSpec : ChangeSpec := { name := "rollinghashTables", fn := fun _ => fun
  | [d] => { results := [.lit (.bool true)], args := [d] }
  | _ => none }
def rollinghashTablesRow : OpenClaim := { program := "ytneiglhcfgnclaadoor", sum := "5f415733bde3ab67e0031c51ba53371174a6fae12a5a4ea3940f0a46df104fcb", func := "kinkeep/kinkeeplaw14.RollinghashTables", spec := "rollinghashTables", named := ["math/bits.deBruijn64tab"], apart := false, laid := [("math/bits.deBruijn64tab", laid_math_bits_deBruijn64tab)] }
def RollinghashTablesSaid : Prop := rollinghashTablesRow.holds Tryd.pinned (OpenSpec.ofChange rollinghashTablesSpec)

/-- ITS FALSE NEIGHBOUR: 'it returns false'. Refute it at one input. -/
def rollinghashTablesWrong : ChangeSpec := { name := "rollinghashTables", fn := fun _ => fun
  | [d] => { results := [.lit (.bool false)], args := [d] }
  | _ => none }
def RollinghashTablesWrongFalsely : Prop := rollinghashTablesRow.holds Tryd.pinned (OpenSpec.ofChange rollinghashTablesWrong)

/-- 'kinkeeplaw14.RollinghashHashes': WHATEVER THE INPUT: true; the input reads as it did. -/
def rollinghashHashesSpec : ChangeSpec := { name := "rollinghashHashes", fn := fun _ => fun
  | [d1, d2] => { results := [.lit (.bool true)], args := [d1, d2] }
  | _ => none }
def rollinghashHashesRow : OpenClaim := { program := "ytneiglhcfgnclaadoor", sum := "5f415733bde3ab67e0031c51ba53371174a6fae12a5a4ea3940f0a46df104fcb", func := "kinkeep/kinkeeplaw14.RollinghashHashes", spec := "rollinghashHashes", named := ["math/bits.deBruijn64tab"], apart := false, laid := [("math/bits.deBruijn64tab", laid_math_bits_deBruijn64tab)] }
def RollinghashHashesSaid : Prop := rollinghashHashesRow.holds Tryd.pinned (OpenSpec.ofChange rollinghashHashesSpec)

/-- ITS FALSE NEIGHBOUR: 'it returns false'. Refute it at one input. -/
def rollinghashHashesWrong : ChangeSpec := { name := "rollinghashHashes", fn := fun _ => fun
  | [d1, d2] => { results := [.lit (.bool false)], args := [d1, d2] }
  | _ => none }
def RollinghashHashesWrongFalsely : Prop := rollinghashHashesRow.holds Tryd.pinned (OpenSpec.ofChange rollinghashHashesWrong)

/-- 'kinkeeplaw14.RollinghashPushes': WHATEVER THE INPUT: true; the input reads as it did. -/
def rollinghashPushesSpec : ChangeSpec := { name := "rollinghashPushes", fn := fun _ => fun
  | [d1, d2, d3] => { results := [.lit (.bool true)], args := [d1, d2, d3] }
  | _ => none }
def rollinghashPushesRow : OpenClaim := { program := "ytneiglhcfgnclaadoor", sum := "5f415733bde3ab67e0031c51ba53371174a6fae12a5a4ea3940f0a46df104fcb", func := "kinkeep/kinkeeplaw14.RollinghashPushes", spec := "rollinghashPushes", named := ["math/bits.deBruijn64tab"], apart := false, laid := [("math/bits.deBruijn64tab", laid_math_bits_deBruijn64tab)] }
def RollinghashPushesSaid : Prop := rollinghashPushesRow.holds Tryd.pinned (OpenSpec.ofChange rollinghashPushesSpec)

/-- ITS FALSE NEIGHBOUR: 'it returns false'. Refute it at one input. -/
def rollinghashPushesWrong : ChangeSpec := { name := "rollinghashPushes", fn := fun _ => fun
  | [d1, d2, d3] => { results := [.lit (.bool false)], args := [d1, d2, d3] }
  | _ => none }
def RollinghashPushesWrongFalsely : Prop := rollinghashPushesRow.holds Tryd.pinned (OpenSpec.ofChange rollinghashPushesWrong)

/-- 'kinkeeplaw14.RollinghashResets': WHATEVER THE INPUT: true; the input reads as it did. -/
def rollinghashResetsSpec : ChangeSpec := { name := "rollinghashResets", fn := fun _ => fun
  | [d1, d2, d3, d4] => { results := [.lit (.bool true)], args := [d1, d2, d3, d4] }
  | _ => none }
def rollinghashResetsRow : OpenClaim := { program := "ytneiglhcfgnclaadoor", sum := "5f415733bde3ab67e0031c51ba53371174a6fae12a5a4ea3940f0a46df104fcb", func := "kinkeep/kinkeeplaw14.RollinghashResets", spec := "rollinghashResets", named := ["math/bits.deBruijn64tab"], apart := false, laid := [("math/bits.deBruijn64tab", laid_math_bits_deBruijn64tab)] }
def RollinghashResetsSaid : Prop := rollinghashResetsRow.holds Tryd.pinned (OpenSpec.ofChange rollinghashResetsSpec)

/-- ITS FALSE NEIGHBOUR: 'it returns false'. Refute it at one input. -/
def rollinghashResetsWrong : ChangeSpec := { name := "rollinghashResets", fn := fun _ => fun
  | [d1, d2, d3, d4] => { results := [.lit (.bool false)], args := [d1, d2, d3, d4] }
  | _ => none }
def RollinghashResetsWrongFalsely : Prop := rollinghashResetsRow.holds Tryd.pinned (OpenSpec.ofChange rollinghashResetsWrong)

/-- 'kinkeeplaw14.RollinghashForgets': WHATEVER THE INPUT: true; the input reads as it did. -/
def rollinghashForgetsSpec : ChangeSpec := { name := "rollinghashForgets", fn := fun _ => fun
  | [d1, d2, d3, d4] => { results := [.lit (.bool true)], args := [d1, d2, d3, d4] }
  | _ => none }
def rollinghashForgetsRow : OpenClaim := { program := "ytneiglhcfgnclaadoor", sum := "5f415733bde3ab67e0031c51ba53371174a6fae12a5a4ea3940f0a46df104fcb", func := "kinkeep/kinkeeplaw14.RollinghashForgets", spec := "rollinghashForgets", named := ["math/bits.deBruijn64tab"], apart := false, laid := [("math/bits.deBruijn64tab", laid_math_bits_deBruijn64tab)] }
def RollinghashForgetsSaid : Prop := rollinghashForgetsRow.holds Tryd.pinned (OpenSpec.ofChange rollinghashForgetsSpec)

/-- ITS FALSE NEIGHBOUR: 'it returns false'. Refute it at one input. -/
def rollinghashForgetsWrong : ChangeSpec := { name := "rollinghashForgets", fn := fun _ => fun
  | [d1, d2, d3, d4] => { results := [.lit (.bool false)], args := [d1, d2, d3, d4] }
  | _ => none }
def RollinghashForgetsWrongFalsely : Prop := rollinghashForgetsRow.holds Tryd.pinned (OpenSpec.ofChange rollinghashForgetsWrong)

/-- 'kinkeeplaw14.RollinghashAlls': WHATEVER THE INPUT: true; the input reads as it did. -/
def rollinghashAllsSpec : ChangeSpec := { name := "rollinghashAlls", fn := fun _ => fun
  | [d1, d2, d3] => { results := [.lit (.bool true)], args := [d1, d2, d3] }
  | _ => none }
def rollinghashAllsRow : OpenClaim := { program := "ytneiglhcfgnclaadoor", sum := "5f415733bde3ab67e0031c51ba53371174a6fae12a5a4ea3940f0a46df104fcb", func := "kinkeep/kinkeeplaw14.RollinghashAlls", spec := "rollinghashAlls", named := ["math/bits.deBruijn64tab"], apart := false, laid := [("math/bits.deBruijn64tab", laid_math_bits_deBruijn64tab)] }
def RollinghashAllsSaid : Prop := rollinghashAllsRow.holds Tryd.pinned (OpenSpec.ofChange rollinghashAllsSpec)

/-- ITS FALSE NEIGHBOUR: 'it returns false'. Refute it at one input. -/
def rollinghashAllsWrong : ChangeSpec := { name := "rollinghashAlls", fn := fun _ => fun
  | [d1, d2, d3] => { results := [.lit (.bool false)], args := [d1, d2, d3] }
  | _ => none }
def RollinghashAllsWrongFalsely : Prop := rollinghashAllsRow.holds Tryd.pinned (OpenSpec.ofChange rollinghashAllsWrong)

/-- 'kinkeeplaw14.RollinghashJoins': WHATEVER THE INPUT: true; the input reads as it did. -/
def rollinghashJoinsSpec : ChangeSpec := { name := "rollinghashJoins", fn := fun _ => fun
  | [d1, d2, d3] => { results := [.lit (.bool true)], args := [d1, d2, d3] }
  | _ => none }
def rollinghashJoinsRow : OpenClaim := { program := "ytneiglhcfgnclaadoor", sum := "5f415733bde3ab67e0031c51ba53371174a6fae12a5a4ea3940f0a46df104fcb", func := "kinkeep/kinkeeplaw14.RollinghashJoins", spec := "rollinghashJoins", named := ["math/bits.deBruijn64tab"], apart := false, laid := [("math/bits.deBruijn64tab", laid_math_bits_deBruijn64tab)] }
def RollinghashJoinsSaid : Prop := rollinghashJoinsRow.holds Tryd.pinned (OpenSpec.ofChange rollinghashJoinsSpec)

/-- ITS FALSE NEIGHBOUR: 'it returns false'. Refute it at one input. -/
def rollinghashJoinsWrong : ChangeSpec := { name := "rollinghashJoins", fn := fun _ => fun
  | [d1, d2, d3] => { results := [.lit (.bool false)], args := [d1, d2, d3] }
  | _ => none }
def RollinghashJoinsWrongFalsely : Prop := rollinghashJoinsRow.holds Tryd.pinned (OpenSpec.ofChange rollinghashJoinsWrong)

/-- 'kinkeeplaw14.RollinghashZeros': WHATEVER THE INPUT: true; the input reads as it did. -/
def rollinghashZerosSpec : ChangeSpec := { name := "rollinghashZeros", fn := fun _ => fun
  | [d] => { results := [.lit (.bool true)], args := [d] }
  | _ => none }
def rollinghashZerosRow : OpenClaim := { program := "ytneiglhcfgnclaadoor", sum := "5f415733bde3ab67e0031c51ba53371174a6fae12a5a4ea3940f0a46df104fcb", func := "kinkeep/kinkeeplaw14.RollinghashZeros", spec := "rollinghashZeros", named := ["math/bits.deBruijn64tab"], apart := false, laid := [("math/bits.deBruijn64tab", laid_math_bits_deBruijn64tab)] }
def RollinghashZerosSaid : Prop := rollinghashZerosRow.holds Tryd.pinned (OpenSpec.ofChange rollinghashZerosSpec)

/-- ITS FALSE NEIGHBOUR: 'it returns false'. Refute it at one input. -/
def rollinghashZerosWrong : ChangeSpec := { name := "rollinghashZeros", fn := fun _ => fun
  | [d] => { results := [.lit (.bool false)], args := [d] }
  | _ => none }
def RollinghashZerosWrongFalsely : Prop := rollinghashZerosRow.holds Tryd.pinned (OpenSpec.ofChange rollinghashZerosWrong)

/- THE SECOND FORM. 'bulk': how many values and letters a reading holds, each counted each time it is reached (what is shared counts as often as it is met; a slice's spare places count too). A statement '..UptoSaid' is the law's where the arguments, and the package variables that the reading takes, are together of bulk at most 1048576: NARROWER than '..Said'. Prove '..Said' where nothing that the law and all that it calls make is longer than what came in: it says more and counts as full. Else prove '..UptoSaid'. A law counts once. -/
mutual
def uptoBulk {H : Type} : DataW H → Nat
  | .lit (.string bytes) => bytes.length + 1
  | .lit _ => 1
  | .nil => 1
  | .ptr d => uptoBulk d + 1
  | .slice elems spare => uptoBulkAll elems + uptoBulkAll spare + 1
  | .agg parts => uptoBulkAll parts + 1
  | .iface _ d => uptoBulk d + 1
  | .map entries => uptoBulkEntries entries + 1
  | .held _ => 1
def uptoBulkAll {H : Type} : List (DataW H) → Nat
  | [] => 0
  | d :: r => uptoBulk d + uptoBulkAll r
def uptoBulkEntries {H : Type} : List (Lit × DataW H) → Nat
  | [] => 0
  | x :: r => uptoBulkEntry x + uptoBulkEntries r
def uptoBulkEntry {H : Type} : Lit × DataW H → Nat
  | (.string bytes, d) => bytes.length + uptoBulk d + 1
  | (_, d) => uptoBulk d + 1
 end
def uptoSmall : (H : Type) → List (DataW H) → Bool := fun _ ds => decide (uptoBulkAll ds ≤ 1048576)
def OpenSpec.upto (s : _root_.Go.ChangeSpec) : _root_.Go.OpenSpec := { _root_.Go.OpenSpec.ofChange s with cond := some uptoSmall }

/-- 'kinkeeplaw14.RollinghashTables', WHERE WHAT IT READS IS OF BULK AT MOST 1048576: true; the input reads as it did. -/
def rollinghashTablesUptoRow : OpenClaim := { program := "ytneiglhcfgnclaadoor", sum := "5f415733bde3ab67e0031c51ba53371174a6fae12a5a4ea3940f0a46df104fcb", func := "kinkeep/kinkeeplaw14.RollinghashTables", spec := "rollinghashTables", named := ["math/bits.deBruijn64tab"], apart := false, laid := [("math/bits.deBruijn64tab", laid_math_bits_deBruijn64tab)], narrowed := true }
def RollinghashTablesUptoSaid : Prop := rollinghashTablesUptoRow.holds Tryd.pinned (OpenSpec.upto rollinghashTablesSpec)

/-- 'kinkeeplaw14.RollinghashHashes', WHERE WHAT IT READS IS OF BULK AT MOST 1048576: true; the input reads as it did. -/
def rollinghashHashesUptoRow : OpenClaim := { program := "ytneiglhcfgnclaadoor", sum := "5f415733bde3ab67e0031c51ba53371174a6fae12a5a4ea3940f0a46df104fcb", func := "kinkeep/kinkeeplaw14.RollinghashHashes", spec := "rollinghashHashes", named := ["math/bits.deBruijn64tab"], apart := false, laid := [("math/bits.deBruijn64tab", laid_math_bits_deBruijn64tab)], narrowed := true }
def RollinghashHashesUptoSaid : Prop := rollinghashHashesUptoRow.holds Tryd.pinned (OpenSpec.upto rollinghashHashesSpec)

/-- 'kinkeeplaw14.RollinghashPushes', WHERE WHAT IT READS IS OF BULK AT MOST 1048576: true; the input reads as it did. -/
def rollinghashPushesUptoRow : OpenClaim := { program := "ytneiglhcfgnclaadoor", sum := "5f415733bde3ab67e0031c51ba53371174a6fae12a5a4ea3940f0a46df104fcb", func := "kinkeep/kinkeeplaw14.RollinghashPushes", spec := "rollinghashPushes", named := ["math/bits.deBruijn64tab"], apart := false, laid := [("math/bits.deBruijn64tab", laid_math_bits_deBruijn64tab)], narrowed := true }
def RollinghashPushesUptoSaid : Prop := rollinghashPushesUptoRow.holds Tryd.pinned (OpenSpec.upto rollinghashPushesSpec)

/-- 'kinkeeplaw14.RollinghashResets', WHERE WHAT IT READS IS OF BULK AT MOST 1048576: true; the input reads as it did. -/
def rollinghashResetsUptoRow : OpenClaim := { program := "ytneiglhcfgnclaadoor", sum := "5f415733bde3ab67e0031c51ba53371174a6fae12a5a4ea3940f0a46df104fcb", func := "kinkeep/kinkeeplaw14.RollinghashResets", spec := "rollinghashResets", named := ["math/bits.deBruijn64tab"], apart := false, laid := [("math/bits.deBruijn64tab", laid_math_bits_deBruijn64tab)], narrowed := true }
def RollinghashResetsUptoSaid : Prop := rollinghashResetsUptoRow.holds Tryd.pinned (OpenSpec.upto rollinghashResetsSpec)

/-- 'kinkeeplaw14.RollinghashForgets', WHERE WHAT IT READS IS OF BULK AT MOST 1048576: true; the input reads as it did. -/
def rollinghashForgetsUptoRow : OpenClaim := { program := "ytneiglhcfgnclaadoor", sum := "5f415733bde3ab67e0031c51ba53371174a6fae12a5a4ea3940f0a46df104fcb", func := "kinkeep/kinkeeplaw14.RollinghashForgets", spec := "rollinghashForgets", named := ["math/bits.deBruijn64tab"], apart := false, laid := [("math/bits.deBruijn64tab", laid_math_bits_deBruijn64tab)], narrowed := true }
def RollinghashForgetsUptoSaid : Prop := rollinghashForgetsUptoRow.holds Tryd.pinned (OpenSpec.upto rollinghashForgetsSpec)

/-- 'kinkeeplaw14.RollinghashAlls', WHERE WHAT IT READS IS OF BULK AT MOST 1048576: true; the input reads as it did. -/
def rollinghashAllsUptoRow : OpenClaim := { program := "ytneiglhcfgnclaadoor", sum := "5f415733bde3ab67e0031c51ba53371174a6fae12a5a4ea3940f0a46df104fcb", func := "kinkeep/kinkeeplaw14.RollinghashAlls", spec := "rollinghashAlls", named := ["math/bits.deBruijn64tab"], apart := false, laid := [("math/bits.deBruijn64tab", laid_math_bits_deBruijn64tab)], narrowed := true }
def RollinghashAllsUptoSaid : Prop := rollinghashAllsUptoRow.holds Tryd.pinned (OpenSpec.upto rollinghashAllsSpec)

/-- 'kinkeeplaw14.RollinghashJoins', WHERE WHAT IT READS IS OF BULK AT MOST 1048576: true; the input reads as it did. -/
def rollinghashJoinsUptoRow : OpenClaim := { program := "ytneiglhcfgnclaadoor", sum := "5f415733bde3ab67e0031c51ba53371174a6fae12a5a4ea3940f0a46df104fcb", func := "kinkeep/kinkeeplaw14.RollinghashJoins", spec := "rollinghashJoins", named := ["math/bits.deBruijn64tab"], apart := false, laid := [("math/bits.deBruijn64tab", laid_math_bits_deBruijn64tab)], narrowed := true }
def RollinghashJoinsUptoSaid : Prop := rollinghashJoinsUptoRow.holds Tryd.pinned (OpenSpec.upto rollinghashJoinsSpec)

/-- 'kinkeeplaw14.RollinghashZeros', WHERE WHAT IT READS IS OF BULK AT MOST 1048576: true; the input reads as it did. -/
def rollinghashZerosUptoRow : OpenClaim := { program := "ytneiglhcfgnclaadoor", sum := "5f415733bde3ab67e0031c51ba53371174a6fae12a5a4ea3940f0a46df104fcb", func := "kinkeep/kinkeeplaw14.RollinghashZeros", spec := "rollinghashZeros", named := ["math/bits.deBruijn64tab"], apart := false, laid := [("math/bits.deBruijn64tab", laid_math_bits_deBruijn64tab)], narrowed := true }
def RollinghashZerosUptoSaid : Prop := rollinghashZerosUptoRow.holds Tryd.pinned (OpenSpec.upto rollinghashZerosSpec)

end Rows
end Go.Proofs.YtneiglhcfgnclaaDoor
