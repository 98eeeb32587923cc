/-
  DERIVED. GIVEN WITH THE SEED: THE CARDS: each row of YtneiglhcfgnclaaDoorRows.lean that lists a variable, with what it lists TIED to the program's text (the seventh form; the later family's looks); each row that meets fmt, with fmt's text TOLD by the authors' own Lean function (tested against real Go, not proved from fmt's source: count such statements apart). THE CARD IS WHAT COUNTS. Prove the row's statement (the work); the ties are given (YtneiglhcfgnclaaDoorTie.lean); close each card by the builder's one call (the guide's Derived/Test/ToyasCard.lean, 'card_holds'). Laid BY PROGRAM, IN A SANDBOX (cutbox-door.mjs). By AI agents, Wed Nov 11 2026. No macro, syntax, notation, axiom, sorry.
-/
import Derived.Test.YtneiglhcfgnclaaDoorRows
import GoSem.ClaimSeven
namespace Go.Proofs.YtneiglhcfgnclaaDoor
namespace Rows

/-- THE TIED CARD OF 'kinkeeplaw14.RollinghashTables'. -/
def rollinghashTablesCard : Claim7 := { stood := { row := rollinghashTablesRow, standIns := [], harness := (true, "0c4dd1a26f4bcc0cf7a285abfa8cc1458fc7e5b3e980d253f6ef949798094e0b"), looks := false }, kinds := [], alts := [], laidByText := true, laidKinds := [.data], laidTests := true, laidLooks := .later }
def RollinghashTablesCardSaid : Prop := Claim7.holds Tryd.pinned (.plain (OpenSpec.ofChange rollinghashTablesSpec)) rollinghashTablesCard

/-- THE TIED CARD OF 'kinkeeplaw14.RollinghashHashes'. -/
def rollinghashHashesCard : Claim7 := { stood := { row := rollinghashHashesRow, standIns := [], harness := (true, "0c4dd1a26f4bcc0cf7a285abfa8cc1458fc7e5b3e980d253f6ef949798094e0b"), looks := false }, kinds := [], alts := [], laidByText := true, laidKinds := [.data], laidTests := true, laidLooks := .later }
def RollinghashHashesCardSaid : Prop := Claim7.holds Tryd.pinned (.plain (OpenSpec.ofChange rollinghashHashesSpec)) rollinghashHashesCard

/-- THE TIED CARD OF 'kinkeeplaw14.RollinghashPushes'. -/
def rollinghashPushesCard : Claim7 := { stood := { row := rollinghashPushesRow, standIns := [], harness := (true, "0c4dd1a26f4bcc0cf7a285abfa8cc1458fc7e5b3e980d253f6ef949798094e0b"), looks := false }, kinds := [], alts := [], laidByText := true, laidKinds := [.data], laidTests := true, laidLooks := .later }
def RollinghashPushesCardSaid : Prop := Claim7.holds Tryd.pinned (.plain (OpenSpec.ofChange rollinghashPushesSpec)) rollinghashPushesCard

/-- THE TIED CARD OF 'kinkeeplaw14.RollinghashResets'. -/
def rollinghashResetsCard : Claim7 := { stood := { row := rollinghashResetsRow, standIns := [], harness := (true, "0c4dd1a26f4bcc0cf7a285abfa8cc1458fc7e5b3e980d253f6ef949798094e0b"), looks := false }, kinds := [], alts := [], laidByText := true, laidKinds := [.data], laidTests := true, laidLooks := .later }
def RollinghashResetsCardSaid : Prop := Claim7.holds Tryd.pinned (.plain (OpenSpec.ofChange rollinghashResetsSpec)) rollinghashResetsCard

/-- THE TIED CARD OF 'kinkeeplaw14.RollinghashForgets'. -/
def rollinghashForgetsCard : Claim7 := { stood := { row := rollinghashForgetsRow, standIns := [], harness := (true, "0c4dd1a26f4bcc0cf7a285abfa8cc1458fc7e5b3e980d253f6ef949798094e0b"), looks := false }, kinds := [], alts := [], laidByText := true, laidKinds := [.data], laidTests := true, laidLooks := .later }
def RollinghashForgetsCardSaid : Prop := Claim7.holds Tryd.pinned (.plain (OpenSpec.ofChange rollinghashForgetsSpec)) rollinghashForgetsCard

/-- THE TIED CARD OF 'kinkeeplaw14.RollinghashAlls'. -/
def rollinghashAllsCard : Claim7 := { stood := { row := rollinghashAllsRow, standIns := [], harness := (true, "0c4dd1a26f4bcc0cf7a285abfa8cc1458fc7e5b3e980d253f6ef949798094e0b"), looks := false }, kinds := [], alts := [], laidByText := true, laidKinds := [.data], laidTests := true, laidLooks := .later }
def RollinghashAllsCardSaid : Prop := Claim7.holds Tryd.pinned (.plain (OpenSpec.ofChange rollinghashAllsSpec)) rollinghashAllsCard

/-- THE TIED CARD OF 'kinkeeplaw14.RollinghashJoins'. -/
def rollinghashJoinsCard : Claim7 := { stood := { row := rollinghashJoinsRow, standIns := [], harness := (true, "0c4dd1a26f4bcc0cf7a285abfa8cc1458fc7e5b3e980d253f6ef949798094e0b"), looks := false }, kinds := [], alts := [], laidByText := true, laidKinds := [.data], laidTests := true, laidLooks := .later }
def RollinghashJoinsCardSaid : Prop := Claim7.holds Tryd.pinned (.plain (OpenSpec.ofChange rollinghashJoinsSpec)) rollinghashJoinsCard

/-- THE TIED CARD OF 'kinkeeplaw14.RollinghashZeros'. -/
def rollinghashZerosCard : Claim7 := { stood := { row := rollinghashZerosRow, standIns := [], harness := (true, "0c4dd1a26f4bcc0cf7a285abfa8cc1458fc7e5b3e980d253f6ef949798094e0b"), looks := false }, kinds := [], alts := [], laidByText := true, laidKinds := [.data], laidTests := true, laidLooks := .later }
def RollinghashZerosCardSaid : Prop := Claim7.holds Tryd.pinned (.plain (OpenSpec.ofChange rollinghashZerosSpec)) rollinghashZerosCard

/-- THE SECOND FORM's CARD OF 'kinkeeplaw14.RollinghashTables'. -/
def rollinghashTablesUptoCard : Claim7 := { stood := { row := rollinghashTablesUptoRow, standIns := [], harness := (true, "0c4dd1a26f4bcc0cf7a285abfa8cc1458fc7e5b3e980d253f6ef949798094e0b"), looks := false }, kinds := [], alts := [], laidByText := true, laidKinds := [.data], laidTests := true, laidLooks := .later }
def RollinghashTablesUptoCardSaid : Prop := Claim7.holds Tryd.pinned (.plain (OpenSpec.upto rollinghashTablesSpec)) rollinghashTablesUptoCard

/-- THE SECOND FORM's CARD OF 'kinkeeplaw14.RollinghashHashes'. -/
def rollinghashHashesUptoCard : Claim7 := { stood := { row := rollinghashHashesUptoRow, standIns := [], harness := (true, "0c4dd1a26f4bcc0cf7a285abfa8cc1458fc7e5b3e980d253f6ef949798094e0b"), looks := false }, kinds := [], alts := [], laidByText := true, laidKinds := [.data], laidTests := true, laidLooks := .later }
def RollinghashHashesUptoCardSaid : Prop := Claim7.holds Tryd.pinned (.plain (OpenSpec.upto rollinghashHashesSpec)) rollinghashHashesUptoCard

/-- THE SECOND FORM's CARD OF 'kinkeeplaw14.RollinghashPushes'. -/
def rollinghashPushesUptoCard : Claim7 := { stood := { row := rollinghashPushesUptoRow, standIns := [], harness := (true, "0c4dd1a26f4bcc0cf7a285abfa8cc1458fc7e5b3e980d253f6ef949798094e0b"), looks := false }, kinds := [], alts := [], laidByText := true, laidKinds := [.data], laidTests := true, laidLooks := .later }
def RollinghashPushesUptoCardSaid : Prop := Claim7.holds Tryd.pinned (.plain (OpenSpec.upto rollinghashPushesSpec)) rollinghashPushesUptoCard

/-- THE SECOND FORM's CARD OF 'kinkeeplaw14.RollinghashResets'. -/
def rollinghashResetsUptoCard : Claim7 := { stood := { row := rollinghashResetsUptoRow, standIns := [], harness := (true, "0c4dd1a26f4bcc0cf7a285abfa8cc1458fc7e5b3e980d253f6ef949798094e0b"), looks := false }, kinds := [], alts := [], laidByText := true, laidKinds := [.data], laidTests := true, laidLooks := .later }
def RollinghashResetsUptoCardSaid : Prop := Claim7.holds Tryd.pinned (.plain (OpenSpec.upto rollinghashResetsSpec)) rollinghashResetsUptoCard

/-- THE SECOND FORM's CARD OF 'kinkeeplaw14.RollinghashForgets'. -/
def rollinghashForgetsUptoCard : Claim7 := { stood := { row := rollinghashForgetsUptoRow, standIns := [], harness := (true, "0c4dd1a26f4bcc0cf7a285abfa8cc1458fc7e5b3e980d253f6ef949798094e0b"), looks := false }, kinds := [], alts := [], laidByText := true, laidKinds := [.data], laidTests := true, laidLooks := .later }
def RollinghashForgetsUptoCardSaid : Prop := Claim7.holds Tryd.pinned (.plain (OpenSpec.upto rollinghashForgetsSpec)) rollinghashForgetsUptoCard

/-- THE SECOND FORM's CARD OF 'kinkeeplaw14.RollinghashAlls'. -/
def rollinghashAllsUptoCard : Claim7 := { stood := { row := rollinghashAllsUptoRow, standIns := [], harness := (true, "0c4dd1a26f4bcc0cf7a285abfa8cc1458fc7e5b3e980d253f6ef949798094e0b"), looks := false }, kinds := [], alts := [], laidByText := true, laidKinds := [.data], laidTests := true, laidLooks := .later }
def RollinghashAllsUptoCardSaid : Prop := Claim7.holds Tryd.pinned (.plain (OpenSpec.upto rollinghashAllsSpec)) rollinghashAllsUptoCard

/-- THE SECOND FORM's CARD OF 'kinkeeplaw14.RollinghashJoins'. -/
def rollinghashJoinsUptoCard : Claim7 := { stood := { row := rollinghashJoinsUptoRow, standIns := [], harness := (true, "0c4dd1a26f4bcc0cf7a285abfa8cc1458fc7e5b3e980d253f6ef949798094e0b"), looks := false }, kinds := [], alts := [], laidByText := true, laidKinds := [.data], laidTests := true, laidLooks := .later }
def RollinghashJoinsUptoCardSaid : Prop := Claim7.holds Tryd.pinned (.plain (OpenSpec.upto rollinghashJoinsSpec)) rollinghashJoinsUptoCard

/-- THE SECOND FORM's CARD OF 'kinkeeplaw14.RollinghashZeros'. -/
def rollinghashZerosUptoCard : Claim7 := { stood := { row := rollinghashZerosUptoRow, standIns := [], harness := (true, "0c4dd1a26f4bcc0cf7a285abfa8cc1458fc7e5b3e980d253f6ef949798094e0b"), looks := false }, kinds := [], alts := [], laidByText := true, laidKinds := [.data], laidTests := true, laidLooks := .later }
def RollinghashZerosUptoCardSaid : Prop := Claim7.holds Tryd.pinned (.plain (OpenSpec.upto rollinghashZerosSpec)) rollinghashZerosUptoCard
end Rows
end Go.Proofs.YtneiglhcfgnclaaDoor
