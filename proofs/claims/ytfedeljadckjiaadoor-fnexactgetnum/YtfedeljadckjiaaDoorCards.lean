/-
  DERIVED. GIVEN WITH THE SEED: THE CARDS: each row of YtfedeljadckjiaaDoorRows.lean that lists a variable, with what it lists TIED to the program's text (the seventh form; the later family's looks); each row that meets fmt, with fmt's text TOLD by the authors' own Lean function (tested against real Go, not proved from fmt's source: count such statements apart). THE CARD IS WHAT COUNTS. Prove the row's statement (the work); the ties are given (YtfedeljadckjiaaDoorTie.lean); close each card by the builder's one call (the guide's Derived/Test/ToyasCard.lean, 'card_holds'). Laid BY PROGRAM, IN A SANDBOX (cutbox-door.mjs). By AI agents, Wed Nov 11 2026. No macro, syntax, notation, axiom, sorry.
-/
import Derived.Test.YtfedeljadckjiaaDoorRows
import GoSem.ClaimSeven
namespace Go.Proofs.YtfedeljadckjiaaDoor
namespace Rows

/-- THE TIED CARD OF 'laws.FnNodes'. -/
def fnNodesCard : Claim7 := { stood := { row := fnNodesRow, standIns := [], harness := (true, "83a900b97dca440d1bdab2844238eddc6d8518165421210b8755b40b4c18cc95"), looks := false }, kinds := [], alts := [], laidByText := true, laidKinds := [.sentinel], laidTests := true, laidLooks := .later }
def FnNodesCardSaid : Prop := Claim7.holds Tryd.pinned (.plain (OpenSpec.ofChange fnNodesSpec)) fnNodesCard

/-- THE TIED CARD OF 'laws.FnNumBytes'. -/
def fnNumBytesCard : Claim7 := { stood := { row := fnNumBytesRow, standIns := [], harness := (true, "83a900b97dca440d1bdab2844238eddc6d8518165421210b8755b40b4c18cc95"), looks := false }, kinds := [], alts := [], laidByText := true, laidKinds := [.sentinel], laidTests := true, laidLooks := .later }
def FnNumBytesCardSaid : Prop := Claim7.holds Tryd.pinned (.plain (OpenSpec.ofChange fnNumBytesSpec)) fnNumBytesCard

/-- THE TIED CARD OF 'laws.FnExactGetNum'. -/
def fnExactGetNumCard : Claim7 := { stood := { row := fnExactGetNumRow, standIns := [], harness := (true, "83a900b97dca440d1bdab2844238eddc6d8518165421210b8755b40b4c18cc95"), looks := false }, kinds := [], alts := [], laidByText := true, laidKinds := [.sentinel], laidTests := true, laidLooks := .later }
def FnExactGetNumCardSaid : Prop := Claim7.holds Tryd.pinned (.plain (OpenSpec.ofChange fnExactGetNumSpec)) fnExactGetNumCard

/-- THE TIED CARD OF 'laws.FnExactPutNode'. -/
def fnExactPutNodeCard : Claim7 := { stood := { row := fnExactPutNodeRow, standIns := [], harness := (true, "83a900b97dca440d1bdab2844238eddc6d8518165421210b8755b40b4c18cc95"), looks := false }, kinds := [], alts := [], laidByText := true, laidKinds := [.sentinel], laidTests := true, laidLooks := .later }
def FnExactPutNodeCardSaid : Prop := Claim7.holds Tryd.pinned (.plain (OpenSpec.ofChange fnExactPutNodeSpec)) fnExactPutNodeCard

/-- THE TIED CARD OF 'laws.FnExactGetNode'. -/
def fnExactGetNodeCard : Claim7 := { stood := { row := fnExactGetNodeRow, standIns := [], harness := (true, "83a900b97dca440d1bdab2844238eddc6d8518165421210b8755b40b4c18cc95"), looks := false }, kinds := [], alts := [], laidByText := true, laidKinds := [.sentinel], laidTests := true, laidLooks := .later }
def FnExactGetNodeCardSaid : Prop := Claim7.holds Tryd.pinned (.plain (OpenSpec.ofChange fnExactGetNodeSpec)) fnExactGetNodeCard

/-- THE SECOND FORM's CARD OF 'laws.FnNodes'. -/
def fnNodesUptoCard : Claim7 := { stood := { row := fnNodesUptoRow, standIns := [], harness := (true, "83a900b97dca440d1bdab2844238eddc6d8518165421210b8755b40b4c18cc95"), looks := false }, kinds := [], alts := [], laidByText := true, laidKinds := [.sentinel], laidTests := true, laidLooks := .later }
def FnNodesUptoCardSaid : Prop := Claim7.holds Tryd.pinned (.plain (OpenSpec.upto fnNodesSpec)) fnNodesUptoCard

/-- THE SECOND FORM's CARD OF 'laws.FnNumBytes'. -/
def fnNumBytesUptoCard : Claim7 := { stood := { row := fnNumBytesUptoRow, standIns := [], harness := (true, "83a900b97dca440d1bdab2844238eddc6d8518165421210b8755b40b4c18cc95"), looks := false }, kinds := [], alts := [], laidByText := true, laidKinds := [.sentinel], laidTests := true, laidLooks := .later }
def FnNumBytesUptoCardSaid : Prop := Claim7.holds Tryd.pinned (.plain (OpenSpec.upto fnNumBytesSpec)) fnNumBytesUptoCard

/-- THE SECOND FORM's CARD OF 'laws.FnExactGetNum'. -/
def fnExactGetNumUptoCard : Claim7 := { stood := { row := fnExactGetNumUptoRow, standIns := [], harness := (true, "83a900b97dca440d1bdab2844238eddc6d8518165421210b8755b40b4c18cc95"), looks := false }, kinds := [], alts := [], laidByText := true, laidKinds := [.sentinel], laidTests := true, laidLooks := .later }
def FnExactGetNumUptoCardSaid : Prop := Claim7.holds Tryd.pinned (.plain (OpenSpec.upto fnExactGetNumSpec)) fnExactGetNumUptoCard

/-- THE SECOND FORM's CARD OF 'laws.FnExactPutNode'. -/
def fnExactPutNodeUptoCard : Claim7 := { stood := { row := fnExactPutNodeUptoRow, standIns := [], harness := (true, "83a900b97dca440d1bdab2844238eddc6d8518165421210b8755b40b4c18cc95"), looks := false }, kinds := [], alts := [], laidByText := true, laidKinds := [.sentinel], laidTests := true, laidLooks := .later }
def FnExactPutNodeUptoCardSaid : Prop := Claim7.holds Tryd.pinned (.plain (OpenSpec.upto fnExactPutNodeSpec)) fnExactPutNodeUptoCard

/-- THE SECOND FORM's CARD OF 'laws.FnExactGetNode'. -/
def fnExactGetNodeUptoCard : Claim7 := { stood := { row := fnExactGetNodeUptoRow, standIns := [], harness := (true, "83a900b97dca440d1bdab2844238eddc6d8518165421210b8755b40b4c18cc95"), looks := false }, kinds := [], alts := [], laidByText := true, laidKinds := [.sentinel], laidTests := true, laidLooks := .later }
def FnExactGetNodeUptoCardSaid : Prop := Claim7.holds Tryd.pinned (.plain (OpenSpec.upto fnExactGetNodeSpec)) fnExactGetNodeUptoCard
end Rows
end Go.Proofs.YtfedeljadckjiaaDoor
