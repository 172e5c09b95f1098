/-
  DERIVED. GIVEN WITH THE SEED: THE CARDS: each row of YtaofdckdmffaiaaGreatDoorRows.lean that lists a variable, with what it lists TIED to the program's text (the seventh form; the later family's looks); each row that meets fmt, with fmt's text TOLD by the authors' own Lean function (tested against real Go, not proved from fmt's source: count such statements apart). THE CARD IS WHAT COUNTS. Prove the row's statement (the work); the ties are given (YtaofdckdmffaiaaGreatDoorTie.lean); close each card by the builder's one call (the guide's Derived/Test/ToyasCard.lean, 'card_holds'). Laid BY PROGRAM, IN A SANDBOX (cutbox-door.mjs). By AI agents, Wed Nov 11 2026. No macro, syntax, notation, axiom, sorry.
-/
import Derived.Test.YtaofdckdmffaiaaGreatDoorRows
import GoSem.ClaimSeven
namespace Go.Proofs.YtaofdckdmffaiaaGreatDoor
namespace Rows

/-- THE TIED CARD OF 'laws.FnExactSpanOf'. -/
def fnExactSpanOfCard : Claim7 := { stood := { row := fnExactSpanOfRow, standIns := [], harness := (true, "89ace9312dd1e7f0892386892c88da4f833cee0557415747a4d13860a35a8074"), looks := true }, kinds := [], alts := [], laidByText := true, laidKinds := [.data, .data, .sentinel, .sentinel, .sentinel, .sentinel, .sentinel, .data, .pinned], laidTests := true, laidLooks := .later }
def FnExactSpanOfCardSaid : Prop := Claim7.holds Tryz.pinned (.plain (OpenSpec.ofChange fnExactSpanOfSpec)) fnExactSpanOfCard

/-- THE TIED CARD OF 'laws.FnExactCanBe'. -/
def fnExactCanBeCard : Claim7 := { stood := { row := fnExactCanBeRow, standIns := [], harness := (true, "89ace9312dd1e7f0892386892c88da4f833cee0557415747a4d13860a35a8074"), looks := true }, kinds := [], alts := [], laidByText := true, laidKinds := [.data, .data, .sentinel, .sentinel, .sentinel, .sentinel, .sentinel, .data, .pinned], laidTests := true, laidLooks := .later }
def FnExactCanBeCardSaid : Prop := Claim7.holds Tryz.pinned (.plain (OpenSpec.ofChange fnExactCanBeSpec)) fnExactCanBeCard

/-- THE TIED CARD OF 'laws.FnExactCanNot'. -/
def fnExactCanNotCard : Claim7 := { stood := { row := fnExactCanNotRow, standIns := [], harness := (true, "89ace9312dd1e7f0892386892c88da4f833cee0557415747a4d13860a35a8074"), looks := true }, kinds := [], alts := [], laidByText := true, laidKinds := [.data, .data, .sentinel, .sentinel, .sentinel, .sentinel, .sentinel, .data, .pinned], laidTests := true, laidLooks := .later }
def FnExactCanNotCardSaid : Prop := Claim7.holds Tryz.pinned (.plain (OpenSpec.ofChange fnExactCanNotSpec)) fnExactCanNotCard

/-- THE TIED CARD OF 'laws.FnExactUnreachable'. -/
def fnExactUnreachableCard : Claim7 := { stood := { row := fnExactUnreachableRow, standIns := [], harness := (true, "89ace9312dd1e7f0892386892c88da4f833cee0557415747a4d13860a35a8074"), looks := true }, kinds := [], alts := [], laidByText := true, laidKinds := [.data, .data, .sentinel, .sentinel, .sentinel, .sentinel, .sentinel, .data, .pinned], laidTests := true, laidLooks := .later }
def FnExactUnreachableCardSaid : Prop := Claim7.holds Tryz.pinned (.plain (OpenSpec.ofChange fnExactUnreachableSpec)) fnExactUnreachableCard

/-- THE TIED CARD OF 'laws.FnExactDeadChecks'. -/
def fnExactDeadChecksCard : Claim7 := { stood := { row := fnExactDeadChecksRow, standIns := [], harness := (true, "89ace9312dd1e7f0892386892c88da4f833cee0557415747a4d13860a35a8074"), looks := true }, kinds := [], alts := [], laidByText := true, laidKinds := [.data, .data, .sentinel, .sentinel, .sentinel, .sentinel, .sentinel, .data, .pinned], laidTests := true, laidLooks := .later }
def FnExactDeadChecksCardSaid : Prop := Claim7.holds Tryz.pinned (.plain (OpenSpec.ofChange fnExactDeadChecksSpec)) fnExactDeadChecksCard

/-- THE SECOND FORM's CARD OF 'laws.FnExactSpanOf'. -/
def fnExactSpanOfUptoCard : Claim7 := { stood := { row := fnExactSpanOfUptoRow, standIns := [], harness := (true, "89ace9312dd1e7f0892386892c88da4f833cee0557415747a4d13860a35a8074"), looks := true }, kinds := [], alts := [], laidByText := true, laidKinds := [.data, .data, .sentinel, .sentinel, .sentinel, .sentinel, .sentinel, .data, .pinned], laidTests := true, laidLooks := .later }
def FnExactSpanOfUptoCardSaid : Prop := Claim7.holds Tryz.pinned (.plain (OpenSpec.upto fnExactSpanOfSpec)) fnExactSpanOfUptoCard

/-- THE SECOND FORM's CARD OF 'laws.FnExactCanBe'. -/
def fnExactCanBeUptoCard : Claim7 := { stood := { row := fnExactCanBeUptoRow, standIns := [], harness := (true, "89ace9312dd1e7f0892386892c88da4f833cee0557415747a4d13860a35a8074"), looks := true }, kinds := [], alts := [], laidByText := true, laidKinds := [.data, .data, .sentinel, .sentinel, .sentinel, .sentinel, .sentinel, .data, .pinned], laidTests := true, laidLooks := .later }
def FnExactCanBeUptoCardSaid : Prop := Claim7.holds Tryz.pinned (.plain (OpenSpec.upto fnExactCanBeSpec)) fnExactCanBeUptoCard

/-- THE SECOND FORM's CARD OF 'laws.FnExactCanNot'. -/
def fnExactCanNotUptoCard : Claim7 := { stood := { row := fnExactCanNotUptoRow, standIns := [], harness := (true, "89ace9312dd1e7f0892386892c88da4f833cee0557415747a4d13860a35a8074"), looks := true }, kinds := [], alts := [], laidByText := true, laidKinds := [.data, .data, .sentinel, .sentinel, .sentinel, .sentinel, .sentinel, .data, .pinned], laidTests := true, laidLooks := .later }
def FnExactCanNotUptoCardSaid : Prop := Claim7.holds Tryz.pinned (.plain (OpenSpec.upto fnExactCanNotSpec)) fnExactCanNotUptoCard

/-- THE SECOND FORM's CARD OF 'laws.FnExactUnreachable'. -/
def fnExactUnreachableUptoCard : Claim7 := { stood := { row := fnExactUnreachableUptoRow, standIns := [], harness := (true, "89ace9312dd1e7f0892386892c88da4f833cee0557415747a4d13860a35a8074"), looks := true }, kinds := [], alts := [], laidByText := true, laidKinds := [.data, .data, .sentinel, .sentinel, .sentinel, .sentinel, .sentinel, .data, .pinned], laidTests := true, laidLooks := .later }
def FnExactUnreachableUptoCardSaid : Prop := Claim7.holds Tryz.pinned (.plain (OpenSpec.upto fnExactUnreachableSpec)) fnExactUnreachableUptoCard

/-- THE SECOND FORM's CARD OF 'laws.FnExactDeadChecks'. -/
def fnExactDeadChecksUptoCard : Claim7 := { stood := { row := fnExactDeadChecksUptoRow, standIns := [], harness := (true, "89ace9312dd1e7f0892386892c88da4f833cee0557415747a4d13860a35a8074"), looks := true }, kinds := [], alts := [], laidByText := true, laidKinds := [.data, .data, .sentinel, .sentinel, .sentinel, .sentinel, .sentinel, .data, .pinned], laidTests := true, laidLooks := .later }
def FnExactDeadChecksUptoCardSaid : Prop := Claim7.holds Tryz.pinned (.plain (OpenSpec.upto fnExactDeadChecksSpec)) fnExactDeadChecksUptoCard
end Rows
end Go.Proofs.YtaofdckdmffaiaaGreatDoor
