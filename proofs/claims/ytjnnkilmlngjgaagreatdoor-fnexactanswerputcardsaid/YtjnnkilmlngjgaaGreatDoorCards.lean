/-
  DERIVED. GIVEN WITH THE SEED: THE CARDS: each row of YtjnnkilmlngjgaaGreatDoorRows.lean that lists a variable, with what it lists TIED to the program's text (the seventh form; the later family's looks); each row that meets fmt, with fmt's text TOLD by the authors' own Lean function (tested against real Go, not proved from fmt's source: count such statements apart). THE CARD IS WHAT COUNTS. Prove the row's statement (the work); the ties are given (YtjnnkilmlngjgaaGreatDoorTie.lean); close each card by the builder's one call (the guide's Derived/Test/ToyasCard.lean, 'card_holds'). Laid BY PROGRAM, IN A SANDBOX (cutbox-door.mjs). By AI agents, Wed Nov 11 2026. No macro, syntax, notation, axiom, sorry.
-/
import Derived.Test.YtjnnkilmlngjgaaGreatDoorRows
import GoSem.ClaimSeven
namespace Go.Proofs.YtjnnkilmlngjgaaGreatDoor
namespace Rows

/-- THE TIED CARD OF 'laws.FnExactAnswerPut'. -/
def fnExactAnswerPutCard : Claim7 := { stood := { row := fnExactAnswerPutRow, standIns := [], harness := (true, "862a4063ef769fdbcdc5179a5b067f32f8e889c4443d6609c84dbdfc56ae98c2"), looks := true }, kinds := [], alts := [], laidByText := true, laidKinds := [.handle], laidTests := true, laidLooks := .later }
def FnExactAnswerPutCardSaid : Prop := Claim7.holds Tryz.pinned (.plain (OpenSpec.ofChange fnExactAnswerPutSpec)) fnExactAnswerPutCard

/-- THE SECOND FORM's CARD OF 'laws.FnExactAnswerPut'. -/
def fnExactAnswerPutUptoCard : Claim7 := { stood := { row := fnExactAnswerPutUptoRow, standIns := [], harness := (true, "862a4063ef769fdbcdc5179a5b067f32f8e889c4443d6609c84dbdfc56ae98c2"), looks := true }, kinds := [], alts := [], laidByText := true, laidKinds := [.handle], laidTests := true, laidLooks := .later }
def FnExactAnswerPutUptoCardSaid : Prop := Claim7.holds Tryz.pinned (.plain (OpenSpec.upto fnExactAnswerPutSpec)) fnExactAnswerPutUptoCard
end Rows
end Go.Proofs.YtjnnkilmlngjgaaGreatDoor
