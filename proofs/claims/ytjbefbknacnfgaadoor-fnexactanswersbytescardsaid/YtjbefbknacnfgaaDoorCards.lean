/-
  DERIVED. GIVEN WITH THE SEED: THE CARDS: each row of YtjbefbknacnfgaaDoorRows.lean that lists a variable, with what it lists TIED to the program's text (the seventh form; the later family's looks); each row that meets fmt, with fmt's text TOLD by the authors' own Lean function (tested against real Go, not proved from fmt's source: count such statements apart). THE CARD IS WHAT COUNTS. Prove the row's statement (the work); the ties are given (YtjbefbknacnfgaaDoorTie.lean); close each card by the builder's one call (the guide's Derived/Test/ToyasCard.lean, 'card_holds'). Laid BY PROGRAM, IN A SANDBOX (cutbox-door.mjs). By AI agents, Wed Nov 11 2026. No macro, syntax, notation, axiom, sorry.
-/
import Derived.Test.YtjbefbknacnfgaaDoorRows
import GoSem.ClaimSeven
namespace Go.Proofs.YtjbefbknacnfgaaDoor
namespace Rows

/-- THE TIED CARD OF 'laws.FnExactAnswersBytes'. -/
def fnExactAnswersBytesCard : Claim7 := { stood := { row := fnExactAnswersBytesRow, standIns := [], harness := (true, "7941913ef968c54936c89185ada38bff65a143192044494c6cbc2ccdf576440b"), looks := true }, kinds := [], alts := [], laidByText := true, laidKinds := [.data, .data, .data, .data, .pinned], laidTests := true, laidLooks := .later }
def FnExactAnswersBytesCardSaid : Prop := Claim7.holds Tryd.pinned (.plain (OpenSpec.ofChange fnExactAnswersBytesSpec)) fnExactAnswersBytesCard

/-- THE SECOND FORM's CARD OF 'laws.FnExactAnswersBytes'. -/
def fnExactAnswersBytesUptoCard : Claim7 := { stood := { row := fnExactAnswersBytesUptoRow, standIns := [], harness := (true, "7941913ef968c54936c89185ada38bff65a143192044494c6cbc2ccdf576440b"), looks := true }, kinds := [], alts := [], laidByText := true, laidKinds := [.data, .data, .data, .data, .pinned], laidTests := true, laidLooks := .later }
def FnExactAnswersBytesUptoCardSaid : Prop := Claim7.holds Tryd.pinned (.plain (OpenSpec.upto fnExactAnswersBytesSpec)) fnExactAnswersBytesUptoCard
end Rows
end Go.Proofs.YtjbefbknacnfgaaDoor
