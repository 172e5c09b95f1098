/-
  DERIVED. GIVEN WITH THE SEED: THE CARDS: each row of YtflofhbooedpjaaGreatDoorRows.lean that lists a variable, with what it lists TIED to the program's text (the seventh form; the later family's looks); each row that meets fmt, with fmt's text TOLD by the authors' own Lean function (tested against real Go, not proved from fmt's source: count such statements apart). THE CARD IS WHAT COUNTS. Prove the row's statement (the work); the ties are given (YtflofhbooedpjaaGreatDoorTie.lean); close each card by the builder's one call (the guide's Derived/Test/ToyasCard.lean, 'card_holds'). Laid BY PROGRAM, IN A SANDBOX (cutbox-door.mjs). By AI agents, Wed Nov 11 2026. No macro, syntax, notation, axiom, sorry.
-/
import Derived.Test.YtflofhbooedpjaaGreatDoorRows
import GoSem.ClaimSeven
namespace Go.Proofs.YtflofhbooedpjaaGreatDoor
namespace Rows

/-- THE TIED CARD OF 'laws.FnExactEval'. -/
def fnExactEvalCard : Claim7 := { stood := { row := fnExactEvalRow, standIns := [], harness := (true, "2630ca49ec734d9e2b4622b72ebff5af9d8c19da2ecec281176b240ebb2a3960"), looks := true }, kinds := [], alts := [], laidByText := true, laidKinds := [.data], laidTests := true, laidLooks := .later }
def FnExactEvalCardSaid : Prop := Claim7.holds Tryz.pinned (.plain (OpenSpec.ofChange fnExactEvalSpec)) fnExactEvalCard

/-- THE TIED CARD OF 'laws.FnExactIsTrue'. -/
def fnExactIsTrueCard : Claim7 := { stood := { row := fnExactIsTrueRow, standIns := [], harness := (true, "2630ca49ec734d9e2b4622b72ebff5af9d8c19da2ecec281176b240ebb2a3960"), looks := true }, kinds := [], alts := [], laidByText := true, laidKinds := [.data], laidTests := true, laidLooks := .later }
def FnExactIsTrueCardSaid : Prop := Claim7.holds Tryz.pinned (.plain (OpenSpec.ofChange fnExactIsTrueSpec)) fnExactIsTrueCard

/-- THE SECOND FORM's CARD OF 'laws.FnExactEval'. -/
def fnExactEvalUptoCard : Claim7 := { stood := { row := fnExactEvalUptoRow, standIns := [], harness := (true, "2630ca49ec734d9e2b4622b72ebff5af9d8c19da2ecec281176b240ebb2a3960"), looks := true }, kinds := [], alts := [], laidByText := true, laidKinds := [.data], laidTests := true, laidLooks := .later }
def FnExactEvalUptoCardSaid : Prop := Claim7.holds Tryz.pinned (.plain (OpenSpec.upto fnExactEvalSpec)) fnExactEvalUptoCard

/-- THE SECOND FORM's CARD OF 'laws.FnExactIsTrue'. -/
def fnExactIsTrueUptoCard : Claim7 := { stood := { row := fnExactIsTrueUptoRow, standIns := [], harness := (true, "2630ca49ec734d9e2b4622b72ebff5af9d8c19da2ecec281176b240ebb2a3960"), looks := true }, kinds := [], alts := [], laidByText := true, laidKinds := [.data], laidTests := true, laidLooks := .later }
def FnExactIsTrueUptoCardSaid : Prop := Claim7.holds Tryz.pinned (.plain (OpenSpec.upto fnExactIsTrueSpec)) fnExactIsTrueUptoCard
end Rows
end Go.Proofs.YtflofhbooedpjaaGreatDoor
