/-
  DERIVED. GIVEN WITH THE SEED: THE CARDS: each row of YtppfimbbkbpmoaaDoorRows.lean that lists a variable, with what it lists TIED to the program's text (the seventh form; the later family's looks); each row that meets fmt, with fmt's text TOLD by the authors' own Lean function (tested against real Go, not proved from fmt's source: count such statements apart). THE CARD IS WHAT COUNTS. Prove the row's statement (the work); the ties are given (YtppfimbbkbpmoaaDoorTie.lean); close each card by the builder's one call (the guide's Derived/Test/ToyasCard.lean, 'card_holds'). Laid BY PROGRAM, IN A SANDBOX (cutbox-door.mjs). By AI agents, Wed Nov 11 2026. No macro, syntax, notation, axiom, sorry.
-/
import Derived.Test.YtppfimbbkbpmoaaDoorRows
import GoSem.ClaimSeven
namespace Go.Proofs.YtppfimbbkbpmoaaDoor
namespace Rows

/-- THE TIED CARD OF 'laws.FnExactExprRight'. -/
def fnExactExprRightCard : Claim7 := { stood := { row := fnExactExprRightRow, standIns := [], harness := (true, "0a3e41cbaad100b008a17c706ab10cda75fd7263c75499e92c3861b2dbf14176"), looks := false }, kinds := [], alts := [], laidByText := true, laidKinds := [.data], laidTests := true, laidLooks := .later }
def FnExactExprRightCardSaid : Prop := Claim7.holds Tryd.pinned (.plain (OpenSpec.ofChange fnExactExprRightSpec)) fnExactExprRightCard

/-- THE TIED CARD OF 'laws.FnExactExprTruth'. -/
def fnExactExprTruthCard : Claim7 := { stood := { row := fnExactExprTruthRow, standIns := [], harness := (true, "0a3e41cbaad100b008a17c706ab10cda75fd7263c75499e92c3861b2dbf14176"), looks := false }, kinds := [], alts := [], laidByText := true, laidKinds := [.data], laidTests := true, laidLooks := .later }
def FnExactExprTruthCardSaid : Prop := Claim7.holds Tryd.pinned (.plain (OpenSpec.ofChange fnExactExprTruthSpec)) fnExactExprTruthCard

/-- THE TIED CARD OF 'laws.FnExactExprText'. -/
def fnExactExprTextCard : Claim7 := { stood := { row := fnExactExprTextRow, standIns := [], harness := (true, "0a3e41cbaad100b008a17c706ab10cda75fd7263c75499e92c3861b2dbf14176"), looks := false }, kinds := [], alts := [], laidByText := true, laidKinds := [.data, .data, .data, .data], laidTests := true, laidLooks := .later }
def FnExactExprTextCardSaid : Prop := Claim7.holds Tryd.pinned (.plain (OpenSpec.ofChange fnExactExprTextSpec)) fnExactExprTextCard

/-- THE TIED CARD OF 'laws.FnExactExprFields'. -/
def fnExactExprFieldsCard : Claim7 := { stood := { row := fnExactExprFieldsRow, standIns := [], harness := (true, "0a3e41cbaad100b008a17c706ab10cda75fd7263c75499e92c3861b2dbf14176"), looks := false }, kinds := [], alts := [], laidByText := true, laidKinds := [.data], laidTests := true, laidLooks := .later }
def FnExactExprFieldsCardSaid : Prop := Claim7.holds Tryd.pinned (.plain (OpenSpec.ofChange fnExactExprFieldsSpec)) fnExactExprFieldsCard

/-- THE SECOND FORM's CARD OF 'laws.FnExactExprRight'. -/
def fnExactExprRightUptoCard : Claim7 := { stood := { row := fnExactExprRightUptoRow, standIns := [], harness := (true, "0a3e41cbaad100b008a17c706ab10cda75fd7263c75499e92c3861b2dbf14176"), looks := false }, kinds := [], alts := [], laidByText := true, laidKinds := [.data], laidTests := true, laidLooks := .later }
def FnExactExprRightUptoCardSaid : Prop := Claim7.holds Tryd.pinned (.plain (OpenSpec.upto fnExactExprRightSpec)) fnExactExprRightUptoCard

/-- THE SECOND FORM's CARD OF 'laws.FnExactExprTruth'. -/
def fnExactExprTruthUptoCard : Claim7 := { stood := { row := fnExactExprTruthUptoRow, standIns := [], harness := (true, "0a3e41cbaad100b008a17c706ab10cda75fd7263c75499e92c3861b2dbf14176"), looks := false }, kinds := [], alts := [], laidByText := true, laidKinds := [.data], laidTests := true, laidLooks := .later }
def FnExactExprTruthUptoCardSaid : Prop := Claim7.holds Tryd.pinned (.plain (OpenSpec.upto fnExactExprTruthSpec)) fnExactExprTruthUptoCard

/-- THE SECOND FORM's CARD OF 'laws.FnExactExprText'. -/
def fnExactExprTextUptoCard : Claim7 := { stood := { row := fnExactExprTextUptoRow, standIns := [], harness := (true, "0a3e41cbaad100b008a17c706ab10cda75fd7263c75499e92c3861b2dbf14176"), looks := false }, kinds := [], alts := [], laidByText := true, laidKinds := [.data, .data, .data, .data], laidTests := true, laidLooks := .later }
def FnExactExprTextUptoCardSaid : Prop := Claim7.holds Tryd.pinned (.plain (OpenSpec.upto fnExactExprTextSpec)) fnExactExprTextUptoCard

/-- THE SECOND FORM's CARD OF 'laws.FnExactExprFields'. -/
def fnExactExprFieldsUptoCard : Claim7 := { stood := { row := fnExactExprFieldsUptoRow, standIns := [], harness := (true, "0a3e41cbaad100b008a17c706ab10cda75fd7263c75499e92c3861b2dbf14176"), looks := false }, kinds := [], alts := [], laidByText := true, laidKinds := [.data], laidTests := true, laidLooks := .later }
def FnExactExprFieldsUptoCardSaid : Prop := Claim7.holds Tryd.pinned (.plain (OpenSpec.upto fnExactExprFieldsSpec)) fnExactExprFieldsUptoCard
end Rows
end Go.Proofs.YtppfimbbkbpmoaaDoor
