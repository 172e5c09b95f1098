/-
  DERIVED. GIVEN WITH THE SEED: THE CARDS: each row of YtmbhmknfipdadaaGreatDoorRows.lean that lists a variable, with what it lists TIED to the program's text (the seventh form; the later family's looks); each row that meets fmt, with fmt's text TOLD by the authors' own Lean function (tested against real Go, not proved from fmt's source: count such statements apart). THE CARD IS WHAT COUNTS. Prove the row's statement (the work); the ties are given (YtmbhmknfipdadaaGreatDoorTie.lean); close each card by the builder's one call (the guide's Derived/Test/ToyasCard.lean, 'card_holds'). Laid BY PROGRAM, IN A SANDBOX (cutbox-door.mjs). By AI agents, Wed Nov 11 2026. No macro, syntax, notation, axiom, sorry.
-/
import Derived.Test.YtmbhmknfipdadaaGreatDoorRows
import GoSem.ClaimSeven
namespace Go.Proofs.YtmbhmknfipdadaaGreatDoor
namespace Rows

/-- THE TIED CARD OF 'laws.FnExactRouteOf'. -/
def fnExactRouteOfCard : Claim7 := { stood := { row := fnExactRouteOfRow, standIns := [], harness := (true, "fbb5d6b569bf1c17af316f81720a19877a5db38c8b1bceb853cddb6c1c2a83ff"), looks := true }, kinds := [], alts := [], laidByText := true, laidKinds := [.data, .data, .sentinel, .sentinel, .sentinel, .sentinel, .sentinel, .data, .pinned], laidTests := true, laidLooks := .later }
def FnExactRouteOfCardSaid : Prop := Claim7.holds Tryz.pinned (.plain (OpenSpec.ofChange fnExactRouteOfSpec)) fnExactRouteOfCard

/-- THE TIED CARD OF 'laws.FnExactOnPath'. -/
def fnExactOnPathCard : Claim7 := { stood := { row := fnExactOnPathRow, standIns := [], harness := (true, "fbb5d6b569bf1c17af316f81720a19877a5db38c8b1bceb853cddb6c1c2a83ff"), looks := true }, kinds := [], alts := [], laidByText := true, laidKinds := [.data, .data, .sentinel, .sentinel, .sentinel, .sentinel, .sentinel, .data, .pinned], laidTests := true, laidLooks := .later }
def FnExactOnPathCardSaid : Prop := Claim7.holds Tryz.pinned (.plain (OpenSpec.ofChange fnExactOnPathSpec)) fnExactOnPathCard

/-- THE TIED CARD OF 'laws.FnExactCountOf'. -/
def fnExactCountOfCard : Claim7 := { stood := { row := fnExactCountOfRow, standIns := [], harness := (true, "fbb5d6b569bf1c17af316f81720a19877a5db38c8b1bceb853cddb6c1c2a83ff"), looks := true }, kinds := [], alts := [], laidByText := true, laidKinds := [.data, .data, .sentinel, .sentinel, .sentinel, .sentinel, .sentinel, .data, .pinned], laidTests := true, laidLooks := .later }
def FnExactCountOfCardSaid : Prop := Claim7.holds Tryz.pinned (.plain (OpenSpec.ofChange fnExactCountOfSpec)) fnExactCountOfCard

/-- THE TIED CARD OF 'laws.FnExactHardBroken'. -/
def fnExactHardBrokenCard : Claim7 := { stood := { row := fnExactHardBrokenRow, standIns := [], harness := (true, "fbb5d6b569bf1c17af316f81720a19877a5db38c8b1bceb853cddb6c1c2a83ff"), looks := true }, kinds := [], alts := [], laidByText := true, laidKinds := [.data, .data, .sentinel, .sentinel, .sentinel, .sentinel, .sentinel, .data, .pinned], laidTests := true, laidLooks := .later }
def FnExactHardBrokenCardSaid : Prop := Claim7.holds Tryz.pinned (.plain (OpenSpec.ofChange fnExactHardBrokenSpec)) fnExactHardBrokenCard

/-- THE SECOND FORM's CARD OF 'laws.FnExactRouteOf'. -/
def fnExactRouteOfUptoCard : Claim7 := { stood := { row := fnExactRouteOfUptoRow, standIns := [], harness := (true, "fbb5d6b569bf1c17af316f81720a19877a5db38c8b1bceb853cddb6c1c2a83ff"), looks := true }, kinds := [], alts := [], laidByText := true, laidKinds := [.data, .data, .sentinel, .sentinel, .sentinel, .sentinel, .sentinel, .data, .pinned], laidTests := true, laidLooks := .later }
def FnExactRouteOfUptoCardSaid : Prop := Claim7.holds Tryz.pinned (.plain (OpenSpec.upto fnExactRouteOfSpec)) fnExactRouteOfUptoCard

/-- THE SECOND FORM's CARD OF 'laws.FnExactOnPath'. -/
def fnExactOnPathUptoCard : Claim7 := { stood := { row := fnExactOnPathUptoRow, standIns := [], harness := (true, "fbb5d6b569bf1c17af316f81720a19877a5db38c8b1bceb853cddb6c1c2a83ff"), looks := true }, kinds := [], alts := [], laidByText := true, laidKinds := [.data, .data, .sentinel, .sentinel, .sentinel, .sentinel, .sentinel, .data, .pinned], laidTests := true, laidLooks := .later }
def FnExactOnPathUptoCardSaid : Prop := Claim7.holds Tryz.pinned (.plain (OpenSpec.upto fnExactOnPathSpec)) fnExactOnPathUptoCard

/-- THE SECOND FORM's CARD OF 'laws.FnExactCountOf'. -/
def fnExactCountOfUptoCard : Claim7 := { stood := { row := fnExactCountOfUptoRow, standIns := [], harness := (true, "fbb5d6b569bf1c17af316f81720a19877a5db38c8b1bceb853cddb6c1c2a83ff"), looks := true }, kinds := [], alts := [], laidByText := true, laidKinds := [.data, .data, .sentinel, .sentinel, .sentinel, .sentinel, .sentinel, .data, .pinned], laidTests := true, laidLooks := .later }
def FnExactCountOfUptoCardSaid : Prop := Claim7.holds Tryz.pinned (.plain (OpenSpec.upto fnExactCountOfSpec)) fnExactCountOfUptoCard

/-- THE SECOND FORM's CARD OF 'laws.FnExactHardBroken'. -/
def fnExactHardBrokenUptoCard : Claim7 := { stood := { row := fnExactHardBrokenUptoRow, standIns := [], harness := (true, "fbb5d6b569bf1c17af316f81720a19877a5db38c8b1bceb853cddb6c1c2a83ff"), looks := true }, kinds := [], alts := [], laidByText := true, laidKinds := [.data, .data, .sentinel, .sentinel, .sentinel, .sentinel, .sentinel, .data, .pinned], laidTests := true, laidLooks := .later }
def FnExactHardBrokenUptoCardSaid : Prop := Claim7.holds Tryz.pinned (.plain (OpenSpec.upto fnExactHardBrokenSpec)) fnExactHardBrokenUptoCard
end Rows
end Go.Proofs.YtmbhmknfipdadaaGreatDoor
