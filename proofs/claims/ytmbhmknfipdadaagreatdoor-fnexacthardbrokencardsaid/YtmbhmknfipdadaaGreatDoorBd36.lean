/- Texts of ours, laid together. -/
import Derived.Test.YtmbhmknfipdadaaGreatDoorBd33
import Derived.Test.YtmbhmknfipdadaaGreatDoorBd32
namespace Go.Proofs.YtmbhmknfipdadaaGreatDoor.FrmO
open Go.ChangeShapes Go.WideShapes Go.ChangeAt Go.RowKit Go.Lib Go.Deep
open ItmI FrmI
theorem errs_of {w : World} {n : String} {g : Nat} (hg : Tryz.prog.globalNamed n = some g) (h : ∃ tp p, w.var? Tryz.prog n = some #[.iface tp p]) : Errs w g := by
 obtain ⟨tp, p, hv⟩ := h
 have hc : w.cell? ⟨g, 0, none⟩ = some (.iface tp p) := by
  have := World.var?_cell hg hv 0
  simpa using this
 exact ⟨World.block_lt_of_cell? w _ hc, tp, p, hc⟩
end Go.Proofs.YtmbhmknfipdadaaGreatDoor.FrmO
