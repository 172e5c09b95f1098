/- Texts of ours, laid together: FlsIm. -/
import Derived.Test.YtaofdckdmffaiaaGreatDoorBd33
import Derived.Test.YtaofdckdmffaiaaGreatDoorBd36
import Derived.Test.YtaofdckdmffaiaaGreatDoorBd10
import Derived.Maps.AppendAt
import Derived.Deep.Cut
import Derived.Deep.CutRange
/- FieldsOf of the program. -/
namespace Go.Proofs.YtaofdckdmffaiaaGreatDoor.FlsI
open Go.RowKit
open PrtW PrtM NameW ItmW ItmM FrmM FlsM
open StrW hiding hid
open FlsS (OwnS own_below)
open FrmI (EnvF impl_form)

theorem laid_g (s0 : ByteArray) (w : World) (g : Nat) (hg : w.heap.size = g) (htot : s0.size ≤ 100000) :
    Calls Tryz.prog 45 #[.slice (some ⟨g, 0, none⟩) 1 1] (w.alloc (.cells #[.string s0] 9)) fun e w' =>
      e = .returned (.string s0) ∧ Below w.heap.size w w' := by
  rw [← hg]
  exact LaidW.laid_one s0 w htot
end Go.Proofs.YtaofdckdmffaiaaGreatDoor.FlsI
