/- Texts of ours, laid together: OfSpec. -/
import Derived.Test.YtjnnkilmlngjgaaGreatDoorBd25
import Derived.Test.YtjnnkilmlngjgaaGreatDoorBd24
import Derived.Test.YtjnnkilmlngjgaaGreatDoorBd10
/- AnswerOf: what the model says. -/
namespace Go.Proofs.YtjnnkilmlngjgaaGreatDoor.AnsW
open Go.RowKit
open ValW NameW RdS

end Go.Proofs.YtjnnkilmlngjgaaGreatDoor.AnsW
