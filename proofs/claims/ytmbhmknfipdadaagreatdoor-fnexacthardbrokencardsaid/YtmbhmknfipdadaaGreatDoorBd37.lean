/- Texts of ours, laid together. -/
import Derived.Test.YtmbhmknfipdadaaGreatDoorBd35
import Derived.Test.YtmbhmknfipdadaaGreatDoorBd31
namespace Go.Proofs.YtmbhmknfipdadaaGreatDoor.AnsW
open Go.RowKit
open ValW NameW RdS
end Go.Proofs.YtmbhmknfipdadaaGreatDoor.AnsW
