import Derived.Test.YtocnekbedcnmgaaGreatDoorBp42
import Derived.Test.YtocnekbedcnmgaaGreatDoorBp18
namespace Go.Proofs.YtocnekbedcnmgaaGreatDoor
open Go.RowKit Go.Sort

end Go.Proofs.YtocnekbedcnmgaaGreatDoor

