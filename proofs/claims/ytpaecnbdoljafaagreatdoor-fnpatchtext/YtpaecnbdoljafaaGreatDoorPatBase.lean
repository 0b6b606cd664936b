import Derived.Test.YtpaecnbdoljafaaGreatDoorBp33
import Derived.Test.YtpaecnbdoljafaaGreatDoorBp34
import Derived.Test.YtpaecnbdoljafaaGreatDoorBp35
namespace Go.Proofs.YtpaecnbdoljafaaGreatDoor
theorem pat_base : True := trivial
end Go.Proofs.YtpaecnbdoljafaaGreatDoor
