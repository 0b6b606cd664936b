import Derived.LaidHandle
import Derived.Test.YtocnekbedcnmgaaGreatDoorBa43
namespace Go.Proofs.YtocnekbedcnmgaaGreatDoor
open Go.RowKit
noncomputable def layAllH (os:Os) : World:=
 lay 0 [.iface 249 (.agg #[.pointer (some ⟨9,86,none⟩)])] (layAll os)
end Go.Proofs.YtocnekbedcnmgaaGreatDoor
