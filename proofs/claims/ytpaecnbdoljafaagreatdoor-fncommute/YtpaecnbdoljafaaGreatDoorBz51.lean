import Derived.Test.YtpaecnbdoljafaaGreatDoorBz50
namespace Go.Proofs.YtpaecnbdoljafaaGreatDoor
open Go.RowKit
noncomputable def U1(os:Os):World:=
 Wd 0 [.iface 241 (.agg #[.pointer (some ⟨9,71,none⟩)])] (zf3 os)
end Go.Proofs.YtpaecnbdoljafaaGreatDoor
