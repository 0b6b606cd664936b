import Derived.Test.YtekpghcckdjnhaaGreatDoorBa50
namespace Go.Proofs.YtekpghcckdjnhaaGreatDoor
open Go.RowKit
noncomputable def zmV (os:Os) : World:=
 lay 0 [.iface 264 (.agg #[.pointer (some ⟨9,128,none⟩)])] (zxi os)
end Go.Proofs.YtekpghcckdjnhaaGreatDoor
