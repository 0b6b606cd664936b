import Derived.Test.YtekpghcckdjnhaaGreatDoorBz45
namespace Go.Proofs.YtekpghcckdjnhaaGreatDoor
open Go.RowKit
noncomputable def Rw(os:Os):World:=
 GS 0 [.iface 264 (.agg #[.pointer (some ⟨9,128,none⟩)])] (zfJ os)
end Go.Proofs.YtekpghcckdjnhaaGreatDoor
