import Derived.Deep.RegionLaw
import Derived.BigRegion
import Derived.Test.YtkjcgkfejdogbaaGreatDoorBz4
namespace Go.Proofs.YtkjcgkfejdogbaaGreatDoor
open Go.RowKit
theorem ones (ks:List Int) : ∀ u∈ks.map (Value.int .u8),u.oneCell'=true:=by
 intro u hu; obtain⟨k,_,rfl⟩:=List.mem_map.1 hu; rfl
end Go.Proofs.YtkjcgkfejdogbaaGreatDoor
