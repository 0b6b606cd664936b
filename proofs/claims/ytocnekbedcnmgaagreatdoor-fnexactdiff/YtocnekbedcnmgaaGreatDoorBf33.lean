import Derived.Test.YtocnekbedcnmgaaGreatDoorBf5
import Derived.Test.YtocnekbedcnmgaaGreatDoorBf4
import Derived.Test.YtocnekbedcnmgaaGreatDoorBf29
import Derived.Test.YtocnekbedcnmgaaGreatDoorBf16
namespace Go.Proofs.YtocnekbedcnmgaaGreatDoor
open Go.RowKit Go.Sort

/-- A text of digits, at most so many, as the program gives it. -/
def digOk (most : Nat) (t : List UInt8) : Prop := 1 ≤ t.length ∧ t.length ≤ most ∧ ∀ c ∈ t, isDg c.toNat = true
instance (most : Nat) (t : List UInt8) : Decidable (digOk most t) := by unfold digOk; infer_instance
end Go.Proofs.YtocnekbedcnmgaaGreatDoor

