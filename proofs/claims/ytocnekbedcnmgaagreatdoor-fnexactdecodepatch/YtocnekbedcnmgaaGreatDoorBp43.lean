import Derived.Stop.Asserts
import Derived.LaidEql
import Derived.Test.YtocnekbedcnmgaaGreatDoorBp5
import Derived.Test.YtocnekbedcnmgaaGreatDoorBp30
import Derived.Test.YtocnekbedcnmgaaGreatDoorBp4
namespace Go.Proofs.YtocnekbedcnmgaaGreatDoor
open Go.RowKit

/-- A tree, or none. -/
def RepO (w : World) (S : Nat → Prop) : Option JV → Value → Prop
  | none, v => v = .nilIface
  | some u, v => Rep w S u v
theorem RepO.keep {w w' : World} {S S' : Nat → Prop} (hk : ∀ k, S k → w'.heap[k]? = w.heap[k]?) (hS : ∀ k, S k → S' k) : ∀ {o : Option JV} {v : Value}, RepO w S o v → RepO w' S' o v
  | none, _, h => h
  | some u, v, h => Rep.keep hk hS u v h
end Go.Proofs.YtocnekbedcnmgaaGreatDoor

