import Derived.Deep.RegionWith
import Derived.Test.YtlfonikfjibloaaGreatDoorBt2
import Derived.Test.YtlfonikfjibloaaGreatDoorBt1
namespace Go.Proofs.YtlfonikfjibloaaGreatDoor
open Go.RowKit

/-- The row holds the marks from k on. -/
def marks (k n : Nat) : List Value := (List.range n).map fun j => .string (mkText (k + j))
theorem marks_at {k n j : Nat} (hj : j < n) : (marks k n)[j]? = some (.string (mkText (k + j))) := by simp [marks, hj]

end Go.Proofs.YtlfonikfjibloaaGreatDoor
