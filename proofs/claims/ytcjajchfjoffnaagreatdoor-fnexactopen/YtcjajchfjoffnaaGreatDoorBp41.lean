import Derived.Test.YtcjajchfjoffnaaGreatDoorBp12
import Derived.Test.YtcjajchfjoffnaaGreatDoorBp33
import Derived.Test.YtcjajchfjoffnaaGreatDoorBp40
import Derived.Test.YtcjajchfjoffnaaGreatDoorBp11
import Derived.BigQuiet
namespace Go.Proofs.YtcjajchfjoffnaaGreatDoor
open Go.RowKit

def RPost (w : World) (o : Sum Nat JV) (e : Ending) (w' : World) : Prop :=
  Below w.heap.size w w' ∧ match o with
  | .inl c => e = .returned (.tuple #[.nilIface, .int .i64 c])
  | .inr v => ∃ (t : TypeId) (p : Value), e = .returned (.tuple #[.iface t p, .int .i64 0]) ∧ Rep w' (fun k => w.heap.size ≤ k ∧ k < w'.heap.size) v (.iface t p)
end Go.Proofs.YtcjajchfjoffnaaGreatDoor

namespace Go.Proofs.YtcjajchfjoffnaaGreatDoor
open Go.RowKit Go.Sort

end Go.Proofs.YtcjajchfjoffnaaGreatDoor
