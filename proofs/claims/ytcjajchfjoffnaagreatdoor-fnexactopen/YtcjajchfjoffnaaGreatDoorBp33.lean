import Derived.Test.YtcjajchfjoffnaaGreatDoorBp12
import Derived.Test.YtcjajchfjoffnaaGreatDoorBp28
import Derived.Test.YtcjajchfjoffnaaGreatDoorBp32
namespace Go.Proofs.YtcjajchfjoffnaaGreatDoor
open Go.RowKit

/-- A text read into the variable sc. -/
def TPost (rb sc : Nat) (s : ByteArray) (tb kt : Bool) (L : Nat) (o : Option JV) (e : Ending) (w' : World) : Prop :=
  o.elim (e = mis) fun v => ∃ (t : TypeId) (p : Value), e = .returned (.tuple #[]) ∧ Var sc 92 (.iface t p) w' ∧ Rdr rb s s.size (tb || bigV v) (kt || twV v) w' ∧
    (bigV v = false → twV v = false → Rep w' (fun k => L ≤ k ∧ k < w'.heap.size) v (.iface t p))

end Go.Proofs.YtcjajchfjoffnaaGreatDoor

namespace Go.Proofs.YtcjajchfjoffnaaGreatDoor
open Go.RowKit

/-- What readText finds behind fits: the value in its variable, the reader's two marks. -/
def FPost (s : ByteArray) (w : World) (o : Option JV) (e : Ending) (w' : World) : Prop :=
  Below w.heap.size w w' ∧ w.heap.size + 3 ≤ w'.heap.size ∧ o.elim (e = .returned (.bool false)) fun v => ∃ (t : TypeId) (p : Value), e = .returned (.bool true) ∧ Var (w.heap.size + 1 + 1) 92 (.iface t p) w' ∧ Var (w.heap.size + 1) 179 (.pointer (some ⟨w.heap.size, 0, none⟩)) w' ∧
    Rdr w.heap.size s s.size (bigV v) (twV v) w' ∧ (bigV v = false → twV v = false → Rep w' (fun k => w.heap.size + 4 ≤ k ∧ k < w'.heap.size) v (.iface t p))

end Go.Proofs.YtcjajchfjoffnaaGreatDoor
