import Derived.WalkKit
import Derived.ProofKit
import Derived.OpenShut
import Derived.ShutString
import Derived.Deep.DeepHandedRow
import Derived.Lib.LaidTab
import Derived.Test.YtkjcgkfejdogbaaGreatDoorCards
import Derived.Test.YtkjcgkfejdogbaaGreatDoorTie
namespace Go.Proofs.YtkjcgkfejdogbaaGreatDoor
open Go.ChangeShapes Go.WideShapes Go.ChangeAt Go.RowKit
theorem own:ownKnob Tryz.prog.godebug=none:=by kernel_rfl
theorem laidOut:laidOutB Tryz.prog=true:=by kernel_rfl
def aggInts:DataW Unit→List Value
 | .agg ds=>ds.map fun
  | .lit (.int k n)=>.int k n
  | _=>.bool false
 | _=>[]
def lay (g:Nat) (cs:List Value) (w:World) : World:=
 { w with heap:=w.heap.modify g fun
   | .cells _ t frozen=>.cells cs.toArray t frozen
   | o=>o }
noncomputable def layAll (os:Os) : World:=
 lay 0 (aggInts Rows.laid_internal_strconv_uint64pow10)
 (lay 1 (aggInts Rows.laid_math_bits_deBruijn32tab)
 (lay 2 (aggInts Rows.laid_math_bits_deBruijn64tab)
 (World.holding Tryz.prog os ⟨#[],#[],[]⟩)))
end Go.Proofs.YtkjcgkfejdogbaaGreatDoor
