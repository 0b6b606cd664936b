import Derived.WalkKit
import Derived.ProofKit
import Derived.OpenShut
import Derived.ShutString
import Derived.Deep.DeepHandedRow
import Derived.Lib.LaidTab
import Derived.Test.YtpaecnbdoljafaaGreatDoorCards
import Derived.Test.YtpaecnbdoljafaaGreatDoorTie
namespace Go.Proofs.YtpaecnbdoljafaaGreatDoor
open Go.ChangeShapes Go.WideShapes Go.ChangeAt Go.RowKit
theorem own:ownKnob Tryz.prog.godebug=none:=by kernel_rfl
theorem AX:laidOutB Tryz.prog=true:=by kernel_rfl
def OY:DataW Unit->List Value
 | .agg ds=>ds.map fun
  | .lit (.int k n)=>.int k n
  | _=>.bool false
 | _=>[]
noncomputable def LP:Nat:=(World.holding Tryz.prog default ⟨#[],#[],[]⟩).heap.size
def GH(g:Nat)(cs:List Value)(w:World):World:=
 { w with heap:=w.heap.modify g fun
   | .cells _ t frozen=>.cells cs.toArray t frozen
   | o=>o}
noncomputable def AY(os:Os):World:=
 GH 1 (Go.Pinned.utf8FirstZ.map fun (n:Nat)=>Value.int .u8 (n:Int))
 (GH 2 (([128,191,160,191,128,159,144,191,128,143,0,0,0,0,0,0,0,0,0,0,0,0,0,0,0,0,0,0,0,0,0,0]:List Int).map fun n=>Value.int .u8 n)
 (GH 5 [.iface 344 (.pointer (some ⟨LP,0,none⟩))]
 (GH 4 [.iface 344 (.pointer (some ⟨LP+1,0,none⟩))]
 (GH 6 (OY Rows.laid_internal_strconv_uint64pow10)
 (GH 7 (OY Rows.laid_math_bits_deBruijn32tab)
 (GH 8 (OY Rows.laid_math_bits_deBruijn64tab)
 (World.holding Tryz.prog os ⟨#[.cells #[.string ⟨#[118,97,108,117,101,32,111,117,116,32,111,102,32,114,97,110,103,101]⟩] 346,.cells #[.string ⟨#[105,110,118,97,108,105,100,32,115,121,110,116,97,120]⟩] 346],#[],[]⟩)))))))
end Go.Proofs.YtpaecnbdoljafaaGreatDoor
