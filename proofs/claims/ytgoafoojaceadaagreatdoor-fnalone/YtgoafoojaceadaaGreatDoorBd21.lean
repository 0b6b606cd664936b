import Derived.WalkKit
import Derived.ProofKit
import Derived.OpenShut
import Derived.ShutString
import Derived.Deep.DeepHandedRow
import Derived.Lib.LaidTab
import Derived.Test.YtgoafoojaceadaaGreatDoorCards
import Derived.Test.YtgoafoojaceadaaGreatDoorTie
namespace Go.Proofs.YtgoafoojaceadaaGreatDoor
open Go.ChangeShapes Go.WideShapes Go.ChangeAt Go.RowKit Go.Proofs.Tryz
theorem own:ownKnob prog.godebug=none:=by kernel_rfl
theorem zig:laidOutB prog=true:=by kernel_rfl
def Lm:DataW Unit->List Value
 | .agg ds=>ds.map fun
  | .lit (.int k n)=>.int k n
  | _=>.bool false
 | _=>[]
noncomputable def AR:Nat:=(World.holding prog default ⟨#[],#[],[]⟩).heap.size
def W2(g:Nat)(cs:List Value)(w:World):World:=
 { w with heap:=w.heap.modify g fun
   | .cells _ t frozen=>.cells cs.toArray t frozen
   | o=>o}
noncomputable def zih(os:Os):World:=
 W2 2 (Go.Pinned.utf8FirstZ.map fun (n:Nat)=>Value.int .u8 (n:Int))
 (W2 3 (([128,191,160,191,128,159,144,191,128,143,0,0,0,0,0,0,0,0,0,0,0,0,0,0,0,0,0,0,0,0,0,0]:List Int).map fun n=>Value.int .u8 n)
 (W2 5 [.iface 357 (.pointer (some ⟨AR,0,none⟩))]
 (W2 4 [.iface 357 (.pointer (some ⟨AR+1,0,none⟩))]
 (W2 6 (Lm Rows.laid_internal_strconv_uint64pow10)
 (W2 7 (Lm Rows.laid_math_bits_deBruijn32tab)
 (W2 8 (Lm Rows.laid_math_bits_deBruijn64tab)
 (World.holding prog os ⟨#[.cells #[.string ⟨#[118,97,108,117,101,32,111,117,116,32,111,102,32,114,97,110,103,101]⟩] 359,.cells #[.string ⟨#[105,110,118,97,108,105,100,32,115,121,110,116,97,120]⟩] 359],#[],[]⟩)))))))
noncomputable def Ln(os:Os):World:=
 W2 0 [.iface 267 (.agg #[.pointer (some ⟨9,86,none⟩)])] (zih os)
