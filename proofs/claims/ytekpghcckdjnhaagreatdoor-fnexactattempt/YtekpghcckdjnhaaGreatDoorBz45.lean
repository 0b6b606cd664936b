import Derived.WalkKit
import Derived.ProofKit
import Derived.OpenShut
import Derived.ShutString
import Derived.Deep.DeepHandedRow
import Derived.Lib.LaidTab
import Derived.Test.YtekpghcckdjnhaaGreatDoorCards
import Derived.Test.YtekpghcckdjnhaaGreatDoorTie
namespace Go.Proofs.YtekpghcckdjnhaaGreatDoor
open Go.ChangeShapes Go.WideShapes Go.ChangeAt Go.RowKit
theorem own:ownKnob Tryz.prog.godebug=none:=by kernel_rfl
theorem Cm:laidOutB Tryz.prog=true:=by kernel_rfl
def Rv:DataW Unit->List Value
 | .agg ds=>ds.map fun
  | .lit (.int k n)=>.int k n
  | _=>.bool false
 | _=>[]
noncomputable def Cn:Nat:=(World.holding Tryz.prog default ⟨#[],#[],[]⟩).heap.size
def GS(g:Nat)(cs:List Value)(w:World):World:=
 { w with heap:=w.heap.modify g fun
   | .cells _ t frozen=>.cells cs.toArray t frozen
   | o=>o}
noncomputable def zfJ(os:Os):World:=
 GS 2 (Go.Pinned.utf8FirstZ.map fun (n:Nat)=>Value.int .u8 (n:Int))
 (GS 3 (([128,191,160,191,128,159,144,191,128,143,0,0,0,0,0,0,0,0,0,0,0,0,0,0,0,0,0,0,0,0,0,0]:List Int).map fun n=>Value.int .u8 n)
 (GS 5 [.iface 361 (.pointer (some ⟨Cn,0,none⟩))]
 (GS 4 [.iface 361 (.pointer (some ⟨Cn+1,0,none⟩))]
 (GS 6 (Rv Rows.laid_internal_strconv_uint64pow10)
 (GS 7 (Rv Rows.laid_math_bits_deBruijn32tab)
 (GS 8 (Rv Rows.laid_math_bits_deBruijn64tab)
 (World.holding Tryz.prog os ⟨#[.cells #[.string ⟨#[118,97,108,117,101,32,111,117,116,32,111,102,32,114,97,110,103,101]⟩] 363,.cells #[.string ⟨#[105,110,118,97,108,105,100,32,115,121,110,116,97,120]⟩] 363],#[],[]⟩)))))))
end Go.Proofs.YtekpghcckdjnhaaGreatDoor
