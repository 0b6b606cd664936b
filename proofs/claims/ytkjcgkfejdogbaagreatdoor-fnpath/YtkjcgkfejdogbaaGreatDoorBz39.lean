import Derived.Defers
import Derived.Recover
import Derived.Laws.Pointers
import Derived.Test.YtkjcgkfejdogbaaGreatDoorBz7
set_option maxRecDepth 100000
set_option maxHeartbeats 8000000
namespace Go.Proofs.YtkjcgkfejdogbaaGreatDoor
open Go.RowKit
theorem catch_idle (p:Addr) (w:World) :
  CallsD Tryz.prog 47 #[.pointer (some p)] .returning w fun e u' w'=>e = .returned (.tuple #[])∧u' = .returning∧w'=w:=by
 refine callsD_of_wpS Tryz.func47 rfl fun c₀ cs hu=>?_
 apply wpS_seq
 apply wpS_region
 simp[wpOpsS,go_sem,recoverD,hu,Tryz.ntmps47,Exit.thenS]
 refine wpS_of_wp ?_
 go_wp2
 cases c₀
 simp_all [bodyPostS,results,Tryz.results47]
theorem catch_mis (p:Addr) (x:Value) (older:List PanicEntry) (w:World) (hc:(w.alloc (.cells #[] 99)).cell? p=some x) (hz:(w.alloc (.cells #[] 99)).frozen? p=false) :
  CallsD Tryz.prog 47 #[.pointer (some p)] (.panicking ({ v:=.iface 99 (.agg #[]),recovered:=false } :: older)) w fun e u' w'=>
   e = .returned (.tuple #[])∧u' = .panicking ({ v:=.iface 99 (.agg #[]),recovered:=true } :: older)∧w'=(w.alloc (.cells #[] 99)).setCell p (.bool false):=by
 have hta:∀ w:World,(Instr.typeAssert (.iface 99 (.agg #[])) 20 99 true).run Tryz.prog w = .ok (.tuple #[.agg #[],.bool true]) w:=fun _=>by kernel_rfl
 refine callsD_of_wpS Tryz.func47 rfl fun c₀ cs hu=>?_
 apply wpS_seq
 apply wpS_region
 simp[wpOpsS,go_sem,recoverD,hu,Tryz.ntmps47,Exit.thenS]
 refine wpS_of_wp ?_
 go_wp2
 simp_all [bodyPostS,results,Tryz.results47]
def OkCell (ob:Nat) (w:World) : Prop:=w.heap[ob]?=some (.cells #[.bool false] 4 (0,0))
theorem fits_ok (F:FuncId) (caps:Array Value) (w:World) (Q:World→Prop) (hent:∀ args (w:World),(callFunc F args).run Tryz.prog w = .ok (.enter F args) w)
  (hc:Calls Tryz.prog F caps (w.alloc (.cells #[.bool false] 4)) fun e w'=>e = .returned (.tuple #[])∧OkCell w.heap.size w'∧Q w') :
  Calls Tryz.prog 23 #[.func (.func F) #[] caps] w fun e w'=>e = .returned (.bool true)∧∃ w1,Q w1∧w'=w1.setCell ⟨w.heap.size,0,none⟩ (.bool true):=by
 have hmf:∀ (fn:Fn) (first cap:Array Value) (w:World),(Instr.makeFunc fn first cap).run Tryz.prog w = .ok (.func fn first cap) w:=fun _ _ _ _=>rfl
 have HC:=hide hc
 clear hc
 go_enter_defers Tryz.func23,Tryz.ntmps23
 go_wp2_with fail
 refine (uh HC).mono ?_
 rintro e w1 ⟨rfl,ho,hq⟩
 have c0:w1.cell? ⟨w.heap.size,0,none⟩=some (.bool false):=by rw[Lib.cell_of_heap ho]; rfl
 have f0:w1.frozen? ⟨w.heap.size,0,none⟩=false:=Lib.frozen_of_heap ho 0
 have HQ:=hide hq
 have HS:Hid ((w1.setCell ⟨w.heap.size,0,none⟩ (.bool true)).cell? ⟨w.heap.size,0,none⟩=some (.bool true)):=by
  have:=heap_setCell_same w1 w.heap.size 0 _ 4 (.bool true) ho
  show _=_
  rw[Lib.cell_of_heap this]; rfl
 clear HC hq ho
 go_wp2
 refine leaves_cons (f:=47) (args:=#[.pointer (some ⟨w.heap.size,0,none⟩)]) (by simp) (by simp[go_sem]) ?_
 refine (catch_idle ⟨w.heap.size,0,none⟩ _).mono ?_
 rintro e u' w'' ⟨rfl,rfl,rfl⟩
 have hs:=uh HS
 simp[Leaves,settle,results,Tryz.results23,go_sem,hs]
 exact⟨w1,uh HQ,rfl⟩
theorem fits_mis (F:FuncId) (caps:Array Value) (w:World) (Q:World→Prop) (hent:∀ args (w:World),(callFunc F args).run Tryz.prog w = .ok (.enter F args) w)
  (hc:Calls Tryz.prog F caps (w.alloc (.cells #[.bool false] 4)) fun e w'=>e=mis∧OkCell w.heap.size w'∧Q w') :
  Calls Tryz.prog 23 #[.func (.func F) #[] caps] w fun e w'=>e = .returned (.bool false)∧∃ w1,Q w1∧w'=(w1.alloc (.cells #[] 99)).setCell ⟨w.heap.size,0,none⟩ (.bool false):=by
 have hmf:∀ (fn:Fn) (first cap:Array Value) (w:World),(Instr.makeFunc fn first cap).run Tryz.prog w = .ok (.func fn first cap) w:=fun _ _ _ _=>rfl
 have HC:=hide hc
 clear hc
 go_enter_defers Tryz.func23,Tryz.ntmps23
 go_wp2_with fail
 refine (uh HC).mono ?_
 rintro e w1 ⟨rfl,ho,hq⟩
 have hlt:=(Array.getElem?_eq_some_iff.1 ho).1
 have ho2:(w1.alloc (.cells #[] 99)).heap[w.heap.size]?=some (.cells #[.bool false] 4 (0,0)):=(Lib.alloc_old w1 _ _ hlt).trans ho
 have c0:(w1.alloc (.cells #[] 99)).cell? ⟨w.heap.size,0,none⟩=some (.bool false):=by rw[Lib.cell_of_heap ho2]; rfl
 have f0:(w1.alloc (.cells #[] 99)).frozen? ⟨w.heap.size,0,none⟩=false:=Lib.frozen_of_heap ho2 0
 have HQ:=hide hq
 have HS:Hid (((w1.alloc (.cells #[] 99)).setCell ⟨w.heap.size,0,none⟩ (.bool false)).cell? ⟨w.heap.size,0,none⟩=some (.bool false)):=by
  have:=heap_setCell_same (w1.alloc (.cells #[] 99)) w.heap.size 0 _ 4 (.bool false) ho2
  show _=_
  rw[Lib.cell_of_heap this]; rfl
 clear HC hq ho ho2
 refine leaves_cons (f:=47) (args:=#[.pointer (some ⟨w.heap.size,0,none⟩)]) (by simp) (by simp[go_sem]) ?_
 refine (catch_mis ⟨w.heap.size,0,none⟩ _ [] _ c0 f0).mono ?_
 rintro e u' w'' ⟨rfl,rfl,rfl⟩
 have hs:=uh HS
 simp[Leaves,settle,results,Tryz.results23,go_sem,hs]
 exact⟨w1,uh HQ,rfl⟩
end Go.Proofs.YtkjcgkfejdogbaaGreatDoor
