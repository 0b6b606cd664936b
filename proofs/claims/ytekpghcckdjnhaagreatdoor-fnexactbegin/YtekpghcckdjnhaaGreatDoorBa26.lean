import Derived.Test.YtekpghcckdjnhaaGreatDoorBa6
set_option maxRecDepth 100000
set_option maxHeartbeats 8000000
namespace Go.Proofs.YtekpghcckdjnhaaGreatDoor
open Go.RowKit Go.Proofs.Tryz
theorem zoO (p:Addr) (w:World) :
  CallsD prog 153 #[.pointer (some p)] .returning w fun e u' w'=>e = .returned (.tuple #[])/\u' = .returning/\w'=w:=by
 refine callsD_of_wpS func153 rfl fun c₀ cs hu=>?_
 apply wpS_seq
 apply wpS_region
 simp[wpOpsS,go_sem,recoverD,hu,ntmps153,Exit.thenS]
 refine wpS_of_wp ?_
 go_wp2
 cases c₀
 simp_all [bodyPostS,results,Tryz.results153]
theorem zqt (p:Addr) (x:Value) (older:List PanicEntry) (w:World) (hc:(w.alloc (.cells #[] 220)).cell? p=some x) (hz:(w.alloc (.cells #[] 220)).frozen? p=false) :
  CallsD prog 153 #[.pointer (some p)] (.panicking ({ v:=.iface 220 (.agg #[]),recovered:=false } :: older)) w fun e u' w'=>
   e = .returned (.tuple #[])/\u' = .panicking ({ v:=.iface 220 (.agg #[]),recovered:=true } :: older)/\w'=(w.alloc (.cells #[] 220)).setCell p (.bool false):=by
 have hta:∀ w:World,(Instr.typeAssert (.iface 220 (.agg #[])) 20 220 true).run prog w = .ok (.tuple #[.agg #[],.bool true]) w:=fun _=>by kernel_rfl
 refine callsD_of_wpS func153 rfl fun c₀ cs hu=>?_
 apply wpS_seq
 apply wpS_region
 simp[wpOpsS,go_sem,recoverD,hu,ntmps153,Exit.thenS]
 refine wpS_of_wp ?_
 go_wp2
 simp_all [bodyPostS,results,Tryz.results153]
def zqu (ob:Nat) (w:World) : Prop:=w.heap[ob]?=some (.cells #[.bool false] 4 (0,0))
theorem zvb (F:FuncId) (caps:Array Value) (w:World) (Q:World->Prop) (hent:∀ args (w:World),(callFunc F args).run prog w = .ok (.enter F args) w)
  (hc:Calls prog F caps (w.alloc (.cells #[.bool false] 4)) fun e w'=>e = .returned (.tuple #[])/\zqu w.heap.size w'/\Q w') :
  Calls prog 125 #[.func (.func F) #[] caps] w fun e w'=>e = .returned (.bool true)/\∃ w1,Q w1/\w'=w1.setCell ⟨w.heap.size,0,none⟩ (.bool true):=by
 have hmf:∀ (fn:Fn) (first cap:Array Value) (w:World),(Instr.makeFunc fn first cap).run prog w = .ok (.func fn first cap) w:=fun _ _ _ _=>rfl
 have HC:=zab hc
 clear hc
 go_enter_defers func125,ntmps125
 go_wp2_with fail
 refine (uh HC).mono ?_
 rintro e w1 ⟨rfl,ho,hq⟩
 have c0:w1.cell? ⟨w.heap.size,0,none⟩=some (.bool false):=by rw[yF ho]; rfl
 have f0:w1.frozen? ⟨w.heap.size,0,none⟩=false:=yI ho 0
 have HQ:=zab hq
 have HS:Hid ((w1.setCell ⟨w.heap.size,0,none⟩ (.bool true)).cell? ⟨w.heap.size,0,none⟩=some (.bool true)):=by
  have:=heap_setCell_same w1 w.heap.size 0 _ 4 (.bool true) ho
  show _=_
  rw[yF this]; rfl
 clear HC hq ho
 go_wp2
 refine leaves_cons (f:=153) (args:=#[.pointer (some ⟨w.heap.size,0,none⟩)]) (by simp) (by simp[go_sem]) ?_
 refine (zoO ⟨w.heap.size,0,none⟩ _).mono ?_
 rintro e u' w'' ⟨rfl,rfl,rfl⟩
 have hs:=uh HS
 simp[Leaves,settle,results,Tryz.results125,go_sem,hs]
 exact⟨w1,uh HQ,rfl⟩
theorem zsO (F:FuncId) (caps:Array Value) (w:World) (Q:World->Prop) (hent:∀ args (w:World),(callFunc F args).run prog w = .ok (.enter F args) w)
  (hc:Calls prog F caps (w.alloc (.cells #[.bool false] 4)) fun e w'=>e=mis/\zqu w.heap.size w'/\Q w') :
  Calls prog 125 #[.func (.func F) #[] caps] w fun e w'=>e = .returned (.bool false)/\∃ w1,Q w1/\w'=(w1.alloc (.cells #[] 220)).setCell ⟨w.heap.size,0,none⟩ (.bool false):=by
 have hmf:∀ (fn:Fn) (first cap:Array Value) (w:World),(Instr.makeFunc fn first cap).run prog w = .ok (.func fn first cap) w:=fun _ _ _ _=>rfl
 have HC:=zab hc
 clear hc
 go_enter_defers func125,ntmps125
 go_wp2_with fail
 refine (uh HC).mono ?_
 rintro e w1 ⟨rfl,ho,hq⟩
 have hlt:=(yB.1 ho).1
 have ho2:(w1.alloc (.cells #[] 220)).heap[w.heap.size]?=some (.cells #[.bool false] 4 (0,0)):=(Lib.alloc_old w1 _ _ hlt).trans ho
 have c0:(w1.alloc (.cells #[] 220)).cell? ⟨w.heap.size,0,none⟩=some (.bool false):=by rw[yF ho2]; rfl
 have f0:(w1.alloc (.cells #[] 220)).frozen? ⟨w.heap.size,0,none⟩=false:=yI ho2 0
 have HQ:=zab hq
 have HS:Hid (((w1.alloc (.cells #[] 220)).setCell ⟨w.heap.size,0,none⟩ (.bool false)).cell? ⟨w.heap.size,0,none⟩=some (.bool false)):=by
  have:=heap_setCell_same (w1.alloc (.cells #[] 220)) w.heap.size 0 _ 4 (.bool false) ho2
  show _=_
  rw[yF this]; rfl
 clear HC hq ho ho2
 refine leaves_cons (f:=153) (args:=#[.pointer (some ⟨w.heap.size,0,none⟩)]) (by simp) (by simp[go_sem]) ?_
 refine (zqt ⟨w.heap.size,0,none⟩ _ [] _ c0 f0).mono ?_
 rintro e u' w'' ⟨rfl,rfl,rfl⟩
 have hs:=uh HS
 simp[Leaves,settle,results,Tryz.results125,go_sem,hs]
 exact⟨w1,uh HQ,rfl⟩
end Go.Proofs.YtekpghcckdjnhaaGreatDoor
