import Derived.Test.YtekpghcckdjnhaaGreatDoorBz3
set_option maxRecDepth 100000
set_option maxHeartbeats 8000000
namespace Go.Proofs.YtekpghcckdjnhaaGreatDoor
open Go.RowKit Go.Proofs.Tryz
theorem zau(p:Addr)(w:Wo):
  CallsD prog 153 #[.pointer (some p)] .returning w fun e u' w'=>e= .returned (.tuple #[])/\u'= .returning/\w'=w:=by
 refine callsD_of_wpS func153 rfl fun c₀ cs hu=>?_;apply wpS_seq;apply wpS_region;simp[wpOpsS,go_sem,recoverD,hu,ntmps153,Exit.thenS];refine wpS_of_wp ?_;go_wp2
 cases c₀
 simp_all [bodyPostS,results,Tryz.results153]
theorem zav(p:Addr)(x:Value)(older:List PanicEntry)(w:Wo)(hc:(w.alloc (.cells #[] 220)).cell? p=some x)(hz:(w.alloc (.cells #[] 220)).frozen? p=false):
  CallsD prog 153 #[.pointer (some p)] (.panicking ({v:=.iface 220 (.agg #[]),recovered:=false} :: older)) w fun e u' w'=>
   e= .returned (.tuple #[])/\u'= .panicking ({v:=.iface 220 (.agg #[]),recovered:=true} :: older)/\w'=(w.alloc (.cells #[] 220)).setCell p (.bool false):=by
 have a:∀ w:Wo,(Instr.typeAssert (.iface 220 (.agg #[])) 20 220 true).run prog w= .ok (.tuple #[.agg #[],.bool true]) w:=fun _=>by kernel_rfl
 refine callsD_of_wpS func153 rfl fun c₀ cs hu=>?_;apply wpS_seq;apply wpS_region;simp[wpOpsS,go_sem,recoverD,hu,ntmps153,Exit.thenS];refine wpS_of_wp ?_;go_wp2
 simp_all [bodyPostS,results,Tryz.results153]
def Np(ob:Nat)(w:Wo):Prop:=w.heap[ob]?=some (.cells #[.bool false] 4 (0,0))
theorem zaw (F:FuncId) (caps:Array Value) (w:Wo) (Q:Wo->Prop) (hent:∀ args (w:Wo),(callFunc F args).run prog w= .ok (.enter F args) w)
  (hc:Calls prog F caps (w.alloc (.cells #[.bool false] 4)) fun e w'=>e= .returned (.tuple #[])/\Np w.heap.size w'/\Q w'):
  Calls prog 125 #[.func (.func F) #[] caps] w fun e w'=>e= .returned (.bool true)/\∃ w1,Q w1/\w'=w1.setCell ⟨w.heap.size,0,none⟩ (.bool true):=by
 have i:∀ (fn:Fn) (first cap:Array Value) (w:Wo),(Instr.makeFunc fn first cap).run prog w= .ok (.func fn first cap) w:=fun _ _ _ _=>rfl;have b:=zb hc;clear hc;go_enter_defers func125,ntmps125;go_wp2_with fail;refine (uh b).mono ?_;rintro e w1 ⟨rfl,a,d⟩;have c0:w1.cell? ⟨w.heap.size,0,none⟩=some (.bool false):=by rw[yF a];rfl
 have l:w1.frozen? ⟨w.heap.size,0,none⟩=false:=yI a 0;have g:=zb d;have h:Hid ((w1.setCell ⟨w.heap.size,0,none⟩ (.bool true)).cell? ⟨w.heap.size,0,none⟩=some (.bool true)):=by
  have:=heap_setCell_same w1 w.heap.size 0 _ 4 (.bool true) a;show _=_
  rw[yF this];rfl
 clear b d a;go_wp2;refine leaves_cons (f:=153) (args:=#[.pointer (some ⟨w.heap.size,0,none⟩)]) (by simp) (by simp[go_sem]) ?_;refine (zau ⟨w.heap.size,0,none⟩ _).mono ?_;rintro e m k ⟨rfl,rfl,rfl⟩;have j:=uh h;simp[Leaves,settle,results,Tryz.results125,go_sem,j];exact⟨w1,uh g,rfl⟩
theorem zax (F:FuncId) (caps:Array Value) (w:Wo) (Q:Wo->Prop) (hent:∀ args (w:Wo),(callFunc F args).run prog w= .ok (.enter F args) w)
  (hc:Calls prog F caps (w.alloc (.cells #[.bool false] 4)) fun e w'=>e=Jg/\Np w.heap.size w'/\Q w'):
  Calls prog 125 #[.func (.func F) #[] caps] w fun e w'=>e= .returned (.bool false)/\∃ w1,Q w1/\w'=(w1.alloc (.cells #[] 220)).setCell ⟨w.heap.size,0,none⟩ (.bool false):=by
 have l:∀ (fn:Fn) (first cap:Array Value) (w:Wo),(Instr.makeFunc fn first cap).run prog w= .ok (.func fn first cap) w:=fun _ _ _ _=>rfl;have g:=zb hc;clear hc;go_enter_defers func125,ntmps125;go_wp2_with fail;refine (uh g).mono ?_;rintro e w1 ⟨rfl,d,h⟩;have b:=(yB.1 d).1;have a:(w1.alloc (.cells #[] 220)).heap[w.heap.size]?=some (.cells #[.bool false] 4 (0,0)):=(Lib.alloc_old w1 _ _ b).trans d;have c0:(w1.alloc (.cells #[] 220)).cell? ⟨w.heap.size,0,none⟩=some (.bool false):=by rw[yF a];rfl
 have k:(w1.alloc (.cells #[] 220)).frozen? ⟨w.heap.size,0,none⟩=false:=yI a 0;have i:=zb h;have j:Hid (((w1.alloc (.cells #[] 220)).setCell ⟨w.heap.size,0,none⟩ (.bool false)).cell? ⟨w.heap.size,0,none⟩=some (.bool false)):=by
  have:=heap_setCell_same (w1.alloc (.cells #[] 220)) w.heap.size 0 _ 4 (.bool false) a;show _=_
  rw[yF this];rfl
 clear g h d a;refine leaves_cons (f:=153) (args:=#[.pointer (some ⟨w.heap.size,0,none⟩)]) (by simp) (by simp[go_sem]) ?_;refine (zav ⟨w.heap.size,0,none⟩ _ [] _ c0 k).mono ?_;rintro e o n ⟨rfl,rfl,rfl⟩;have m:=uh j;simp[Leaves,settle,results,Tryz.results125,go_sem,m];exact⟨w1,uh i,rfl⟩
end Go.Proofs.YtekpghcckdjnhaaGreatDoor
