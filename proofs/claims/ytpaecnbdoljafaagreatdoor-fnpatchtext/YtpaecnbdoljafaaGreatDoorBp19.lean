import Derived.Test.YtpaecnbdoljafaaGreatDoorBp2
set_option maxRecDepth 100000
set_option maxHeartbeats 8000000
namespace Go.Proofs.YtpaecnbdoljafaaGreatDoor
open Go.RowKit Go.Proofs.Tryz
theorem Br(p:Addr)(w:Wo):
  CallsD prog 121 #[.pointer (some p)] .returning w fun e u' w'=>e= .returned (.tuple #[])/\u'= .returning/\w'=w:=by
 refine callsD_of_wpS func121 rfl fun c₀ cs hu=>?_;apply wpS_seq;apply wpS_region;simp[wpOpsS,go_sem,recoverD,hu,ntmps121,Exit.thenS];refine wpS_of_wp ?_;go_wp2
 cases c₀
 simp_all [bodyPostS,results,Tryz.results121]
theorem Bt(p:Addr)(x:Value)(older:List PanicEntry)(w:Wo)(hc:(w.alloc (.cells #[] 183)).cell? p=some x)(hz:(w.alloc (.cells #[] 183)).frozen? p=false):
  CallsD prog 121 #[.pointer (some p)] (.panicking ({v:=.iface 183 (.agg #[]),recovered:=false} :: older)) w fun e u' w'=>
   e= .returned (.tuple #[])/\u'= .panicking ({v:=.iface 183 (.agg #[]),recovered:=true} :: older)/\w'=(w.alloc (.cells #[] 183)).setCell p (.bool false):=by
 have a:∀ w:Wo,(Instr.typeAssert (.iface 183 (.agg #[])) 20 183 true).run prog w= .ok (.tuple #[.agg #[],.bool true]) w:=fun _=>by kernel_rfl
 refine callsD_of_wpS func121 rfl fun c₀ cs hu=>?_;apply wpS_seq;apply wpS_region;simp[wpOpsS,go_sem,recoverD,hu,ntmps121,Exit.thenS];refine wpS_of_wp ?_;go_wp2
 simp_all [bodyPostS,results,Tryz.results121]
def FF(ob:Nat)(w:Wo):Prop:=w.heap[ob]?=some (.cells #[.bool false] 4 (0,0))
theorem Bu (F:FuncId) (caps:Array Value) (w:Wo) (Q:Wo->Prop) (hent:∀ args (w:Wo),(callFunc F args).run prog w= .ok (.enter F args) w)
  (hc:Calls prog F caps (w.alloc (.cells #[.bool false] 4)) fun e w'=>e= .returned (.tuple #[])/\FF w.heap.size w'/\Q w'):
  Calls prog 75 #[.func (.func F) #[] caps] w fun e w'=>e= .returned (.bool true)/\∃ w1,Q w1/\w'=w1.setCell ⟨w.heap.size,0,none⟩ (.bool true):=by
 have h:∀ (fn:Fn) (first cap:Array Value) (w:Wo),(Instr.makeFunc fn first cap).run prog w= .ok (.func fn first cap) w:=fun _ _ _ _=>rfl;have HC:=zh hc;clear hc;go_enter_defers func75,ntmps75;go_wp2_with fail;refine (uh HC).mono ?_;rintro e w1 ⟨rfl,a,b⟩;have c0:w1.cell? ⟨w.heap.size,0,none⟩=some (.bool false):=by rw[yE a];rfl
 have k:w1.frozen? ⟨w.heap.size,0,none⟩=false:=yH a 0;have d:=zh b;have g:Hid ((w1.setCell ⟨w.heap.size,0,none⟩ (.bool true)).cell? ⟨w.heap.size,0,none⟩=some (.bool true)):=by
  have:=heap_setCell_same w1 w.heap.size 0 _ 4 (.bool true) a;show _=_
  rw[yE this];rfl
 clear HC b a;go_wp2;refine leaves_cons (f:=121) (args:=#[.pointer (some ⟨w.heap.size,0,none⟩)]) (by simp) (by simp[go_sem]) ?_;refine (Br ⟨w.heap.size,0,none⟩ _).mono ?_;rintro e l j ⟨rfl,rfl,rfl⟩;have i:=uh g;simp[Leaves,settle,results,Tryz.results75,go_sem,i];exact⟨w1,uh d,rfl⟩
theorem Bv (F:FuncId) (caps:Array Value) (w:Wo) (Q:Wo->Prop) (hent:∀ args (w:Wo),(callFunc F args).run prog w= .ok (.enter F args) w)
  (hc:Calls prog F caps (w.alloc (.cells #[.bool false] 4)) fun e w'=>e=QN/\FF w.heap.size w'/\Q w'):
  Calls prog 75 #[.func (.func F) #[] caps] w fun e w'=>e= .returned (.bool false)/\∃ w1,Q w1/\w'=(w1.alloc (.cells #[] 183)).setCell ⟨w.heap.size,0,none⟩ (.bool false):=by
 have k:∀ (fn:Fn) (first cap:Array Value) (w:Wo),(Instr.makeFunc fn first cap).run prog w= .ok (.func fn first cap) w:=fun _ _ _ _=>rfl;have HC:=zh hc;clear hc;go_enter_defers func75,ntmps75;go_wp2_with fail;refine (uh HC).mono ?_;rintro e w1 ⟨rfl,d,g⟩;have b:=(yA.1 d).1;have a:(w1.alloc (.cells #[] 183)).heap[w.heap.size]?=some (.cells #[.bool false] 4 (0,0)):=(Lib.alloc_old w1 _ _ b).trans d;have c0:(w1.alloc (.cells #[] 183)).cell? ⟨w.heap.size,0,none⟩=some (.bool false):=by rw[yE a];rfl
 have j:(w1.alloc (.cells #[] 183)).frozen? ⟨w.heap.size,0,none⟩=false:=yH a 0;have h:=zh g;have i:Hid (((w1.alloc (.cells #[] 183)).setCell ⟨w.heap.size,0,none⟩ (.bool false)).cell? ⟨w.heap.size,0,none⟩=some (.bool false)):=by
  have:=heap_setCell_same (w1.alloc (.cells #[] 183)) w.heap.size 0 _ 4 (.bool false) a;show _=_
  rw[yE this];rfl
 clear HC g d a;refine leaves_cons (f:=121) (args:=#[.pointer (some ⟨w.heap.size,0,none⟩)]) (by simp) (by simp[go_sem]) ?_;refine (Bt ⟨w.heap.size,0,none⟩ _ [] _ c0 j).mono ?_;rintro e n m ⟨rfl,rfl,rfl⟩;have l:=uh i;simp[Leaves,settle,results,Tryz.results75,go_sem,l];exact⟨w1,uh h,rfl⟩
end Go.Proofs.YtpaecnbdoljafaaGreatDoor
