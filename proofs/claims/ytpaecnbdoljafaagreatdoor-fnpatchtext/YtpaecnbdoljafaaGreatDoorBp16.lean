import Derived.Laws.EntriesVeiled
import Derived.Test.YtpaecnbdoljafaaGreatDoorBp12
import Derived.Test.YtpaecnbdoljafaaGreatDoorBp15
set_option maxRecDepth 100000
set_option maxHeartbeats 8000000
namespace Go.Proofs.YtpaecnbdoljafaaGreatDoor
open Go.RowKit Go.Proofs.Tryz
def Qt(k:Int):Value:=if k=1 then .func (Fn.func 179) #[] #[]else if k=2 then .func (Fn.func 180) #[] #[]else if k=3 then .func (Fn.func 181) #[] #[]else if k=4 then .func (Fn.func 182) #[] #[]else if k=5 then .func (Fn.func 183) #[] #[]else .func (Fn.func 184) #[] #[]
def Jo(k:Int):Bool:=k ==4
def Jp(k:Int):Bool:=k ==1 || k ==2 || k ==4 || k ==5
def qW(k:Int):Bs:=zi (Zk k)
theorem Fs{w:Wo}{g:Nat}(hg:w.heap[g]?=some (.cells qm 135 (0,0))){j:Nat}(hj:j<6){k:Int}(hk:k=(j:Int)+1):
  w.cell? ⟨g,j*7,none⟩=some (.string (qW k))/\w.cell? ⟨g,j*7+1,none⟩=some (.int .i64 k)/\w.cell? ⟨g,j*7+2,none⟩=some (.bool (Zh k))/\w.cell? ⟨g,j*7+3,none⟩=some (.bool (zY k))/\w.cell? ⟨g,j*7+4,none⟩=some (.bool (Jo k))/\w.cell? ⟨g,j*7+5,none⟩=some (.bool (Jp k))/\w.cell? ⟨g,j*7+6,none⟩=some (Qt k):=by
 subst hk;rcases (show j=0∨j=1∨j=2∨j=3∨j=4∨j=5 from by omega)with rfl | rfl | rfl | rfl | rfl | rfl
 all_goals exact⟨yE hg _,yE hg _,yE hg _,yE hg _,yE hg _,yE hg _,yE hg _⟩
def Jq(m:zk):Obj:=.cells #[.int .i64 m.kind,.string m.path,.string m.src,.string m.val] 59 (0,0)
theorem T5(ob:Nat)(m:zk)(c0 c2 c3 c4 c5 c6:Value)(z:Int)(w:Wo)(h:w.heap[ob]?=some (Jq m)):
  Calls prog 94 #[.agg #[c0,.int .i64 z,c2,c3,c4,c5,c6],.pointer (some ⟨ob,0,none⟩)] w fun e w'=>e= .returned (.bool (z ==m.kind))/\Bw w w':=by
 have a:ob<w.heap.size:=(yA.1 h).1;have k:∀ o,(w.alloc o).cell? ⟨ob,0,none⟩=some (.int .i64 m.kind):=fun o=>yE (((Zx w o).block ob a).trans h) 0;clear h;go_in;go_wp2;go_ret;exact⟨rfl,Zx w _⟩
def QD(k:Int):Int:=if 1<=k/\k<=6 then k - 1 else -1
theorem Re(g ob:Nat)(m:zk)(w:Wo)(hg:w.heap[g]?=some (.cells qm 135 (0,0)))(h:w.heap[ob]?=some (Jq m)):
  Calls prog 136 #[.slice (some ⟨g,0,none⟩) 6 6,.func (Fn.func 94) #[] #[.pointer (some ⟨ob,0,none⟩)]] w fun e w'=>e= .returned (.int .i64 (QD m.kind))/\Bw w w':=by
 have s:=zh hg;have v:=zh h;clear hg h;go_in;go_wp2_with fail;go_loopw [8] (fun i wr=>∃ j:Nat,j<=6/\i= .int .i64 (j:Int)/\Bw w wr/\∀ n:Nat,n<j->¬ m.kind=(n:Int)+1) (fun i _=>6 - (intOf i).toNat)
 case atStart=>exact⟨0,by omega,rfl,yG _ _,fun n b=>by omega⟩
 case round=>
  obtain⟨j,L,rfl,f,b⟩:=hrel;by_cases q:j<6
  ·have hg:=(f.block g (yA.1 (uh s)).1).trans (uh s);have y:=(f.block ob (yA.1 (uh v)).1).trans (uh v);obtain⟨c0,c2,c3,c4,A,B,C,D,E,F,G,H,I⟩:=Tg hg q;have u:=zh (T5 ob m c0 c2 c3 c4 A B ((j:Int)+1) wr y);have z:=zh b;clear hg y b;go_wp2_with fail;refine (uh u).mono ?_;rintro e M ⟨rfl,x⟩;have d:=zh (zj f x);clear u x f C D E F G H I;by_cases k:(j:Int)+1=m.kind
   ·have a:(((j:Int)+1) ==m.kind)=true:=by simpa using k
    rw[a];have l:QD m.kind=(j:Int):=by unfold QD;rw[yf (by omega)];omega
    have p:=zh l;clear k a l;go_wp2;go_ret;exact⟨by rw[uh p];rfl,uh d⟩
   ·have a:(((j:Int)+1) ==m.kind)=false:=by simpa using k
    rw[a];have o:Hid (∀ n:Nat,n<j+1->¬ m.kind=(n:Int)+1):=fun n b e=>by
     by_cases r:n=j
     ·subst r;exact k e.symm
     ·exact uh z n (by omega) e
    clear k a;go_wp2;go_roundw
    case rel=>exact⟨j+1,by omega,by go_num,uh d,uh o⟩
    case measure=>simp[intOf];omega
  ·have l:QD m.kind= -1:=by
    unfold QD;rw[ye];intro ⟨J,K⟩;exact b (m.kind - 1).toNat (by omega) (by omega)
   have p:=zh l;clear l b;go_wp2;go_ret;exact⟨by rw[uh p];rfl,f⟩
def Wk(k:Int):Array Value:=#[.string (qW k),.int .i64 k,.bool (Zh k),.bool (zY k),.bool (Jo k),.bool (Jp k),Qt k]
def qM:Array Value:=#[.string ⟨#[]⟩,.int .i64 0,.bool false,.bool false,.bool false,.bool false,.nilFunc]
theorem T6(ob:Nat)(m:zk)(w:Wo)(h:w.heap[ob]?=some (Jq m))(h1:1<=m.kind)(h2:m.kind<=6):
  Calls prog 93 #[.func (Fn.func 94) #[] #[.pointer (some ⟨ob,0,none⟩)]] w fun e w'=>e= .returned (.tuple #[.agg (Wk m.kind),.bool true])/\Bw w w':=by
 have E:ob<w.heap.size:=(yA.1 h).1;obtain⟨j,P,L⟩:∃ j:Nat,j<6/\m.kind=(j:Int)+1:=⟨(m.kind - 1).toNat,by omega,by omega⟩;have s:QD m.kind=(j:Int):=by unfold QD;rw[yf ⟨h1,h2⟩];omega
 have f:=fun (w:Wo) (g:Nat) (hg:w.heap[g]?=some (.cells qm 135 (0,0)))=>Fs hg P L;have F:∃ r,Qt m.kind= .func (Fn.func r) #[] #[]:=by
  unfold Qt
  repeat' split
  all_goals exact⟨_,rfl⟩
 obtain⟨r,b⟩:=F;unfold Wk;rw[b]at f ⊢;generalize qW m.kind=wb at *;generalize Zh m.kind=T at *;generalize zY m.kind=U at *;generalize Jo m.kind=sf at *;generalize Jp m.kind=sp at *;have p:=zh f;have q:=zh s;clear f s b;have D:=Zx w (.cells qM 135);have N:=yF w (.cells qM 135);have x:(w.alloc (.cells qM 135)).heap.size=w.heap.size+1:=by simp
 have I:=zh ((D.block ob E).trans h);have J:=zh (Kj (w.alloc (.cells qM 135)));have O:=zh D;have l:=zh N;clear h D N;go_in;go_wp2_with fail;unfold qM at *;generalize (w.alloc (.cells #[.string ⟨#[]⟩,.int .i64 0,.bool false,.bool false,.bool false,.bool false,.nilFunc] 135))=d at *;refine (uh J).mono ?_;rintro e w1 ⟨rfl,rfl⟩;have v:=Zx d (.cells qm 135);have H:=yF d (.cells qm 135);have y:(d.alloc (.cells qm 135)).heap.size=d.heap.size+1:=by simp
 have K:=zh (Re d.heap.size ob m (d.alloc (.cells qm 135)) H ((v.block ob (by omega)).trans (uh I)));have n:=zh H;have k:=zh (zj (uh O) v);have o:=zh ((v.block w.heap.size (by omega)).trans (uh l));have B:=zh x;have C:=zh y;clear J v H I l x y;generalize (d.alloc (.cells qm 135))=wB at *;generalize d.heap.size=G at *;go_wp2_with fail;refine (uh K).mono ?_;rintro e i ⟨rfl,u⟩;rw[uh q];have x:=uh B;have y:=uh C;have M:=(u.block G (by omega)).trans (uh n);obtain⟨V,W,X,Y,Z,q5,q6⟩:=uh p _ _ M;have a:=(u.block w.heap.size (by omega)).trans (uh o);have c0:i.cell? ⟨w.heap.size,0,none⟩=some (.string ⟨#[]⟩):=yE a 0;have c1:i.cell? ⟨w.heap.size,1,none⟩=some (.int .i64 0):=yE a 1;have c2:i.cell? ⟨w.heap.size,2,none⟩=some (.bool false):=yE a 2;have c3:i.cell? ⟨w.heap.size,3,none⟩=some (.bool false):=yE a 3;have c4:i.cell? ⟨w.heap.size,4,none⟩=some (.bool false):=yE a 4;have R:i.cell? ⟨w.heap.size,5,none⟩=some (.bool false):=yE a 5;have S:i.cell? ⟨w.heap.size,6,none⟩=some .nilFunc:=yE a 6;have fz:=yH a;have A:=zh a;have z:=zh (zj (uh k) u);clear K k n o M a u x y p q h1 h2;clear L;have Q:(j:Int)<6:=by omega
 go_wp2;refine bodyPost_ret (JZ rfl _ _ w.heap.size 135 #[_,_,_,_,_,_,_] (0,0) _ _ rfl rfl (Jj (uh A) [_,_,_,_,_,_,_] rfl) underlying135 rfl (by kernel_rfl)) rfl ?_;exact⟨rfl,JU (uh z) (yd _) [_,_,_,_,_,_,_] 0⟩
theorem T7(ob:Nat)(m:zk)(w:Wo)(h:w.heap[ob]?=some (Jq m))(hno:¬ (1<=m.kind/\m.kind<=6)):
  Calls prog 93 #[.func (Fn.func 94) #[] #[.pointer (some ⟨ob,0,none⟩)]] w fun e w'=>e= .returned (.tuple #[.agg qM,.bool false])/\Bw w w':=by
 have x:ob<w.heap.size:=(yA.1 h).1;have k:QD m.kind= -1:=by unfold QD;rw[ye hno]
 have j:=zh k;clear k hno;have v:=Zx w (.cells qM 135);have B:=yF w (.cells qM 135);have n:(w.alloc (.cells qM 135)).heap.size=w.heap.size+1:=by simp
 have y:=zh ((v.block ob x).trans h);have z:=zh (Kj (w.alloc (.cells qM 135)));have D:=zh v;have g:=zh B;clear h v B;unfold qM at *;go_in;go_wp2_with fail;generalize (w.alloc (.cells #[.string ⟨#[]⟩,.int .i64 0,.bool false,.bool false,.bool false,.bool false,.nilFunc] 135))=b at *;refine (uh z).mono ?_;rintro e H ⟨rfl,rfl⟩;have l:=Zx b (.cells qm 135);have C:=yF b (.cells qm 135);have o:(b.alloc (.cells qm 135)).heap.size=b.heap.size+1:=by simp
 have A:=zh (Re b.heap.size ob m (b.alloc (.cells qm 135)) C ((l.block ob (by omega)).trans (uh y)));have f:=zh (zj (uh D) l);have i:=zh ((l.block w.heap.size (by omega)).trans (uh g));have r:=zh n;have s:=zh o;clear z l C y g n o;generalize (b.alloc (.cells qm 135))=I at *;generalize b.heap.size=G at *;go_wp2_with fail;refine (uh A).mono ?_;rintro e d ⟨rfl,u⟩;rw[uh j];have n:=uh r;have o:=uh s;have a:=(u.block w.heap.size (by omega)).trans (uh i);have c0:d.cell? ⟨w.heap.size,0,none⟩=some (.string ⟨#[]⟩):=yE a 0;have c1:d.cell? ⟨w.heap.size,1,none⟩=some (.int .i64 0):=yE a 1;have c2:d.cell? ⟨w.heap.size,2,none⟩=some (.bool false):=yE a 2;have c3:d.cell? ⟨w.heap.size,3,none⟩=some (.bool false):=yE a 3;have c4:d.cell? ⟨w.heap.size,4,none⟩=some (.bool false):=yE a 4;have E:d.cell? ⟨w.heap.size,5,none⟩=some (.bool false):=yE a 5;have F:d.cell? ⟨w.heap.size,6,none⟩=some .nilFunc:=yE a 6;have fz:=yH a;have q:=zh a;have p:=zh (zj (uh f) u);clear A f i a u n o j;go_wp2;refine bodyPost_ret (JZ rfl _ _ w.heap.size 135 #[_,_,_,_,_,_,_] (0,0) _ _ rfl rfl (Jj (uh q) [_,_,_,_,_,_,_] rfl) underlying135 rfl (by kernel_rfl)) rfl ?_;exact⟨rfl,JU (uh p) (yd _) [_,_,_,_,_,_,_] 0⟩
end Go.Proofs.YtpaecnbdoljafaaGreatDoor
