import Derived.Laws.EntriesVeiled
import Derived.Test.YtekpghcckdjnhaaGreatDoorBz8
import Derived.Test.YtekpghcckdjnhaaGreatDoorBz17
set_option maxRecDepth 100000
set_option maxHeartbeats 8000000
namespace Go.Proofs.YtekpghcckdjnhaaGreatDoor
open Go.RowKit Go.Proofs.Tryz
def Y7(k:Int):Value:=if k=1 then .func (Fn.func 181) #[] #[]else if k=2 then .func (Fn.func 182) #[] #[]else if k=3 then .func (Fn.func 183) #[] #[]else if k=4 then .func (Fn.func 184) #[] #[]else if k=5 then .func (Fn.func 185) #[] #[]else .func (Fn.func 186) #[] #[]
def Vz(k:Int):Bool:=k ==4
def VA(k:Int):Bool:=k ==1 || k ==2 || k ==4 || k ==5
def Ud(k:Int):Bs:=ze (zgH k)
theorem AV{w:Wo}{g:Nat}(hg:w.heap[g]?=some (.cells JG 202 (0,0))){j:Nat}(hj:j<6){k:Int}(hk:k=(j:Int)+1):
  w.cell? ⟨g,j*7,none⟩=some (.string (Ud k))/\w.cell? ⟨g,j*7+1,none⟩=some (.int .i64 k)/\w.cell? ⟨g,j*7+2,none⟩=some (.bool (Q5 k))/\w.cell? ⟨g,j*7+3,none⟩=some (.bool (qS k))/\w.cell? ⟨g,j*7+4,none⟩=some (.bool (Vz k))/\w.cell? ⟨g,j*7+5,none⟩=some (.bool (VA k))/\w.cell? ⟨g,j*7+6,none⟩=some (Y7 k):=by
 subst hk;rcases (show j=0∨j=1∨j=2∨j=3∨j=4∨j=5 from by omega)with rfl | rfl | rfl | rfl | rfl | rfl
 all_goals exact⟨yF hg _,yF hg _,yF hg _,yF hg _,yF hg _,yF hg _,yF hg _⟩
def JT(m:zw):Obj:=.cells #[.int .i64 m.kind,.string m.path,.string m.src,.string m.val] 95 (0,0)
theorem AX(ob:Nat)(m:zw)(c0 c2 c3 c4 c5 c6:Value)(z:Int)(w:Wo)(h:w.heap[ob]?=some (JT m)):
  Calls prog 139 #[.agg #[c0,.int .i64 z,c2,c3,c4,c5,c6],.pointer (some ⟨ob,0,none⟩)] w fun e w'=>e= .returned (.bool (z ==m.kind))/\Bw w w':=by
 have a:ob<w.heap.size:=(yB.1 h).1;have k:∀ o,(w.alloc o).cell? ⟨ob,0,none⟩=some (.int .i64 m.kind):=fun o=>yF (((zu w o).block ob a).trans h) 0;clear h;go_in;go_wp2;go_ret;exact⟨rfl,zu w _⟩
def VC(k:Int):Int:=if 1<=k/\k<=6 then k - 1 else -1
theorem DA(g ob:Nat)(m:zw)(w:Wo)(hg:w.heap[g]?=some (.cells JG 202 (0,0)))(h:w.heap[ob]?=some (JT m)):
  Calls prog 161 #[.slice (some ⟨g,0,none⟩) 6 6,.func (Fn.func 139) #[] #[.pointer (some ⟨ob,0,none⟩)]] w fun e w'=>e= .returned (.int .i64 (VC m.kind))/\Bw w w':=by
 have s:=zb hg;have v:=zb h;clear hg h;go_in;go_wp2_with fail;go_loopw [8] (fun i wr=>∃ j:Nat,j<=6/\i= .int .i64 (j:Int)/\Bw w wr/\∀ n:Nat,n<j->¬ m.kind=(n:Int)+1) (fun i _=>6 - (intOf i).toNat)
 case atStart=>exact⟨0,by omega,rfl,yH _ _,fun n b=>by omega⟩
 case round=>
  obtain⟨j,L,rfl,f,b⟩:=hrel;by_cases q:j<6
  ·have hg:=(f.block g (yB.1 (uh s)).1).trans (uh s);have y:=(f.block ob (yB.1 (uh v)).1).trans (uh v);obtain⟨c0,c2,c3,c4,A,B,C,D,E,F,G,H,I⟩:=zae hg q;have u:=zb (AX ob m c0 c2 c3 c4 A B ((j:Int)+1) wr y);have z:=zb b;clear hg y b;go_wp2_with fail;refine (uh u).mono ?_;rintro e M ⟨rfl,x⟩;have d:=zb (zh f x);clear u x f C D E F G H I;by_cases k:(j:Int)+1=m.kind
   ·have a:(((j:Int)+1) ==m.kind)=true:=by simpa using k
    rw[a];have l:VC m.kind=(j:Int):=by unfold VC;rw[yg (by omega)];omega
    have p:=zb l;clear k a l;go_wp2;go_ret;exact⟨by rw[uh p];rfl,uh d⟩
   ·have a:(((j:Int)+1) ==m.kind)=false:=by simpa using k
    rw[a];have o:Hid (∀ n:Nat,n<j+1->¬ m.kind=(n:Int)+1):=fun n b e=>by
     by_cases r:n=j
     ·subst r;exact k e.symm
     ·exact uh z n (by omega) e
    clear k a;go_wp2;go_roundw
    case rel=>exact⟨j+1,by omega,by go_num,uh d,uh o⟩
    case measure=>simp[intOf];omega
  ·have l:VC m.kind= -1:=by
    unfold VC;rw[yf];intro ⟨J,K⟩;exact b (m.kind - 1).toNat (by omega) (by omega)
   have p:=zb l;clear l b;go_wp2;go_ret;exact⟨by rw[uh p];rfl,f⟩
def Nd(k:Int):Array Value:=#[.string (Ud k),.int .i64 k,.bool (Q5 k),.bool (qS k),.bool (Vz k),.bool (VA k),Y7 k]
def Yp:Array Value:=#[.string ⟨#[]⟩,.int .i64 0,.bool false,.bool false,.bool false,.bool false,.nilFunc]
theorem AY(ob:Nat)(m:zw)(w:Wo)(h:w.heap[ob]?=some (JT m))(h1:1<=m.kind)(h2:m.kind<=6):
  Calls prog 133 #[.func (Fn.func 139) #[] #[.pointer (some ⟨ob,0,none⟩)]] w fun e w'=>e= .returned (.tuple #[.agg (Nd m.kind),.bool true])/\Bw w w':=by
 have E:ob<w.heap.size:=(yB.1 h).1;obtain⟨j,P,L⟩:∃ j:Nat,j<6/\m.kind=(j:Int)+1:=⟨(m.kind - 1).toNat,by omega,by omega⟩;have s:VC m.kind=(j:Int):=by unfold VC;rw[yg ⟨h1,h2⟩];omega
 have f:=fun (w:Wo) (g:Nat) (hg:w.heap[g]?=some (.cells JG 202 (0,0)))=>AV hg P L;have F:∃ r,Y7 m.kind= .func (Fn.func r) #[] #[]:=by
  unfold Y7
  repeat' split
  all_goals exact⟨_,rfl⟩
 obtain⟨r,b⟩:=F;unfold Nd;rw[b]at f ⊢;generalize Ud m.kind=wb at *;generalize Q5 m.kind=T at *;generalize qS m.kind=U at *;generalize Vz m.kind=sf at *;generalize VA m.kind=sp at *;have p:=zb f;have q:=zb s;clear f s b;have D:=zu w (.cells Yp 202);have N:=yG w (.cells Yp 202);have x:(w.alloc (.cells Yp 202)).heap.size=w.heap.size+1:=by simp
 have I:=zb ((D.block ob E).trans h);have J:=zb (D4 (w.alloc (.cells Yp 202)));have O:=zb D;have l:=zb N;clear h D N;go_in;go_wp2_with fail;unfold Yp at *;generalize (w.alloc (.cells #[.string ⟨#[]⟩,.int .i64 0,.bool false,.bool false,.bool false,.bool false,.nilFunc] 202))=d at *;refine (uh J).mono ?_;rintro e w1 ⟨rfl,rfl⟩;have v:=zu d (.cells JG 202);have H:=yG d (.cells JG 202);have y:(d.alloc (.cells JG 202)).heap.size=d.heap.size+1:=by simp
 have K:=zb (DA d.heap.size ob m (d.alloc (.cells JG 202)) H ((v.block ob (by omega)).trans (uh I)));have n:=zb H;have k:=zb (zh (uh O) v);have o:=zb ((v.block w.heap.size (by omega)).trans (uh l));have B:=zb x;have C:=zb y;clear J v H I l x y;generalize (d.alloc (.cells JG 202))=wB at *;generalize d.heap.size=G at *;go_wp2_with fail;refine (uh K).mono ?_;rintro e i ⟨rfl,u⟩;rw[uh q];have x:=uh B;have y:=uh C;have M:=(u.block G (by omega)).trans (uh n);obtain⟨V,W,X,Y,Z,q5,q6⟩:=uh p _ _ M;have a:=(u.block w.heap.size (by omega)).trans (uh o);have c0:i.cell? ⟨w.heap.size,0,none⟩=some (.string ⟨#[]⟩):=yF a 0;have c1:i.cell? ⟨w.heap.size,1,none⟩=some (.int .i64 0):=yF a 1;have c2:i.cell? ⟨w.heap.size,2,none⟩=some (.bool false):=yF a 2;have c3:i.cell? ⟨w.heap.size,3,none⟩=some (.bool false):=yF a 3;have c4:i.cell? ⟨w.heap.size,4,none⟩=some (.bool false):=yF a 4;have R:i.cell? ⟨w.heap.size,5,none⟩=some (.bool false):=yF a 5;have S:i.cell? ⟨w.heap.size,6,none⟩=some .nilFunc:=yF a 6;have fz:=yI a;have A:=zb a;have z:=zb (zh (uh k) u);clear K k n o M a u x y p q h1 h2;clear L;have Q:(j:Int)<6:=by omega
 go_wp2;refine bodyPost_ret (Uc rfl _ _ w.heap.size 202 #[_,_,_,_,_,_,_] (0,0) _ _ rfl rfl (qV (uh A) [_,_,_,_,_,_,_] rfl) underlying202 rfl (by kernel_rfl)) rfl ?_;exact⟨rfl,ZL (uh z) (ye _) [_,_,_,_,_,_,_] 0⟩
theorem AZ(ob:Nat)(m:zw)(w:Wo)(h:w.heap[ob]?=some (JT m))(hno:¬ (1<=m.kind/\m.kind<=6)):
  Calls prog 133 #[.func (Fn.func 139) #[] #[.pointer (some ⟨ob,0,none⟩)]] w fun e w'=>e= .returned (.tuple #[.agg Yp,.bool false])/\Bw w w':=by
 have x:ob<w.heap.size:=(yB.1 h).1;have k:VC m.kind= -1:=by unfold VC;rw[yf hno]
 have j:=zb k;clear k hno;have v:=zu w (.cells Yp 202);have B:=yG w (.cells Yp 202);have n:(w.alloc (.cells Yp 202)).heap.size=w.heap.size+1:=by simp
 have y:=zb ((v.block ob x).trans h);have z:=zb (D4 (w.alloc (.cells Yp 202)));have D:=zb v;have g:=zb B;clear h v B;unfold Yp at *;go_in;go_wp2_with fail;generalize (w.alloc (.cells #[.string ⟨#[]⟩,.int .i64 0,.bool false,.bool false,.bool false,.bool false,.nilFunc] 202))=b at *;refine (uh z).mono ?_;rintro e H ⟨rfl,rfl⟩;have l:=zu b (.cells JG 202);have C:=yG b (.cells JG 202);have o:(b.alloc (.cells JG 202)).heap.size=b.heap.size+1:=by simp
 have A:=zb (DA b.heap.size ob m (b.alloc (.cells JG 202)) C ((l.block ob (by omega)).trans (uh y)));have f:=zb (zh (uh D) l);have i:=zb ((l.block w.heap.size (by omega)).trans (uh g));have r:=zb n;have s:=zb o;clear z l C y g n o;generalize (b.alloc (.cells JG 202))=I at *;generalize b.heap.size=G at *;go_wp2_with fail;refine (uh A).mono ?_;rintro e d ⟨rfl,u⟩;rw[uh j];have n:=uh r;have o:=uh s;have a:=(u.block w.heap.size (by omega)).trans (uh i);have c0:d.cell? ⟨w.heap.size,0,none⟩=some (.string ⟨#[]⟩):=yF a 0;have c1:d.cell? ⟨w.heap.size,1,none⟩=some (.int .i64 0):=yF a 1;have c2:d.cell? ⟨w.heap.size,2,none⟩=some (.bool false):=yF a 2;have c3:d.cell? ⟨w.heap.size,3,none⟩=some (.bool false):=yF a 3;have c4:d.cell? ⟨w.heap.size,4,none⟩=some (.bool false):=yF a 4;have E:d.cell? ⟨w.heap.size,5,none⟩=some (.bool false):=yF a 5;have F:d.cell? ⟨w.heap.size,6,none⟩=some .nilFunc:=yF a 6;have fz:=yI a;have q:=zb a;have p:=zb (zh (uh f) u);clear A f i a u n o j;go_wp2;refine bodyPost_ret (Uc rfl _ _ w.heap.size 202 #[_,_,_,_,_,_,_] (0,0) _ _ rfl rfl (qV (uh q) [_,_,_,_,_,_,_] rfl) underlying202 rfl (by kernel_rfl)) rfl ?_;exact⟨rfl,ZL (uh p) (ye _) [_,_,_,_,_,_,_] 0⟩
end Go.Proofs.YtekpghcckdjnhaaGreatDoor
