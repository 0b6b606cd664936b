import Derived.Test.YtpaecnbdoljafaaGreatDoorBz26
import Derived.Test.YtpaecnbdoljafaaGreatDoorBz31
set_option maxRecDepth 100000
set_option maxHeartbeats 8000000
namespace Go.Proofs.YtpaecnbdoljafaaGreatDoor
open Go.RowKit Go.Sort Go.Proofs.Tryz
theorem Bq(n:Nat)(w:Wo)(hn:n<=10000000):
  Calls prog 124 #[.int .i64 (n:Int)] w fun e w'=>e= .returned (Yc 1 1 (hold n))/\Bw w w':=by
 have b:max (0:Int) ((n:Int) - 1)=((n - 1:Nat):Int):=by omega
 have a:Hid (Zk w.heap.size 1 1 (hold n) (w.alloc (.cells #[.int .i64 1,.int .i64 1,.int .i64 (2+((n - 1:Nat):Int))] 131))):=by
  have e:(2+((n - 1:Nat):Int))=((hold n:Nat):Int):=by unfold hold;omega
  rw[e];exact yH w _
 go_in;go_wp2;try simp only[Exit.inBlock,Exit.then]
 refine bodyPost_ret (FF rfl rfl (uh a)) rfl ?_;exact⟨rfl,(yI _ _).alloc (ye _) _⟩
def Ye(v:JV):Prop:=∀ (w:Wo) (S:Nat->Prop) (t:TypeId) (p:Value),zk w S v (.iface t p)->(∀ k,S k->k<w.heap.size)->QE w.heap.size w->(ct v).length<=10000000->zj v<=10000000->zm v<=10000000 ->
 Calls prog 79 #[.iface t p] w (Rb (Yc (zm v) (zj v) (ct v).length) w)
theorem zdj{w w':Wo}(h:Bw w w'):w.grownBy w' none:=⟨h.os,h.tape,h.output,h.size,fun k hk _=>h.block k hk⟩
theorem FV(w:Wo)(p:Addr)(v:Value):w.grownBy (w.setCell p v) (some p.block):=by
 refine⟨(yI 0 w |>.setCell (p:=p) (yu _) v).os,(yI 0 w |>.setCell (p:=p) (yu _) v).tape,(yI 0 w |>.setCell (p:=p) (yu _) v).output,(yI 0 w |>.setCell (p:=p) (yu _) v).size,fun k hk hne=>Below.heap_setCell w p v k (fun e=>hne (by rw[e]))⟩
theorem Br (sb d c n d1 c1 n1:Nat) (t:TypeId) (p:Value) (w:Wo) (h:Zk sb d c n w) (hd:d<=10000000) (hd1:d1<=10000000) (hc:c<=10000000) (hc1:c1<=10000000) (hn:n<=1000000000) (hn1:n1<=1000000000)
  (hs:Calls prog 79 #[.iface t p] w fun e w'=>e= .returned (Yc d1 c1 n1)/\Bw w w'):
  Calls prog 125 #[.pointer (some ⟨sb,0,none⟩),.iface t p] w fun e w'=>e= .returned (.tuple #[])/\Zk sb (max d (d1+1)) (c+c1) (n+n1) w'/\w.grownBy w' (some sb):=by
 have B:=ze hs;have H:=ze h;clear hs h;go_in;go_wp2_with fail;refine (uh B).mono ?_;rintro e a ⟨rfl,x⟩;have r:=(uh H).below x;have D:=r.lt;have m:=r.alloc (qA d1 c1 n1);have s:Zk a.heap.size d1 c1 n1 (a.alloc (qA d1 c1 n1)):=yH a _;have y:=(zdj x).andThen (World.grownBy_alloc a (qA d1 c1 n1) none) (fun j e=>by cases e);clear B H r x;obtain⟨M,C⟩:∃ M,max d (d1+1)=M:=⟨_,rfl⟩;have J:max (d:Int) ((d1:Int)+1)=(M:Int):=by omega
 have G:=ze C;have I:M<=10000001:=by omega
 clear C;simp only[Yc];go_wp2_with fail;generalize hW:a.alloc (qA d1 c1 n1)=W at *;clear hW;have i:W.drew.cell? ⟨sb,0,none⟩=some (.int .i64 (d:Int)):=m.c0;have k:W.drew.cell? ⟨a.heap.size,0,none⟩=some (.int .i64 (d1:Int)):=s.c0;have l:W.drew.frozen? ⟨sb,0,none⟩=false:=m.fz 0;have o:Hid (Zk sb M c n (W.setCell ⟨sb,0,none⟩ (.int .i64 (M:Int))).drew):=Zk.set0 (w:=W) m (M:Int) _ (by omega);have u:Hid (Zk a.heap.size d1 c1 n1 (W.setCell ⟨sb,0,none⟩ (.int .i64 (M:Int))).drew):=Zk.other (w:=W) s (p:=⟨sb,0,none⟩) (by show a.heap.size≠sb;omega) _;have z:Hid (w.grownBy (W.setCell ⟨sb,0,none⟩ (.int .i64 (M:Int))).drew (some sb)):=by
  have g:=(World.grownBy.but y (some sb)).andThen (FV W ⟨sb,0,none⟩ (.int .i64 (M:Int))) (fun j e=>.inr e);exact⟨g.os,g.tape,g.output,g.size,g.block⟩
 clear m s y;go_region;clear i k l J;generalize (W.setCell ⟨sb,0,none⟩ (.int .i64 (M:Int))).drew=b at *;go_wp2_with fail;have i:b.drew.cell? ⟨sb,1,none⟩=some (.int .i64 (c:Int)):=(uh o).c1;have k:b.drew.cell? ⟨a.heap.size,1,none⟩=some (.int .i64 (c1:Int)):=(uh u).c1;have l:b.drew.frozen? ⟨sb,1,none⟩=false:=(uh o).fz 1;have q:Hid (Zk sb M (c+c1) n (b.setCell ⟨sb,1,none⟩ (.int .i64 ((c:Int)+(c1:Int)))).drew):=Zk.set1 (w:=b) (uh o) ((c:Int)+(c1:Int)) _ (by omega);have v:Hid (Zk a.heap.size d1 c1 n1 (b.setCell ⟨sb,1,none⟩ (.int .i64 ((c:Int)+(c1:Int)))).drew):=Zk.other (w:=b) (uh u) (p:=⟨sb,1,none⟩) (by show a.heap.size≠sb;omega) _;have A:Hid (w.grownBy (b.setCell ⟨sb,1,none⟩ (.int .i64 ((c:Int)+(c1:Int)))).drew (some sb)):=by
  have g:=(uh z).andThen (FV b ⟨sb,1,none⟩ (.int .i64 ((c:Int)+(c1:Int)))) (fun j e=>.inr e);exact⟨g.os,g.tape,g.output,g.size,g.block⟩
 clear o u z;go_region;clear i k l;generalize (b.setCell ⟨sb,1,none⟩ (.int .i64 ((c:Int)+(c1:Int)))).drew=f at *;go_wp2_with fail;have i:f.drew.cell? ⟨sb,2,none⟩=some (.int .i64 (n:Int)):=(uh q).c2;have k:f.drew.cell? ⟨a.heap.size,2,none⟩=some (.int .i64 (n1:Int)):=(uh v).c2;have l:f.drew.frozen? ⟨sb,2,none⟩=false:=(uh q).fz 2;have F:Hid (Zk sb M (c+c1) (n+n1) (f.setCell ⟨sb,2,none⟩ (.int .i64 ((n:Int)+(n1:Int)))).drew):=Zk.set2 (w:=f) (uh q) ((n:Int)+(n1:Int)) _ (by omega);have K:Hid (Zk a.heap.size d1 c1 n1 (f.setCell ⟨sb,2,none⟩ (.int .i64 ((n:Int)+(n1:Int)))).drew):=Zk.other (w:=f) (uh v) (p:=⟨sb,2,none⟩) (by show a.heap.size≠sb;omega) _;have E:Hid (w.grownBy (f.setCell ⟨sb,2,none⟩ (.int .i64 ((n:Int)+(n1:Int)))).drew (some sb)):=by
  have g:=(uh A).andThen (FV f ⟨sb,2,none⟩ (.int .i64 ((n:Int)+(n1:Int)))) (fun j e=>.inr e);exact⟨g.os,g.tape,g.output,g.size,g.block⟩
 clear q v A;go_region;clear i k l;generalize (f.setCell ⟨sb,2,none⟩ (.int .i64 ((n:Int)+(n1:Int)))).drew=L at *;go_wp2;go_end0;exact⟨rfl,by rw[uh G];exact uh F,uh E⟩
theorem zdk(a:List (List UInt8))(t:List UInt8):nl (a++[t])=nl a+t.length:=by simp[nl]
theorem QE.more{B B':Nat}{w:Wo}(h:QE B w)(hB:B<=B'):QE B' w:=⟨yF h.1 hB,h.2⟩
theorem zdl{w w':Wo}{sb B:Nat}(h:w.grownBy w' (some sb))(hB:B<=sb)(hs:sb<w.heap.size):Below B w w':=
 ⟨h.os,h.tape,h.output,h.size,fun k hk=>h.block k (by omega) (by intro e;injection e with e;omega)⟩
theorem zdm(l:JL)(hall:∀ v∈l.toL,Ye v):Ye (.arr l):=by
 intro w S t p h R hP Y hcn hdp;rw[zk]at h;obtain⟨n,sv,b,h,A,T,C,L⟩:=h;injection h with h1 h2;subst h1;subst h2;obtain⟨a,g,u,rfl,q,s⟩:=J1 C;have ad:=(QY l b L).1;have U:w.cell? ⟨n,0,none⟩=some (.slice a b.length u):=by rw[yG T];rfl
 have F:n<w.heap.size:=R _ A;have x:(ct (.arr l)).length=hold b.length+nl (zF l):=by
  show (ZT (zF l)).length=_
  have:=UK (zF l);have e:(zF l).length=b.length:=by rw[Z6,yl,ad]
  rw[e]at this;simp[ZT];omega
 have H:zj (.arr l)=cl l.toL+1:=by rw[zj,Vv]
 have I:zm (.arr l)=dl l.toL+1:=by rw[zm,Vu]
 have hxn:b.length<=10000000:=by unfold hold at x;omega
 have HR:Hid (Yc (zm (.arr l)) (zj (.arr l)) (ct (.arr l)).length=Yc (dl l.toL+1) (cl l.toL+1) (hold b.length+nl (zF l))):=by show _=_;rw[H,I,x]
 rw[x]at Y;rw[H]at hcn;rw[I]at hdp;have o:Hid (∀ (k:Nat) (K:k<b.length),∃ t p E D N,b[k]= .iface t p/\E<=10000000/\D<=10000000/\N<=10000000/\dl (l.toL.take (k+1))=max (dl (l.toL.take k)) E/\cl (l.toL.take (k+1))=cl (l.toL.take k)+D/\nl ((zF l).take (k+1))=nl ((zF l).take k)+N /\
   ∀ wr:Wo,Bw w wr->Calls prog 79 #[.iface t p] wr (Rb (Yc E D N) wr)):=by
  intro k K;have d:k<l.toL.length:=by omega
  have hr:=(QY l b L).2 k K d;obtain⟨t,p,X⟩:=Qe hr;rw[X]at hr;have d1:=P8 l.toL k d;have c1:zj l.toL[k]<=cl l.toL:=by have:=V2 (l.toL.map zj) k (by simpa using d);simpa [cl]using this
  have n1:(ct l.toL[k]).length<=nl (zF l):=by have:=V2 ((zF l).map List.length) k (by rw[Z6];simpa using d);simpa [nl,Z6]using this
  refine⟨t,p,zm l.toL[k],zj l.toL[k],(ct l.toL[k]).length,X,by omega,by omega,by omega,?_,?_,?_,fun wr hb'=>?_⟩
  ·rw[yz d];exact PZ _ _
  ·rw[yz d];exact MK _ _
  ·rw[yz (show k<(zF l).length by rw[Z6,yl];exact d),zdk];simp[Z6]
  ·have hr':=zk.keep (w':=wr) (S':=S) (fun k K=>hb'.block k (R k K)) (fun _ h=>h) _ _ hr;exact hall _ (yt d) wr S t p hr' (fun k K=>yF (R k K) hb'.size) ((hP.next hb' (ye _)).more hb'.size) (by omega) (by omega) (by omega)
 have P:Hid (∀ k,dl (l.toL.take k)<=dl l.toL/\cl (l.toL.take k)<=cl l.toL/\nl ((zF l).take k)<=nl (zF l)):=fun k=>by
  refine⟨MM _ _,?_,?_⟩
  ·unfold cl;rw[List.map_take];exact Fu _ _
  ·unfold nl;rw[List.map_take];exact Fu _ _
 have HE:Hid (l.toL.take b.length=l.toL/\(zF l).take b.length=zF l):=⟨yr (by omega),yr (by rw[Z6,yl];omega)⟩;have HC:Hid (∀ j (hj:j<b.length) (wr:Wo),Bw w wr->wr.cell? ⟨g,j,none⟩=some b[j]):=fun j hj wr hb'=>by
  have J:g<w.heap.size:=R _ ((q (by omega)).2);exact (hb'.cell (p:=⟨g,j,none⟩) J).trans (s j hj)
 have G:0<b.length->a=some ⟨g,0,none⟩:=fun h=>(q h).1;have HH:Hid (Calls prog 124 #[.int .i64 (b.length:Int)] (w.alloc (qA 0 0 0)) fun e w'=>e= .returned (.agg #[.int .i64 1,.int .i64 1,.int .i64 ((hold b.length:Nat):Int)])/\Below (w.alloc (qA 0 0 0)).heap.size (w.alloc (qA 0 0 0)) w'):=Bq b.length (w.alloc (qA 0 0 0)) hxn;have t1:∀ w:Wo,(Instr.typeAssert (.iface 102 (.pointer (some ⟨n,0,none⟩))) 61 102 true).run prog w= .ok (.tuple #[.pointer (some ⟨n,0,none⟩),.bool true]) w:=fun _=>by kernel_rfl
 have V:(w.alloc (.cells #[.int .i64 0,.int .i64 0,.int .i64 0] 131)).cell? ⟨n,0,none⟩=some (.slice a b.length u):=((WK w).cell (p:=⟨n,0,none⟩) F).trans U;have hlt0:w.heap.size<(w.alloc (qA 0 0 0)).heap.size:=by simp
 generalize hvs:l.toL=f at *;generalize zF l=z at *;clear C L s q R hP T x H I hall ad A U hvs;go_in;go_wp2_with fail;refine (uh HH).mono ?_;rintro e m ⟨rfl,Q⟩;have R1:=(Rq w).below Q;have c1:m.cell? ⟨n,0,none⟩=some (.slice a b.length u):=(Q.cell (p:=⟨n,0,none⟩) (by show n<_;omega)).trans V;have hw1:=Q.size;have B1:=zi (WK w) Q;have c2:(m.alloc (.cells #[.int .i64 1,.int .i64 1,.int .i64 ((hold b.length:Nat):Int)] 131)).cell? ⟨n,0,none⟩=some (.slice a b.length u):=((yI m.heap.size m).alloc (ye _) (qA 1 1 (hold b.length)) |>.cell (p:=⟨n,0,none⟩) (by show n<_;omega)).trans c1;have S2:Hid (Zk m.heap.size 1 1 (hold b.length) (m.alloc (qA 1 1 (hold b.length)))):=yH m _;have R2:=ze (R1.alloc (qA 1 1 (hold b.length)));have B2:=ze (B1.alloc B1.size (qA 1 1 (hold b.length)));have aa:m.heap.size<(m.alloc (qA 1 1 (hold b.length))).heap.size:=by simp
 clear HH R1 Q V c1 B1;have E0:Hid (dl (f.take 0)+1=1/\cl (f.take 0)+1=1/\hold b.length+nl (z.take 0)=hold b.length):=⟨rfl,rfl,rfl⟩;go_wp2_with fail;go_loopw [26] (fun i wr=>∃ k:Nat,k<=b.length/\i= .int .i64 k/\Zk m.heap.size (dl (f.take k)+1) (cl (f.take k)+1) (hold b.length+nl (z.take k)) wr/\(m.alloc (qA 1 1 (hold b.length))).grownBy wr (some m.heap.size)) (fun i _=>b.length - (intOf i).toNat)
 case atStart=>exact⟨0,yu _,rfl,uh S2,World.grownBy.refl _ _⟩
 case round=>
  obtain⟨k,K,rfl,M,J⟩:=hrel;have O:=(uh B2).trans (zdl J (B:=w.heap.size) (by omega) aa);clear S2;by_cases Z:k<b.length
  ·have hltI:(k:Int)<(b.length:Int):=by omega
   obtain rfl:=G (by omega);have W:=uh HC k Z wr O;obtain⟨t,p,E,D,N,X,hd1,hc1,hn1,e1,e2,e3,r⟩:=uh o k Z;rw[X]at W;obtain⟨x1,x2,x3⟩:=uh P k;have HI:=ze (Br m.heap.size _ _ _ E D N t p wr M (by omega) hd1 (by omega) hc1 (by unfold hold;omega) (by omega) (r wr O));have HE1:=ze e1;have HE2:=ze e2;have HE3:=ze e3;have HG:=ze J;have HBW:=ze O;clear M X e1 e2 e3 r J O o HC x1 x2 x3;go_wp2_with fail;refine (uh HI).mono ?_;rintro e w2 ⟨rfl,z2,g2⟩;have G2:=ze ((uh HG).andThen g2 (fun j e=>.inr e));have Z2:Hid (Zk m.heap.size (dl (f.take (k+1))+1) (cl (f.take (k+1))+1) (hold b.length+nl (z.take (k+1))) w2):=by
    rw[uh HE1,uh HE2,uh HE3];rw[show max (dl (f.take k)) E+1=max (dl (f.take k)+1) (E+1) by omega,show cl (f.take k)+D+1=cl (f.take k)+1+D by omega,show hold b.length+(nl (z.take k)+N)=hold b.length+nl (z.take k)+N by omega];exact z2
   clear HI W z2 g2;go_wp2;go_roundw
   case rel=>exact⟨k+1,by omega,by go_num,uh Z2,uh G2⟩
   case measure=>simp[intOf];omega
  ·have d:k=b.length:=by omega
   subst d;rw[(uh HE).1,(uh HE).2]at M;have z0:=M.c0;have z1:=M.c1;have z2:=M.c2;have y:Zk w.heap.size 0 0 0 wr:=(J.block w.heap.size (by have:=(uh R2).lt;omega) (by intro e;injection e with e;omega)).trans (uh R2);have r0:=y.c0;have r1:=y.c1;have r2:=y.c2;have q0:=y.fz 0;have q1:=y.fz 1;have q2:=y.fz 2;have RX:=ze (y.put (((dl f+1:Nat)):Int) ((cl f+1:Nat):Int) ((hold b.length+nl z:Nat):Int) _ _ _ rfl rfl rfl);have BX:=ze (Rp O (ye _) (.int .i64 ((dl f+1:Nat):Int)) (.int .i64 ((cl f+1:Nat):Int)) (.int .i64 ((hold b.length+nl z:Nat):Int)));generalize dl f+1=DD at *;generalize cl f+1=CC at *;generalize hold b.length+nl z=NN at *;clear M J O y o HC P;go_wp2;try simp only[Exit.inBlock,Exit.then]
   refine bodyPost_ret (FF rfl rfl (uh RX)) rfl ?_;exact⟨by rw[uh HR],uh BX⟩
def Qp(left:Lit->Bool):List (List UInt8×JV)->Nat
 | []=>0
 | q :: r=>if left (.string q.1)then Qp left r else max (zm q.2) (Qp left r)
def qn(f:List UInt8×JV->Nat)(left:Lit->Bool):List (List UInt8×JV)->Nat
 | []=>0
 | q :: r=>(if left (.string q.1)then 0 else f q)+qn f left r
def Jf(left:Lit->Bool)(k:List UInt8):Lit->Bool:=fun z=>left z && !z.sameKey (.string k)
theorem K6{left:Lit->Bool}{k a:List UInt8}(h:a≠k):Jf left k (.string a)=left (.string a):=by
 unfold Jf;rw[Maps.sameKey_ne (by intro e;injection e with e;exact h e)];simp
theorem Bt(left:Lit->Bool)(k:List UInt8):Jf left k (.string k)=false:=by
 unfold Jf;rw[WideAt.sameKey_self (show WideAt.IsKeyLit (.string k)from trivial)];simp
theorem Bu{left:Lit->Bool}{k:List UInt8}:∀ qs:List (List UInt8×JV),(∀ q∈qs,q.1≠k)->Qp (Jf left k) qs=Qp left qs
 | [],_=>rfl
 | q :: r,h=>by
  rw[Qp,Qp,K6 (h q yq),Bu r (fun q hq=>h q (yw _ hq))]
theorem Bv{f:List UInt8×JV->Nat}{left:Lit->Bool}{k:List UInt8}:∀ qs:List (List UInt8×JV),(∀ q∈qs,q.1≠k)->qn f (Jf left k) qs=qn f left qs
 | [],_=>rfl
 | q :: r,h=>by
  rw[qn,qn,K6 (h q yq),Bv r (fun q hq=>h q (yw _ hq))]
theorem Bx{left:Lit->Bool}{k:List UInt8}{v:JV}(hl:left (.string k)=true):∀ qs:List (List UInt8×JV),(qs.map (·.1)).Nodup->(k,v)∈qs->Qp (Jf left k) qs=max (Qp left qs) (zm v)
 | [],_,h=>by simp at h
 | q :: r,hn,h=>by
  rw[yi,List.nodup_cons]at hn;rw[Qp,Qp];rcases List.mem_cons.1 h with e | h
  ·subst e;rw[Bt,hl,Bu r (fun q hq e=>hn.1 (yP.2 ⟨q,hq,e⟩))];simp only[if_true,Bool.false_eq_true,if_false];omega
  ·have hne:q.1≠k:=fun e=>hn.1 (yP.2 ⟨_,h,e.symm⟩);rw[K6 hne,Bx hl r hn.2 h];split
   ·rfl
   ·omega
theorem RQ{f:List UInt8×JV->Nat}{left:Lit->Bool}{k:List UInt8}{v:JV}(hl:left (.string k)=true):∀ qs:List (List UInt8×JV),(qs.map (·.1)).Nodup->(k,v)∈qs->qn f (Jf left k) qs=qn f left qs+f (k,v)
 | [],_,h=>by simp at h
 | q :: r,hn,h=>by
  rw[yi,List.nodup_cons]at hn;rw[qn,qn];rcases List.mem_cons.1 h with e | h
  ·subst e;rw[Bt,hl,Bv r (fun q hq e=>hn.1 (yP.2 ⟨q,hq,e⟩))];simp only[if_true,Bool.false_eq_true,if_false];omega
  ·have hne:q.1≠k:=fun e=>hn.1 (yP.2 ⟨_,h,e.symm⟩);rw[K6 hne,RQ hl r hn.2 h];omega
theorem RS{f:List UInt8×JV->Nat}{left:Lit->Bool}:∀ qs:List (List UInt8×JV),(∀ q∈qs,left (.string q.1)=true)->Qp left qs=0/\qn f left qs=0
 | [],_=>⟨rfl,rfl⟩
 | q :: r,h=>by
  obtain⟨a,b⟩:=RS (f:=f) r (fun q hq=>h q (yw _ hq));rw[Qp,qn,h q yq,a,b];exact⟨rfl,rfl⟩
theorem Bz{left:Lit->Bool}(h:∀ z,left z=false):∀ qs:List (List UInt8×JV),Qp left qs=dl (qs.map (·.2))
 | []=>rfl
 | q :: r=>by rw[Qp,h,yi,dl,Bz h r];rfl
theorem RT{f:List UInt8×JV->Nat}{left:Lit->Bool}(h:∀ z,left z=false):∀ qs:List (List UInt8×JV),qn f left qs=(qs.map f).sum
 | []=>rfl
 | q :: r=>by rw[qn,h,yi,yM,RT h r];rfl
theorem RU{f:List UInt8×JV->Nat}{left:Lit->Bool}:∀ qs:List (List UInt8×JV),qn f left qs<=(qs.map f).sum
 | []=>ye _
 | q :: r=>by
  rw[qn,yi,yM];have:=RU (f:=f) (left:=left) r;split<;>omega
theorem BD{left:Lit->Bool}:∀ qs:List (List UInt8×JV),Qp left qs<=dl (qs.map (·.2))
 | []=>ye _
 | q :: r=>by
  rw[Qp,yi,dl];have:=BD (left:=left) r;split<;>omega
theorem Xa{vs:List JV}{v:JV}(h:v∈vs):zm v<=dl vs:=by
 obtain⟨j,a,rfl⟩:=List.getElem_of_mem h;exact P8 vs j a
theorem Zk.grown{g d c b:Nat}{w w':Wo}{row:Option Nat}(h:Zk g d c b w)(hg:w.grownBy w' row)(hr:some g≠row):Zk g d c b w':=(hg.block g h.lt hr).trans h
theorem US{B r:Nat}{w w':Wo}(h:w.grownBy w' (some r))(hB:B<=r)(hs:B<=w.heap.size):Below B w w':=
 ⟨h.os,h.tape,h.output,h.size,fun k hk=>h.block k (by omega) (by intro e;injection e with e;omega)⟩
theorem zdn(m:JM)(hall:∀ q∈m.toL,Ye q.2)(hval:∀ q∈m.toL,Lib.validD q.1=true)(hnd:(Ql m).Nodup):Ye (.obj m):=by
 intro w S t p h hS hP hlen hcn hdp;rw[zk]at h;obtain⟨B,C,nn,d,h,hSob,hSmb,hob,L,_,hrm⟩:=h;injection h with h1 h2;subst h1;subst h2;obtain⟨g,hrep⟩:=YB m d hrm;have K:(d.map (·.1)).Nodup:=by rw[g];exact hnd
 have M:=WS L K;have Z:(m.toL.map (·.1)).Nodup:=by rw[← Qs];exact hnd
 have hml:m.toL.length=d.length:=by
  have a1:=congrArg List.length g;rw[Qs]at a1;simpa using a1.symm
 have hsz:Maps.size (zZ d)=d.length:=by rw[WT M,yl]
 have V:=Jm m;rw[hml]at V;have hcv:zj (.obj m)=(m.toL.map fun q=>zj q.2).sum+1:=by rw[zj,Ys]
 have hdv:zm (.obj m)=dl (m.toL.map (·.2))+1:=by rw[zm,JE]
 have HR:Hid (Yc (zm (.obj m)) (zj (.obj m)) (ct (.obj m)).length=Yc (dl (m.toL.map (·.2))+1) ((m.toL.map fun q=>zj q.2).sum+1) (hold d.length+(m.toL.map Zo).sum)):=by show _=_;rw[hcv,hdv,V]
 rw[V]at hlen;rw[hcv]at hcn;rw[hdv]at hdp;have hxn:d.length<=10000000:=by unfold hold at hlen;omega
 have hobl:B<w.heap.size:=hS _ hSob;have hmbl:C<w.heap.size:=hS _ hSmb;have hc0:w.cell? ⟨B,0,none⟩=some (.map (some C)):=by rw[yG hob];rfl
 have G:Hid (∀ (a:Lit->Bool) (x:List UInt8) (c:Value) (n:Lit) (y1:DataW Value) (y2:List MemPlace),keyOf prog 9 (.string (zh x))=some n->a n=true->(a n=true->Maps.has (zZ d) n=true)->RH c=some (y1,y2)->(∀ zd,(zZ d).atKey n zd=y1) ->
   ∃ t p dk ck nk,n= .string x/\c= .iface t p/\Lib.validD x=true/\x.length+2<=(quoted x).length/\dk<=10000000/\ck<=10000000/\(quoted x).length+1+nk<=10000000/\Qp (Jf a x) m.toL=max (Qp a m.toL) dk/\qn (fun q=>zj q.2) (Jf a x) m.toL=qn (fun q=>zj q.2) a m.toL+ck/\qn Zo (Jf a x) m.toL=qn Zo a m.toL+((quoted x).length+1+nk) /\
    ∀ wr:Wo,Bw w wr->Calls prog 79 #[.iface t p] wr (Rb (Yc dk ck nk) wr)):=by
  intro a x c n y1 y2 s hl hh hR U;obtain⟨x',hx',hkl,_⟩:=Maps.keyOf_str underlying9 s;have ex:x'=x:=by
   have:Value.string (zh x)=encStr x':=hx';simp only[encStr,Value.string.injEq]at this;have h2:=congrArg (fun b:Bs=>b.data.toList) this;simpa [zh]using h2.symm
  subst ex;subst hkl;have Y:=hh hl;rw[WR,g]at Y;simp only[List.contains_eq_mem,decide_eq_true_eq]at Y;rw[Qs]at Y;obtain⟨q,N,hqx⟩:=yP.1 Y;obtain⟨k,v⟩:=q;simp only at hqx;subst hqx;obtain⟨x0,hx0,hr⟩:=hrep k v N;have hlast:=GU d K hx0;have P:=(U (.held .nilIface)).symm.trans (WJ k (.held .nilIface) d);rw[hlast]at P;injection hR with hR;injection hR with hR _;subst hR;injection P with P;subst P;obtain⟨t,p,rfl⟩:=Qe hr;have hd1:=Xa (yP.2 ⟨(k,v),N,rfl⟩:v∈m.toL.map (·.2));have hc1:zj v<=_:=V8 (fun q=>zj q.2) N;have hn1:=V8 Zo N;simp only[Zo]at hn1;refine⟨t,p,zm v,zj v,(ct v).length,rfl,rfl,hval _ N,KF k,by omega,by omega,by omega,Bx hl m.toL Z N,RQ hl m.toL Z N,RQ hl m.toL Z N,fun wr hb'=>?_⟩;have hr':=zk.keep (w':=wr) (S':=S) (fun k hk=>hb'.block k (hS k hk)) (fun _ h=>h) _ _ hr;exact (show Ye v from hall _ N) wr S t p hr' (fun k hk=>yF (hS k hk) hb'.size) ((hP.next hb' (ye _)).more hb'.size) (by omega) (by omega) (by omega)
 have HB1:Hid (∀ a,Qp a m.toL<=dl (m.toL.map (·.2))/\qn (fun q=>zj q.2) a m.toL<=(m.toL.map fun q=>zj q.2).sum/\qn Zo a m.toL<=(m.toL.map Zo).sum):=fun a=>⟨BD _,RU _,RU _⟩;have HZ:Hid (Qp (Maps.has (zZ d)) m.toL=0/\qn (fun q=>zj q.2) (Maps.has (zZ d)) m.toL=0/\qn Zo (Maps.has (zZ d)) m.toL=0):=by
  have hh:∀ q∈m.toL,Maps.has (zZ d) (.string q.1)=true:=fun q N=>by
   rw[WR,g,Qs];simp only[List.contains_eq_mem,decide_eq_true_eq];exact yP.2 ⟨q,N,rfl⟩
  obtain⟨a1,a2⟩:=RS (f:=fun q=>zj q.2) m.toL hh;obtain⟨_,a3⟩:=RS (f:=Zo) m.toL hh;exact⟨a1,a2,a3⟩
 have HE:Hid (∀ a:Lit->Bool,(∀ z,a z=false)->Qp a m.toL=dl (m.toL.map (·.2))/\qn (fun q=>zj q.2) a m.toL=(m.toL.map fun q=>zj q.2).sum/\qn Zo a m.toL=(m.toL.map Zo).sum):=fun a h=>⟨Bz h _,RT h _,RT h _⟩;have HH:Hid (Calls prog 124 #[.int .i64 (d.length:Int)] (w.alloc (qA 0 0 0)) fun e w'=>e= .returned (.agg #[.int .i64 1,.int .i64 1,.int .i64 ((hold d.length:Nat):Int)])/\Below (w.alloc (qA 0 0 0)).heap.size (w.alloc (qA 0 0 0)) w'):=Bq d.length (w.alloc (qA 0 0 0)) hxn;have t1:∀ w:Wo,(Instr.typeAssert (.iface 173 (.pointer (some ⟨B,0,none⟩))) 61 102 true).run prog w= .ok (.tuple #[.pointer none,.bool false]) w:=fun _=>by kernel_rfl
 have t2:∀ w:Wo,(Instr.typeAssert (.iface 173 (.pointer (some ⟨B,0,none⟩))) 61 173 true).run prog w= .ok (.tuple #[.pointer (some ⟨B,0,none⟩),.bool true]) w:=fun _=>by kernel_rfl
 have hca:(w.alloc (.cells #[.int .i64 0,.int .i64 0,.int .i64 0] 131)).cell? ⟨B,0,none⟩=some (.map (some C)):=((WK w).cell (p:=⟨B,0,none⟩) hobl).trans hc0;have hlt0:w.heap.size<(w.alloc (qA 0 0 0)).heap.size:=by simp
 have o:Hid (∀ X:Wo,Bw w X->X.ownsMap prog 9 RH C nn (zZ d)):=fun X hX=>YR L (hX.block C hmbl);have hln:∀ ty,(Builtin.len_ #[172] ty #[.map (some C)]).run prog (w.alloc (.cells #[.int .i64 0,.int .i64 0,.int .i64 0] 131))= .ok (.int .i64 (d.length:Int)) (w.alloc (.cells #[.int .i64 0,.int .i64 0,.int .i64 0] 131)):=fun ty=>by
  have:=(uh o (w.alloc (qA 0 0 0)) (WK w)).len underlying172 ty;rw[hsz]at this;exact this
 generalize dl (m.toL.map (·.2))=DL at *;generalize (m.toL.map fun q=>zj q.2).sum=CL at *;generalize (m.toL.map Zo).sum=NL at *;clear hrm hrep g K M Z hS hP hob V hcv hdv hall hval hnd hml hSob hSmb hc0 L;go_in;go_wp2_with fail;refine (uh HH).mono ?_;rintro e i ⟨rfl,b1⟩;have R1:=(Rq w).below b1;have c1:i.cell? ⟨B,0,none⟩=some (.map (some C)):=(b1.cell (p:=⟨B,0,none⟩) (by show B<_;omega)).trans hca;have hw1:=b1.size;have B1:=zi (WK w) b1;have c2:(i.alloc (.cells #[.int .i64 1,.int .i64 1,.int .i64 ((hold d.length:Nat):Int)] 131)).cell? ⟨B,0,none⟩=some (.map (some C)):=((yI i.heap.size i).alloc (ye _) (qA 1 1 (hold d.length)) |>.cell (p:=⟨B,0,none⟩) (by show B<_;omega)).trans c1;have S2:Hid (Zk i.heap.size 1 1 (hold d.length) (i.alloc (qA 1 1 (hold d.length)))):=yH i _;have R2:=ze (R1.alloc (qA 1 1 (hold d.length)));have B2:=ze (B1.alloc B1.size (qA 1 1 (hold d.length)));have hlt2:(i.alloc (.cells #[.int .i64 1,.int .i64 1,.int .i64 ((hold d.length:Nat):Int)] 131)).heap.size=i.heap.size+1:=by simp
 have OW:=uh o (i.alloc (.cells #[.int .i64 1,.int .i64 1,.int .i64 ((hold d.length:Nat):Int)] 131)) (uh B2);have HOW:=ze OW;clear HH R1 b1 hca c1 B1 hln t1 t2 OW;go_wp2_with (first |(at_range;refine wpList_range_own _ rfl _ 172 rfl 9 61 (Maps.string_keyed underlying9) underlying172 RH C nn (zZ d) rfl (uh HOW) ?_;intro w0 O l hs0) | go_in);rw[hlt2]at O hs0;have R0:=ze ((uh R2).grown l (by simp));have S0:=ze ((uh S2).grown l (by simp));have B0:=ze ((uh B2).trans (⟨l.os,l.tape,l.output,l.size,fun k hk=>l.block k (yF hk (uh B2).size) (by simp)⟩:Below w.heap.size _ w0));have H:=ze O;clear O l R2 S2 B2 HOW c2;simp only[hlt2];obtain⟨r,hr⟩:∃ r,i.heap.size+1=r:=⟨_,rfl⟩;rw[hr]at H;simp only[hr];go_frame;go_loopw [9] (fun _ wr=>∃ a cnt,wr.ranges prog 9 RH C r nn (zZ d) a cnt/\(∀ n,a n=true->Maps.has (zZ d) n=true)/\Zk i.heap.size (Qp a m.toL+1) (qn (fun q=>zj q.2) a m.toL+1) (hold d.length+qn Zo a m.toL) wr/\Zk w.heap.size 0 0 0 wr/\Bw w wr) (fun _ wr=>wr.rangeLeft C r)
 case atStart=>
  refine⟨_,_,uh H,fun _ h=>h,?_,uh R0,uh B0⟩;rw[(uh HZ).1,(uh HZ).2.1,(uh HZ).2.2];exact uh S0
 case round=>
  obtain⟨a,cnt,hrg,hsub,hz,hr0,bw⟩:=hrel;have HRG:=ze hrg;have I:=ze hsub;have T:=ze hz;have R:=ze hr0;have D:=ze bw;clear hrg hsub hz hr0 bw H R0 S0 B0;go_wp2_with (first |(at_next;(refine wpList_next_ranges (α:=List UInt8) (β:=Value) _ rfl _ rfl 9 (Maps.string_keyed underlying9) RH (fun x=>.string (zh x)) (fun v=>v) (fun key n hk=>by obtain⟨x,hx,_⟩:=Maps.keyOf_str underlying9 hk;exact⟨x,hx⟩) (fun v y _=>⟨v,rfl⟩) C r nn (zZ d) a cnt rfl (uh HRG) ?_ ?_)) | go_in)
  ·intro _ hl0;obtain⟨P,e2,e3⟩:=uh HE a hl0;have hz:=uh T;rw[P,e2,e3]at hz;have z0:=hz.c0;have z1:=hz.c1;have z2:=hz.c2;have R3:=uh R;have r0:=R3.c0;have r1:=R3.c1;have r2:=R3.c2;have q0:=R3.fz 0;have q1:=R3.fz 1;have q2:=R3.fz 2;have RX:=ze (R3.put (((DL+1:Nat)):Int) ((CL+1:Nat):Int) ((hold d.length+NL:Nat):Int) _ _ _ rfl rfl rfl);have BX:=ze (Rp (uh D) (ye _) (.int .i64 ((DL+1:Nat):Int)) (.int .i64 ((CL+1:Nat):Int)) (.int .i64 ((hold d.length+NL:Nat):Int)));generalize DL+1=DD at *;generalize CL+1=CC at *;generalize hold d.length+NL=NN at *;clear hz R3 G HB1 HZ HE o HRG I T R D P e2 e3 hl0;go_wp2;try simp only[Exit.inBlock,Exit.then]
   refine bodyPost_ret (FF rfl rfl (uh RX)) rfl ?_;exact⟨by rw[uh HR],uh BX⟩
  ·intro x c n y1 y2 w2 cnt2 s hlk hR U u hlt W hs2 hen;obtain⟨t,p,dk,ck,nk,rfl,rfl,hxv,hxq,hd1,hc1,hn1,P,e2,e3,J⟩:=uh G a x c n y1 y2 s hlk (uh I n) hR U;obtain⟨x1,x2,x3⟩:=uh HB1 a;have hrlt:=u.lt;have hrne:=u.ne;have bw2:Bw w w2:=(uh D).trans (US W (by omega) (uh D).size);have S2:=(uh T).grown W (by intro e;injection e with e;omega);have R2:=(uh R).grown W (by intro e;injection e with e;omega);have aa:=ze u;have HS2:=ze S2;have HR2:=ze R2;have E:=ze bw2;have HE1:=ze P;have HE2:=ze e2;have HE3:=ze e3;have F:=ze J;have HCT:Hid (∀ Q,Calls prog 36 #[.iface 171 (.string (zh x))] Q (Rb (.string (zh (quoted x))) Q)):=fun Q=>by
    have h:=Hz (zh x) Q (by rw[zN];omega);have e:quoted x=34 ::(rs (zh x)++[34]):=by rw[S8 (zh x) (by rw[Za];exact hxv),Za];rfl
    rw[e];exact h
   have hqz:(zh (quoted x)).size=(quoted x).length:=zN _;have y1':w2.drew.cell? ⟨i.heap.size,2,none⟩=some (.int .i64 ((hold d.length+qn Zo a m.toL:Nat):Int)):=S2.c2;have hNN:hold d.length+qn Zo a m.toL<=10000000:=by omega
   generalize hNv:hold d.length+qn Zo a m.toL=NV at *;have HNV:=ze hNv;have hqn:(quoted x).length<=10000000:=by omega
   generalize zh (quoted x)=qx at *;clear s hR U u W P e2 e3 J hlk G HB1 HZ HE o T R D hNv S2 R2 bw2 hxv;go_wp2_with fail;go_region_law (
           go_simp;refine (uh HCT _).mono ?_;rintro e Q ⟨rfl,b3⟩;have S3:=Zk.below (w:=w2.drew) (uh HS2) b3;have s3:=S3.c2;have f3:=S3.fz 2;have ZL:=ze S3;have A:=ze b3;clear S3 b3)
   all_goals
    clear HCT s3 f3 y1';have hw:Value.int .i64 (IntKind.i64.wrap ((NV:Int)+IntKind.i64.wrap (((quoted x).length:Int)+1)))=Value.int .i64 ((NV+((quoted x).length+1):Nat):Int):=by
     rw[IntWalk.i64_in (((quoted x).length:Int)+1) (by omega),IntWalk.i64_in _ (by omega)];congr 1
    have S4:=Zk.set2 (uh ZL) ((NV+((quoted x).length+1):Nat):Int) (NV+((quoted x).length+1)) rfl;have g3:w2.grownBy Q none:=⟨(uh A).os,(uh A).tape,(uh A).output,(uh A).size,fun k hk _=>(uh A).block k hk⟩;have g4:w2.grownBy (Q.setCell ⟨i.heap.size,2,none⟩ (.int .i64 ((NV+((quoted x).length+1):Nat):Int))) (some i.heap.size):=(World.grownBy.but g3 (some i.heap.size)).andThen (FV _ _ _) (fun j e=>.inr e);have ab:=ze ((uh aa).kept g4 (by intro e;injection e with e;omega) (by intro e;injection e with e;omega));have HR4:=ze ((uh HR2).grown g4 (by intro e;injection e with e;omega));have b4:Bw w (Q.setCell ⟨i.heap.size,2,none⟩ (.int .i64 ((NV+((quoted x).length+1):Nat):Int))):=(uh E).trans (US g4 (by omega) (uh E).size);have HI:=ze (Br i.heap.size _ _ _ dk ck nk t p _ S4 (by omega) hd1 (by omega) hc1 (by omega) (by omega) (uh F _ b4));have HB4:=ze b4;have HS4:=ze S4;rw[hw];clear hw S4 g3 g4 b4 aa HR2 E ZL A F;generalize Q.setCell ⟨i.heap.size,2,none⟩ (.int .i64 ((NV+((quoted x).length+1):Nat):Int))=W4 at *;go_wp2_with fail;refine (uh HI).mono ?_;rintro e w5 ⟨rfl,z5,g5⟩;have ad:=ze ((uh ab).kept g5 (by intro e;injection e with e;omega) (by intro e;injection e with e;omega));have HR5:=ze ((uh HR4).grown g5 (by intro e;injection e with e;omega));have HB5:=ze ((uh HB4).trans (US g5 (by omega) (uh HB4).size));have Z5:Hid (Zk i.heap.size (Qp (Jf a x) m.toL+1) (qn (fun q=>zj q.2) (Jf a x) m.toL+1) (hold d.length+qn Zo (Jf a x) m.toL) w5):=by
     rw[uh HE1,uh HE2,uh HE3];rw[show max (Qp a m.toL) dk+1=max (Qp a m.toL+1) (dk+1) by omega,show qn (fun q=>zj q.2) a m.toL+ck+1=qn (fun q=>zj q.2) a m.toL+1+ck by omega,show hold d.length+(qn Zo a m.toL+((quoted x).length+1+nk))=NV+((quoted x).length+1)+nk by rw[← uh HNV];omega];exact z5
    clear HI z5 g5 ab HR4 HB4 HS4;go_wp2;go_roundw
   all_goals first
    | exact⟨Jf a x,cnt2,uh ad,fun n h=>uh I n (by unfold Jf at h;rw[Bool.and_eq_true]at h;exact h.1),uh Z5,uh HR5,uh HB5⟩
    |(rw[(uh ad).left_eq,(uh HRG).left_eq];omega)
theorem Xb (v:JV) (hok:zD v) (htw:zw v=false) (hd:zm v=1) (hc:zj v=1)
  (h1:∀ (w w1:Wo) (S:Nat->Prop) (t:TypeId) (p:Value),zk w S v (.iface t p)->(Instr.typeAssert (.iface t p) 61 102 true).run prog w1= .ok (.tuple #[.pointer none,.bool false]) w1)
  (h2:∀ (w w1:Wo) (S:Nat->Prop) (t:TypeId) (p:Value),zk w S v (.iface t p)->(Instr.typeAssert (.iface t p) 61 173 true).run prog w1= .ok (.tuple #[.pointer none,.bool false]) w1):Ye v:=by
 intro w S t p h b d a _ _;rw[hd,hc];refine zcd t p (ct v) w (fun w1=>h1 w w1 S t p h) (fun w1=>h2 w w1 S t p h) (fun w1 hb=>?_);exact K0 v hok htw t p w1 S (zk.keep (fun k hk=>hb.block k (b k hk)) (fun _ h=>h) _ _ h) (fun k hk=>yF (b k hk) hb.size) ((d.next hb (ye _)).more hb.size) a
theorem zdo:Ye .nul:=Xb .nul trivial rfl rfl rfl
 (fun w w1 S t p h=>by rw[zk]at h;injection h with h1 h2;subst h1;subst h2;kernel_rfl) (fun w w1 S t p h=>by rw[zk]at h;injection h with h1 h2;subst h1;subst h2;kernel_rfl)
theorem zdp:Ye .tt:=Xb .tt trivial rfl rfl rfl
 (fun w w1 S t p h=>by rw[zk]at h;injection h with h1 h2;subst h1;subst h2;kernel_rfl) (fun w w1 S t p h=>by rw[zk]at h;injection h with h1 h2;subst h1;subst h2;kernel_rfl)
theorem zdq:Ye .ff:=Xb .ff trivial rfl rfl rfl
 (fun w w1 S t p h=>by rw[zk]at h;injection h with h1 h2;subst h1;subst h2;kernel_rfl) (fun w w1 S t p h=>by rw[zk]at h;injection h with h1 h2;subst h1;subst h2;kernel_rfl)
theorem zdr(l:List UInt8)(hok:zD (.num l)):Ye (.num l):=Xb (.num l) hok rfl rfl rfl
 (fun w w1 S t p h=>by rw[zk]at h;obtain⟨z,h,_⟩:=h;injection h with h1 h2;subst h1;subst h2;kernel_rfl) (fun w w1 S t p h=>by rw[zk]at h;obtain⟨z,h,_⟩:=h;injection h with h1 h2;subst h1;subst h2;kernel_rfl)
theorem zds(l:List UInt8)(hok:zD (.str l)):Ye (.str l):=Xb (.str l) hok rfl rfl rfl
 (fun w w1 S t p h=>by rw[zk]at h;injection h with h1 h2;subst h1;subst h2;kernel_rfl) (fun w w1 S t p h=>by rw[zk]at h;injection h with h1 h2;subst h1;subst h2;kernel_rfl)
mutual
theorem FX:∀ v:JV,zD v->zw v=false->Ye v
 | .nul,_,_=>zdo
 | .tt,_,_=>zdp
 | .ff,_,_=>zdq
 | .num l,h,_=>zdr l h
 | .str l,h,_=>zds l h
 | .arr l,h,t=>zdm l (BE l (by rw[zD]at h;exact h) (by rw[zw]at t;exact t))
 | .obj m,h,t=>zdn m (BF m [] (by rw[zD]at h;exact h) (by rw[zw]at t;exact t)) (RO m (by rw[zD]at h;exact h)) (WD m [] (by rw[zw]at t;exact t)).1
theorem BE:∀ l:JL,qJ l->qd l=false->∀ v∈l.toL,Ye v
 | .nil,_,_,v,hv=>by simp[JL.toL]at hv
 | .cons x r,h,t,v,hv=>by
  rw[qJ]at h;rw[qd,Bool.or_eq_false_iff]at t;rw[JL.toL]at hv;rcases List.mem_cons.1 hv with e | hv
  ·rw[e];exact FX x h.1 t.1
  ·exact BE r h.2 t.2 v hv
theorem BF:∀ (m:JM) (ks:List (List UInt8)),qG m->ZW ks m=false->∀ q∈m.toL,Ye q.2
 | .nil,_,_,_,q,hq=>by simp[JM.toL]at hq
 | .cons k x r,ks,h,t,q,hq=>by
  rw[qG]at h;rw[ZW]at t;simp only[Bool.or_eq_false_iff]at t;rw[JM.toL]at hq;rcases List.mem_cons.1 hq with e | hq
  ·rw[e];exact FX x h.2.1 t.1.1
  ·exact BF r (ks++[k]) h.2.2 t.2 q hq
end
end Go.Proofs.YtpaecnbdoljafaaGreatDoor
