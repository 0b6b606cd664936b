import Derived.Test.YtpaecnbdoljafaaGreatDoorBp23
import Derived.Test.YtpaecnbdoljafaaGreatDoorBp28
set_option maxRecDepth 100000
set_option maxHeartbeats 8000000
namespace Go.Proofs.YtpaecnbdoljafaaGreatDoor
open Go.RowKit Go.Sort Go.Proofs.Tryz
theorem Da(n:Nat)(w:Wo)(hn:n<=10000000):
  Calls prog 124 #[.int .i64 (n:Int)] w fun e w'=>e= .returned (Jx 1 1 (hold n))/\Bw w w':=by
 have b:max (0:Int) ((n:Int) - 1)=((n - 1:Nat):Int):=by omega
 have a:Hid (z8 w.heap.size 1 1 (hold n) (w.alloc (.cells #[.int .i64 1,.int .i64 1,.int .i64 (2+((n - 1:Nat):Int))] 131))):=by
  have e:(2+((n - 1:Nat):Int))=((hold n:Nat):Int):=by unfold hold;omega
  rw[e];exact yF w _
 go_in;go_wp2;try simp only[Exit.inBlock,Exit.then]
 refine bodyPost_ret (Xa rfl rfl (uh a)) rfl ?_;exact⟨rfl,(yG _ _).alloc (yd _) _⟩
def Jy(v:JV):Prop:=∀ (w:Wo) (S:Nat->Prop) (t:TypeId) (p:Value),zl w S v (.iface t p)->(∀ k,S k->k<w.heap.size)->Qx w.heap.size w->(ct v).length<=10000000->zo v<=10000000->zE v<=10000000 ->
 Calls prog 79 #[.iface t p] w (Rb (Jx (zE v) (zo v) (ct v).length) w)
theorem C2{w w':Wo}(h:Bw w w'):w.grownBy w' none:=⟨h.os,h.tape,h.output,h.size,fun k hk _=>h.block k hk⟩
theorem Xe(w:Wo)(p:Addr)(v:Value):w.grownBy (w.setCell p v) (some p.block):=by
 refine⟨(yG 0 w |>.setCell (p:=p) (yr _) v).os,(yG 0 w |>.setCell (p:=p) (yr _) v).tape,(yG 0 w |>.setCell (p:=p) (yr _) v).output,(yG 0 w |>.setCell (p:=p) (yr _) v).size,fun k hk hne=>Below.heap_setCell w p v k (fun e=>hne (by rw[e]))⟩
theorem Db (sb d c n d1 c1 n1:Nat) (t:TypeId) (p:Value) (w:Wo) (h:z8 sb d c n w) (hd:d<=10000000) (hd1:d1<=10000000) (hc:c<=10000000) (hc1:c1<=10000000) (hn:n<=1000000000) (hn1:n1<=1000000000)
  (hs:Calls prog 79 #[.iface t p] w fun e w'=>e= .returned (Jx d1 c1 n1)/\Bw w w'):
  Calls prog 125 #[.pointer (some ⟨sb,0,none⟩),.iface t p] w fun e w'=>e= .returned (.tuple #[])/\z8 sb (max d (d1+1)) (c+c1) (n+n1) w'/\w.grownBy w' (some sb):=by
 have B:=zh hs;have H:=zh h;clear hs h;go_in;go_wp2_with fail;refine (uh B).mono ?_;rintro e a ⟨rfl,x⟩;have r:=(uh H).below x;have D:=r.lt;have m:=r.alloc (ZX d1 c1 n1);have s:z8 a.heap.size d1 c1 n1 (a.alloc (ZX d1 c1 n1)):=yF a _;have y:=(C2 x).andThen (World.grownBy_alloc a (ZX d1 c1 n1) none) (fun j e=>by cases e);clear B H r x;obtain⟨M,C⟩:∃ M,max d (d1+1)=M:=⟨_,rfl⟩;have J:max (d:Int) ((d1:Int)+1)=(M:Int):=by omega
 have G:=zh C;have I:M<=10000001:=by omega
 clear C;simp only[Jx];go_wp2_with fail;generalize hW:a.alloc (ZX d1 c1 n1)=W at *;clear hW;have i:W.drew.cell? ⟨sb,0,none⟩=some (.int .i64 (d:Int)):=m.c0;have k:W.drew.cell? ⟨a.heap.size,0,none⟩=some (.int .i64 (d1:Int)):=s.c0;have l:W.drew.frozen? ⟨sb,0,none⟩=false:=m.fz 0;have o:Hid (z8 sb M c n (W.setCell ⟨sb,0,none⟩ (.int .i64 (M:Int))).drew):=z8.set0 (w:=W) m (M:Int) _ (by omega);have u:Hid (z8 a.heap.size d1 c1 n1 (W.setCell ⟨sb,0,none⟩ (.int .i64 (M:Int))).drew):=z8.other (w:=W) s (p:=⟨sb,0,none⟩) (by show a.heap.size≠sb;omega) _;have z:Hid (w.grownBy (W.setCell ⟨sb,0,none⟩ (.int .i64 (M:Int))).drew (some sb)):=by
  have g:=(World.grownBy.but y (some sb)).andThen (Xe W ⟨sb,0,none⟩ (.int .i64 (M:Int))) (fun j e=>.inr e);exact⟨g.os,g.tape,g.output,g.size,g.block⟩
 clear m s y;go_region;clear i k l J;generalize (W.setCell ⟨sb,0,none⟩ (.int .i64 (M:Int))).drew=b at *;go_wp2_with fail;have i:b.drew.cell? ⟨sb,1,none⟩=some (.int .i64 (c:Int)):=(uh o).c1;have k:b.drew.cell? ⟨a.heap.size,1,none⟩=some (.int .i64 (c1:Int)):=(uh u).c1;have l:b.drew.frozen? ⟨sb,1,none⟩=false:=(uh o).fz 1;have q:Hid (z8 sb M (c+c1) n (b.setCell ⟨sb,1,none⟩ (.int .i64 ((c:Int)+(c1:Int)))).drew):=z8.set1 (w:=b) (uh o) ((c:Int)+(c1:Int)) _ (by omega);have v:Hid (z8 a.heap.size d1 c1 n1 (b.setCell ⟨sb,1,none⟩ (.int .i64 ((c:Int)+(c1:Int)))).drew):=z8.other (w:=b) (uh u) (p:=⟨sb,1,none⟩) (by show a.heap.size≠sb;omega) _;have A:Hid (w.grownBy (b.setCell ⟨sb,1,none⟩ (.int .i64 ((c:Int)+(c1:Int)))).drew (some sb)):=by
  have g:=(uh z).andThen (Xe b ⟨sb,1,none⟩ (.int .i64 ((c:Int)+(c1:Int)))) (fun j e=>.inr e);exact⟨g.os,g.tape,g.output,g.size,g.block⟩
 clear o u z;go_region;clear i k l;generalize (b.setCell ⟨sb,1,none⟩ (.int .i64 ((c:Int)+(c1:Int)))).drew=f at *;go_wp2_with fail;have i:f.drew.cell? ⟨sb,2,none⟩=some (.int .i64 (n:Int)):=(uh q).c2;have k:f.drew.cell? ⟨a.heap.size,2,none⟩=some (.int .i64 (n1:Int)):=(uh v).c2;have l:f.drew.frozen? ⟨sb,2,none⟩=false:=(uh q).fz 2;have F:Hid (z8 sb M (c+c1) (n+n1) (f.setCell ⟨sb,2,none⟩ (.int .i64 ((n:Int)+(n1:Int)))).drew):=z8.set2 (w:=f) (uh q) ((n:Int)+(n1:Int)) _ (by omega);have K:Hid (z8 a.heap.size d1 c1 n1 (f.setCell ⟨sb,2,none⟩ (.int .i64 ((n:Int)+(n1:Int)))).drew):=z8.other (w:=f) (uh v) (p:=⟨sb,2,none⟩) (by show a.heap.size≠sb;omega) _;have E:Hid (w.grownBy (f.setCell ⟨sb,2,none⟩ (.int .i64 ((n:Int)+(n1:Int)))).drew (some sb)):=by
  have g:=(uh A).andThen (Xe f ⟨sb,2,none⟩ (.int .i64 ((n:Int)+(n1:Int)))) (fun j e=>.inr e);exact⟨g.os,g.tape,g.output,g.size,g.block⟩
 clear q v A;go_region;clear i k l;generalize (f.setCell ⟨sb,2,none⟩ (.int .i64 ((n:Int)+(n1:Int)))).drew=L at *;go_wp2;go_end0;exact⟨rfl,by rw[uh G];exact uh F,uh E⟩
theorem C3(a:List (List UInt8))(t:List UInt8):nl (a++[t])=nl a+t.length:=by simp[nl]
theorem Qx.more{B B':Nat}{w:Wo}(h:Qx B w)(hB:B<=B'):Qx B' w:=⟨yD h.1 hB,h.2⟩
theorem C4{w w':Wo}{sb B:Nat}(h:w.grownBy w' (some sb))(hB:B<=sb)(hs:sb<w.heap.size):Below B w w':=
 ⟨h.os,h.tape,h.output,h.size,fun k hk=>h.block k (by omega) (by intro e;injection e with e;omega)⟩
theorem C5(l:JL)(hall:∀ v∈l.toL,Jy v):Jy (.arr l):=by
 intro w S t p h R hP Y hcn hdp;rw[zl]at h;obtain⟨n,sv,b,h,A,T,C,L⟩:=h;injection h with h1 h2;subst h1;subst h2;obtain⟨a,g,u,rfl,q,s⟩:=Xc C;have ad:=(Gt l b L).1;have U:w.cell? ⟨n,0,none⟩=some (.slice a b.length u):=by rw[yE T];rfl
 have F:n<w.heap.size:=R _ A;have x:(ct (.arr l)).length=hold b.length+nl (zu l):=by
  show (Zi (zu l)).length=_
  have:=Vw (zu l);have e:(zu l).length=b.length:=by rw[qH,yk,ad]
  rw[e]at this;simp[Zi];omega
 have H:zo (.arr l)=cl l.toL+1:=by rw[zo,Uw]
 have I:zE (.arr l)=dl l.toL+1:=by rw[zE,Uv]
 have hxn:b.length<=10000000:=by unfold hold at x;omega
 have HR:Hid (Jx (zE (.arr l)) (zo (.arr l)) (ct (.arr l)).length=Jx (dl l.toL+1) (cl l.toL+1) (hold b.length+nl (zu l))):=by show _=_;rw[H,I,x]
 rw[x]at Y;rw[H]at hcn;rw[I]at hdp;have o:Hid (∀ (k:Nat) (K:k<b.length),∃ t p E D N,b[k]= .iface t p/\E<=10000000/\D<=10000000/\N<=10000000/\dl (l.toL.take (k+1))=max (dl (l.toL.take k)) E/\cl (l.toL.take (k+1))=cl (l.toL.take k)+D/\nl ((zu l).take (k+1))=nl ((zu l).take k)+N /\
   ∀ wr:Wo,Bw w wr->Calls prog 79 #[.iface t p] wr (Rb (Jx E D N) wr)):=by
  intro k K;have d:k<l.toL.length:=by omega
  have hr:=(Gt l b L).2 k K d;obtain⟨t,p,X⟩:=Gs hr;rw[X]at hr;have d1:=F8 l.toL k d;have c1:zo l.toL[k]<=cl l.toL:=by have:=Y8 (l.toL.map zo) k (by simpa using d);simpa [cl]using this
  have n1:(ct l.toL[k]).length<=nl (zu l):=by have:=Y8 ((zu l).map List.length) k (by rw[qH];simpa using d);simpa [nl,qH]using this
  refine⟨t,p,zE l.toL[k],zo l.toL[k],(ct l.toL[k]).length,X,by omega,by omega,by omega,?_,?_,?_,fun wr hb'=>?_⟩
  ·rw[yx d];exact Sn _ _
  ·rw[yx d];exact So _ _
  ·rw[yx (show k<(zu l).length by rw[qH,yk];exact d),C3];simp[qH]
  ·have hr':=zl.keep (w':=wr) (S':=S) (fun k K=>hb'.block k (R k K)) (fun _ h=>h) _ _ hr;exact hall _ (yq d) wr S t p hr' (fun k K=>yD (R k K) hb'.size) ((hP.next hb' (yd _)).more hb'.size) (by omega) (by omega) (by omega)
 have P:Hid (∀ k,dl (l.toL.take k)<=dl l.toL/\cl (l.toL.take k)<=cl l.toL/\nl ((zu l).take k)<=nl (zu l)):=fun k=>by
  refine⟨Sp _ _,?_,?_⟩
  ·unfold cl;rw[List.map_take];exact KX _ _
  ·unfold nl;rw[List.map_take];exact KX _ _
 have HE:Hid (l.toL.take b.length=l.toL/\(zu l).take b.length=zu l):=⟨yp (by omega),yp (by rw[qH,yk];omega)⟩;have HC:Hid (∀ j (hj:j<b.length) (wr:Wo),Bw w wr->wr.cell? ⟨g,j,none⟩=some b[j]):=fun j hj wr hb'=>by
  have J:g<w.heap.size:=R _ ((q (by omega)).2);exact (hb'.cell (p:=⟨g,j,none⟩) J).trans (s j hj)
 have G:0<b.length->a=some ⟨g,0,none⟩:=fun h=>(q h).1;have HH:Hid (Calls prog 124 #[.int .i64 (b.length:Int)] (w.alloc (ZX 0 0 0)) fun e w'=>e= .returned (.agg #[.int .i64 1,.int .i64 1,.int .i64 ((hold b.length:Nat):Int)])/\Below (w.alloc (ZX 0 0 0)).heap.size (w.alloc (ZX 0 0 0)) w'):=Da b.length (w.alloc (ZX 0 0 0)) hxn;have t1:∀ w:Wo,(Instr.typeAssert (.iface 102 (.pointer (some ⟨n,0,none⟩))) 61 102 true).run prog w= .ok (.tuple #[.pointer (some ⟨n,0,none⟩),.bool true]) w:=fun _=>by kernel_rfl
 have V:(w.alloc (.cells #[.int .i64 0,.int .i64 0,.int .i64 0] 131)).cell? ⟨n,0,none⟩=some (.slice a b.length u):=((Gr w).cell (p:=⟨n,0,none⟩) F).trans U;have hlt0:w.heap.size<(w.alloc (ZX 0 0 0)).heap.size:=by simp
 generalize hvs:l.toL=f at *;generalize zu l=z at *;clear C L s q R hP T x H I hall ad A U hvs;go_in;go_wp2_with fail;refine (uh HH).mono ?_;rintro e m ⟨rfl,Q⟩;have R1:=(Oj w).below Q;have c1:m.cell? ⟨n,0,none⟩=some (.slice a b.length u):=(Q.cell (p:=⟨n,0,none⟩) (by show n<_;omega)).trans V;have hw1:=Q.size;have B1:=zj (Gr w) Q;have c2:(m.alloc (.cells #[.int .i64 1,.int .i64 1,.int .i64 ((hold b.length:Nat):Int)] 131)).cell? ⟨n,0,none⟩=some (.slice a b.length u):=((yG m.heap.size m).alloc (yd _) (ZX 1 1 (hold b.length)) |>.cell (p:=⟨n,0,none⟩) (by show n<_;omega)).trans c1;have S2:Hid (z8 m.heap.size 1 1 (hold b.length) (m.alloc (ZX 1 1 (hold b.length)))):=yF m _;have R2:=zh (R1.alloc (ZX 1 1 (hold b.length)));have B2:=zh (B1.alloc B1.size (ZX 1 1 (hold b.length)));have aa:m.heap.size<(m.alloc (ZX 1 1 (hold b.length))).heap.size:=by simp
 clear HH R1 Q V c1 B1;have E0:Hid (dl (f.take 0)+1=1/\cl (f.take 0)+1=1/\hold b.length+nl (z.take 0)=hold b.length):=⟨rfl,rfl,rfl⟩;go_wp2_with fail;go_loopw [26] (fun i wr=>∃ k:Nat,k<=b.length/\i= .int .i64 k/\z8 m.heap.size (dl (f.take k)+1) (cl (f.take k)+1) (hold b.length+nl (z.take k)) wr/\(m.alloc (ZX 1 1 (hold b.length))).grownBy wr (some m.heap.size)) (fun i _=>b.length - (intOf i).toNat)
 case atStart=>exact⟨0,yr _,rfl,uh S2,World.grownBy.refl _ _⟩
 case round=>
  obtain⟨k,K,rfl,M,J⟩:=hrel;have O:=(uh B2).trans (C4 J (B:=w.heap.size) (by omega) aa);clear S2;by_cases Z:k<b.length
  ·have hltI:(k:Int)<(b.length:Int):=by omega
   obtain rfl:=G (by omega);have W:=uh HC k Z wr O;obtain⟨t,p,E,D,N,X,hd1,hc1,hn1,e1,e2,e3,r⟩:=uh o k Z;rw[X]at W;obtain⟨x1,x2,x3⟩:=uh P k;have HI:=zh (Db m.heap.size _ _ _ E D N t p wr M (by omega) hd1 (by omega) hc1 (by unfold hold;omega) (by omega) (r wr O));have HE1:=zh e1;have HE2:=zh e2;have HE3:=zh e3;have HG:=zh J;have HBW:=zh O;clear M X e1 e2 e3 r J O o HC x1 x2 x3;go_wp2_with fail;refine (uh HI).mono ?_;rintro e w2 ⟨rfl,z2,g2⟩;have G2:=zh ((uh HG).andThen g2 (fun j e=>.inr e));have Z2:Hid (z8 m.heap.size (dl (f.take (k+1))+1) (cl (f.take (k+1))+1) (hold b.length+nl (z.take (k+1))) w2):=by
    rw[uh HE1,uh HE2,uh HE3];rw[show max (dl (f.take k)) E+1=max (dl (f.take k)+1) (E+1) by omega,show cl (f.take k)+D+1=cl (f.take k)+1+D by omega,show hold b.length+(nl (z.take k)+N)=hold b.length+nl (z.take k)+N by omega];exact z2
   clear HI W z2 g2;go_wp2;go_roundw
   case rel=>exact⟨k+1,by omega,by go_num,uh Z2,uh G2⟩
   case measure=>simp[intOf];omega
  ·have d:k=b.length:=by omega
   subst d;rw[(uh HE).1,(uh HE).2]at M;have z0:=M.c0;have z1:=M.c1;have z2:=M.c2;have y:z8 w.heap.size 0 0 0 wr:=(J.block w.heap.size (by have:=(uh R2).lt;omega) (by intro e;injection e with e;omega)).trans (uh R2);have r0:=y.c0;have r1:=y.c1;have r2:=y.c2;have q0:=y.fz 0;have q1:=y.fz 1;have q2:=y.fz 2;have RX:=zh (y.put (((dl f+1:Nat)):Int) ((cl f+1:Nat):Int) ((hold b.length+nl z:Nat):Int) _ _ _ rfl rfl rfl);have BX:=zh (Oi O (yd _) (.int .i64 ((dl f+1:Nat):Int)) (.int .i64 ((cl f+1:Nat):Int)) (.int .i64 ((hold b.length+nl z:Nat):Int)));generalize dl f+1=DD at *;generalize cl f+1=CC at *;generalize hold b.length+nl z=NN at *;clear M J O y o HC P;go_wp2;try simp only[Exit.inBlock,Exit.then]
   refine bodyPost_ret (Xa rfl rfl (uh RX)) rfl ?_;exact⟨by rw[uh HR],uh BX⟩
def qI(left:Lit->Bool):List (List UInt8×JV)->Nat
 | []=>0
 | q :: r=>if left (.string q.1)then qI left r else max (zE q.2) (qI left r)
def ZQ(f:List UInt8×JV->Nat)(left:Lit->Bool):List (List UInt8×JV)->Nat
 | []=>0
 | q :: r=>(if left (.string q.1)then 0 else f q)+ZQ f left r
def QW(left:Lit->Bool)(k:List UInt8):Lit->Bool:=fun z=>left z && !z.sameKey (.string k)
theorem Xf{left:Lit->Bool}{k a:List UInt8}(h:a≠k):QW left k (.string a)=left (.string a):=by
 unfold QW;rw[Maps.sameKey_ne (by intro e;injection e with e;exact h e)];simp
theorem Dc(left:Lit->Bool)(k:List UInt8):QW left k (.string k)=false:=by
 unfold QW;rw[WideAt.sameKey_self (show WideAt.IsKeyLit (.string k)from trivial)];simp
theorem Dd{left:Lit->Bool}{k:List UInt8}:∀ qs:List (List UInt8×JV),(∀ q∈qs,q.1≠k)->qI (QW left k) qs=qI left qs
 | [],_=>rfl
 | q :: r,h=>by
  rw[qI,qI,Xf (h q yo),Dd r (fun q hq=>h q (yu _ hq))]
theorem De{f:List UInt8×JV->Nat}{left:Lit->Bool}{k:List UInt8}:∀ qs:List (List UInt8×JV),(∀ q∈qs,q.1≠k)->ZQ f (QW left k) qs=ZQ f left qs
 | [],_=>rfl
 | q :: r,h=>by
  rw[ZQ,ZQ,Xf (h q yo),De r (fun q hq=>h q (yu _ hq))]
theorem Df{left:Lit->Bool}{k:List UInt8}{v:JV}(hl:left (.string k)=true):∀ qs:List (List UInt8×JV),(qs.map (·.1)).Nodup->(k,v)∈qs->qI (QW left k) qs=max (qI left qs) (zE v)
 | [],_,h=>by simp at h
 | q :: r,hn,h=>by
  rw[yh,List.nodup_cons]at hn;rw[qI,qI];rcases List.mem_cons.1 h with e | h
  ·subst e;rw[Dc,hl,Dd r (fun q hq e=>hn.1 (yN.2 ⟨q,hq,e⟩))];simp only[if_true,Bool.false_eq_true,if_false];omega
  ·have hne:q.1≠k:=fun e=>hn.1 (yN.2 ⟨_,h,e.symm⟩);rw[Xf hne,Df hl r hn.2 h];split
   ·rfl
   ·omega
theorem Oq{f:List UInt8×JV->Nat}{left:Lit->Bool}{k:List UInt8}{v:JV}(hl:left (.string k)=true):∀ qs:List (List UInt8×JV),(qs.map (·.1)).Nodup->(k,v)∈qs->ZQ f (QW left k) qs=ZQ f left qs+f (k,v)
 | [],_,h=>by simp at h
 | q :: r,hn,h=>by
  rw[yh,List.nodup_cons]at hn;rw[ZQ,ZQ];rcases List.mem_cons.1 h with e | h
  ·subst e;rw[Dc,hl,De r (fun q hq e=>hn.1 (yN.2 ⟨q,hq,e⟩))];simp only[if_true,Bool.false_eq_true,if_false];omega
  ·have hne:q.1≠k:=fun e=>hn.1 (yN.2 ⟨_,h,e.symm⟩);rw[Xf hne,Oq hl r hn.2 h];omega
theorem Ot{f:List UInt8×JV->Nat}{left:Lit->Bool}:∀ qs:List (List UInt8×JV),(∀ q∈qs,left (.string q.1)=true)->qI left qs=0/\ZQ f left qs=0
 | [],_=>⟨rfl,rfl⟩
 | q :: r,h=>by
  obtain⟨a,b⟩:=Ot (f:=f) r (fun q hq=>h q (yu _ hq));rw[qI,ZQ,h q yo,a,b];exact⟨rfl,rfl⟩
theorem Dh{left:Lit->Bool}(h:∀ z,left z=false):∀ qs:List (List UInt8×JV),qI left qs=dl (qs.map (·.2))
 | []=>rfl
 | q :: r=>by rw[qI,h,yh,dl,Dh h r];rfl
theorem Ou{f:List UInt8×JV->Nat}{left:Lit->Bool}(h:∀ z,left z=false):∀ qs:List (List UInt8×JV),ZQ f left qs=(qs.map f).sum
 | []=>rfl
 | q :: r=>by rw[ZQ,h,yh,yK,Ou h r];rfl
theorem Ov{f:List UInt8×JV->Nat}{left:Lit->Bool}:∀ qs:List (List UInt8×JV),ZQ f left qs<=(qs.map f).sum
 | []=>yd _
 | q :: r=>by
  rw[ZQ,yh,yK];have:=Ov (f:=f) (left:=left) r;split<;>omega
theorem Di{left:Lit->Bool}:∀ qs:List (List UInt8×JV),qI left qs<=dl (qs.map (·.2))
 | []=>yd _
 | q :: r=>by
  rw[qI,yh,dl];have:=Di (left:=left) r;split<;>omega
theorem C6{vs:List JV}{v:JV}(h:v∈vs):zE v<=dl vs:=by
 obtain⟨j,a,rfl⟩:=List.getElem_of_mem h;exact F8 vs j a
theorem z8.grown{g d c b:Nat}{w w':Wo}{row:Option Nat}(h:z8 g d c b w)(hg:w.grownBy w' row)(hr:some g≠row):z8 g d c b w':=(hg.block g h.lt hr).trans h
theorem Ow{B r:Nat}{w w':Wo}(h:w.grownBy w' (some r))(hB:B<=r)(hs:B<=w.heap.size):Below B w w':=
 ⟨h.os,h.tape,h.output,h.size,fun k hk=>h.block k (by omega) (by intro e;injection e with e;omega)⟩
theorem C7(m:JM)(hall:∀ q∈m.toL,Jy q.2)(hval:∀ q∈m.toL,Lib.validD q.1=true)(hnd:(qP m).Nodup):Jy (.obj m):=by
 intro w S t p h hS hP hlen hcn hdp;rw[zl]at h;obtain⟨B,C,nn,d,h,hSob,hSmb,hob,L,_,hrm⟩:=h;injection h with h1 h2;subst h1;subst h2;obtain⟨g,hrep⟩:=Xd m d hrm;have K:(d.map (·.1)).Nodup:=by rw[g];exact hnd
 have M:=S6 L K;have Z:(m.toL.map (·.1)).Nodup:=by rw[← Gk];exact hnd
 have hml:m.toL.length=d.length:=by
  have a1:=congrArg List.length g;rw[Gk]at a1;simpa using a1.symm
 have hsz:Maps.size (ZE d)=d.length:=by rw[S7 M,yk]
 have V:=Ym m;rw[hml]at V;have hcv:zo (.obj m)=(m.toL.map fun q=>zo q.2).sum+1:=by rw[zo,Gp]
 have hdv:zE (.obj m)=dl (m.toL.map (·.2))+1:=by rw[zE,Gn]
 have HR:Hid (Jx (zE (.obj m)) (zo (.obj m)) (ct (.obj m)).length=Jx (dl (m.toL.map (·.2))+1) ((m.toL.map fun q=>zo q.2).sum+1) (hold d.length+(m.toL.map ZV).sum)):=by show _=_;rw[hcv,hdv,V]
 rw[V]at hlen;rw[hcv]at hcn;rw[hdv]at hdp;have hxn:d.length<=10000000:=by unfold hold at hlen;omega
 have hobl:B<w.heap.size:=hS _ hSob;have hmbl:C<w.heap.size:=hS _ hSmb;have hc0:w.cell? ⟨B,0,none⟩=some (.map (some C)):=by rw[yE hob];rfl
 have G:Hid (∀ (a:Lit->Bool) (x:List UInt8) (c:Value) (n:Lit) (y1:DataW Value) (y2:List MemPlace),keyOf prog 9 (.string (zi x))=some n->a n=true->(a n=true->Maps.has (ZE d) n=true)->RH c=some (y1,y2)->(∀ zd,(ZE d).atKey n zd=y1) ->
   ∃ t p dk ck nk,n= .string x/\c= .iface t p/\Lib.validD x=true/\x.length+2<=(quoted x).length/\dk<=10000000/\ck<=10000000/\(quoted x).length+1+nk<=10000000/\qI (QW a x) m.toL=max (qI a m.toL) dk/\ZQ (fun q=>zo q.2) (QW a x) m.toL=ZQ (fun q=>zo q.2) a m.toL+ck/\ZQ ZV (QW a x) m.toL=ZQ ZV a m.toL+((quoted x).length+1+nk) /\
    ∀ wr:Wo,Bw w wr->Calls prog 79 #[.iface t p] wr (Rb (Jx dk ck nk) wr)):=by
  intro a x c n y1 y2 s hl hh hR U;obtain⟨x',hx',hkl,_⟩:=Maps.keyOf_str underlying9 s;have ex:x'=x:=by
   have:Value.string (zi x)=encStr x':=hx';simp only[encStr,Value.string.injEq]at this;have h2:=congrArg (fun b:Bs=>b.data.toList) this;simpa [zi]using h2.symm
  subst ex;subst hkl;have Y:=hh hl;rw[Om,g]at Y;simp only[List.contains_eq_mem,decide_eq_true_eq]at Y;rw[Gk]at Y;obtain⟨q,N,hqx⟩:=yN.1 Y;obtain⟨k,v⟩:=q;simp only at hqx;subst hqx;obtain⟨x0,hx0,hr⟩:=hrep k v N;have hlast:=Ol d K hx0;have P:=(U (.held .nilIface)).symm.trans (FE k (.held .nilIface) d);rw[hlast]at P;injection hR with hR;injection hR with hR _;subst hR;injection P with P;subst P;obtain⟨t,p,rfl⟩:=Gs hr;have hd1:=C6 (yN.2 ⟨(k,v),N,rfl⟩:v∈m.toL.map (·.2));have hc1:zo v<=_:=Vx (fun q=>zo q.2) N;have hn1:=Vx ZV N;simp only[ZV]at hn1;refine⟨t,p,zE v,zo v,(ct v).length,rfl,rfl,hval _ N,Uu k,by omega,by omega,by omega,Df hl m.toL Z N,Oq hl m.toL Z N,Oq hl m.toL Z N,fun wr hb'=>?_⟩;have hr':=zl.keep (w':=wr) (S':=S) (fun k hk=>hb'.block k (hS k hk)) (fun _ h=>h) _ _ hr;exact (show Jy v from hall _ N) wr S t p hr' (fun k hk=>yD (hS k hk) hb'.size) ((hP.next hb' (yd _)).more hb'.size) (by omega) (by omega) (by omega)
 have HB1:Hid (∀ a,qI a m.toL<=dl (m.toL.map (·.2))/\ZQ (fun q=>zo q.2) a m.toL<=(m.toL.map fun q=>zo q.2).sum/\ZQ ZV a m.toL<=(m.toL.map ZV).sum):=fun a=>⟨Di _,Ov _,Ov _⟩;have HZ:Hid (qI (Maps.has (ZE d)) m.toL=0/\ZQ (fun q=>zo q.2) (Maps.has (ZE d)) m.toL=0/\ZQ ZV (Maps.has (ZE d)) m.toL=0):=by
  have hh:∀ q∈m.toL,Maps.has (ZE d) (.string q.1)=true:=fun q N=>by
   rw[Om,g,Gk];simp only[List.contains_eq_mem,decide_eq_true_eq];exact yN.2 ⟨q,N,rfl⟩
  obtain⟨a1,a2⟩:=Ot (f:=fun q=>zo q.2) m.toL hh;obtain⟨_,a3⟩:=Ot (f:=ZV) m.toL hh;exact⟨a1,a2,a3⟩
 have HE:Hid (∀ a:Lit->Bool,(∀ z,a z=false)->qI a m.toL=dl (m.toL.map (·.2))/\ZQ (fun q=>zo q.2) a m.toL=(m.toL.map fun q=>zo q.2).sum/\ZQ ZV a m.toL=(m.toL.map ZV).sum):=fun a h=>⟨Dh h _,Ou h _,Ou h _⟩;have HH:Hid (Calls prog 124 #[.int .i64 (d.length:Int)] (w.alloc (ZX 0 0 0)) fun e w'=>e= .returned (.agg #[.int .i64 1,.int .i64 1,.int .i64 ((hold d.length:Nat):Int)])/\Below (w.alloc (ZX 0 0 0)).heap.size (w.alloc (ZX 0 0 0)) w'):=Da d.length (w.alloc (ZX 0 0 0)) hxn;have t1:∀ w:Wo,(Instr.typeAssert (.iface 173 (.pointer (some ⟨B,0,none⟩))) 61 102 true).run prog w= .ok (.tuple #[.pointer none,.bool false]) w:=fun _=>by kernel_rfl
 have t2:∀ w:Wo,(Instr.typeAssert (.iface 173 (.pointer (some ⟨B,0,none⟩))) 61 173 true).run prog w= .ok (.tuple #[.pointer (some ⟨B,0,none⟩),.bool true]) w:=fun _=>by kernel_rfl
 have hca:(w.alloc (.cells #[.int .i64 0,.int .i64 0,.int .i64 0] 131)).cell? ⟨B,0,none⟩=some (.map (some C)):=((Gr w).cell (p:=⟨B,0,none⟩) hobl).trans hc0;have hlt0:w.heap.size<(w.alloc (ZX 0 0 0)).heap.size:=by simp
 have o:Hid (∀ X:Wo,Bw w X->X.ownsMap prog 9 RH C nn (ZE d)):=fun X hX=>Vr L (hX.block C hmbl);have hln:∀ ty,(Builtin.len_ #[172] ty #[.map (some C)]).run prog (w.alloc (.cells #[.int .i64 0,.int .i64 0,.int .i64 0] 131))= .ok (.int .i64 (d.length:Int)) (w.alloc (.cells #[.int .i64 0,.int .i64 0,.int .i64 0] 131)):=fun ty=>by
  have:=(uh o (w.alloc (ZX 0 0 0)) (Gr w)).len underlying172 ty;rw[hsz]at this;exact this
 generalize dl (m.toL.map (·.2))=DL at *;generalize (m.toL.map fun q=>zo q.2).sum=CL at *;generalize (m.toL.map ZV).sum=NL at *;clear hrm hrep g K M Z hS hP hob V hcv hdv hall hval hnd hml hSob hSmb hc0 L;go_in;go_wp2_with fail;refine (uh HH).mono ?_;rintro e i ⟨rfl,b1⟩;have R1:=(Oj w).below b1;have c1:i.cell? ⟨B,0,none⟩=some (.map (some C)):=(b1.cell (p:=⟨B,0,none⟩) (by show B<_;omega)).trans hca;have hw1:=b1.size;have B1:=zj (Gr w) b1;have c2:(i.alloc (.cells #[.int .i64 1,.int .i64 1,.int .i64 ((hold d.length:Nat):Int)] 131)).cell? ⟨B,0,none⟩=some (.map (some C)):=((yG i.heap.size i).alloc (yd _) (ZX 1 1 (hold d.length)) |>.cell (p:=⟨B,0,none⟩) (by show B<_;omega)).trans c1;have S2:Hid (z8 i.heap.size 1 1 (hold d.length) (i.alloc (ZX 1 1 (hold d.length)))):=yF i _;have R2:=zh (R1.alloc (ZX 1 1 (hold d.length)));have B2:=zh (B1.alloc B1.size (ZX 1 1 (hold d.length)));have hlt2:(i.alloc (.cells #[.int .i64 1,.int .i64 1,.int .i64 ((hold d.length:Nat):Int)] 131)).heap.size=i.heap.size+1:=by simp
 have OW:=uh o (i.alloc (.cells #[.int .i64 1,.int .i64 1,.int .i64 ((hold d.length:Nat):Int)] 131)) (uh B2);have HOW:=zh OW;clear HH R1 b1 hca c1 B1 hln t1 t2 OW;go_wp2_with (first |(at_range;refine wpList_range_own _ rfl _ 172 rfl 9 61 (Maps.string_keyed underlying9) underlying172 RH C nn (ZE d) rfl (uh HOW) ?_;intro w0 O l hs0) | go_in);rw[hlt2]at O hs0;have R0:=zh ((uh R2).grown l (by simp));have S0:=zh ((uh S2).grown l (by simp));have B0:=zh ((uh B2).trans (⟨l.os,l.tape,l.output,l.size,fun k hk=>l.block k (yD hk (uh B2).size) (by simp)⟩:Below w.heap.size _ w0));have H:=zh O;clear O l R2 S2 B2 HOW c2;simp only[hlt2];obtain⟨r,hr⟩:∃ r,i.heap.size+1=r:=⟨_,rfl⟩;rw[hr]at H;simp only[hr];go_frame;go_loopw [9] (fun _ wr=>∃ a cnt,wr.ranges prog 9 RH C r nn (ZE d) a cnt/\(∀ n,a n=true->Maps.has (ZE d) n=true)/\z8 i.heap.size (qI a m.toL+1) (ZQ (fun q=>zo q.2) a m.toL+1) (hold d.length+ZQ ZV a m.toL) wr/\z8 w.heap.size 0 0 0 wr/\Bw w wr) (fun _ wr=>wr.rangeLeft C r)
 case atStart=>
  refine⟨_,_,uh H,fun _ h=>h,?_,uh R0,uh B0⟩;rw[(uh HZ).1,(uh HZ).2.1,(uh HZ).2.2];exact uh S0
 case round=>
  obtain⟨a,cnt,hrg,hsub,hz,hr0,bw⟩:=hrel;have HRG:=zh hrg;have I:=zh hsub;have T:=zh hz;have R:=zh hr0;have D:=zh bw;clear hrg hsub hz hr0 bw H R0 S0 B0;go_wp2_with (first |(at_next;(refine wpList_next_ranges (α:=List UInt8) (β:=Value) _ rfl _ rfl 9 (Maps.string_keyed underlying9) RH (fun x=>.string (zi x)) (fun v=>v) (fun key n hk=>by obtain⟨x,hx,_⟩:=Maps.keyOf_str underlying9 hk;exact⟨x,hx⟩) (fun v y _=>⟨v,rfl⟩) C r nn (ZE d) a cnt rfl (uh HRG) ?_ ?_)) | go_in)
  ·intro _ hl0;obtain⟨P,e2,e3⟩:=uh HE a hl0;have hz:=uh T;rw[P,e2,e3]at hz;have z0:=hz.c0;have z1:=hz.c1;have z2:=hz.c2;have R3:=uh R;have r0:=R3.c0;have r1:=R3.c1;have r2:=R3.c2;have q0:=R3.fz 0;have q1:=R3.fz 1;have q2:=R3.fz 2;have RX:=zh (R3.put (((DL+1:Nat)):Int) ((CL+1:Nat):Int) ((hold d.length+NL:Nat):Int) _ _ _ rfl rfl rfl);have BX:=zh (Oi (uh D) (yd _) (.int .i64 ((DL+1:Nat):Int)) (.int .i64 ((CL+1:Nat):Int)) (.int .i64 ((hold d.length+NL:Nat):Int)));generalize DL+1=DD at *;generalize CL+1=CC at *;generalize hold d.length+NL=NN at *;clear hz R3 G HB1 HZ HE o HRG I T R D P e2 e3 hl0;go_wp2;try simp only[Exit.inBlock,Exit.then]
   refine bodyPost_ret (Xa rfl rfl (uh RX)) rfl ?_;exact⟨by rw[uh HR],uh BX⟩
  ·intro x c n y1 y2 w2 cnt2 s hlk hR U u hlt W hs2 hen;obtain⟨t,p,dk,ck,nk,rfl,rfl,hxv,hxq,hd1,hc1,hn1,P,e2,e3,J⟩:=uh G a x c n y1 y2 s hlk (uh I n) hR U;obtain⟨x1,x2,x3⟩:=uh HB1 a;have hrlt:=u.lt;have hrne:=u.ne;have bw2:Bw w w2:=(uh D).trans (Ow W (by omega) (uh D).size);have S2:=(uh T).grown W (by intro e;injection e with e;omega);have R2:=(uh R).grown W (by intro e;injection e with e;omega);have aa:=zh u;have HS2:=zh S2;have HR2:=zh R2;have E:=zh bw2;have HE1:=zh P;have HE2:=zh e2;have HE3:=zh e3;have F:=zh J;have HCT:Hid (∀ Q,Calls prog 36 #[.iface 171 (.string (zi x))] Q (Rb (.string (zi (quoted x))) Q)):=fun Q=>by
    have h:=Tc (zi x) Q (by rw[zS];omega);have e:quoted x=34 ::(rs (zi x)++[34]):=by rw[Nm (zi x) (by rw[Zd];exact hxv),Zd];rfl
    rw[e];exact h
   have hqz:(zi (quoted x)).size=(quoted x).length:=zS _;have y1':w2.drew.cell? ⟨i.heap.size,2,none⟩=some (.int .i64 ((hold d.length+ZQ ZV a m.toL:Nat):Int)):=S2.c2;have hNN:hold d.length+ZQ ZV a m.toL<=10000000:=by omega
   generalize hNv:hold d.length+ZQ ZV a m.toL=NV at *;have HNV:=zh hNv;have hqn:(quoted x).length<=10000000:=by omega
   generalize zi (quoted x)=qx at *;clear s hR U u W P e2 e3 J hlk G HB1 HZ HE o T R D hNv S2 R2 bw2 hxv;go_wp2_with fail;go_region_law (
           go_simp;refine (uh HCT _).mono ?_;rintro e Q ⟨rfl,b3⟩;have S3:=z8.below (w:=w2.drew) (uh HS2) b3;have s3:=S3.c2;have f3:=S3.fz 2;have Z3:=zh S3;have A:=zh b3;clear S3 b3)
   all_goals
    clear HCT s3 f3 y1';have hw:Value.int .i64 (IntKind.i64.wrap ((NV:Int)+IntKind.i64.wrap (((quoted x).length:Int)+1)))=Value.int .i64 ((NV+((quoted x).length+1):Nat):Int):=by
     rw[IntWalk.i64_in (((quoted x).length:Int)+1) (by omega),IntWalk.i64_in _ (by omega)];congr 1
    have S4:=z8.set2 (uh Z3) ((NV+((quoted x).length+1):Nat):Int) (NV+((quoted x).length+1)) rfl;have g3:w2.grownBy Q none:=⟨(uh A).os,(uh A).tape,(uh A).output,(uh A).size,fun k hk _=>(uh A).block k hk⟩;have g4:w2.grownBy (Q.setCell ⟨i.heap.size,2,none⟩ (.int .i64 ((NV+((quoted x).length+1):Nat):Int))) (some i.heap.size):=(World.grownBy.but g3 (some i.heap.size)).andThen (Xe _ _ _) (fun j e=>.inr e);have ab:=zh ((uh aa).kept g4 (by intro e;injection e with e;omega) (by intro e;injection e with e;omega));have HR4:=zh ((uh HR2).grown g4 (by intro e;injection e with e;omega));have b4:Bw w (Q.setCell ⟨i.heap.size,2,none⟩ (.int .i64 ((NV+((quoted x).length+1):Nat):Int))):=(uh E).trans (Ow g4 (by omega) (uh E).size);have HI:=zh (Db i.heap.size _ _ _ dk ck nk t p _ S4 (by omega) hd1 (by omega) hc1 (by omega) (by omega) (uh F _ b4));have HB4:=zh b4;have HS4:=zh S4;rw[hw];clear hw S4 g3 g4 b4 aa HR2 E Z3 A F;generalize Q.setCell ⟨i.heap.size,2,none⟩ (.int .i64 ((NV+((quoted x).length+1):Nat):Int))=W4 at *;go_wp2_with fail;refine (uh HI).mono ?_;rintro e w5 ⟨rfl,z5,g5⟩;have ad:=zh ((uh ab).kept g5 (by intro e;injection e with e;omega) (by intro e;injection e with e;omega));have HR5:=zh ((uh HR4).grown g5 (by intro e;injection e with e;omega));have HB5:=zh ((uh HB4).trans (Ow g5 (by omega) (uh HB4).size));have Z5:Hid (z8 i.heap.size (qI (QW a x) m.toL+1) (ZQ (fun q=>zo q.2) (QW a x) m.toL+1) (hold d.length+ZQ ZV (QW a x) m.toL) w5):=by
     rw[uh HE1,uh HE2,uh HE3];rw[show max (qI a m.toL) dk+1=max (qI a m.toL+1) (dk+1) by omega,show ZQ (fun q=>zo q.2) a m.toL+ck+1=ZQ (fun q=>zo q.2) a m.toL+1+ck by omega,show hold d.length+(ZQ ZV a m.toL+((quoted x).length+1+nk))=NV+((quoted x).length+1)+nk by rw[← uh HNV];omega];exact z5
    clear HI z5 g5 ab HR4 HB4 HS4;go_wp2;go_roundw
   all_goals first
    | exact⟨QW a x,cnt2,uh ad,fun n h=>uh I n (by unfold QW at h;rw[Bool.and_eq_true]at h;exact h.1),uh Z5,uh HR5,uh HB5⟩
    |(rw[(uh ad).left_eq,(uh HRG).left_eq];omega)
theorem UF (v:JV) (hok:zy v) (htw:zw v=false) (hd:zE v=1) (hc:zo v=1)
  (h1:∀ (w w1:Wo) (S:Nat->Prop) (t:TypeId) (p:Value),zl w S v (.iface t p)->(Instr.typeAssert (.iface t p) 61 102 true).run prog w1= .ok (.tuple #[.pointer none,.bool false]) w1)
  (h2:∀ (w w1:Wo) (S:Nat->Prop) (t:TypeId) (p:Value),zl w S v (.iface t p)->(Instr.typeAssert (.iface t p) 61 173 true).run prog w1= .ok (.tuple #[.pointer none,.bool false]) w1):Jy v:=by
 intro w S t p h b d a _ _;rw[hd,hc];refine CM t p (ct v) w (fun w1=>h1 w w1 S t p h) (fun w1=>h2 w w1 S t p h) (fun w1 hb=>?_);exact UD v hok htw t p w1 S (zl.keep (fun k hk=>hb.block k (b k hk)) (fun _ h=>h) _ _ h) (fun k hk=>yD (b k hk) hb.size) ((d.next hb (yd _)).more hb.size) a
theorem C8:Jy .nul:=UF .nul trivial rfl rfl rfl
 (fun w w1 S t p h=>by rw[zl]at h;injection h with h1 h2;subst h1;subst h2;kernel_rfl) (fun w w1 S t p h=>by rw[zl]at h;injection h with h1 h2;subst h1;subst h2;kernel_rfl)
theorem C9:Jy .tt:=UF .tt trivial rfl rfl rfl
 (fun w w1 S t p h=>by rw[zl]at h;injection h with h1 h2;subst h1;subst h2;kernel_rfl) (fun w w1 S t p h=>by rw[zl]at h;injection h with h1 h2;subst h1;subst h2;kernel_rfl)
theorem Ea:Jy .ff:=UF .ff trivial rfl rfl rfl
 (fun w w1 S t p h=>by rw[zl]at h;injection h with h1 h2;subst h1;subst h2;kernel_rfl) (fun w w1 S t p h=>by rw[zl]at h;injection h with h1 h2;subst h1;subst h2;kernel_rfl)
theorem Eb(l:List UInt8)(hok:zy (.num l)):Jy (.num l):=UF (.num l) hok rfl rfl rfl
 (fun w w1 S t p h=>by rw[zl]at h;obtain⟨z,h,_⟩:=h;injection h with h1 h2;subst h1;subst h2;kernel_rfl) (fun w w1 S t p h=>by rw[zl]at h;obtain⟨z,h,_⟩:=h;injection h with h1 h2;subst h1;subst h2;kernel_rfl)
theorem Ec(l:List UInt8)(hok:zy (.str l)):Jy (.str l):=UF (.str l) hok rfl rfl rfl
 (fun w w1 S t p h=>by rw[zl]at h;injection h with h1 h2;subst h1;subst h2;kernel_rfl) (fun w w1 S t p h=>by rw[zl]at h;injection h with h1 h2;subst h1;subst h2;kernel_rfl)
mutual
theorem Xg:∀ v:JV,zy v->zw v=false->Jy v
 | .nul,_,_=>C8
 | .tt,_,_=>C9
 | .ff,_,_=>Ea
 | .num l,h,_=>Eb l h
 | .str l,h,_=>Ec l h
 | .arr l,h,t=>C5 l (Dj l (by rw[zy]at h;exact h) (by rw[zw]at t;exact t))
 | .obj m,h,t=>C7 m (Dk m [] (by rw[zy]at h;exact h) (by rw[zw]at t;exact t)) (Oo m (by rw[zy]at h;exact h)) (Us m [] (by rw[zw]at t;exact t)).1
theorem Dj:∀ l:JL,Z8 l->ZG l=false->∀ v∈l.toL,Jy v
 | .nil,_,_,v,hv=>by simp[JL.toL]at hv
 | .cons x r,h,t,v,hv=>by
  rw[Z8]at h;rw[ZG,Bool.or_eq_false_iff]at t;rw[JL.toL]at hv;rcases List.mem_cons.1 hv with e | hv
  ·rw[e];exact Xg x h.1 t.1
  ·exact Dj r h.2 t.2 v hv
theorem Dk:∀ (m:JM) (ks:List (List UInt8)),Z6 m->ZC ks m=false->∀ q∈m.toL,Jy q.2
 | .nil,_,_,_,q,hq=>by simp[JM.toL]at hq
 | .cons k x r,ks,h,t,q,hq=>by
  rw[Z6]at h;rw[ZC]at t;simp only[Bool.or_eq_false_iff]at t;rw[JM.toL]at hq;rcases List.mem_cons.1 hq with e | hq
  ·rw[e];exact Xg x h.2.1 t.1.1
  ·exact Dk r (ks++[k]) h.2.2 t.2 q hq
end
end Go.Proofs.YtpaecnbdoljafaaGreatDoor
namespace Go.Proofs.YtpaecnbdoljafaaGreatDoor
open Go.RowKit Go.Proofs.Tryz
abbrev J5:=List UInt8×Value×Value
def Ox(y:J5):List Value:=[.string (zi y.1),y.2.1,y.2.2]
def UG(w:Wo)(B:Nat)(v:Value)(ys:List J5):Prop:=w.ownsRow B 63 3 v ys.length (ys.flatMap Ox)
theorem UG.step{w:Wo}{B:Nat}{v:Value}{ys:List J5}{y:J5}(h:w.ownsRow B 63 3 v (ys.length+1) (ys.flatMap Ox++Ox y)):UG w B v (ys++[y]):=by
 unfold UG;rw[yg,List.flatMap_append];simpa using h
def CF(B:Nat)(w w':Wo):Prop:=Below B w w'/\∀ (g:Nat) (cs:Array Value) (t:TypeId),t≠63->w.heap[g]?=some (.cells cs t (0,0))->w'.heap[g]?=some (.cells cs t (0,0))
theorem CF.refl(B:Nat)(w:Wo):CF B w w:=⟨yG _ _,fun _ _ _ _ h=>h⟩
theorem CF.trans{B:Nat}{a b c:Wo}(h:CF B a b)(k:CF B b c):CF B a c:=⟨h.1.trans k.1,fun g cs t ht hg=>k.2 g cs t ht (h.2 g cs t ht hg)⟩
theorem CF.grown{B n:Nat}{w w':Wo}{v:Value}{xs:List Value}(h:w.ownsRow B 63 3 v n xs)(hg:w.grownBy w' v.ownBlock)(hB:B<=w.heap.size):CF B w w':=by
 refine⟨(yG B w).grown hg hB (fun k hk=>(h.lt k hk).1),fun g cs t ht hgc=>?_⟩;refine (hg.block g (yA.1 hgc).1 (fun e=>?_)).trans hgc;rcases h.2 with ⟨b,_⟩ |⟨i,d,f,b,_,a,_⟩
 ·subst b;cases e
 ·subst b;injection e with e;simp only at e;subst e;rw[hgc]at a;injection a with e;injection e with _ e;exact ht e
structure Xh(w:Wo)(B:Nat)(S1 S2:Nat->Prop):Prop where
 apart:∀ k,S1 k->¬ S2 k
 lt1:∀ k,S1 k->k<B
 lt2:∀ k,S2 k->k<B
 size:B<=w.heap.size
 pow:Qx B w
theorem Xh.next{w w':Wo}{B:Nat}{S1 S2:Nat->Prop}(h:Xh w B S1 S2)(hb:Below B w w'):Xh w' B S1 S2:=⟨h.apart,h.lt1,h.lt2,yO h.size hb.size,h.pow.next hb (yd _)⟩
def FO(v:Value):Prop:=v= .nilIface∨∃ t q,v= .iface t q
def PW(P:J5->Prop)(w:Wo)(S1 S2:Nat->Prop)(p:List UInt8)(oa ob:Option JV):Prop:=∀ ts v1 v2,UE w S1 (LR oa ts) v1->UE w S2 (LR ob ts) v2->P (LQ p ts,v1,v2)
def ZM(P:J5->Prop)(zs:List J5)(L:List (List UInt8)):Prop:=zs.map (·.1)=L/\∀ z∈zs,FO z.2.1/\FO z.2.2/\P z
theorem ZM.mono{P Q:J5->Prop}{zs:List J5}{L:List (List UInt8)}(h:ZM P zs L)(hq:∀ z,P z->Q z):ZM Q zs L:=⟨h.1,fun z hz=>⟨(h.2 z hz).1,(h.2 z hz).2.1,hq z (h.2 z hz).2.2⟩⟩
def HC(f:FuncId)(n:Nat)(a b:JV):Prop:=∀ (P:J5->Prop) (p:List UInt8) (ys:List J5) (lv:Value) (t1 t2:TypeId) (g1 g2:Addr) (w:Wo) (B:Nat) (S1 S2:Nat->Prop),p.length+2*(ct a).length<=4000000->p.length+2*(ct b).length<=4000000->ys.length+zo a+zo b<=1000000 ->
 UG w B lv ys->zl w S1 a (.iface t1 (.pointer (some g1)))->zl w S2 b (.iface t2 (.pointer (some g2)))->Xh w B S1 S2->PW P w S1 S2 p (some a) (some b) ->
 Calls prog f #[lv,.string (zi p),.pointer (some g1),.pointer (some g2)] w fun e w'=>∃ (r:Value) (zs:List J5),e= .returned r/\UG w' B r (ys++zs)/\ZM P zs ((Lx a b).flatMap (Ac n p a b))/\CF B w w'
theorem Ed{w:Wo}{S:Nat->Prop}{a:JV}{v:Value}(h:zl w S a v)(hn:kd a≠5):∀ X:Wo,(Instr.typeAssert v 61 102 true).run prog X= .ok (.tuple #[.pointer none,.bool false]) X:=by
 intro X
 cases a with
 | nul=>rw[zl]at h;subst h;kernel_rfl
 | tt=>rw[zl]at h;subst h;kernel_rfl
 | ff=>rw[zl]at h;subst h;kernel_rfl
 | num l=>rw[zl]at h;obtain⟨z,h,_⟩:=h;subst h;kernel_rfl
 | str l=>rw[zl]at h;subst h;kernel_rfl
 | arr l=>exact absurd rfl hn
 | obj m=>rw[zl]at h;obtain⟨f,b,d,g,h,_⟩:=h;subst h;kernel_rfl
theorem Ee(g:Addr)(X:Wo):(Instr.typeAssert (.iface 102 (.pointer (some g))) 61 102 true).run prog X= .ok (.tuple #[.pointer (some g),.bool true]) X:=by kernel_rfl
end Go.Proofs.YtpaecnbdoljafaaGreatDoor
namespace Go.Proofs.YtpaecnbdoljafaaGreatDoor
open Go.RowKit Go.Sort Go.Proofs.Tryz
end Go.Proofs.YtpaecnbdoljafaaGreatDoor
namespace Go.Proofs.YtpaecnbdoljafaaGreatDoor
open Go.RowKit Go.Proofs.Tryz
end Go.Proofs.YtpaecnbdoljafaaGreatDoor
