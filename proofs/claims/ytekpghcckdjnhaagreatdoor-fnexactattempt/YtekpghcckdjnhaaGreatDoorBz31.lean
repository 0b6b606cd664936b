import Derived.Test.YtekpghcckdjnhaaGreatDoorBz29
import Derived.Test.YtekpghcckdjnhaaGreatDoorBz25
set_option maxRecDepth 100000
set_option maxHeartbeats 8000000
namespace Go.Proofs.YtekpghcckdjnhaaGreatDoor
open Go.RowKit Go.Sort Go.Proofs.Tryz
theorem Mu(n:Nat)(w:Wo)(hn:n<=10000000):
  Calls prog 156 #[.int .i64 (n:Int)] w fun e w'=>e= .returned (JX 1 1 (hold n))/\Bw w w':=by
 have b:max (0:Int) ((n:Int) - 1)=((n - 1:Nat):Int):=by omega
 have a:Hid (Zi w.heap.size 1 1 (hold n) (w.alloc (.cells #[.int .i64 1,.int .i64 1,.int .i64 (2+((n - 1:Nat):Int))] 188))):=by
  have e:(2+((n - 1:Nat):Int))=((hold n:Nat):Int):=by unfold hold;omega
  rw[e];exact yG w _
 go_in;go_wp2;try simp only[Exit.inBlock,Exit.then]
 refine bodyPost_ret (XQ rfl rfl (uh a)) rfl ?_;exact⟨rfl,(yH _ _).alloc (ye _) _⟩
def J1(v:JV):Prop:=∀ (w:Wo) (S:Nat->Prop) (t:TypeId) (p:Value),zi w S v (.iface t p)->(∀ k,S k->k<w.heap.size)->Jd w.heap.size w->(ct v).length<=10000000->zt v<=10000000->zL v<=10000000 ->
 Calls prog 129 #[.iface t p] w (Rb (JX (zL v) (zt v) (ct v).length) w)
theorem zbV{w w':Wo}(h:Bw w w'):w.grownBy w' none:=⟨h.os,h.tape,h.output,h.size,fun k hk _=>h.block k hk⟩
theorem Fb(w:Wo)(p:Addr)(v:Value):w.grownBy (w.setCell p v) (some p.block):=by
 refine⟨(yH 0 w |>.setCell (p:=p) (yt _) v).os,(yH 0 w |>.setCell (p:=p) (yt _) v).tape,(yH 0 w |>.setCell (p:=p) (yt _) v).output,(yH 0 w |>.setCell (p:=p) (yt _) v).size,fun k hk hne=>Below.heap_setCell w p v k (fun e=>hne (by rw[e]))⟩
theorem Mv (sb d c n d1 c1 n1:Nat) (t:TypeId) (p:Value) (w:Wo) (h:Zi sb d c n w) (hd:d<=10000000) (hd1:d1<=10000000) (hc:c<=10000000) (hc1:c1<=10000000) (hn:n<=1000000000) (hn1:n1<=1000000000)
  (hs:Calls prog 129 #[.iface t p] w fun e w'=>e= .returned (JX d1 c1 n1)/\Bw w w'):
  Calls prog 157 #[.pointer (some ⟨sb,0,none⟩),.iface t p] w fun e w'=>e= .returned (.tuple #[])/\Zi sb (max d (d1+1)) (c+c1) (n+n1) w'/\w.grownBy w' (some sb):=by
 have B:=zb hs;have H:=zb h;clear hs h;go_in;go_wp2_with fail;refine (uh B).mono ?_;rintro e a ⟨rfl,x⟩;have r:=(uh H).below x;have D:=r.lt;have m:=r.alloc (ql d1 c1 n1);have s:Zi a.heap.size d1 c1 n1 (a.alloc (ql d1 c1 n1)):=yG a _;have y:=(zbV x).andThen (World.grownBy_alloc a (ql d1 c1 n1) none) (fun j e=>by cases e);clear B H r x;obtain⟨M,C⟩:∃ M,max d (d1+1)=M:=⟨_,rfl⟩;have J:max (d:Int) ((d1:Int)+1)=(M:Int):=by omega
 have G:=zb C;have I:M<=10000001:=by omega
 clear C;simp only[JX];go_wp2_with fail;generalize hW:a.alloc (ql d1 c1 n1)=W at *;clear hW;have i:W.drew.cell? ⟨sb,0,none⟩=some (.int .i64 (d:Int)):=m.c0;have k:W.drew.cell? ⟨a.heap.size,0,none⟩=some (.int .i64 (d1:Int)):=s.c0;have l:W.drew.frozen? ⟨sb,0,none⟩=false:=m.fz 0;have o:Hid (Zi sb M c n (W.setCell ⟨sb,0,none⟩ (.int .i64 (M:Int))).drew):=Zi.set0 (w:=W) m (M:Int) _ (by omega);have u:Hid (Zi a.heap.size d1 c1 n1 (W.setCell ⟨sb,0,none⟩ (.int .i64 (M:Int))).drew):=Zi.other (w:=W) s (p:=⟨sb,0,none⟩) (by show a.heap.size≠sb;omega) _;have z:Hid (w.grownBy (W.setCell ⟨sb,0,none⟩ (.int .i64 (M:Int))).drew (some sb)):=by
  have g:=(World.grownBy.but y (some sb)).andThen (Fb W ⟨sb,0,none⟩ (.int .i64 (M:Int))) (fun j e=>.inr e);exact⟨g.os,g.tape,g.output,g.size,g.block⟩
 clear m s y;go_region;clear i k l J;generalize (W.setCell ⟨sb,0,none⟩ (.int .i64 (M:Int))).drew=b at *;go_wp2_with fail;have i:b.drew.cell? ⟨sb,1,none⟩=some (.int .i64 (c:Int)):=(uh o).c1;have k:b.drew.cell? ⟨a.heap.size,1,none⟩=some (.int .i64 (c1:Int)):=(uh u).c1;have l:b.drew.frozen? ⟨sb,1,none⟩=false:=(uh o).fz 1;have q:Hid (Zi sb M (c+c1) n (b.setCell ⟨sb,1,none⟩ (.int .i64 ((c:Int)+(c1:Int)))).drew):=Zi.set1 (w:=b) (uh o) ((c:Int)+(c1:Int)) _ (by omega);have v:Hid (Zi a.heap.size d1 c1 n1 (b.setCell ⟨sb,1,none⟩ (.int .i64 ((c:Int)+(c1:Int)))).drew):=Zi.other (w:=b) (uh u) (p:=⟨sb,1,none⟩) (by show a.heap.size≠sb;omega) _;have A:Hid (w.grownBy (b.setCell ⟨sb,1,none⟩ (.int .i64 ((c:Int)+(c1:Int)))).drew (some sb)):=by
  have g:=(uh z).andThen (Fb b ⟨sb,1,none⟩ (.int .i64 ((c:Int)+(c1:Int)))) (fun j e=>.inr e);exact⟨g.os,g.tape,g.output,g.size,g.block⟩
 clear o u z;go_region;clear i k l;generalize (b.setCell ⟨sb,1,none⟩ (.int .i64 ((c:Int)+(c1:Int)))).drew=f at *;go_wp2_with fail;have i:f.drew.cell? ⟨sb,2,none⟩=some (.int .i64 (n:Int)):=(uh q).c2;have k:f.drew.cell? ⟨a.heap.size,2,none⟩=some (.int .i64 (n1:Int)):=(uh v).c2;have l:f.drew.frozen? ⟨sb,2,none⟩=false:=(uh q).fz 2;have F:Hid (Zi sb M (c+c1) (n+n1) (f.setCell ⟨sb,2,none⟩ (.int .i64 ((n:Int)+(n1:Int)))).drew):=Zi.set2 (w:=f) (uh q) ((n:Int)+(n1:Int)) _ (by omega);have K:Hid (Zi a.heap.size d1 c1 n1 (f.setCell ⟨sb,2,none⟩ (.int .i64 ((n:Int)+(n1:Int)))).drew):=Zi.other (w:=f) (uh v) (p:=⟨sb,2,none⟩) (by show a.heap.size≠sb;omega) _;have E:Hid (w.grownBy (f.setCell ⟨sb,2,none⟩ (.int .i64 ((n:Int)+(n1:Int)))).drew (some sb)):=by
  have g:=(uh A).andThen (Fb f ⟨sb,2,none⟩ (.int .i64 ((n:Int)+(n1:Int)))) (fun j e=>.inr e);exact⟨g.os,g.tape,g.output,g.size,g.block⟩
 clear q v A;go_region;clear i k l;generalize (f.setCell ⟨sb,2,none⟩ (.int .i64 ((n:Int)+(n1:Int)))).drew=L at *;go_wp2;go_end0;exact⟨rfl,by rw[uh G];exact uh F,uh E⟩
theorem zbW(a:List (List UInt8))(t:List UInt8):nl (a++[t])=nl a+t.length:=by simp[nl]
theorem Jd.more{B B':Nat}{w:Wo}(h:Jd B w)(hB:B<=B'):Jd B' w:=⟨yE h.1 hB,h.2⟩
theorem zbX{w w':Wo}{sb B:Nat}(h:w.grownBy w' (some sb))(hB:B<=sb)(hs:sb<w.heap.size):Below B w w':=
 ⟨h.os,h.tape,h.output,h.size,fun k hk=>h.block k (by omega) (by intro e;injection e with e;omega)⟩
theorem zbY(l:JL)(hall:∀ v∈l.toL,J1 v):J1 (.arr l):=by
 intro w S t p h Q hP X hcn hdp;rw[zi]at h;obtain⟨n,sv,b,h,z,R,A,K⟩:=h;injection h with h1 h2;subst h1;subst h2;obtain⟨a,g,u,rfl,q,s⟩:=VH A;have aa:=(JW l b K).1;have T:w.cell? ⟨n,0,none⟩=some (.slice a b.length u):=by rw[yF R];rfl
 have E:n<w.heap.size:=Q _ z;have x:(ct (.arr l)).length=hold b.length+nl (zr l):=by
  show (qg (zr l)).length=_
  have:=UC (zr l);have e:(zr l).length=b.length:=by rw[qR,yl,aa]
  rw[e]at this;simp[qg];omega
 have G:zt (.arr l)=cl l.toL+1:=by rw[zt,KK]
 have H:zL (.arr l)=dl l.toL+1:=by rw[zL,WC]
 have hxn:b.length<=10000000:=by unfold hold at x;omega
 have HR:Hid (JX (zL (.arr l)) (zt (.arr l)) (ct (.arr l)).length=JX (dl l.toL+1) (cl l.toL+1) (hold b.length+nl (zr l))):=by show _=_;rw[G,H,x]
 rw[x]at X;rw[G]at hcn;rw[H]at hdp;have o:Hid (∀ (k:Nat) (J:k<b.length),∃ t p D C M,b[k]= .iface t p/\D<=10000000/\C<=10000000/\M<=10000000/\dl (l.toL.take (k+1))=max (dl (l.toL.take k)) D/\cl (l.toL.take (k+1))=cl (l.toL.take k)+C/\nl ((zr l).take (k+1))=nl ((zr l).take k)+M /\
   ∀ wr:Wo,Bw w wr->Calls prog 129 #[.iface t p] wr (Rb (JX D C M) wr)):=by
  intro k J;have d:k<l.toL.length:=by omega
  have hr:=(JW l b K).2 k J d;obtain⟨t,p,W⟩:=Vb hr;rw[W]at hr;have d1:=PV l.toL k d;have c1:zt l.toL[k]<=cl l.toL:=by have:=VV (l.toL.map zt) k (by simpa using d);simpa [cl]using this
  have n1:(ct l.toL[k]).length<=nl (zr l):=by have:=VV ((zr l).map List.length) k (by rw[qR];simpa using d);simpa [nl,qR]using this
  refine⟨t,p,zL l.toL[k],zt l.toL[k],(ct l.toL[k]).length,W,by omega,by omega,by omega,?_,?_,?_,fun wr hb'=>?_⟩
  ·rw[yy d];exact Tz _ _
  ·rw[yy d];exact TA _ _
  ·rw[yy (show k<(zr l).length by rw[qR,yl];exact d),zbW];simp[qR]
  ·have hr':=zi.keep (w':=wr) (S':=S) (fun k J=>hb'.block k (Q k J)) (fun _ h=>h) _ _ hr;exact hall _ (yr d) wr S t p hr' (fun k J=>yE (Q k J) hb'.size) ((hP.next hb' (ye _)).more hb'.size) (by omega) (by omega) (by omega)
 have O:Hid (∀ k,dl (l.toL.take k)<=dl l.toL/\cl (l.toL.take k)<=cl l.toL/\nl ((zr l).take k)<=nl (zr l)):=fun k=>by
  refine⟨TB _ _,?_,?_⟩
  ·unfold cl;rw[List.map_take];exact Fz _ _
  ·unfold nl;rw[List.map_take];exact Fz _ _
 have HE:Hid (l.toL.take b.length=l.toL/\(zr l).take b.length=zr l):=⟨yq (by omega),yq (by rw[qR,yl];omega)⟩;have HC:Hid (∀ j (hj:j<b.length) (wr:Wo),Bw w wr->wr.cell? ⟨g,j,none⟩=some b[j]):=fun j hj wr hb'=>by
  have I:g<w.heap.size:=Q _ ((q (by omega)).2);exact (hb'.cell (p:=⟨g,j,none⟩) I).trans (s j hj)
 have F:0<b.length->a=some ⟨g,0,none⟩:=fun h=>(q h).1;have HH:Hid (Calls prog 156 #[.int .i64 (b.length:Int)] (w.alloc (ql 0 0 0)) fun e w'=>e= .returned (.agg #[.int .i64 1,.int .i64 1,.int .i64 ((hold b.length:Nat):Int)])/\Below (w.alloc (ql 0 0 0)).heap.size (w.alloc (ql 0 0 0)) w'):=Mu b.length (w.alloc (ql 0 0 0)) hxn;have t1:∀ w:Wo,(Instr.typeAssert (.iface 195 (.pointer (some ⟨n,0,none⟩))) 66 195 true).run prog w= .ok (.tuple #[.pointer (some ⟨n,0,none⟩),.bool true]) w:=fun _=>by kernel_rfl
 have U:(w.alloc (.cells #[.int .i64 0,.int .i64 0,.int .i64 0] 188)).cell? ⟨n,0,none⟩=some (.slice a b.length u):=((Wj w).cell (p:=⟨n,0,none⟩) E).trans T;have hlt0:w.heap.size<(w.alloc (ql 0 0 0)).heap.size:=by simp
 generalize hvs:l.toL=f at *;generalize zr l=cs at *;clear A K s q Q hP R x G H hall aa z T hvs;go_in;go_wp2_with fail;refine (uh HH).mono ?_;rintro e m ⟨rfl,P⟩;have R1:=(NC w).below P;have c1:m.cell? ⟨n,0,none⟩=some (.slice a b.length u):=(P.cell (p:=⟨n,0,none⟩) (by show n<_;omega)).trans U;have hw1:=P.size;have B1:=zh (Wj w) P;have c2:(m.alloc (.cells #[.int .i64 1,.int .i64 1,.int .i64 ((hold b.length:Nat):Int)] 188)).cell? ⟨n,0,none⟩=some (.slice a b.length u):=((yH m.heap.size m).alloc (ye _) (ql 1 1 (hold b.length)) |>.cell (p:=⟨n,0,none⟩) (by show n<_;omega)).trans c1;have S2:Hid (Zi m.heap.size 1 1 (hold b.length) (m.alloc (ql 1 1 (hold b.length)))):=yG m _;have R2:=zb (R1.alloc (ql 1 1 (hold b.length)));have B2:=zb (B1.alloc B1.size (ql 1 1 (hold b.length)));have Z:m.heap.size<(m.alloc (ql 1 1 (hold b.length))).heap.size:=by simp
 clear HH R1 P U c1 B1;have E0:Hid (dl (f.take 0)+1=1/\cl (f.take 0)+1=1/\hold b.length+nl (cs.take 0)=hold b.length):=⟨rfl,rfl,rfl⟩;go_wp2_with fail;go_loopw [26] (fun i wr=>∃ k:Nat,k<=b.length/\i= .int .i64 k/\Zi m.heap.size (dl (f.take k)+1) (cl (f.take k)+1) (hold b.length+nl (cs.take k)) wr/\(m.alloc (ql 1 1 (hold b.length))).grownBy wr (some m.heap.size)) (fun i _=>b.length - (intOf i).toNat)
 case atStart=>exact⟨0,yt _,rfl,uh S2,World.grownBy.refl _ _⟩
 case round=>
  obtain⟨k,J,rfl,L,I⟩:=hrel;have N:=(uh B2).trans (zbX I (B:=w.heap.size) (by omega) Z);clear S2;by_cases Y:k<b.length
  ·have hltI:(k:Int)<(b.length:Int):=by omega
   obtain rfl:=F (by omega);have V:=uh HC k Y wr N;obtain⟨t,p,D,C,M,W,hd1,hc1,hn1,e1,e2,e3,r⟩:=uh o k Y;rw[W]at V;obtain⟨x1,x2,x3⟩:=uh O k;have HI:=zb (Mv m.heap.size _ _ _ D C M t p wr L (by omega) hd1 (by omega) hc1 (by unfold hold;omega) (by omega) (r wr N));have HE1:=zb e1;have HE2:=zb e2;have HE3:=zb e3;have HG:=zb I;have HBW:=zb N;clear L W e1 e2 e3 r I N o HC x1 x2 x3;go_wp2_with fail;refine (uh HI).mono ?_;rintro e w2 ⟨rfl,z2,g2⟩;have G2:=zb ((uh HG).andThen g2 (fun j e=>.inr e));have Z2:Hid (Zi m.heap.size (dl (f.take (k+1))+1) (cl (f.take (k+1))+1) (hold b.length+nl (cs.take (k+1))) w2):=by
    rw[uh HE1,uh HE2,uh HE3];rw[show max (dl (f.take k)) D+1=max (dl (f.take k)+1) (D+1) by omega,show cl (f.take k)+C+1=cl (f.take k)+1+C by omega,show hold b.length+(nl (cs.take k)+M)=hold b.length+nl (cs.take k)+M by omega];exact z2
   clear HI V z2 g2;go_wp2;go_roundw
   case rel=>exact⟨k+1,by omega,by go_num,uh Z2,uh G2⟩
   case measure=>simp[intOf];omega
  ·have d:k=b.length:=by omega
   subst d;rw[(uh HE).1,(uh HE).2]at L;have z0:=L.c0;have z1:=L.c1;have z2:=L.c2;have y:Zi w.heap.size 0 0 0 wr:=(I.block w.heap.size (by have:=(uh R2).lt;omega) (by intro e;injection e with e;omega)).trans (uh R2);have r0:=y.c0;have r1:=y.c1;have r2:=y.c2;have q0:=y.fz 0;have q1:=y.fz 1;have q2:=y.fz 2;have RX:=zb (y.put (((dl f+1:Nat)):Int) ((cl f+1:Nat):Int) ((hold b.length+nl cs:Nat):Int) _ _ _ rfl rfl rfl);have BX:=zb (NB N (ye _) (.int .i64 ((dl f+1:Nat):Int)) (.int .i64 ((cl f+1:Nat):Int)) (.int .i64 ((hold b.length+nl cs:Nat):Int)));generalize dl f+1=DD at *;generalize cl f+1=CC at *;generalize hold b.length+nl cs=NN at *;clear L I N y o HC O;go_wp2;try simp only[Exit.inBlock,Exit.then]
   refine bodyPost_ret (XQ rfl rfl (uh RX)) rfl ?_;exact⟨by rw[uh HR],uh BX⟩
def Qg(left:Lit->Bool):List (List UInt8×JV)->Nat
 | []=>0
 | q :: r=>if left (.string q.1)then Qg left r else max (zL q.2) (Qg left r)
def qb(f:List UInt8×JV->Nat)(left:Lit->Bool):List (List UInt8×JV)->Nat
 | []=>0
 | q :: r=>(if left (.string q.1)then 0 else f q)+qb f left r
def Q0(left:Lit->Bool)(k:List UInt8):Lit->Bool:=fun z=>left z && !z.sameKey (.string k)
theorem Kt{left:Lit->Bool}{k a:List UInt8}(h:a≠k):Q0 left k (.string a)=left (.string a):=by
 unfold Q0;rw[Maps.sameKey_ne (by intro e;injection e with e;exact h e)];simp
theorem Mw(left:Lit->Bool)(k:List UInt8):Q0 left k (.string k)=false:=by
 unfold Q0;rw[WideAt.sameKey_self (show WideAt.IsKeyLit (.string k)from trivial)];simp
theorem Mx{left:Lit->Bool}{k:List UInt8}:∀ qs:List (List UInt8×JV),(∀ q∈qs,q.1≠k)->Qg (Q0 left k) qs=Qg left qs
 | [],_=>rfl
 | q :: r,h=>by
  rw[Qg,Qg,Kt (h q yp),Mx r (fun q hq=>h q (yv _ hq))]
theorem My{f:List UInt8×JV->Nat}{left:Lit->Bool}{k:List UInt8}:∀ qs:List (List UInt8×JV),(∀ q∈qs,q.1≠k)->qb f (Q0 left k) qs=qb f left qs
 | [],_=>rfl
 | q :: r,h=>by
  rw[qb,qb,Kt (h q yp),My r (fun q hq=>h q (yv _ hq))]
theorem Mz{left:Lit->Bool}{k:List UInt8}{v:JV}(hl:left (.string k)=true):∀ qs:List (List UInt8×JV),(qs.map (·.1)).Nodup->(k,v)∈qs->Qg (Q0 left k) qs=max (Qg left qs) (zL v)
 | [],_,h=>by simp at h
 | q :: r,hn,h=>by
  rw[yi,List.nodup_cons]at hn;rw[Qg,Qg];rcases List.mem_cons.1 h with e | h
  ·subst e;rw[Mw,hl,Mx r (fun q hq e=>hn.1 (yO.2 ⟨q,hq,e⟩))];simp only[if_true,Bool.false_eq_true,if_false];omega
  ·have hne:q.1≠k:=fun e=>hn.1 (yO.2 ⟨_,h,e.symm⟩);rw[Kt hne,Mz hl r hn.2 h];split
   ·rfl
   ·omega
theorem Pj{f:List UInt8×JV->Nat}{left:Lit->Bool}{k:List UInt8}{v:JV}(hl:left (.string k)=true):∀ qs:List (List UInt8×JV),(qs.map (·.1)).Nodup->(k,v)∈qs->qb f (Q0 left k) qs=qb f left qs+f (k,v)
 | [],_,h=>by simp at h
 | q :: r,hn,h=>by
  rw[yi,List.nodup_cons]at hn;rw[qb,qb];rcases List.mem_cons.1 h with e | h
  ·subst e;rw[Mw,hl,My r (fun q hq e=>hn.1 (yO.2 ⟨q,hq,e⟩))];simp only[if_true,Bool.false_eq_true,if_false];omega
  ·have hne:q.1≠k:=fun e=>hn.1 (yO.2 ⟨_,h,e.symm⟩);rw[Kt hne,Pj hl r hn.2 h];omega
theorem Pk{f:List UInt8×JV->Nat}{left:Lit->Bool}:∀ qs:List (List UInt8×JV),(∀ q∈qs,left (.string q.1)=true)->Qg left qs=0/\qb f left qs=0
 | [],_=>⟨rfl,rfl⟩
 | q :: r,h=>by
  obtain⟨a,b⟩:=Pk (f:=f) r (fun q hq=>h q (yv _ hq));rw[Qg,qb,h q yp,a,b];exact⟨rfl,rfl⟩
theorem MA{left:Lit->Bool}(h:∀ z,left z=false):∀ qs:List (List UInt8×JV),Qg left qs=dl (qs.map (·.2))
 | []=>rfl
 | q :: r=>by rw[Qg,h,yi,dl,MA h r];rfl
theorem Pm{f:List UInt8×JV->Nat}{left:Lit->Bool}(h:∀ z,left z=false):∀ qs:List (List UInt8×JV),qb f left qs=(qs.map f).sum
 | []=>rfl
 | q :: r=>by rw[qb,h,yi,yL,Pm h r];rfl
theorem Pn{f:List UInt8×JV->Nat}{left:Lit->Bool}:∀ qs:List (List UInt8×JV),qb f left qs<=(qs.map f).sum
 | []=>ye _
 | q :: r=>by
  rw[qb,yi,yL];have:=Pn (f:=f) (left:=left) r;split<;>omega
theorem MB{left:Lit->Bool}:∀ qs:List (List UInt8×JV),Qg left qs<=dl (qs.map (·.2))
 | []=>ye _
 | q :: r=>by
  rw[Qg,yi,dl];have:=MB (left:=left) r;split<;>omega
theorem Ku{vs:List JV}{v:JV}(h:v∈vs):zL v<=dl vs:=by
 obtain⟨j,a,rfl⟩:=List.getElem_of_mem h;exact PV vs j a
theorem Zi.grown{g d c b:Nat}{w w':Wo}{row:Option Nat}(h:Zi g d c b w)(hg:w.grownBy w' row)(hr:some g≠row):Zi g d c b w':=(hg.block g h.lt hr).trans h
theorem Uu{B r:Nat}{w w':Wo}(h:w.grownBy w' (some r))(hB:B<=r)(hs:B<=w.heap.size):Below B w w':=
 ⟨h.os,h.tape,h.output,h.size,fun k hk=>h.block k (by omega) (by intro e;injection e with e;omega)⟩
theorem zbZ(m:JM)(hall:∀ q∈m.toL,J1 q.2)(hval:∀ q∈m.toL,Lib.validD q.1=true)(hnd:(Qd m).Nodup):J1 (.obj m):=by
 intro w S t p h hS hP hlen hcn hdp;rw[zi]at h;obtain⟨B,C,nn,d,h,hSob,hSmb,hob,L,_,hrm⟩:=h;injection h with h1 h2;subst h1;subst h2;obtain⟨g,hrep⟩:=Yu m d hrm;have K:(d.map (·.1)).Nodup:=by rw[g];exact hnd
 have M:=Uf L K;have Z:(m.toL.map (·.1)).Nodup:=by rw[← QE];exact hnd
 have hml:m.toL.length=d.length:=by
  have a1:=congrArg List.length g;rw[QE]at a1;simpa using a1.symm
 have hsz:Maps.size (Zb d)=d.length:=by rw[Ug M,yl]
 have V:=Yh m;rw[hml]at V;have hcv:zt (.obj m)=(m.toL.map fun q=>zt q.2).sum+1:=by rw[zt,WD]
 have hdv:zL (.obj m)=dl (m.toL.map (·.2))+1:=by rw[zL,VW]
 have HR:Hid (JX (zL (.obj m)) (zt (.obj m)) (ct (.obj m)).length=JX (dl (m.toL.map (·.2))+1) ((m.toL.map fun q=>zt q.2).sum+1) (hold d.length+(m.toL.map Z0).sum)):=by show _=_;rw[hcv,hdv,V]
 rw[V]at hlen;rw[hcv]at hcn;rw[hdv]at hdp;have hxn:d.length<=10000000:=by unfold hold at hlen;omega
 have hobl:B<w.heap.size:=hS _ hSob;have hmbl:C<w.heap.size:=hS _ hSmb;have hc0:w.cell? ⟨B,0,none⟩=some (.map (some C)):=by rw[yF hob];rfl
 have G:Hid (∀ (a:Lit->Bool) (x:List UInt8) (c:Value) (n:Lit) (y1:DataW Value) (y2:List MemPlace),keyOf prog 9 (.string (ze x))=some n->a n=true->(a n=true->Maps.has (Zb d) n=true)->RH c=some (y1,y2)->(∀ zd,(Zb d).atKey n zd=y1) ->
   ∃ t p dk ck nk,n= .string x/\c= .iface t p/\Lib.validD x=true/\x.length+2<=(quoted x).length/\dk<=10000000/\ck<=10000000/\(quoted x).length+1+nk<=10000000/\Qg (Q0 a x) m.toL=max (Qg a m.toL) dk/\qb (fun q=>zt q.2) (Q0 a x) m.toL=qb (fun q=>zt q.2) a m.toL+ck/\qb Z0 (Q0 a x) m.toL=qb Z0 a m.toL+((quoted x).length+1+nk) /\
    ∀ wr:Wo,Bw w wr->Calls prog 129 #[.iface t p] wr (Rb (JX dk ck nk) wr)):=by
  intro a x c n y1 y2 s hl hh hR U;obtain⟨x',hx',hkl,_⟩:=Maps.keyOf_str underlying9 s;have ex:x'=x:=by
   have:Value.string (ze x)=encStr x':=hx';simp only[encStr,Value.string.injEq]at this;have h2:=congrArg (fun b:Bs=>b.data.toList) this;simpa [ze]using h2.symm
  subst ex;subst hkl;have Y:=hh hl;rw[Wi,g]at Y;simp only[List.contains_eq_mem,decide_eq_true_eq]at Y;rw[QE]at Y;obtain⟨q,N,hqx⟩:=yO.1 Y;obtain⟨k,v⟩:=q;simp only at hqx;subst hqx;obtain⟨x0,hx0,hr⟩:=hrep k v N;have hlast:=Wh d K hx0;have P:=(U (.held .nilIface)).symm.trans (UL k (.held .nilIface) d);rw[hlast]at P;injection hR with hR;injection hR with hR _;subst hR;injection P with P;subst P;obtain⟨t,p,rfl⟩:=Vb hr;have hd1:=Ku (yO.2 ⟨(k,v),N,rfl⟩:v∈m.toL.map (·.2));have hc1:zt v<=_:=GH (fun q=>zt q.2) N;have hn1:=GH Z0 N;simp only[Z0]at hn1;refine⟨t,p,zL v,zt v,(ct v).length,rfl,rfl,hval _ N,KJ k,by omega,by omega,by omega,Mz hl m.toL Z N,Pj hl m.toL Z N,Pj hl m.toL Z N,fun wr hb'=>?_⟩;have hr':=zi.keep (w':=wr) (S':=S) (fun k hk=>hb'.block k (hS k hk)) (fun _ h=>h) _ _ hr;exact (show J1 v from hall _ N) wr S t p hr' (fun k hk=>yE (hS k hk) hb'.size) ((hP.next hb' (ye _)).more hb'.size) (by omega) (by omega) (by omega)
 have HB1:Hid (∀ a,Qg a m.toL<=dl (m.toL.map (·.2))/\qb (fun q=>zt q.2) a m.toL<=(m.toL.map fun q=>zt q.2).sum/\qb Z0 a m.toL<=(m.toL.map Z0).sum):=fun a=>⟨MB _,Pn _,Pn _⟩;have HZ:Hid (Qg (Maps.has (Zb d)) m.toL=0/\qb (fun q=>zt q.2) (Maps.has (Zb d)) m.toL=0/\qb Z0 (Maps.has (Zb d)) m.toL=0):=by
  have hh:∀ q∈m.toL,Maps.has (Zb d) (.string q.1)=true:=fun q N=>by
   rw[Wi,g,QE];simp only[List.contains_eq_mem,decide_eq_true_eq];exact yO.2 ⟨q,N,rfl⟩
  obtain⟨a1,a2⟩:=Pk (f:=fun q=>zt q.2) m.toL hh;obtain⟨_,a3⟩:=Pk (f:=Z0) m.toL hh;exact⟨a1,a2,a3⟩
 have HE:Hid (∀ a:Lit->Bool,(∀ z,a z=false)->Qg a m.toL=dl (m.toL.map (·.2))/\qb (fun q=>zt q.2) a m.toL=(m.toL.map fun q=>zt q.2).sum/\qb Z0 a m.toL=(m.toL.map Z0).sum):=fun a h=>⟨MA h _,Pm h _,Pm h _⟩;have HH:Hid (Calls prog 156 #[.int .i64 (d.length:Int)] (w.alloc (ql 0 0 0)) fun e w'=>e= .returned (.agg #[.int .i64 1,.int .i64 1,.int .i64 ((hold d.length:Nat):Int)])/\Below (w.alloc (ql 0 0 0)).heap.size (w.alloc (ql 0 0 0)) w'):=Mu d.length (w.alloc (ql 0 0 0)) hxn;have t1:∀ w:Wo,(Instr.typeAssert (.iface 225 (.pointer (some ⟨B,0,none⟩))) 66 195 true).run prog w= .ok (.tuple #[.pointer none,.bool false]) w:=fun _=>by kernel_rfl
 have t2:∀ w:Wo,(Instr.typeAssert (.iface 225 (.pointer (some ⟨B,0,none⟩))) 66 225 true).run prog w= .ok (.tuple #[.pointer (some ⟨B,0,none⟩),.bool true]) w:=fun _=>by kernel_rfl
 have hca:(w.alloc (.cells #[.int .i64 0,.int .i64 0,.int .i64 0] 188)).cell? ⟨B,0,none⟩=some (.map (some C)):=((Wj w).cell (p:=⟨B,0,none⟩) hobl).trans hc0;have hlt0:w.heap.size<(w.alloc (ql 0 0 0)).heap.size:=by simp
 have o:Hid (∀ X:Wo,Bw w X->X.ownsMap prog 9 RH C nn (Zb d)):=fun X hX=>VZ L (hX.block C hmbl);have hln:∀ ty,(Builtin.len_ #[226] ty #[.map (some C)]).run prog (w.alloc (.cells #[.int .i64 0,.int .i64 0,.int .i64 0] 188))= .ok (.int .i64 (d.length:Int)) (w.alloc (.cells #[.int .i64 0,.int .i64 0,.int .i64 0] 188)):=fun ty=>by
  have:=(uh o (w.alloc (ql 0 0 0)) (Wj w)).len underlying226 ty;rw[hsz]at this;exact this
 generalize dl (m.toL.map (·.2))=DL at *;generalize (m.toL.map fun q=>zt q.2).sum=CL at *;generalize (m.toL.map Z0).sum=NL at *;clear hrm hrep g K M Z hS hP hob V hcv hdv hall hval hnd hml hSob hSmb hc0 L;go_in;go_wp2_with fail;refine (uh HH).mono ?_;rintro e i ⟨rfl,b1⟩;have R1:=(NC w).below b1;have c1:i.cell? ⟨B,0,none⟩=some (.map (some C)):=(b1.cell (p:=⟨B,0,none⟩) (by show B<_;omega)).trans hca;have hw1:=b1.size;have B1:=zh (Wj w) b1;have c2:(i.alloc (.cells #[.int .i64 1,.int .i64 1,.int .i64 ((hold d.length:Nat):Int)] 188)).cell? ⟨B,0,none⟩=some (.map (some C)):=((yH i.heap.size i).alloc (ye _) (ql 1 1 (hold d.length)) |>.cell (p:=⟨B,0,none⟩) (by show B<_;omega)).trans c1;have S2:Hid (Zi i.heap.size 1 1 (hold d.length) (i.alloc (ql 1 1 (hold d.length)))):=yG i _;have R2:=zb (R1.alloc (ql 1 1 (hold d.length)));have B2:=zb (B1.alloc B1.size (ql 1 1 (hold d.length)));have hlt2:(i.alloc (.cells #[.int .i64 1,.int .i64 1,.int .i64 ((hold d.length:Nat):Int)] 188)).heap.size=i.heap.size+1:=by simp
 have OW:=uh o (i.alloc (.cells #[.int .i64 1,.int .i64 1,.int .i64 ((hold d.length:Nat):Int)] 188)) (uh B2);have HOW:=zb OW;clear HH R1 b1 hca c1 B1 hln t1 t2 OW;go_wp2_with (first |(at_range;refine wpList_range_own _ rfl _ 226 rfl 9 66 (Maps.string_keyed underlying9) underlying226 RH C nn (Zb d) rfl (uh HOW) ?_;intro w0 O l hs0) | go_in);rw[hlt2]at O hs0;have R0:=zb ((uh R2).grown l (by simp));have S0:=zb ((uh S2).grown l (by simp));have B0:=zb ((uh B2).trans (⟨l.os,l.tape,l.output,l.size,fun k hk=>l.block k (yE hk (uh B2).size) (by simp)⟩:Below w.heap.size _ w0));have H:=zb O;clear O l R2 S2 B2 HOW c2;simp only[hlt2];obtain⟨r,hr⟩:∃ r,i.heap.size+1=r:=⟨_,rfl⟩;rw[hr]at H;simp only[hr];go_frame;go_loopw [9] (fun _ wr=>∃ a cnt,wr.ranges prog 9 RH C r nn (Zb d) a cnt/\(∀ n,a n=true->Maps.has (Zb d) n=true)/\Zi i.heap.size (Qg a m.toL+1) (qb (fun q=>zt q.2) a m.toL+1) (hold d.length+qb Z0 a m.toL) wr/\Zi w.heap.size 0 0 0 wr/\Bw w wr) (fun _ wr=>wr.rangeLeft C r)
 case atStart=>
  refine⟨_,_,uh H,fun _ h=>h,?_,uh R0,uh B0⟩;rw[(uh HZ).1,(uh HZ).2.1,(uh HZ).2.2];exact uh S0
 case round=>
  obtain⟨a,cnt,hrg,hsub,hz,hr0,bw⟩:=hrel;have HRG:=zb hrg;have I:=zb hsub;have T:=zb hz;have R:=zb hr0;have D:=zb bw;clear hrg hsub hz hr0 bw H R0 S0 B0;go_wp2_with (first |(at_next;(refine wpList_next_ranges (α:=List UInt8) (β:=Value) _ rfl _ rfl 9 (Maps.string_keyed underlying9) RH (fun x=>.string (ze x)) (fun v=>v) (fun key n hk=>by obtain⟨x,hx,_⟩:=Maps.keyOf_str underlying9 hk;exact⟨x,hx⟩) (fun v y _=>⟨v,rfl⟩) C r nn (Zb d) a cnt rfl (uh HRG) ?_ ?_)) | go_in)
  ·intro _ hl0;obtain⟨P,e2,e3⟩:=uh HE a hl0;have hz:=uh T;rw[P,e2,e3]at hz;have z0:=hz.c0;have z1:=hz.c1;have z2:=hz.c2;have R3:=uh R;have r0:=R3.c0;have r1:=R3.c1;have r2:=R3.c2;have q0:=R3.fz 0;have q1:=R3.fz 1;have q2:=R3.fz 2;have RX:=zb (R3.put (((DL+1:Nat)):Int) ((CL+1:Nat):Int) ((hold d.length+NL:Nat):Int) _ _ _ rfl rfl rfl);have BX:=zb (NB (uh D) (ye _) (.int .i64 ((DL+1:Nat):Int)) (.int .i64 ((CL+1:Nat):Int)) (.int .i64 ((hold d.length+NL:Nat):Int)));generalize DL+1=DD at *;generalize CL+1=CC at *;generalize hold d.length+NL=NN at *;clear hz R3 G HB1 HZ HE o HRG I T R D P e2 e3 hl0;go_wp2;try simp only[Exit.inBlock,Exit.then]
   refine bodyPost_ret (XQ rfl rfl (uh RX)) rfl ?_;exact⟨by rw[uh HR],uh BX⟩
  ·intro x c n y1 y2 w2 cnt2 s hlk hR U u hlt W hs2 hen;obtain⟨t,p,dk,ck,nk,rfl,rfl,hxv,hxq,hd1,hc1,hn1,P,e2,e3,J⟩:=uh G a x c n y1 y2 s hlk (uh I n) hR U;obtain⟨x1,x2,x3⟩:=uh HB1 a;have hrlt:=u.lt;have hrne:=u.ne;have bw2:Bw w w2:=(uh D).trans (Uu W (by omega) (uh D).size);have S2:=(uh T).grown W (by intro e;injection e with e;omega);have R2:=(uh R).grown W (by intro e;injection e with e;omega);have aa:=zb u;have HS2:=zb S2;have HR2:=zb R2;have E:=zb bw2;have HE1:=zb P;have HE2:=zb e2;have HE3:=zb e3;have F:=zb J;have HCT:Hid (∀ Q,Calls prog 100 #[.iface 229 (.string (ze x))] Q (Rb (.string (ze (quoted x))) Q)):=fun Q=>by
    have h:=Al (ze x) Q (by rw[Zw];omega);have e:quoted x=34 ::(rs (ze x)++[34]):=by rw[OL (ze x) (by rw[Zf];exact hxv),Zf];rfl
    rw[e];exact h
   have hqz:(ze (quoted x)).size=(quoted x).length:=Zw _;have y1':w2.drew.cell? ⟨i.heap.size,2,none⟩=some (.int .i64 ((hold d.length+qb Z0 a m.toL:Nat):Int)):=S2.c2;have hNN:hold d.length+qb Z0 a m.toL<=10000000:=by omega
   generalize hNv:hold d.length+qb Z0 a m.toL=NV at *;have HNV:=zb hNv;have hqn:(quoted x).length<=10000000:=by omega
   generalize ze (quoted x)=qx at *;clear s hR U u W P e2 e3 J hlk G HB1 HZ HE o T R D hNv S2 R2 bw2 hxv;go_wp2_with fail;go_region_law (
           go_simp;refine (uh HCT _).mono ?_;rintro e Q ⟨rfl,b3⟩;have S3:=Zi.below (w:=w2.drew) (uh HS2) b3;have s3:=S3.c2;have f3:=S3.fz 2;have HS3:=zb S3;have A:=zb b3;clear S3 b3)
   all_goals
    clear HCT s3 f3 y1';have hw:Value.int .i64 (IntKind.i64.wrap ((NV:Int)+IntKind.i64.wrap (((quoted x).length:Int)+1)))=Value.int .i64 ((NV+((quoted x).length+1):Nat):Int):=by
     rw[IntWalk.i64_in (((quoted x).length:Int)+1) (by omega),IntWalk.i64_in _ (by omega)];congr 1
    have S4:=Zi.set2 (uh HS3) ((NV+((quoted x).length+1):Nat):Int) (NV+((quoted x).length+1)) rfl;have g3:w2.grownBy Q none:=⟨(uh A).os,(uh A).tape,(uh A).output,(uh A).size,fun k hk _=>(uh A).block k hk⟩;have g4:w2.grownBy (Q.setCell ⟨i.heap.size,2,none⟩ (.int .i64 ((NV+((quoted x).length+1):Nat):Int))) (some i.heap.size):=(World.grownBy.but g3 (some i.heap.size)).andThen (Fb _ _ _) (fun j e=>.inr e);have ab:=zb ((uh aa).kept g4 (by intro e;injection e with e;omega) (by intro e;injection e with e;omega));have HR4:=zb ((uh HR2).grown g4 (by intro e;injection e with e;omega));have b4:Bw w (Q.setCell ⟨i.heap.size,2,none⟩ (.int .i64 ((NV+((quoted x).length+1):Nat):Int))):=(uh E).trans (Uu g4 (by omega) (uh E).size);have HI:=zb (Mv i.heap.size _ _ _ dk ck nk t p _ S4 (by omega) hd1 (by omega) hc1 (by omega) (by omega) (uh F _ b4));have HB4:=zb b4;have HS4:=zb S4;rw[hw];clear hw S4 g3 g4 b4 aa HR2 E HS3 A F;generalize Q.setCell ⟨i.heap.size,2,none⟩ (.int .i64 ((NV+((quoted x).length+1):Nat):Int))=W4 at *;go_wp2_with fail;refine (uh HI).mono ?_;rintro e w5 ⟨rfl,z5,g5⟩;have ad:=zb ((uh ab).kept g5 (by intro e;injection e with e;omega) (by intro e;injection e with e;omega));have HR5:=zb ((uh HR4).grown g5 (by intro e;injection e with e;omega));have HB5:=zb ((uh HB4).trans (Uu g5 (by omega) (uh HB4).size));have Z5:Hid (Zi i.heap.size (Qg (Q0 a x) m.toL+1) (qb (fun q=>zt q.2) (Q0 a x) m.toL+1) (hold d.length+qb Z0 (Q0 a x) m.toL) w5):=by
     rw[uh HE1,uh HE2,uh HE3];rw[show max (Qg a m.toL) dk+1=max (Qg a m.toL+1) (dk+1) by omega,show qb (fun q=>zt q.2) a m.toL+ck+1=qb (fun q=>zt q.2) a m.toL+1+ck by omega,show hold d.length+(qb Z0 a m.toL+((quoted x).length+1+nk))=NV+((quoted x).length+1)+nk by rw[← uh HNV];omega];exact z5
    clear HI z5 g5 ab HR4 HB4 HS4;go_wp2;go_roundw
   all_goals first
    | exact⟨Q0 a x,cnt2,uh ad,fun n h=>uh I n (by unfold Q0 at h;rw[Bool.and_eq_true]at h;exact h.1),uh Z5,uh HR5,uh HB5⟩
    |(rw[(uh ad).left_eq,(uh HRG).left_eq];omega)
theorem Kv (v:JV) (hok:zF v) (htw:zy v=false) (hd:zL v=1) (hc:zt v=1)
  (h1:∀ (w w1:Wo) (S:Nat->Prop) (t:TypeId) (p:Value),zi w S v (.iface t p)->(Instr.typeAssert (.iface t p) 66 195 true).run prog w1= .ok (.tuple #[.pointer none,.bool false]) w1)
  (h2:∀ (w w1:Wo) (S:Nat->Prop) (t:TypeId) (p:Value),zi w S v (.iface t p)->(Instr.typeAssert (.iface t p) 66 225 true).run prog w1= .ok (.tuple #[.pointer none,.bool false]) w1):J1 v:=by
 intro w S t p h b d a _ _;rw[hd,hc];refine za7 t p (ct v) w (fun w1=>h1 w w1 S t p h) (fun w1=>h2 w w1 S t p h) (fun w1 hb=>?_);exact Nt v hok htw t p w1 S (zi.keep (fun k hk=>hb.block k (b k hk)) (fun _ h=>h) _ _ h) (fun k hk=>yE (b k hk) hb.size) ((d.next hb (ye _)).more hb.size) a
theorem zb0:J1 .nul:=Kv .nul trivial rfl rfl rfl
 (fun w w1 S t p h=>by rw[zi]at h;injection h with h1 h2;subst h1;subst h2;kernel_rfl) (fun w w1 S t p h=>by rw[zi]at h;injection h with h1 h2;subst h1;subst h2;kernel_rfl)
theorem zb1:J1 .tt:=Kv .tt trivial rfl rfl rfl
 (fun w w1 S t p h=>by rw[zi]at h;injection h with h1 h2;subst h1;subst h2;kernel_rfl) (fun w w1 S t p h=>by rw[zi]at h;injection h with h1 h2;subst h1;subst h2;kernel_rfl)
theorem zb2:J1 .ff:=Kv .ff trivial rfl rfl rfl
 (fun w w1 S t p h=>by rw[zi]at h;injection h with h1 h2;subst h1;subst h2;kernel_rfl) (fun w w1 S t p h=>by rw[zi]at h;injection h with h1 h2;subst h1;subst h2;kernel_rfl)
theorem zb3(l:List UInt8)(hok:zF (.num l)):J1 (.num l):=Kv (.num l) hok rfl rfl rfl
 (fun w w1 S t p h=>by rw[zi]at h;obtain⟨z,h,_⟩:=h;injection h with h1 h2;subst h1;subst h2;kernel_rfl) (fun w w1 S t p h=>by rw[zi]at h;obtain⟨z,h,_⟩:=h;injection h with h1 h2;subst h1;subst h2;kernel_rfl)
theorem zb4(l:List UInt8)(hok:zF (.str l)):J1 (.str l):=Kv (.str l) hok rfl rfl rfl
 (fun w w1 S t p h=>by rw[zi]at h;injection h with h1 h2;subst h1;subst h2;kernel_rfl) (fun w w1 S t p h=>by rw[zi]at h;injection h with h1 h2;subst h1;subst h2;kernel_rfl)
mutual
theorem Fc:∀ v:JV,zF v->zy v=false->J1 v
 | .nul,_,_=>zb0
 | .tt,_,_=>zb1
 | .ff,_,_=>zb2
 | .num l,h,_=>zb3 l h
 | .str l,h,_=>zb4 l h
 | .arr l,h,t=>zbY l (MC l (by rw[zF]at h;exact h) (by rw[zy]at t;exact t))
 | .obj m,h,t=>zbZ m (MD m [] (by rw[zF]at h;exact h) (by rw[zy]at t;exact t)) (Ns m (by rw[zF]at h;exact h)) (Km m [] (by rw[zy]at t;exact t)).1
theorem MC:∀ l:JL,qw l->ZX l=false->∀ v∈l.toL,J1 v
 | .nil,_,_,v,hv=>by simp[JL.toL]at hv
 | .cons x r,h,t,v,hv=>by
  rw[qw]at h;rw[ZX,Bool.or_eq_false_iff]at t;rw[JL.toL]at hv;rcases List.mem_cons.1 hv with e | hv
  ·rw[e];exact Fc x h.1 t.1
  ·exact MC r h.2 t.2 v hv
theorem MD:∀ (m:JM) (ks:List (List UInt8)),qq m->ZN ks m=false->∀ q∈m.toL,J1 q.2
 | .nil,_,_,_,q,hq=>by simp[JM.toL]at hq
 | .cons k x r,ks,h,t,q,hq=>by
  rw[qq]at h;rw[ZN]at t;simp only[Bool.or_eq_false_iff]at t;rw[JM.toL]at hq;rcases List.mem_cons.1 hq with e | hq
  ·rw[e];exact Fc x h.2.1 t.1.1
  ·exact MD r (ks++[k]) h.2.2 t.2 q hq
end
end Go.Proofs.YtekpghcckdjnhaaGreatDoor
namespace Go.Proofs.YtekpghcckdjnhaaGreatDoor
open Go.RowKit Go.Proofs.Tryz
end Go.Proofs.YtekpghcckdjnhaaGreatDoor
namespace Go.Proofs.YtekpghcckdjnhaaGreatDoor
open Go.RowKit Go.Sort Go.Proofs.Tryz
end Go.Proofs.YtekpghcckdjnhaaGreatDoor
namespace Go.Proofs.YtekpghcckdjnhaaGreatDoor
open Go.RowKit Go.Proofs.Tryz
end Go.Proofs.YtekpghcckdjnhaaGreatDoor
