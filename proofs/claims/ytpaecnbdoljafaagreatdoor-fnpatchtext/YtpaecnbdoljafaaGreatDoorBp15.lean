import Derived.Test.YtpaecnbdoljafaaGreatDoorBp11
import Derived.Test.YtpaecnbdoljafaaGreatDoorBp14
import Derived.Deep.RegionHeld
namespace Go.Proofs.YtpaecnbdoljafaaGreatDoor
open Go.RowKit
def QL(ts:List TypeId)(w:Wo)(bl:List Nat):Prop:=∀ b∈bl,∃ cur t,w.heap[b]?=some (.cells cur t (0,0))/\t∈ts
theorem Rc{w:Wo}{B e size n:Nat}{v:Value}{xs:List Value}(h:w.ownsRow B e size v n xs):QL [e] w v.ownBlock.toList:=by
 intro b a;rcases h.2 with ⟨f,_⟩ |⟨g,i,d,f,_,j,_⟩
 ·rw[f]at a;simp[Value.ownBlock]at a
 ·rw[f]at a;simp[Value.ownBlock]at a;subst a;exact⟨d,e,j,by simp⟩
theorem QL.mono{ts ts':List TypeId}{w:Wo}{bl:List Nat}(h:QL ts w bl)(hs:∀ t∈ts,t∈ts'):QL ts' w bl:=fun b hb=>by
 obtain⟨a,t,d,f⟩:=h b hb;exact⟨a,t,d,hs t f⟩
theorem QL.app{ts:List TypeId}{w:Wo}{bl cl:List Nat}(h:QL ts w bl)(k:QL ts w cl):QL ts w (bl++cl):=fun b a=>by
 rcases List.mem_append.1 a with a | a
 ·exact h b a
 ·exact k b a
theorem QL.keep{ts:List TypeId}{w w':Wo}{bl:List Nat}(h:QL ts w bl)(hk:Kp bl w w'):QL ts w' bl:=fun b hb=>by
 obtain⟨a,t,d,f⟩:=h b hb;exact⟨a,t,(hk b hb).trans d,f⟩
theorem T2{w:Wo}{B e size n:Nat}{v:Value}{xs:List Value}(h:w.ownsRow 0 e size v n xs)(hB:∀ g,v.ownBlock=some g->B<=g):w.ownsRow B e size v n xs:=by
 refine⟨h.1,?_⟩;rcases h.2 with f |⟨g,a,b,d,_,r⟩
 ·exact .inl f
 ·exact .inr ⟨g,a,b,d,hB g (by rw[d];rfl),r⟩
theorem Zn.app {α:Type} {e:Jg α} {ts:List TypeId} (he:∀ {w vs x bl},e.E w vs x bl->QL ts w bl) (hts:e.T ∉ ts) {B:Nat} {w:Wo} {v:Value} {xs:List α} {bl:List Nat} (h:Zn e w v xs bl) (hF:QB B bl)
  {vs:List Value} {x:α} {ib:List Nat} (hE:e.E w vs x ib) (hFi:QB B ib) (hap:∀ b∈ib,b ∉ bl):
  ∃ cs,w.ownsRow B e.T e.wd v xs.length cs/\∀ v' w',w'.ownsRow B e.T e.wd v' (xs.length+1) (cs++vs)->w.grownBy w' v.ownBlock->∃ bl',Zn e w' v' (xs++[x]) bl'/\QB B bl'/\∀ b∈bl',b∈bl∨b∈ib∨v'.ownBlock=some b:=by
 have A:=h.lt;have o:=e.lt hE;obtain⟨l,H,n,L,rfl⟩:=h;refine⟨l.flatMap (·.1),T2 L fun g hg=>hF.2 g (by simp[hg]),fun v' w' ho' hg=>?_⟩;have u:=hF.1;rw[List.nodup_append]at u;have G:Kp (l.flatMap (·.2)) w w':=fun b d=>hg.block b (A b (List.mem_append.2 (.inr d))) fun i=>u.2.2 b (by simp[← i]) b d rfl;have z:Kp ib w w':=fun b d=>hg.block b (o b d) fun i=>hap b d (List.mem_append.2 (.inl (by simp[← i])));have m:=e.keep hE z;have K:QL ts w' (l.flatMap (·.2)++ib):=by
  refine QL.app (QL.keep (fun b d=>?_) G) (he m);obtain⟨p,f,d⟩:=List.mem_flatMap.1 d;obtain⟨j,F,rfl⟩:=List.mem_iff_getElem.1 f;exact he (n j l[j] (xs[j]'(by omega)) (yw F) (yw (by omega))) b d
 refine⟨v'.ownBlock.toList++(l.flatMap (·.2)++ib),⟨l++[(vs,ib)],by simp[H],?_,?_,by simp⟩,⟨?_,?_⟩,?_⟩
 ·intro j p y f q;by_cases F:j<xs.length
  ·rw[List.getElem?_append_left (by omega)]at f q;exact e.keep (n j p y f q) fun b d=>G b (List.mem_flatMap.2 ⟨p,List.mem_of_getElem? f,d⟩)
  ·have C:=(List.getElem?_eq_some_iff.1 q).1;rw[yg,List.length_singleton]at C;have:j=xs.length:=by omega
   subst this;rw[← H]at f;simp at f q;subst f;subst q;exact m
 ·rw[List.flatMap_append,yg];have:=JB ho' (yr B);simpa using this
 ·rw[List.nodup_append];refine⟨by cases v'.ownBlock<;>simp,?_,?_⟩
  ·rw[List.nodup_append];exact⟨u.2.1,hFi.1,fun a s b d i=>hap b d (List.mem_append.2 (.inr (i ▸ s)))⟩
  ·intro a s b d i;subst i;obtain⟨I,t,J,E⟩:=Rc ho' a s;obtain⟨D,M,k,r⟩:=K a d;rw[J]at k;simp at k E;exact hts (E ▸ k.2 ▸ r)
 ·intro b d;rcases List.mem_append.1 d with d | d
  ·exact (ho'.lt b (by simpa using d)).1
  ·rcases List.mem_append.1 d with d | d
   ·exact hF.2 b (List.mem_append.2 (.inr d))
   ·exact hFi.2 b d
 ·intro b d;rcases List.mem_append.1 d with d | d
  ·exact .inr (.inr (by simpa using d))
  ·rcases List.mem_append.1 d with d | d
   ·exact .inl (List.mem_append.2 (.inr d))
   ·exact .inr (.inl d)
theorem WX.cells{w:Wo}{v:Value}{ss:List Bs}{bl:List Nat}(h:WX w v ss bl):(v= .slice none 0 0/\ss=[])∨∃ g cap,v= .slice (some ⟨g,0,none⟩) ss.length cap/\∀ (j:Nat) (u:Value),(ss.map Value.string)[j]?=some u->w.cell? ((⟨g,0,none⟩:Addr).add j)=some u:=by
 obtain⟨b,_⟩:=NP.1 h;rcases b.2 with ⟨a,f⟩ |⟨g,cap,d,a,_⟩
 ·exact .inl ⟨a,yM f⟩
 ·exact .inr ⟨g,cap,a,fun j u hu=>b.cells (by rw[a];rfl) j u hu⟩
theorem Zn.head{α:Type}{e:Jg α}{w:Wo}{v:Value}{xs:List α}{bl:List Nat}(h:Zn e w v xs bl){g:Nat}(hg:v.ownBlock=some g):g∈bl:=by
 obtain⟨a,h⟩:=h.split;rw[h,hg];simp
theorem T3(w:Wo)(vs:List Value)(T:TypeId):∀ (j:Nat) (u:Value),vs[j]?=some u->(w.alloc (.cells vs.toArray T)).cell? ((⟨w.heap.size,0,none⟩:Addr).add j)=some u:=by
 intro j u a;have h:=yE (yF w (.cells vs.toArray T)) j;rw[Go.WideShapes.add_plain,Nat.zero_add,h];simpa using a
theorem Rd(w:Wo)(e size:Nat):(w.alloc (.cells #[] e)).ownsRow w.heap.size e size (.slice (some ⟨w.heap.size,0,none⟩) 0 0) 0 []:=by
 exact w.ownsRow_made #[] 0 (yd _) (yr _) (by simp)
def Z3(N g m n yc:Nat)(z:Int)(qv:Value)(w:Wo):Prop:=w.cell? ⟨N,1,none⟩=some (.slice (some ⟨g,0,none⟩) n yc)/\w.cell? ⟨g,m*2,none⟩=some (.int .i64 z)/\w.cell? ⟨g,m*2+1,none⟩=some qv
section
variable {N g m n yc:Nat} {z:Int} {qv:Value} {w w':Wo}
theorem Z3.keep(h:Z3 N g m n yc z qv w)(hb:Bw w w'):Z3 N g m n yc z qv w':=
 ⟨(hb.cell (yI _ _ h.1)).trans h.1,(hb.cell (yI _ _ h.2.1)).trans h.2.1,(hb.cell (yI _ _ h.2.2)).trans h.2.2⟩
theorem Z3.grown{row:Option Nat}(h:Z3 N g m n yc z qv w)(hg:w.grownBy w' row)(hr:∀ b,row=some b->N+1+1<=b)(hN:g<N):Z3 N g m n yc z qv w':=
 ⟨hg.cell h.1 fun e=>by have:=hr N e.symm;omega,hg.cell h.2.1 fun e=>by have:=hr g e.symm;omega,hg.cell h.2.2 fun e=>by have:=hr g e.symm;omega⟩
theorem Z3.set(h:Z3 N g m n yc z qv w)(hN:g<N)(o:Nat)(u:Value):Z3 N g m n yc z qv (w.setCell ⟨N+1+1+1+1,o,none⟩ u):=
 ⟨(World.cell?_of_block (w:=w) (Below.heap_setCell _ _ _ _ (by simp;omega))).trans h.1,(World.cell?_of_block (w:=w) (Below.heap_setCell _ _ _ _ (by simp;omega))).trans h.2.1,(World.cell?_of_block (w:=w) (Below.heap_setCell _ _ _ _ (by simp;omega))).trans h.2.2⟩
end
theorem QL.not{ts:List TypeId}{w:Wo}{bl:List Nat}(h:QL ts w bl){B e size n:Nat}{v:Value}{xs:List Value}(ho:w.ownsRow B e size v n xs)(hn:e ∉ ts){g:Nat}(hg:v.ownBlock=some g):g ∉ bl:=fun hm=>by
 obtain⟨f,t,i,j⟩:=h g hm;obtain⟨b,k,a,d⟩:=Rc ho g (by simp[hg]);rw[i]at a;injection a with a;injection a with _ a;simp at d;exact hn (d ▸ a ▸ j)
structure T4{α:Type}(cells:List α)(f c:Nat)(q:List α):Prop where
 cnt:c=q.length
 le:c<=cells.length
 lt:f<cells.length∨cells=[]
 at_:∀ (i:Nat) (x:α),q[i]?=some x->cells[(f+i) % cells.length]?=some x
structure Fq{α:Type}(e:Jg α)(w:Wo)(g o:Nat)(cv:Value)(f c:Nat)(ms:List α)(q:List α)(cb:List Nat):Prop where
 c0:w.cell? ⟨g,o,none⟩=some cv
 c1:w.cell? ⟨g,o+1,none⟩=some (.int .i64 (f:Int))
 c2:w.cell? ⟨g,o+2,none⟩=some (.int .i64 (c:Int))
 row:Zn e w cv ms (cv.ownBlock.toList++cb)
 ring:T4 ms f c q
theorem Fq.below{α:Type}{e:Jg α}{w w':Wo}{g o:Nat}{cv:Value}{f c:Nat}{ms q:List α}{cb:List Nat}(h:Fq e w g o cv f c ms q cb)(hb:Bw w w'):Fq e w' g o cv f c ms q cb:=
 ⟨(hb.cell (yI _ _ h.c0)).trans h.c0,(hb.cell (yI _ _ h.c1)).trans h.c1,(hb.cell (yI _ _ h.c2)).trans h.c2,h.row.below hb,h.ring⟩
end Go.Proofs.YtpaecnbdoljafaaGreatDoor
