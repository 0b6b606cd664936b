import Derived.Orders
import Derived.Below
import Derived.Test.YtekpghcckdjnhaaGreatDoorRows
namespace Go.Proofs.YtekpghcckdjnhaaGreatDoor
open Go.RowKit
theorem ME{p q:Nat->Bool}:∀ {l:List Nat},(∀ x,q x=true->p x=true)->(∃ x∈l,p x=true/\q x=false)->l.countP q+1<=l.countP p
 | [],_,h=>by obtain⟨x,hx,_⟩:=h;cases hx
 | y :: r,hi,h=>by
  have f:r.countP q<=r.countP p:=List.countP_mono_left fun x _=>hi x;obtain⟨x,hx,b,d⟩:=h;rw[List.countP_cons,List.countP_cons];rcases List.mem_cons.1 hx with rfl | hx
  ·rw[b,d];simp;omega
  ·have g:=ME (l:=r) hi ⟨x,hx,b,d⟩;by_cases a:q y=true
   ·rw[a,hi y a];simp;omega
   ·rw[Bool.not_eq_true]at a;rw[a];cases p y<;>simp<;>omega
def Fd(ops:Array Oper):Bool:=(List.range ops.size).all fun i=>match ops[i]? with | some o=>o.after.all (fun e=>!Region.binds .any e || decide (e.on<i)) | none=>true
def Fe(ops:Array Oper)(i j:Nat):Bool:=match ops[i]? with | some o=>o.after.any (fun e=>Region.binds .any e && e.on ==j) | none=>false
theorem zcc{ops:Array Oper}(h:Fd ops=true){i:Nat}{o:Oper}(ho:ops[i]?=some o){e:Edge}(he:e∈o.after)(hb:Region.binds .any e=true):e.on<i:=by
 have d:i<ops.size:=(Array.getElem?_eq_some_iff.1 ho).1;have a:=List.all_eq_true.1 h i (List.mem_range.2 d);simp only[ho]at a;have b:=Array.all_eq_true'.1 a e he;simpa [hb]using b
theorem zcd {P:Program} {ops:Array Oper} {Q:Exit->Act->World->Prop} {id:Nat} {a:Act} {w:World} (hm:P.follows .mixedOrders=true) (hB:Fd ops=true)
  (I:(Nat->Bool)->Act->World->Prop) (h0:I (fun _=>false) a w.drew)
  (hs:∀ (L:Nat->Bool) (a:Act) (w:World) (i:Nat) (o:Oper),I L a w->ops[i]?=some o->L i=false->(∀ j,Fe ops i j=true->L j=true)->wpOp P ops Q i (I (fun j=>j ==i || L j)) a w)
  (he:∀ (L:Nat->Bool) (a:Act) (w:World),I L a w->(∀ i,i<ops.size->L i=true)->Q .normal a w):(Code.region id ops true).wp P Q a w:=by
 refine wp_region_any hm ?_;have v:∀ (b:Nat) (L:Array Bool) (a:Act) (w:World),L.size=ops.size->(List.range ops.size).countP (fun i=>!L.getD i true)<=b->I (fun i=>L.getD i false) a w->wpAny P .any ops Q b L a w:=by
  have g:∀ (L:Array Bool),L.size=ops.size->Region.ready .any ops L=[]->∀ i,i<ops.size->L.getD i false=true:=by
   intro L r k i;induction i using Nat.strongRecOn with
   | _ i ih=>
    intro z
    cases hx:L.getD i false with
    | true=>rfl
    | false=>
     exfalso;have C:i<L.size:=by omega
     have D:L.getD i true=false:=by
      rw[Array.getD_eq_getD_getElem?,Array.getElem?_eq_getElem C]at hx ⊢;exact hx
     have h:i∈Region.ready .any ops L:=mem_ready.2 ⟨D,ops[i],Array.getElem?_eq_getElem z,fun e he s=>by
      have:=zcc hB (Array.getElem?_eq_getElem z) he s;exact ih e.on this (by omega)⟩
     rw[k]at h
     cases h
  intro b;induction b with
  | zero=>
   intro L a w r F y;have k:Region.ready .any ops L=[]:=by
    cases k:Region.ready .any ops L with
    | nil=>rfl
    | cons x xs=>
     exfalso;have hm:x∈Region.ready .any ops L:=by rw[k];exact List.mem_cons_self
     obtain⟨m,o,n,-⟩:=mem_ready.1 hm;have G:0<(List.range ops.size).countP (fun i=>!L.getD i true):=List.countP_pos_iff.2 ⟨x,List.mem_range.2 (Array.getElem?_eq_some_iff.1 n).1,by rw[m];rfl⟩;omega
   exact⟨k,he _ a w y (g L r k)⟩
  | succ b ih=>
   intro L a w r F y;refine⟨fun k=>he _ a w y (g L r k),fun i z=>?_⟩;obtain⟨m,o,n,E⟩:=mem_ready.1 z;have B:i<ops.size:=(Array.getElem?_eq_some_iff.1 n).1;have u:i<L.size:=by omega
   have f:∀ (j:Nat) (d:Bool),(L.setIfInBounds i true).getD j d=(j ==i || L.getD j d):=fun j d=>by
    rw[Array.getD_eq_getD_getElem?,Array.getD_eq_getD_getElem?,Array.getElem?_setIfInBounds];by_cases e:i=j
    ·subst e;simp[u]
    ·rw[if_neg e];simp[Ne.symm e]
   have A:L.getD i false=false:=by
    rw[Array.getD_eq_getD_getElem?,Array.getElem?_eq_getElem u]at m ⊢;exact m
   refine wpOp_mono (fun a' w' h'=>?_) (hs _ a w i o y n A fun j hj=>?_)
   ·refine ih _ a' w' (by rw[Array.size_setIfInBounds];exact r) ?_ ?_
    ·have:=ME (l:=List.range ops.size) (p:=fun i=>!L.getD i true) (q:=fun j=>!(L.setIfInBounds i true).getD j true) (fun x hx=>by rw[f]at hx;simp at hx ⊢;exact hx.2) ⟨i,List.mem_range.2 B,by rw[m];rfl,by rw[f];simp⟩;omega
    ·have:(fun j=>(L.setIfInBounds i true).getD j false)=fun j=>(j ==i || L.getD j false):=funext fun j=>f j false;rw[this];exact h'
   ·unfold Fe at hj;rw[n]at hj;obtain⟨e,he,s⟩:=Array.any_eq_true'.1 hj;simp only[Bool.and_eq_true,beq_iff_eq]at s;rw[← s.2];exact E e he s.1
 refine v ops.size _ a _ (by simp) ?_ ?_
 ·have:=List.countP_le_length (p:=fun i=>!(Array.replicate ops.size false).getD i true) (l:=List.range ops.size);simpa using this
 ·have:(fun i=>(Array.replicate ops.size false).getD i false)=fun _=>false:=funext fun i=>by
   rw[Array.getD_eq_getD_getElem?,Array.getElem?_replicate];split<;>rfl
  rw[this];exact h0
structure VP(g:Nat)(o:Obj)(w w':World):Prop where
 here:w'.heap[g]?=some o
 other:∀ k,k≠g->w'.heap[k]?=w.heap[k]?
 size:w'.heap.size=w.heap.size
 os:w'.os=w.os
 tape:w'.tape=w.tape
 output:w'.output=w.output
theorem VP.below{g B:Nat}{o:Obj}{w0 w w':World}(h:VP g o w w')(hb:Below B w0 w)(hg:B<=g):Below B w0 w':=
 ⟨h.os.trans hb.os,h.tape.trans hb.tape,h.output.trans hb.output,h.size ▸ hb.size,fun k hk=>(h.other k (by omega)).trans (hb.block k hk)⟩
structure Yy(a0:Act)(D:List Tmp)(X:Nat->Option Value)(a:Act):Prop where
 df:a.defers=a0.defers
 sz:a.tmps.size=a0.tmps.size
 at':∀ i d v,D[i]?=some d->X i=some v->a.tmps.getD d undef=v
 no:∀ t,(∀ i,D[i]?=some t->X i=none)->a.tmps.getD t undef=a0.tmps.getD t undef
def Wv(X:Nat->Option Value)(i:Nat)(v:Value)(j:Nat):Option Value:=if j=i then some v else X j
theorem Kw{X:Nat->Option Value}{i j:Nat}{v:Value}(h:j≠i):Wv X i v j=X j:=if_neg h
theorem Ff{X:Nat->Option Value}{i:Nat}{v:Value}:Wv X i v i=some v:=if_pos rfl
theorem zce{D:List Tmp}(h:D.Nodup){i j:Nat}{d:Tmp}(hi:D[i]?=some d)(hj:D[j]?=some d):i=j:=by
 obtain⟨g,b⟩:=List.getElem?_eq_some_iff.1 hi;obtain⟨k,f⟩:=List.getElem?_eq_some_iff.1 hj;have l:=List.pairwise_iff_getElem.1 h;rcases Nat.lt_trichotomy i j with a | a | a
 ·exact absurd (b.trans f.symm) (l i j g k a)
 ·exact a
 ·exact absurd (f.trans b.symm) (l j i k g a)
theorem MF(a:Array Value)(d t:Nat)(v:Value)(hd:d<a.size):(a.setIfInBounds d v).getD t undef=if t=d then v else a.getD t undef:=by
 rw[Array.getD_eq_getD_getElem?,Array.getD_eq_getD_getElem?,Array.getElem?_setIfInBounds];by_cases e:d=t
 ·subst e;simp[hd]
 ·rw[if_neg e,if_neg (Ne.symm e)]
theorem Yy.init(a0:Act)(D:List Tmp):Yy a0 D (fun _=>none) a0:=⟨rfl,rfl,fun _ _ _ _ h=>(by cases h),fun _ _=>rfl⟩
theorem Yy.put{a0 a:Act}{D:List Tmp}{X:Nat->Option Value}(h:Yy a0 D X a)(hn:D.Nodup)(hs:∀ d∈D,d<a0.tmps.size){i:Nat}{d:Tmp}(hi:D[i]?=some d)(v:Value):Yy a0 D (Wv X i v) (a.put (some d) v):=by
 have g:d<a.tmps.size:=by rw[h.sz];exact hs d (List.mem_of_getElem? hi)
 refine⟨h.df,by show (a.tmps.setIfInBounds d v).size=_;rw[Array.size_setIfInBounds];exact h.sz,fun j e u hj hu=>?_,fun t ht=>?_⟩
 ·show (a.tmps.setIfInBounds d v).getD e undef=u
  rw[MF _ _ _ _ g];by_cases b:j=i
  ·subst b;rw[hi]at hj;injection hj with hj;subst hj;rw[Ff]at hu;injection hu with hu;rw[if_pos rfl,hu]
  ·rw[Kw b]at hu;rw[if_neg (fun e2:e=d=>b (zce hn hj (by rw[e2];exact hi))),h.at' j e u hj hu]
 ·show (a.tmps.setIfInBounds d v).getD t undef=_
  rw[MF _ _ _ _ g];have f:t≠d:=fun e=>by
   subst e;have:=ht i hi;rw[Ff]at this
   cases this
  rw[if_neg f];exact h.no t fun j hj=>by
   have:=ht j hj;by_cases b:j=i
   ·subst b;rw[hi]at hj;injection hj with hj;exact absurd hj.symm f
   ·rwa [Kw b]at this
theorem Yy.uniq{a0 a a':Act}{D:List Tmp}{X X':Nat->Option Value}(h:Yy a0 D X a)(k:Yy a0 D X' a')(he:∀ i,i<D.length->X i=X' i):a=a':=by
 have m:∀ t,a.tmps.getD t undef=a'.tmps.getD t undef:=fun t=>by
  by_cases hx:∃ i,D[i]?=some t/\X i≠none
  ·obtain⟨i,b,hx⟩:=hx;obtain⟨v,j⟩:=Option.ne_none_iff_exists'.1 hx;rw[h.at' i t v b j,k.at' i t v b (by rw[← he i (List.getElem?_eq_some_iff.1 b).1];exact j)]
  ·have d:∀ i,D[i]?=some t->X i=none:=fun i b=>Decidable.byContradiction fun hc=>hx ⟨i,b,hc⟩;rw[h.no t d,k.no t fun i b=>by rw[← he i (List.getElem?_eq_some_iff.1 b).1];exact d i b]
 have n:a.tmps.size=a'.tmps.size:=h.sz.trans k.sz.symm;have g:a.tmps=a'.tmps:=by
  apply Array.ext n;intro t d l;have:=m t;rw[Array.getD_eq_getD_getElem?,Array.getD_eq_getD_getElem?,Array.getElem?_eq_getElem d,Array.getElem?_eq_getElem l]at this;exact this
 have f:a.defers=a'.defers:=h.df.trans k.df.symm
 cases a;cases a';simp only at g f;rw[g,f]
structure D3(w0:World)(R1 R3:Value->World->Prop)(R4:Value->Value->World->Prop)(T:Value->Value->Value)(U6 U7:Value->Array Value)(C8 z6 z7 z8:Array Value)(t6 t7 t8:TypeId)(s0 p0:Value)(L:Nat->Bool)(X:Nat->Option Value)(w:World):Prop where
 li:∀ i,i<12->L i=(X i).isSome
 bel:Below w0.heap.size w0 w
 j0:∀ v,X 0=some v->v=s0
 j1:∀ v,X 1=some v->L 4=false->R1 v w
 j2:∀ v,X 2=some v->v=p0
 j3:∀ v,X 3=some v->L 4=false->R3 v w
 j4:∀ v,X 4=some v->∃ x y,v=T x y/\R4 x y w
 j5:∀ v,X 5=some v->X 4=some v
 j6:∀ v,X 6=some v->∃ x y,X 4=some (T x y)/\v= .agg (U6 x)
 j7:∀ v,X 7=some v->∃ x y,X 4=some (T x y)/\v= .agg (U7 y)
 j8:∀ v,X 8=some v->v= .agg C8
 j9:∀ v,X 9=some v->∃ g cs,v= .pointer (some ⟨g,0,none⟩)/\w0.heap.size<=g/\w.heap[g]?=some (.cells cs t6 (0,0))/\(L 12=false->cs=z6)/\(L 12=true->∃ x y,X 4=some (T x y)/\cs=U6 x)
 j10:∀ v,X 10=some v->∃ g cs,v= .pointer (some ⟨g,0,none⟩)/\w0.heap.size<=g/\w.heap[g]?=some (.cells cs t7 (0,0))/\(L 13=false->cs=z7)/\(L 13=true->∃ x y,X 4=some (T x y)/\cs=U7 y)
 j11:∀ v,X 11=some v->∃ g cs,v= .pointer (some ⟨g,0,none⟩)/\w0.heap.size<=g/\w.heap[g]?=some (.cells cs t8 (0,0))/\(L 14=false->cs=z8)/\(L 14=true->cs=C8)
section
variable {w0:World} {R1 R3:Value->World->Prop} {R4:Value->Value->World->Prop} {T:Value->Value->Value} {U6 U7:Value->Array Value} {C8 z6 z7 z8:Array Value} {t6 t7 t8:TypeId} {s0 p0:Value} {L:Nat->Bool} {X:Nat->Option Value} {w w':World}
theorem D3.next(h:D3 w0 R1 R3 R4 T U6 U7 C8 z6 z7 z8 t6 t7 t8 s0 p0 L X w)(hb:Below w.heap.size w w')(k1:∀ v,R1 v w->R1 v w')(k3:∀ v,R3 v w->R3 v w')(k4:∀ x y,R4 x y w->R4 x y w'):D3 w0 R1 R3 R4 T U6 U7 C8 z6 z7 z8 t6 t7 t8 s0 p0 L X w':=by
 have d:∀ {g:Nat} {o:Obj},w.heap[g]?=some o->w'.heap[g]?=some o:=fun e=>(hb.block _ (Array.getElem?_eq_some_iff.1 e).1).trans e;refine⟨h.li,⟨hb.os.trans h.bel.os,hb.tape.trans h.bel.tape,hb.output.trans h.bel.output,Nat.le_trans h.bel.size hb.size,fun k hk'=>(hb.block k (Nat.lt_of_lt_of_le hk' h.bel.size)).trans (h.bel.block k hk')⟩,h.j0,fun v hv hl=>k1 v (h.j1 v hv hl),h.j2,fun v hv hl=>k3 v (h.j3 v hv hl),fun v hv=>?_,h.j5,h.j6,h.j7,h.j8,fun v hv=>?_,fun v hv=>?_,fun v hv=>?_⟩
 ·obtain⟨x,y,e,r⟩:=h.j4 v hv;exact⟨x,y,e,k4 x y r⟩
 ·obtain⟨g,cs,e,b,a,r⟩:=h.j9 v hv;exact⟨g,cs,e,b,d a,r⟩
 ·obtain⟨g,cs,e,b,a,r⟩:=h.j10 v hv;exact⟨g,cs,e,b,d a,r⟩
 ·obtain⟨g,cs,e,b,a,r⟩:=h.j11 v hv;exact⟨g,cs,e,b,d a,r⟩
theorem D3.add (h:D3 w0 R1 R3 R4 T U6 U7 C8 z6 z7 z8 t6 t7 t8 s0 p0 L X w) (i:Nat) (hi:i<12) (hx:X i=none) (v:Value)
  (f0:i=0->v=s0:=by intro e;exact absurd e (by decide)) (f1:i=1->R1 v w:=by intro e;exact absurd e (by decide)) (f2:i=2->v=p0:=by intro e;exact absurd e (by decide)) (f3:i=3->R3 v w:=by intro e;exact absurd e (by decide)) (f4:i=4->∃ x y,v=T x y/\R4 x y w:=by intro e;exact absurd e (by decide)) (f5:i=5->X 4=some v:=by intro e;exact absurd e (by decide)) (f6:i=6->∃ x y,X 4=some (T x y)/\v= .agg (U6 x):=by intro e;exact absurd e (by decide)) (f7:i=7->∃ x y,X 4=some (T x y)/\v= .agg (U7 y):=by intro e;exact absurd e (by decide)) (f8:i=8->v= .agg C8:=by intro e;exact absurd e (by decide))
  (f9:i=9->L 12=false/\∃ g,v= .pointer (some ⟨g,0,none⟩)/\w0.heap.size<=g/\w.heap[g]?=some (.cells z6 t6 (0,0)):=by intro e;exact absurd e (by decide)) (f10:i=10->L 13=false/\∃ g,v= .pointer (some ⟨g,0,none⟩)/\w0.heap.size<=g/\w.heap[g]?=some (.cells z7 t7 (0,0)):=by intro e;exact absurd e (by decide)) (f11:i=11->L 14=false/\∃ g,v= .pointer (some ⟨g,0,none⟩)/\w0.heap.size<=g/\w.heap[g]?=some (.cells z8 t8 (0,0)):=by intro e;exact absurd e (by decide)):
  D3 w0 R1 R3 R4 T U6 U7 C8 z6 z7 z8 t6 t7 t8 s0 p0 (fun j=>j ==i || L j) (Wv X i v) w:=by
 have l:∀ u,X 4=some u->Wv X i v 4=some u:=fun u hu=>by
  rw[Kw (fun e=>by rw[← e,hu]at hx;cases hx)];exact hu
 have q:∀ j,((j ==i || L j)=false)->L j=false:=fun j hj=>(Bool.or_eq_false_iff.1 hj).2;have m:∀ j,12<=j->(j ==i || L j)=L j:=fun j hj=>by rw[beq_eq_false_iff_ne.2 (by omega)];rfl
 have a:∀ (k:Nat) (u:Value),Wv X i v k=some u->(k=i/\u=v)∨X k=some u:=fun k u hu=>by
  by_cases e:k=i
  ·rw[e,Ff]at hu;injection hu with hu;exact .inl ⟨e,hu.symm⟩
  ·rw[Kw e]at hu;exact .inr hu
 refine⟨fun j hj=>?_,h.bel,fun u hu=>?_,fun u hu hq=>?_,fun u hu=>?_,fun u hu hq=>?_,fun u hu=>?_,fun u hu=>?_,fun u hu=>?_,fun u hu=>?_,fun u hu=>?_,fun u hu=>?_,fun u hu=>?_,fun u hu=>?_⟩
 ·by_cases e:j=i
  ·rw[e,Ff];simp
  ·rw[Kw e,beq_eq_false_iff_ne.2 e];exact h.li j hj
 ·rcases a _ _ hu with ⟨e,rfl⟩ | e
  ·exact f0 e.symm
  ·exact h.j0 u e
 ·rcases a _ _ hu with ⟨e,rfl⟩ | e
  ·exact f1 e.symm
  ·exact h.j1 u e (q 4 hq)
 ·rcases a _ _ hu with ⟨e,rfl⟩ | e
  ·exact f2 e.symm
  ·exact h.j2 u e
 ·rcases a _ _ hu with ⟨e,rfl⟩ | e
  ·exact f3 e.symm
  ·exact h.j3 u e (q 4 hq)
 ·rcases a _ _ hu with ⟨e,rfl⟩ | e
  ·exact f4 e.symm
  ·exact h.j4 u e
 ·rcases a _ _ hu with ⟨e,rfl⟩ | e
  ·exact l _ (f5 e.symm)
  ·exact l _ (h.j5 u e)
 ·rcases a _ _ hu with ⟨e,rfl⟩ | e
  ·obtain⟨x,y,b,d⟩:=f6 e.symm;exact⟨x,y,l _ b,d⟩
  ·obtain⟨x,y,b,d⟩:=h.j6 u e;exact⟨x,y,l _ b,d⟩
 ·rcases a _ _ hu with ⟨e,rfl⟩ | e
  ·obtain⟨x,y,b,d⟩:=f7 e.symm;exact⟨x,y,l _ b,d⟩
  ·obtain⟨x,y,b,d⟩:=h.j7 u e;exact⟨x,y,l _ b,d⟩
 ·rcases a _ _ hu with ⟨e,rfl⟩ | e
  ·exact f8 e.symm
  ·exact h.j8 u e
 ·rcases a _ _ hu with ⟨e,rfl⟩ | e
  ·obtain⟨n,g,b,d,f⟩:=f9 e.symm;exact⟨g,z6,b,d,f,fun _=>rfl,fun hc=>by rw[m 12 (by omega),n]at hc;cases hc⟩
  ·obtain⟨g,cs,b,d,f,o,p⟩:=h.j9 u e;exact⟨g,cs,b,d,f,fun hc=>o (q 12 hc),fun hc=>by obtain⟨x,y,r,s⟩:=p (by rwa [m 12 (by omega)]at hc);exact⟨x,y,l _ r,s⟩⟩
 ·rcases a _ _ hu with ⟨e,rfl⟩ | e
  ·obtain⟨n,g,b,d,f⟩:=f10 e.symm;exact⟨g,z7,b,d,f,fun _=>rfl,fun hc=>by rw[m 13 (by omega),n]at hc;cases hc⟩
  ·obtain⟨g,cs,b,d,f,o,p⟩:=h.j10 u e;exact⟨g,cs,b,d,f,fun hc=>o (q 13 hc),fun hc=>by obtain⟨x,y,r,s⟩:=p (by rwa [m 13 (by omega)]at hc);exact⟨x,y,l _ r,s⟩⟩
 ·rcases a _ _ hu with ⟨e,rfl⟩ | e
  ·obtain⟨n,g,b,d,f⟩:=f11 e.symm;exact⟨g,z8,b,d,f,fun _=>rfl,fun hc=>by rw[m 14 (by omega),n]at hc;cases hc⟩
  ·obtain⟨g,cs,b,d,f,o,p⟩:=h.j11 u e;exact⟨g,cs,b,d,f,fun hc=>o (q 14 hc),fun hc=>p (by rwa [m 14 (by omega)]at hc)⟩
theorem Pr{w:World}{g h:Nat}{cs ds:Array Value}{t u:TypeId}(hg:w.heap[g]?=some (.cells cs t (0,0)))(hh:w.heap[h]?=some (.cells ds u (0,0)))(ht:t≠u):g≠h:=fun e=>by
 subst e;rw[hg]at hh;injection hh with hh;injection hh with _ e _;exact ht e
theorem D3.st (h:D3 w0 R1 R3 R4 T U6 U7 C8 z6 z7 z8 t6 t7 t8 s0 p0 L X w) (k:Nat) (hk:12<=k) (hL:L 4=true) {g:Nat} {cs ds:Array Value} {t:TypeId} (hg:w.heap[g]?=some (.cells cs t (0,0))) (hB:w0.heap.size<=g) (hp:VP g (.cells ds t (0,0)) w w') (k4:∀ x y,R4 x y w->R4 x y w')
  (f9:(k≠12/\t≠t6)∨(k=12/\t=t6/\X 9=some (.pointer (some ⟨g,0,none⟩))/\∃ x y,X 4=some (T x y)/\ds=U6 x)) (f10:(k≠13/\t≠t7)∨(k=13/\t=t7/\X 10=some (.pointer (some ⟨g,0,none⟩))/\∃ x y,X 4=some (T x y)/\ds=U7 y)) (f11:(k≠14/\t≠t8)∨(k=14/\t=t8/\X 11=some (.pointer (some ⟨g,0,none⟩))/\ds=C8)):
  D3 w0 R1 R3 R4 T U6 U7 C8 z6 z7 z8 t6 t7 t8 s0 p0 (fun j=>j ==k || L j) X w':=by
 have o:(4 ==k || L 4)=true:=by rw[hL];simp
 have s:∀ j,j≠k->(j ==k || L j)=L j:=fun j hj=>by rw[beq_eq_false_iff_ne.2 hj];rfl
 refine⟨fun j hj=>by rw[s j (by omega)];exact h.li j hj,hp.below h.bel hB,h.j0,fun v hv hq=>?_,h.j2,fun v hv hq=>?_,fun v hv=>?_,h.j5,h.j6,h.j7,h.j8,fun v hv=>?_,fun v hv=>?_,fun v hv=>?_⟩
 ·simp only[o]at hq;cases hq
 ·simp only[o]at hq;cases hq
 ·obtain⟨x,y,e,r⟩:=h.j4 v hv;exact⟨x,y,e,k4 x y r⟩
 ·obtain⟨d,a,f,i,b,l,m⟩:=h.j9 v hv;rcases f9 with ⟨p,q⟩ |⟨rfl,rfl,hx,n⟩
  ·simp only[s 12 (Ne.symm p)];exact⟨d,a,f,i,(hp.other d (Pr b hg (Ne.symm q))).trans b,l,m⟩
  ·rw[hx]at hv;injection hv with hv;exact⟨g,ds,hv.symm,hB,hp.here,fun hc=>by simp at hc,fun _=>n⟩
 ·obtain⟨d,a,f,i,b,l,m⟩:=h.j10 v hv;rcases f10 with ⟨p,q⟩ |⟨rfl,rfl,hx,n⟩
  ·simp only[s 13 (Ne.symm p)];exact⟨d,a,f,i,(hp.other d (Pr b hg (Ne.symm q))).trans b,l,m⟩
  ·rw[hx]at hv;injection hv with hv;exact⟨g,ds,hv.symm,hB,hp.here,fun hc=>by simp at hc,fun _=>n⟩
 ·obtain⟨d,a,f,i,b,l,m⟩:=h.j11 v hv;rcases f11 with ⟨p,q⟩ |⟨rfl,rfl,hx,n⟩
  ·simp only[s 14 (Ne.symm p)];exact⟨d,a,f,i,(hp.other d (Pr b hg (Ne.symm q))).trans b,l,m⟩
  ·rw[hx]at hv;injection hv with hv;exact⟨g,ds,hv.symm,hB,hp.here,fun hc=>by simp at hc,fun _=>n⟩
end
theorem Ps{b c:Bool}(h:c=true->b=true)(hb:b=false):c=false:=by
 cases c with
 | false=>rfl
 | true=>rw[h rfl]at hb;cases hb
theorem JK{P:Program}{ops:Array Oper}{Q:Exit->Act->World->Prop}{i:Nat}{o:Oper}{K:Act->World->Prop}{a:Act}{w:World}(ho:ops[i]?=some o)(hg:o.guard=none)(h:o.wp P a w K Q):wpOp P ops Q i K a w:=by
 unfold wpOp;rw[ho];have b:Region.wanted o (yielded ops a.tmps)=true:=by simp[Region.wanted,hg]
 simp only[b,if_true];exact .inl h
theorem VQ{P:Program}{o:Oper}{a:Act}{w w':World}{K:Act->World->Prop}{Q:Exit->Act->World->Prop}{v:Value}(hr:(execOp a.eval o).run P w= .ok (.value v) w')(h:K (a.put o.dst v) w'):o.wp P a w K Q:=by
 unfold Oper.wp;rw[hr];exact h
theorem Pt{P:Program}{o:Oper}{a:Act}{w w':World}{K:Act->World->Prop}{Q:Exit->Act->World->Prop}(hd:o.dst=none)(hr:(execOp a.eval o).run P w= .ok .skip w')(h:K a w'):o.wp P a w K Q:=by
 unfold Oper.wp;rw[hr];show K (a.put o.dst undef) w';rw[hd];exact h
theorem Pu{P:Program}{o:Oper}{a:Act}{w w':World}{K:Act->World->Prop}{Q:Exit->Act->World->Prop}{f:FuncId}{args:Array Value}{R:Value->World->Prop}(hr:(execOp a.eval o).run P w= .ok (.enter f args) w')(hc:Calls P f args w' fun e w''=>∃ v,e= .returned v/\R v w'')(h:∀ v w'',R v w''->K (a.put o.dst v) w''):o.wp P a w K Q:=by
 unfold Oper.wp;rw[hr];refine hc.mono ?_;rintro e w'' ⟨v,rfl,b⟩;exact h v w'' b
theorem zcf {P:Program} {Q:Exit->Act->World->Prop} {id:Nat} {a0:Act} {w:World} {o0 o1 o2 o3 o4 o5 o6 o7 o8 o9 o10 o11 o12 o13 o14:Oper} {d0 d1 d2 d3 d4 d5 d6 d7 d8 d9 d10 d11 tA tB:Tmp}
  {R1 R3:Value->World->Prop} {R4:Value->Value->World->Prop} {T:Value->Value->Value} {U6 U7:Value->Array Value} {C8 z6 z7 z8:Array Value} {t6 t7 t8:TypeId} {s0 p0:Value} {f1 f3 f4:FuncId}
  (hm:P.follows .mixedOrders=true) (hB:Fd #[o0,o1,o2,o3,o4,o5,o6,o7,o8,o9,o10,o11,o12,o13,o14]=true)
  (hdp:([(1,0),(3,2),(3,1),(4,1),(4,3),(5,4),(6,5),(7,5),(8,5),(12,9),(12,6),(12,4),(13,10),(13,7),(13,4),(14,11),(14,8),(14,4)].all fun p=>Fe #[o0,o1,o2,o3,o4,o5,o6,o7,o8,o9,o10,o11,o12,o13,o14] p.1 p.2)=true)
  (hgd:[o0,o1,o2,o3,o4,o5,o6,o7,o8,o9,o10,o11,o12,o13,o14].map (·.guard)=List.replicate 15 none)
  (hds:[o0,o1,o2,o3,o4,o5,o6,o7,o8,o9,o10,o11,o12,o13,o14].map (·.dst)=[some d0,some d1,some d2,some d3,some d4,some d5,some d6,some d7,some d8,some d9,some d10,some d11,none,none,none])
  (hn:[d0,d1,d2,d3,d4,d5,d6,d7,d8,d9,d10,d11].Nodup) (hA:tA ∉ [d0,d1,d2,d3,d4,d5,d6,d7,d8,d9,d10,d11]) (hBB:tB ∉ [d0,d1,d2,d3,d4,d5,d6,d7,d8,d9,d10,d11]) (hs:∀ d∈[d0,d1,d2,d3,d4,d5,d6,d7,d8,d9,d10,d11],d<a0.tmps.size)
  (ht1:t6≠t7) (ht2:t6≠t8) (ht3:t7≠t8)
  (k1:∀ (v:Value) (w1 w2:World),R1 v w1->Below w1.heap.size w1 w2->R1 v w2) (k3:∀ (v:Value) (w1 w2:World),R3 v w1->Below w1.heap.size w1 w2->R3 v w2) (k4:∀ (x y:Value) (w1 w2:World),R4 x y w1->Below w1.heap.size w1 w2->R4 x y w2)
  (p4:∀ (x y:Value) (w1 w2:World) (g:Nat) (cs ds:Array Value) (t:TypeId),R4 x y w1->w1.heap[g]?=some (.cells cs t (0,0))->(t=t6∨t=t7∨t=t8)->VP g (.cells ds t (0,0)) w1 w2->R4 x y w2)
  (r0:∀ (b:Act) (w':World),Below w.heap.size w w'->b.eval (.tmp tA)=a0.eval (.tmp tA)->(execOp b.eval o0).run P w'= .ok (.value s0) w') (r2:∀ (b:Act) (w':World),Below w.heap.size w w'->b.eval (.tmp tB)=a0.eval (.tmp tB)->(execOp b.eval o2).run P w'= .ok (.value p0) w')
  (r1:∀ (b:Act) (w':World),b.eval (.tmp d0)=s0->(execOp b.eval o1).run P w'= .ok (.enter f1 #[s0]) w') (c1:∀ (w':World),Below w.heap.size w w'->Calls P f1 #[s0] w' fun e w2=>∃ v:Value,e= .returned v/\R1 v w2/\Below w'.heap.size w' w2)
  (r3:∀ (b:Act) (w':World),b.eval (.tmp d2)=p0->(execOp b.eval o3).run P w'= .ok (.enter f3 #[p0]) w') (c3:∀ (w':World),Below w.heap.size w w'->Calls P f3 #[p0] w' fun e w2=>∃ v:Value,e= .returned v/\R3 v w2/\Below w'.heap.size w' w2)
  (r4:∀ (b:Act) (w':World) (u v:Value),b.eval (.tmp d1)=u->b.eval (.tmp d3)=v->(execOp b.eval o4).run P w'= .ok (.enter f4 #[u,v]) w') (c4:∀ (w':World) (u v:Value),Below w.heap.size w w'->R1 u w'->R3 v w'->Calls P f4 #[u,v] w' fun e w2=>∃ r:Value,e= .returned r/\(∃ x y,r=T x y/\R4 x y w2)/\Below w'.heap.size w' w2)
  (r5:∀ (b:Act) (w':World),(execOp b.eval o5).run P w'= .ok (.value (b.eval (.tmp d4))) w') (r6:∀ (b:Act) (w':World) (x y:Value),b.eval (.tmp d5)=T x y->(execOp b.eval o6).run P w'= .ok (.value (.agg (U6 x))) w') (r7:∀ (b:Act) (w':World) (x y:Value),b.eval (.tmp d5)=T x y->(execOp b.eval o7).run P w'= .ok (.value (.agg (U7 y))) w') (r8:∀ (b:Act) (w':World) (x y:Value),b.eval (.tmp d5)=T x y->(execOp b.eval o8).run P w'= .ok (.value (.agg C8)) w')
  (r9:∀ (b:Act) (w':World),(execOp b.eval o9).run P w'= .ok (.value (.pointer (some ⟨w'.heap.size,0,none⟩))) (w'.alloc (.cells z6 t6 (0,0)))) (r10:∀ (b:Act) (w':World),(execOp b.eval o10).run P w'= .ok (.value (.pointer (some ⟨w'.heap.size,0,none⟩))) (w'.alloc (.cells z7 t7 (0,0)))) (r11:∀ (b:Act) (w':World),(execOp b.eval o11).run P w'= .ok (.value (.pointer (some ⟨w'.heap.size,0,none⟩))) (w'.alloc (.cells z8 t8 (0,0))))
  (r12:∀ (b:Act) (w':World) (g:Nat) (x y:Value),b.eval (.tmp d9)= .pointer (some ⟨g,0,none⟩)->b.eval (.tmp d6)= .agg (U6 x)->R4 x y w'->w'.heap[g]?=some (.cells z6 t6 (0,0))->∃ w2,(execOp b.eval o12).run P w'= .ok .skip w2/\VP g (.cells (U6 x) t6 (0,0)) w' w2)
  (r13:∀ (b:Act) (w':World) (g:Nat) (x y:Value),b.eval (.tmp d10)= .pointer (some ⟨g,0,none⟩)->b.eval (.tmp d7)= .agg (U7 y)->R4 x y w'->w'.heap[g]?=some (.cells z7 t7 (0,0))->∃ w2,(execOp b.eval o13).run P w'= .ok .skip w2/\VP g (.cells (U7 y) t7 (0,0)) w' w2)
  (r14:∀ (b:Act) (w':World) (g:Nat),b.eval (.tmp d11)= .pointer (some ⟨g,0,none⟩)->b.eval (.tmp d8)= .agg C8->w'.heap[g]?=some (.cells z8 t8 (0,0))->∃ w2,(execOp b.eval o14).run P w'= .ok .skip w2/\VP g (.cells C8 t8 (0,0)) w' w2)
  (hK:∀ (w':World) (x y u v:Value) (g6 g7 g8:Nat),Below w.heap.size w w'->R4 x y w'->w.heap.size<=g6->w.heap.size<=g7->w.heap.size<=g8->w'.heap[g6]?=some (.cells (U6 x) t6 (0,0))->w'.heap[g7]?=some (.cells (U7 y) t7 (0,0))->w'.heap[g8]?=some (.cells C8 t8 (0,0)) ->
   Q .normal ((((((((((((a0.put (some d0) s0).put (some d1) u).put (some d2) p0).put (some d3) v).put (some d4) (T x y)).put (some d5) (T x y)).put (some d6) (.agg (U6 x))).put (some d7) (.agg (U7 y))).put (some d8) (.agg C8)).put (some d9) (.pointer (some ⟨g6,0,none⟩))).put (some d10) (.pointer (some ⟨g7,0,none⟩))).put (some d11) (.pointer (some ⟨g8,0,none⟩))) w')
  (hT:∀ (x y x' y':Value),T x y=T x' y'->x=x'/\y=y'):
  (Code.region id #[o0,o1,o2,o3,o4,o5,o6,o7,o8,o9,o10,o11,o12,o13,o14] true).wp P Q a0 w:=by
 simp only[List.map_cons,List.map_nil,List.replicate,List.cons.injEq,and_true]at hgd hds;obtain⟨g0,g1,g2,g3,g4,g5,g6,g7,g8,g9,g10,g11,g12,g13,g14⟩:=hgd;obtain⟨e0,e1,e2,e3,e4,e5,e6,e7,e8,e9,e10,e11,e12,e13,e14⟩:=hds;simp only[List.all_cons,List.all_nil,Bool.and_true,Bool.and_eq_true]at hdp;obtain⟨q1,q3a,q3b,q4a,q4b,q5,q6,q7,q8,K,ad,af,N,ag,ah,O,ai,aj⟩:=hdp;refine zcd hm hB (fun L a w'=>(∃ X,Yy a0 [d0,d1,d2,d3,d4,d5,d6,d7,d8,d9,d10,d11] X a/\D3 w R1 R3 R4 T U6 U7 C8 z6 z7 z8 t6 t7 t8 s0 p0 L X w')/\(L 12=true->L 9=true)/\(L 13=true->L 10=true)/\(L 14=true->L 11=true)) ?_ ?_ ?_
 ·exact⟨⟨fun _=>none,Yy.init _ _,⟨fun _ _=>rfl,(Below.refl _ _).drew,fun _ h=>(by cases h),fun _ h=>(by cases h),fun _ h=>(by cases h),fun _ h=>(by cases h),fun _ h=>(by cases h),fun _ h=>(by cases h),fun _ h=>(by cases h),fun _ h=>(by cases h),fun _ h=>(by cases h),fun _ h=>(by cases h),fun _ h=>(by cases h),fun _ h=>(by cases h)⟩⟩,fun h=>(by cases h),fun h=>(by cases h),fun h=>(by cases h)⟩
 ·rintro L a w' i o ⟨⟨X,I,l⟩,Z,aa,ab⟩ ho m f;have s:∀ j,j<12->L j=true->∃ v,X j=some v:=fun j D h=>Option.isSome_iff_exists.1 (by rw[← l.li j D];exact h);have B:∀ j,j<12->L j=false->X j=none:=fun j D h=>by have:=l.li j D;rw[h]at this;simpa using this.symm
  have q:∀ j d v,[d0,d1,d2,d3,d4,d5,d6,d7,d8,d9,d10,d11][j]?=some d->X j=some v->a.eval (.tmp d)=v:=fun j d v h1 h2=>I.at' j d v h1 h2;have H:∀ t,t ∉ [d0,d1,d2,d3,d4,d5,d6,d7,d8,d9,d10,d11]->a.eval (.tmp t)=a0.eval (.tmp t):=fun t ht=>I.no t fun j D=>absurd (List.mem_of_getElem? D) ht;have M:((12 ==i || L 12)=true->(9 ==i || L 9)=true)/\((13 ==i || L 13)=true->(10 ==i || L 10)=true)/\((14 ==i || L 14)=true->(11 ==i || L 11)=true):=by
   refine⟨fun h=>?_,fun h=>?_,fun h=>?_⟩
   ·rcases (Bool.or_eq_true _ _).mp h with h | h
    ·rw[f 9 (by rw[← (beq_iff_eq.1 h)];exact K),Bool.or_true]
    ·rw[Z h,Bool.or_true]
   ·rcases (Bool.or_eq_true _ _).mp h with h | h
    ·rw[f 10 (by rw[← (beq_iff_eq.1 h)];exact N),Bool.or_true]
    ·rw[aa h,Bool.or_true]
   ·rcases (Bool.or_eq_true _ _).mp h with h | h
    ·rw[f 11 (by rw[← (beq_iff_eq.1 h)];exact O),Bool.or_true]
    ·rw[ab h,Bool.or_true]
  have z:∀ {d:Tmp} {oj:Oper} {v:Value} {w2:World},[d0,d1,d2,d3,d4,d5,d6,d7,d8,d9,d10,d11][i]?=some d->oj.dst=some d->D3 w R1 R3 R4 T U6 U7 C8 z6 z7 z8 t6 t7 t8 s0 p0 (fun k=>k ==i || L k) (Wv X i v) w2->(∃ X,Yy a0 [d0,d1,d2,d3,d4,d5,d6,d7,d8,d9,d10,d11] X (a.put oj.dst v)/\D3 w R1 R3 R4 T U6 U7 C8 z6 z7 z8 t6 t7 t8 s0 p0 (fun k=>k ==i || L k) X w2)/\((12 ==i || L 12)=true->(9 ==i || L 9)=true)/\((13 ==i || L 13)=true->(10 ==i || L 10)=true)/\((14 ==i || L 14)=true->(11 ==i || L 11)=true):=fun D hdd h=>⟨⟨_,by rw[hdd];exact I.put hn hs D _,h⟩,M⟩;have S:∀ {w2:World},Below w'.heap.size w' w2->D3 w R1 R3 R4 T U6 U7 C8 z6 z7 z8 t6 t7 t8 s0 p0 L X w2:=fun hb=>l.next hb (fun v h=>k1 v _ _ h hb) (fun v h=>k3 v _ _ h hb) (fun x y h=>k4 x y _ _ h hb);have al:∀ ob:Obj,Below w'.heap.size w' (w'.alloc ob):=fun ob=>(Below.refl _ _).alloc (Nat.le_refl _) ob;have an:∀ ob:Obj,(w'.alloc ob).heap[w'.heap.size]?=some ob:=fun ob=>by show (w'.heap.push ob)[w'.heap.size]?=_;simp
  have U:∀ x y,X 4=some (T x y)->R4 x y w':=fun x y h=>by
   obtain⟨x',y',e,r⟩:=l.j4 _ h;obtain⟨rfl,rfl⟩:=hT _ _ _ _ e;exact r
  have hi:i<15:=(Array.getElem?_eq_some_iff.1 ho).1;obtain rfl | rfl | rfl | rfl | rfl | rfl | rfl | rfl | rfl | rfl | rfl | rfl | rfl | rfl | rfl:i=0∨i=1∨i=2∨i=3∨i=4∨i=5∨i=6∨i=7∨i=8∨i=9∨i=10∨i=11∨i=12∨i=13∨i=14:=by omega
  ·exact JK rfl g0 (VQ (r0 _ _ l.bel (H tA hA)) (z rfl e0 (l.add 0 (by decide) (B 0 (by decide) m) s0 (f0:=fun _=>rfl))))
  ·obtain⟨u,n⟩:=s 0 (by decide) (f 0 q1);obtain rfl:=l.j0 u n;exact JK rfl g1 (Pu (R:=fun v w2=>R1 v w2/\Below w'.heap.size w' w2) (r1 _ _ (q 0 d0 _ rfl n)) (c1 w' l.bel) fun v w2 F=>z rfl e1 ((S F.2).add 1 (by decide) (B 1 (by decide) m) v (f1:=fun _=>F.1)))
  ·exact JK rfl g2 (VQ (r2 _ _ l.bel (H tB hBB)) (z rfl e2 (l.add 2 (by decide) (B 2 (by decide) m) p0 (f2:=fun _=>rfl))))
  ·obtain⟨u,n⟩:=s 2 (by decide) (f 2 q3a);obtain rfl:=l.j2 u n;exact JK rfl g3 (Pu (R:=fun v w2=>R3 v w2/\Below w'.heap.size w' w2) (r3 _ _ (q 2 d2 _ rfl n)) (c3 w' l.bel) fun v w2 F=>z rfl e3 ((S F.2).add 3 (by decide) (B 3 (by decide) m) v (f3:=fun _=>F.1)))
  ·obtain⟨u,n⟩:=s 1 (by decide) (f 1 q4a);obtain⟨v,E⟩:=s 3 (by decide) (f 3 q4b);exact JK rfl g4 (Pu (R:=fun r w2=>(∃ x y,r=T x y/\R4 x y w2)/\Below w'.heap.size w' w2) (r4 _ _ u v (q 1 d1 _ rfl n) (q 3 d3 _ rfl E)) (c4 w' u v l.bel (l.j1 u n m) (l.j3 v E m)) fun r w2 F=>z rfl e4 ((S F.2).add 4 (by decide) (B 4 (by decide) m) r (f4:=fun _=>F.1)))
  ·obtain⟨u,n⟩:=s 4 (by decide) (f 4 q5);exact JK rfl g5 (VQ (r5 _ _) (z rfl e5 (l.add 5 (by decide) (B 5 (by decide) m) _ (f5:=fun _=>by rw[q 4 d4 _ rfl n];exact n))))
  ·obtain⟨u,n⟩:=s 5 (by decide) (f 5 q6);have A:=l.j5 u n;obtain⟨x,y,rfl,-⟩:=l.j4 u A;exact JK rfl g6 (VQ (r6 _ _ x y (q 5 d5 _ rfl n)) (z rfl e6 (l.add 6 (by decide) (B 6 (by decide) m) _ (f6:=fun _=>⟨x,y,A,rfl⟩))))
  ·obtain⟨u,n⟩:=s 5 (by decide) (f 5 q7);have A:=l.j5 u n;obtain⟨x,y,rfl,-⟩:=l.j4 u A;exact JK rfl g7 (VQ (r7 _ _ x y (q 5 d5 _ rfl n)) (z rfl e7 (l.add 7 (by decide) (B 7 (by decide) m) _ (f7:=fun _=>⟨x,y,A,rfl⟩))))
  ·obtain⟨u,n⟩:=s 5 (by decide) (f 5 q8);have A:=l.j5 u n;obtain⟨x,y,rfl,-⟩:=l.j4 u A;exact JK rfl g8 (VQ (r8 _ _ x y (q 5 d5 _ rfl n)) (z rfl e8 (l.add 8 (by decide) (B 8 (by decide) m) _ (f8:=fun _=>rfl))))
  ·exact JK rfl g9 (VQ (r9 _ _) (z rfl e9 ((S (al _)).add 9 (by decide) (B 9 (by decide) m) _ (f9:=fun _=>⟨Ps Z m,_,rfl,l.bel.size,an _⟩))))
  ·exact JK rfl g10 (VQ (r10 _ _) (z rfl e10 ((S (al _)).add 10 (by decide) (B 10 (by decide) m) _ (f10:=fun _=>⟨Ps aa m,_,rfl,l.bel.size,an _⟩))))
  ·exact JK rfl g11 (VQ (r11 _ _) (z rfl e11 ((S (al _)).add 11 (by decide) (B 11 (by decide) m) _ (f11:=fun _=>⟨Ps ab m,_,rfl,l.bel.size,an _⟩))))
  ·obtain⟨u,n⟩:=s 9 (by decide) (f 9 K);obtain⟨v,E⟩:=s 6 (by decide) (f 6 ad);obtain⟨g,cs,rfl,V,C,Y,-⟩:=l.j9 u n;obtain rfl:=Y m;obtain⟨x,y,A,rfl⟩:=l.j6 v E;obtain⟨w2,W,J⟩:=r12 _ w' g x y (q 9 d9 _ rfl n) (q 6 d6 _ rfl E) (U x y A) C;exact JK rfl g12 (Pt e12 W ⟨⟨X,I,l.st 12 (by decide) (f 4 af) C V J (fun x y h=>p4 x y w' w2 g _ _ t6 h C (.inl rfl) J) (.inr ⟨rfl,rfl,n,x,y,A,rfl⟩) (.inl ⟨by decide,ht1⟩) (.inl ⟨by decide,ht2⟩)⟩,M⟩)
  ·obtain⟨u,n⟩:=s 10 (by decide) (f 10 N);obtain⟨v,E⟩:=s 7 (by decide) (f 7 ag);obtain⟨g,cs,rfl,V,C,Y,-⟩:=l.j10 u n;obtain rfl:=Y m;obtain⟨x,y,A,rfl⟩:=l.j7 v E;obtain⟨w2,W,J⟩:=r13 _ w' g x y (q 10 d10 _ rfl n) (q 7 d7 _ rfl E) (U x y A) C;exact JK rfl g13 (Pt e13 W ⟨⟨X,I,l.st 13 (by decide) (f 4 ah) C V J (fun x y h=>p4 x y w' w2 g _ _ t7 h C (.inr (.inl rfl)) J) (.inl ⟨by decide,ht1.symm⟩) (.inr ⟨rfl,rfl,n,x,y,A,rfl⟩) (.inl ⟨by decide,ht3⟩)⟩,M⟩)
  ·obtain⟨u,n⟩:=s 11 (by decide) (f 11 O);obtain⟨v,E⟩:=s 8 (by decide) (f 8 ai);obtain⟨g,cs,rfl,V,C,Y,-⟩:=l.j11 u n;obtain rfl:=Y m;obtain rfl:=l.j8 v E;obtain⟨w2,W,J⟩:=r14 _ w' g (q 11 d11 _ rfl n) (q 8 d8 _ rfl E) C;exact JK rfl g14 (Pt e14 W ⟨⟨X,I,l.st 14 (by decide) (f 4 aj) C V J (fun x y h=>p4 x y w' w2 g _ _ t8 h C (.inr (.inr rfl)) J) (.inl ⟨by decide,ht2.symm⟩) (.inl ⟨by decide,ht3.symm⟩) (.inr ⟨rfl,rfl,n,rfl⟩)⟩,M⟩)
 ·rintro L a w' ⟨⟨X,I,l⟩,-⟩ hL;have s:∀ j,j<12->∃ v,X j=some v:=fun j D=>Option.isSome_iff_exists.1 (by rw[← l.li j D];exact hL j (by show j<15;omega));obtain⟨v0,x0⟩:=s 0 (by decide);obtain⟨v1,x1⟩:=s 1 (by decide);obtain⟨v2,x2⟩:=s 2 (by decide);obtain⟨v3,x3⟩:=s 3 (by decide);obtain⟨v4,x4⟩:=s 4 (by decide);obtain⟨v5,x5⟩:=s 5 (by decide);obtain⟨v6,x6⟩:=s 6 (by decide);obtain⟨v7,x7⟩:=s 7 (by decide);obtain⟨v8,x8⟩:=s 8 (by decide);obtain⟨v9,x9⟩:=s 9 (by decide);obtain⟨v10,ak⟩:=s 10 (by decide);obtain⟨v11,am⟩:=s 11 (by decide);obtain rfl:=l.j0 _ x0;obtain rfl:=l.j2 _ x2;obtain⟨x,y,rfl,F⟩:=l.j4 _ x4;have e5:v5=T x y:=by have:=l.j5 _ x5;rw[x4]at this;injection this with this;exact this.symm
  subst e5;have G:∀ x' y',X 4=some (T x' y')->x'=x/\y'=y:=fun x' y' h=>by rw[x4]at h;injection h with h;exact (fun p=>⟨p.1.symm,p.2.symm⟩) (hT _ _ _ _ h)
  obtain⟨x',y',h,rfl⟩:=l.j6 _ x6;obtain⟨rfl,rfl⟩:=G _ _ h;obtain⟨x',y',h',rfl⟩:=l.j7 _ x7;obtain⟨rfl,rfl⟩:=G _ _ h';obtain rfl:=l.j8 _ x8;obtain⟨g6',cs6,rfl,hg6,hc6,-,hz6⟩:=l.j9 _ x9;obtain⟨g7',cs7,rfl,hg7,hc7,-,hz7⟩:=l.j10 _ ak;obtain⟨g8',cs8,rfl,hg8,hc8,-,hz8⟩:=l.j11 _ am;obtain⟨x',y',h6,rfl⟩:=hz6 (hL 12 (by show 12<15;decide));obtain⟨rfl,rfl⟩:=G _ _ h6;obtain⟨x',y',h7,rfl⟩:=hz7 (hL 13 (by show 13<15;decide));obtain⟨rfl,rfl⟩:=G _ _ h7;obtain rfl:=hz8 (hL 14 (by show 14<15;decide));have hk:=hK w' _ _ v1 v3 g6' g7' g8' l.bel F hg6 hg7 hg8 hc6 hc7 hc8;refine Eq.mpr (congrArg (fun a=>Q .normal a w') (I.uniq (((((((((((((Yy.init a0 [d0,d1,d2,d3,d4,d5,d6,d7,d8,d9,d10,d11]).put hn hs (i:=0) rfl _).put hn hs (i:=1) rfl v1).put hn hs (i:=2) rfl _).put hn hs (i:=3) rfl v3).put hn hs (i:=4) rfl _).put hn hs (i:=5) rfl _).put hn hs (i:=6) rfl _).put hn hs (i:=7) rfl _).put hn hs (i:=8) rfl _).put hn hs (i:=9) rfl _).put hn hs (i:=10) rfl _).put hn hs (i:=11) rfl _) ?_)) hk;intro j D;obtain rfl | rfl | rfl | rfl | rfl | rfl | rfl | rfl | rfl | rfl | rfl | rfl:j=0∨j=1∨j=2∨j=3∨j=4∨j=5∨j=6∨j=7∨j=8∨j=9∨j=10∨j=11:=by simp only[List.length_cons,List.length_nil]at D;omega
  all_goals first | exact x0 | exact x1 | exact x2 | exact x3 | exact x4 | exact x5 | exact x6 | exact x7 | exact x8 | exact x9 | exact ak | exact am
end Go.Proofs.YtekpghcckdjnhaaGreatDoor
