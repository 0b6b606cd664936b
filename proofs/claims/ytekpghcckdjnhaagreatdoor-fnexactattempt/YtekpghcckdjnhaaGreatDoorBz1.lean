import Derived.Test.YtekpghcckdjnhaaGreatDoorRows
import Derived.BigQuiet
import Derived.Lib.SplitLaws
import Derived.Lib.TrimUEq
import Derived.Lib.ValidU
import Derived.Lib.RuneBytes
import Derived.Shelf.Strings.Builder1
import Derived.Laws.AppendOwnNone
import Derived.Shelf.Unicode.DecodeSlow
import Derived.Lib.OthersKept
import Derived.Shelf.Small.Wraps
import Derived.Room.AppendZeros
import Derived.Deep.SlicePairs
import Derived.ProofKit
set_option maxRecDepth 100000
set_option maxHeartbeats 8000000
namespace Go.Proofs.YtekpghcckdjnhaaGreatDoor
open Go.RowKit
abbrev Bs:=ByteArray
abbrev Wo:=World
abbrev Bw(w w':Wo):=Below w.heap.size w w'
abbrev Rk(v:Value)(w:Wo)(e:Ending)(w':Wo):Prop:=e= .returned v/\w=w'
abbrev Rb(v:Value)(w:Wo)(e:Ending)(w':Wo):Prop:=e= .returned v/\Bw w w'
theorem yd.{u}:type_of% @beq_eq_false_iff_ne.{u}:=@beq_eq_false_iff_ne
theorem ye:type_of% @Nat.le_refl:=@Nat.le_refl
theorem yf.{u}:type_of% @if_neg.{u}:=@if_neg
theorem yg.{u}:type_of% @if_pos.{u}:=@if_pos
theorem yh.{u}:type_of% @List.length_append.{u}:=@List.length_append
theorem yi.{u,v}:type_of% @List.map_cons.{u,v}:=@List.map_cons
theorem yj:type_of% @decide_eq_true:=@decide_eq_true
theorem yk:type_of% @decide_eq_false:=@decide_eq_false
theorem yl.{u,v}:type_of% @List.length_map.{u,v}:=@List.length_map
theorem ym.{u}:type_of% @List.length_take.{u}:=@List.length_take
theorem yn.{u}:type_of% @List.length_cons.{u}:=@List.length_cons
theorem yp.{u}:type_of% @List.mem_cons_self.{u}:=@List.mem_cons_self
theorem yq.{u}:type_of% @List.take_of_length_le.{u}:=@List.take_of_length_le
theorem yr.{u}:type_of% @List.getElem_mem.{u}:=@List.getElem_mem
theorem yt:type_of% @Nat.zero_le:=@Nat.zero_le
theorem yu.{u}:type_of% @List.length_drop.{u}:=@List.length_drop
theorem yv.{u}:type_of% @List.mem_cons_of_mem.{u}:=@List.mem_cons_of_mem
theorem yw.{u,v}:type_of% @List.map_append.{u,v}:=@List.map_append
theorem yx.{u}:type_of% @List.getElem?_eq_getElem.{u}:=@List.getElem?_eq_getElem
theorem yy.{u}:type_of% @List.take_succ_eq_append_getElem.{u}:=@List.take_succ_eq_append_getElem
theorem yz.{u,v}:type_of% @Option.map_eq_some_iff.{u,v}:=@Option.map_eq_some_iff
theorem yA.{u,v}:type_of% @Option.bind_some.{u,v}:=@Option.bind_some
theorem yB.{u}:type_of% @Array.getElem?_eq_some_iff.{u}:=@Array.getElem?_eq_some_iff
theorem yC.{u}:type_of% @beq_iff_eq.{u}:=@beq_iff_eq
theorem yD.{u}:type_of% @List.length_nil.{u}:=@List.length_nil
theorem yE:type_of% @Nat.lt_of_lt_of_le:=@Nat.lt_of_lt_of_le
theorem yF:type_of% @Lib.cell_of_heap:=@Lib.cell_of_heap
theorem yG:type_of% @heap_alloc_new:=@heap_alloc_new
theorem yH:type_of% @Below.refl:=@Below.refl
theorem yI:type_of% @Lib.frozen_of_heap:=@Lib.frozen_of_heap
theorem yJ:type_of% @World.block_lt_of_cell?:=@World.block_lt_of_cell?
theorem yK:type_of% @Lib.byteCells_length:=@Lib.byteCells_length
theorem yL.{u}:type_of% @List.sum_cons.{u}:=@List.sum_cons
theorem yN.{u}:type_of% @List.eq_nil_of_length_eq_zero.{u}:=@List.eq_nil_of_length_eq_zero
theorem yO.{u,v}:type_of% @List.mem_map.{u,v}:=@List.mem_map
theorem yP:type_of% @Nat.le_trans:=@Nat.le_trans
theorem yQ:type_of% @eq_false:=@eq_false
theorem yR.{u}:type_of% @List.length_singleton.{u}:=@List.length_singleton
theorem yS.{u}:type_of% @List.append_nil.{u}:=@List.append_nil
theorem yU.{u}:type_of% @List.take_length.{u}:=@List.take_length
theorem yX.{u}:type_of% @List.mem_iff_getElem.{u}:=@List.mem_iff_getElem
structure SS(w:Wo)(xa:Option Addr)(xb xo:Nat)(ss:List Bs):Prop where
 ad:0<ss.length->xa=some ⟨xb,xo,none⟩
 cell:∀ j,j<ss.length->w.cell? ⟨xb,xo+j,none⟩=some (.string (ss.getD j ByteArray.empty))
theorem SS.below{w w':Wo}{xa:Option Addr}{xb xo:Nat}{ss:List Bs}(h:SS w xa xb xo ss)(hb:Bw w w'):SS w' xa xb xo ss:=
 ⟨h.ad,fun j hj=>(hb.cell (p:=⟨xb,xo+j,none⟩) (yJ _ _ (h.cell j hj))).trans (h.cell j hj)⟩
theorem zh{w w1 w2:Wo}(h:Bw w w1)(k:Bw w1 w2):Bw w w2:=h.trans (k.mono h.size)
def qh(ss:List Bs):Nat:=(ss.map ByteArray.size).sum
theorem UM{ss:List Bs}{j:Nat}(hj:j<ss.length):ss.take (j+1)=ss.take j++[ss.getD j ByteArray.empty]:=by
 rw[List.take_add_one,yx hj];simp[List.getD,hj]
theorem RL(ss:List Bs)(s:Bs):qh (ss++[s])=qh ss+s.size:=by simp[qh]
theorem RM(ss:List Bs)(k:Nat):qh (ss.take k)<=qh ss:=by
 have h:qh ss=qh (ss.take k)+qh (ss.drop k):=by
  unfold qh;rw[← List.sum_append,← yw,List.take_append_drop]
 omega
def Xb(L:Nat)(ss:List Bs):Int:=if ss.length+qh ss<=L then (L:Int) - (ss.length+qh ss:Nat)else -1
theorem zb{p:Prop}(h:p):Hid p:=h
theorem uh{p:Prop}(h:Hid p):p:=h
theorem Jl{k:IntKind}{a b:Int}(h:a=b):Ending.returned (.int k a)= .returned (.int k b):=by rw[h]
theorem ZB{w w1:Wo}{B e size n:Nat}{v:Value}{xs:List Value}(h:w.ownsRow B e size v n xs)(hb:Bw w w1):w1.ownsRow B e size v n xs:=by
 refine⟨h.1,?_⟩;rcases h.2 with f |⟨g,a,b,j,i,d,r⟩
 ·exact .inl f
 ·exact .inr ⟨g,a,b,j,i,(hb.block g (yB.1 d).1).trans d,r⟩
theorem qT{w:Wo}{B B' e size n:Nat}{v:Value}{xs:List Value}(h:w.ownsRow B e size v n xs)(hB:B'<=B):w.ownsRow B' e size v n xs:=by
 refine⟨h.1,?_⟩;rcases h.2 with d |⟨g,a,b,i,f,r⟩
 ·exact .inl d
 ·exact .inr ⟨g,a,b,i,yP hB f,r⟩
structure Fr(bl:List Nat)(w w':Wo):Prop where
 os:w'.os=w.os
 tape:w'.tape=w.tape
 output:w'.output=w.output
 size:w.heap.size<=w'.heap.size
 block:∀ k,k<w.heap.size->k ∉ bl->w'.heap[k]?=w.heap[k]?
theorem Fr.refl(bl:List Nat)(w:Wo):Fr bl w w:=⟨rfl,rfl,rfl,ye _,fun _ _ _=>rfl⟩
theorem Fr.trans'{bl bl':List Nat}{a b c:Wo}(h:Fr bl a b)(k:Fr bl' b c)(hs:∀ i∈bl',i∈bl∨a.heap.size<=i):Fr bl a c:=
 ⟨k.os.trans h.os,k.tape.trans h.tape,k.output.trans h.output,yP h.size k.size,fun i hi hn=>
  (k.block i (yE hi h.size) (fun e=>by rcases hs i e with d | d;exact hn d;omega)).trans (h.block i hi hn)⟩
theorem Fr.trans{bl:List Nat}{a b c:Wo}(h:Fr bl a b)(k:Fr bl b c):Fr bl a c:=h.trans' k fun _=>.inl
theorem Fr.mono{bl bl':List Nat}{a b:Wo}(h:Fr bl a b)(hs:∀ i∈bl,i∈bl'):Fr bl' a b:=
 ⟨h.os,h.tape,h.output,h.size,fun i hi hn=>h.block i hi fun e=>hn (hs i e)⟩
theorem Fr.of_below{bl:List Nat}{w w':Wo}(h:Bw w w'):Fr bl w w':=⟨h.os,h.tape,h.output,h.size,fun k hk _=>h.block k hk⟩
theorem Fr.below{bl:List Nat}{B:Nat}{w w':Wo}(h:Fr bl w w')(hB:∀ b∈bl,B<=b)(hs:B<=w.heap.size):Below B w w':=
 ⟨h.os,h.tape,h.output,h.size,fun k hk=>h.block k (by omega) fun e=>by have:=hB k e;omega⟩
theorem Fr.set{bl:List Nat}{a w:Wo}(h:Fr bl a w){g:Nat}(hg:g∈bl)(j:Nat)(u:Value):Fr bl a (w.setCell ⟨g,j,none⟩ u):=
 h.trans ⟨rfl,rfl,rfl,by simp[World.setCell],fun k _ hn=>Below.heap_setCell _ _ _ _ fun e=>hn (e ▸ hg)⟩
theorem Fr.next{bl:List Nat}{a w w':Wo}(h:Fr bl a w)(hb:Bw w w'):Fr bl a w':=h.trans (.of_below hb)
theorem Fr.drew{bl:List Nat}{a w:Wo}(h:Fr bl a w):Fr bl a w.drew:=⟨h.os,h.tape,h.output,h.size,h.block⟩
def Kp(bl:List Nat)(w w':Wo):Prop:=∀ b∈bl,w'.heap[b]?=w.heap[b]?
theorem Kp.of_below{bl:List Nat}{w w':Wo}(h:Bw w w')(hl:∀ b∈bl,b<w.heap.size):Kp bl w w':=fun b hb=>h.block b (hl b hb)
theorem Fr.kp{bl bl':List Nat}{w w':Wo}(h:Fr bl w w')(hl:∀ b∈bl',b<w.heap.size)(hd:∀ b∈bl',b ∉ bl):Kp bl' w w':=fun b hb=>h.block b (hl b hb) (hd b hb)
theorem GW{w w':Wo}{B e size n:Nat}{v:Value}{xs:List Value}(h:w.ownsRow B e size v n xs)(hb:Kp v.ownBlock.toList w w'):w'.ownsRow B e size v n xs:=by
 refine⟨h.1,?_⟩;rcases h.2 with f |⟨g,a,b,d,i,j,r⟩
 ·exact .inl f
 ·refine .inr ⟨g,a,b,d,i,(hb g ?_).trans j,r⟩;rw[d];simp[Value.ownBlock]
structure QR (α:Type) where
 T:TypeId
 wd:Nat
 E:Wo->List Value->α->List Nat->Prop
 len:∀ {w vs x bl},E w vs x bl->vs.length=wd
 lt:∀ {w vs x bl},E w vs x bl->∀ b∈bl,b<w.heap.size
 keep:∀ {w w' vs x bl},E w vs x bl->Kp bl w w'->E w' vs x bl
def zk{α:Type}(e:QR α)(w:Wo)(v:Value)(xs:List α)(bl:List Nat):Prop:=
 ∃ ps:List (List Value×List Nat),ps.length=xs.length/\(∀ (j:Nat) (p:List Value×List Nat) (x:α),ps[j]?=some p->xs[j]?=some x->e.E w p.1 x p.2) /\
  w.ownsRow 0 e.T e.wd v xs.length (ps.flatMap (·.1))/\bl=v.ownBlock.toList++ps.flatMap (·.2)
theorem RN{ps:List (List Value×List Nat)}{wd:Nat}(h:∀ p∈ps,p.1.length=wd){j:Nat}{p:List Value×List Nat}(hj:ps[j]?=some p)(m:Nat)(hm:m<wd):(ps.flatMap (·.1))[j*wd+m]?=p.1[m]?:=by
 induction ps generalizing j with
 | nil=>simp at hj
 | cons q r ih=>
  have a:=h q yp;rw[List.flatMap_cons]
  cases j with
  | zero=>
   simp at hj;subst hj;rw[Nat.zero_mul,Nat.zero_add,List.getElem?_append_left (by omega)]
  | succ j=>
   have:=ih (fun p hp=>h p (yv _ hp)) (by simpa using hj);rw[List.getElem?_append_right (by rw[a,Nat.add_mul];omega),a,← this];congr 1;rw[Nat.add_mul];omega
theorem Xc{ps:List (List Value×List Nat)}{wd:Nat}(h:∀ p∈ps,p.1.length=wd):(ps.flatMap (·.1)).length=ps.length*wd:=by
 induction ps with
 | nil=>simp
 | cons q r ih=>
  rw[List.flatMap_cons,yh,ih (fun p hp=>h p (yv _ hp)),h q yp,yn,Nat.add_mul];omega
theorem C6{ps:List (List Value×List Nat)}{wd:Nat}(h:∀ p∈ps,p.1.length=wd){j:Nat}{p:List Value×List Nat}(hj:ps[j]?=some p)(m:Nat)(hm:m<wd)(u:Value)(bl:List Nat):
  (ps.set j (p.1.set m u,bl)).flatMap (·.1)=(ps.flatMap (·.1)).set (j*wd+m) u:=by
 induction ps generalizing j with
 | nil=>simp at hj
 | cons q r ih=>
  have a:=h q yp
  cases j with
  | zero=>
   simp at hj;subst hj;rw[List.set_cons_zero,List.flatMap_cons,List.flatMap_cons,Nat.zero_mul,Nat.zero_add,List.set_append_left _ _ (by omega)]
  | succ j=>
   have:=ih (fun p hp=>h p (yv _ hp)) (by simpa using hj);rw[List.set_cons_succ,List.flatMap_cons,List.flatMap_cons,this,List.set_append_right _ _ (by rw[a,Nat.add_mul];omega),a];congr 2;rw[Nat.add_mul];omega
theorem C7{ps:List (List Value×List Nat)}{j:Nat}{p:List Value×List Nat}(hj:ps[j]?=some p)(vs:List Value):
  (ps.set j (vs,p.2)).flatMap (·.2)=ps.flatMap (·.2):=by
 induction ps generalizing j with
 | nil=>simp at hj
 | cons q r ih=>
  cases j with
  | zero=>simp at hj;subst hj;rw[List.set_cons_zero,List.flatMap_cons,List.flatMap_cons]
  | succ j=>rw[List.set_cons_succ,List.flatMap_cons,List.flatMap_cons,ih (by simpa using hj)]
theorem RO{ps:List (List Value×List Nat)}(h:(ps.flatMap (·.2)).Nodup){j:Nat}{p:List Value×List Nat}(hj:ps[j]?=some p):p.2.Nodup:=by
 induction ps generalizing j with
 | nil=>simp at hj
 | cons q r ih=>
  rw[List.flatMap_cons,List.nodup_append]at h
  cases j with
  | zero=>simp at hj;subst hj;exact h.1
  | succ j=>exact ih h.2.1 (by simpa using hj)
theorem C9{ps:List (List Value×List Nat)}(h:(ps.flatMap (·.2)).Nodup){i j:Nat}{p q:List Value×List Nat}(hi:ps[i]?=some p)(hj:ps[j]?=some q)(hij:i≠j):∀ b∈p.2,b ∉ q.2:=by
 induction ps generalizing i j with
 | nil=>simp at hj
 | cons a r ih=>
  rw[List.flatMap_cons,List.nodup_append]at h
  cases i with
  | zero=>
   cases j with
   | zero=>omega
   | succ j=>
    simp at hi;subst hi;intro b d f;exact h.2.2 b d b (List.mem_flatMap.2 ⟨q,List.mem_of_getElem? (by simpa using hj),f⟩) rfl
  | succ i=>
   cases j with
   | zero=>
    simp at hj;subst hj;intro b d f;exact h.2.2 b f b (List.mem_flatMap.2 ⟨p,List.mem_of_getElem? (by simpa using hi),d⟩) rfl
   | succ j=>exact ih h.2.1 (by simpa using hi) (by simpa using hj) (by omega)
section
variable {α:Type} {e:QR α} {w w':Wo} {v:Value} {xs:List α} {bl:List Nat}
theorem GX{ps:List (List Value×List Nat)}(hl:ps.length=xs.length)(h:∀ (j:Nat) (p:List Value×List Nat) (x:α),ps[j]?=some p->xs[j]?=some x->e.E w p.1 x p.2):∀ p∈ps,p.1.length=e.wd:=by
 intro p b;obtain⟨j,a,rfl⟩:=yX.1 b;exact e.len (h j ps[j] (xs[j]'(by omega)) (yx a) (yx (by omega)))
theorem zk.nil(e:QR α)(w:Wo):zk e w (.slice none 0 0) [] []:=⟨[],rfl,fun _ _ _ h=>by simp at h,w.ownsRow_nil _ _ _,rfl⟩
theorem zk.lt(h:zk e w v xs bl):∀ b∈bl,b<w.heap.size:=by
 obtain⟨k,l,d,g,rfl⟩:=h;intro b a;rw[List.mem_append]at a;rcases a with a | a
 ·exact (g.lt b (by simpa using a)).2
 ·obtain⟨p,i,a⟩:=List.mem_flatMap.1 a;obtain⟨j,f,rfl⟩:=yX.1 i;exact e.lt (d j k[j] (xs[j]'(by omega)) (yx f) (yx (by omega))) b a
theorem zk.keep(h:zk e w v xs bl)(hk:Kp bl w w'):zk e w' v xs bl:=by
 obtain⟨g,d,a,f,rfl⟩:=h;refine⟨g,d,fun j p x hp hx=>e.keep (a j p x hp hx) fun b hb=>hk b ?_,GW f fun b hb=>hk b ?_,rfl⟩
 ·rw[List.mem_append];exact .inr (List.mem_flatMap.2 ⟨p,List.mem_of_getElem? hp,hb⟩)
 ·rw[List.mem_append];exact .inl hb
theorem zk.below(h:zk e w v xs bl)(hb:Bw w w'):zk e w' v xs bl:=h.keep (.of_below hb h.lt)
theorem zk.form(h:zk e w v xs bl):∃ a cap,v= .slice a xs.length cap/\(∀ g,a=some g->g=⟨g.block,0,none⟩/\g.block∈bl)/\(0<xs.length->∃ g,a=some ⟨g,0,none⟩):=by
 obtain⟨l,k,j,i,rfl⟩:=h;rcases i.2 with ⟨b,f⟩ |⟨g,cap,d,b,_⟩
 ·exact⟨none,0,by rw[b,f],fun g h=>(by cases h),fun h=>by omega⟩
 ·refine⟨some ⟨g,0,none⟩,cap,b,fun g h=>?_,fun _=>⟨g,rfl⟩⟩
  cases h;exact⟨rfl,by rw[b];simp[Value.ownBlock]⟩
theorem zk.at{g cap n:Nat}(h:zk e w (.slice (some ⟨g,0,none⟩) n cap) xs bl){j:Nat}{x:α}(hx:xs[j]?=some x):
  ∃ vs ib,e.E w vs x ib/\(∀ m u,vs[m]?=some u->w.cell? ⟨g,j*e.wd+m,none⟩=some u/\w.frozen? ⟨g,j*e.wd+m,none⟩=false)/\(∀ b∈ib,b∈bl)/\g∈bl/\(bl.Nodup->g ∉ ib/\ib.Nodup):=by
 obtain⟨d,A,r,l,rfl⟩:=h;have z:j<xs.length:=(List.getElem?_eq_some_iff.1 hx).1;have o:d[j]?=some d[j]:=yx (by omega);have a:=GX A r;have B:n=xs.length:=by
  rcases l.2 with ⟨p,D⟩ |⟨C,q,v,p,_⟩
  ·cases p
  ·injection p
 subst B;refine⟨d[j].1,d[j].2,r j _ x o hx,?_,?_,?_,?_⟩
 ·intro m u s;have k:m<e.wd:=by
   have:=(List.getElem?_eq_some_iff.1 s).1
   rwa [a _ (yr (by omega))]at this
  have i:j*e.wd+m<xs.length*e.wd:=by
   have:(j+1)*e.wd<=xs.length*e.wd:=Nat.mul_le_mul_right _ z;rw[Nat.add_mul]at this;omega
  refine⟨?_,l.frozenAt _⟩;rw[l.cellAt _ i,RN a o m k];exact s
 ·intro b y;rw[List.mem_append];exact .inr (List.mem_flatMap.2 ⟨_,yr (by omega),y⟩)
 ·simp[Value.ownBlock]
 ·intro f;rw[List.nodup_append]at f;refine⟨fun hg=>f.2.2 g (by simp[Value.ownBlock]) g (List.mem_flatMap.2 ⟨_,yr (by omega),hg⟩) rfl,?_⟩;exact RO f.2.1 o
theorem zk.put {g cap n:Nat} (h:zk e w (.slice (some ⟨g,0,none⟩) n cap) xs bl) (hd:bl.Nodup) {j:Nat} {x:α} (hx:xs[j]?=some x) (m:Nat) (hm:m<e.wd) (u:Value) (x':α)
  (hE:∀ w' vs ib,e.E w' vs x ib->e.E w' (vs.set m u) x' ib):zk e (w.setCell ⟨g,j*e.wd+m,none⟩ u) (.slice (some ⟨g,0,none⟩) n cap) (xs.set j x') bl:=by
 obtain⟨d,z,f,A,rfl⟩:=h;have G:j<xs.length:=(List.getElem?_eq_some_iff.1 hx).1;have k:d[j]?=some d[j]:=yx (by omega);have r:=GX z f;have D:n=xs.length:=by
  rcases A.2 with ⟨q,F⟩ |⟨E,s,B,q,_⟩
  ·cases q
  ·injection q
 subst D;rw[List.nodup_append]at hd;have C:∀ p∈d,g ∉ p.2:=fun p k hgp=>hd.2.2 g (by simp[Value.ownBlock]) g (List.mem_flatMap.2 ⟨p,k,hgp⟩) rfl;have v:∀ p∈d,Kp p.2 w (w.setCell ⟨g,j*e.wd+m,none⟩ u):=fun p k b hb=>Below.heap_setCell _ _ _ _ fun he=>C p k (by subst he;exact hb);refine⟨d.set j (d[j].1.set m u,d[j].2),by simp[z],?_,?_,?_⟩
 ·intro i p y a l;by_cases o:i=j
  ·subst o;rw[List.getElem?_set_self (by omega)]at a l
   cases a;cases l;exact hE _ _ _ (e.keep (f i _ x k hx) (v d[i] (yr _)))
  ·rw[List.getElem?_set_ne (by omega)]at a l;exact e.keep (f i p y a l) (v _ (List.mem_of_getElem? a))
 ·rw[List.length_set,C6 r k m hm u];exact (A.stored (j*e.wd+m) u).1
 ·rw[C7 k]
theorem zk.inner{g cap n:Nat}(h:zk e w (.slice (some ⟨g,0,none⟩) n cap) xs bl)(hd:bl.Nodup){j:Nat}{x:α}(hx:xs[j]?=some x):
  ∃ vs ib,e.E w vs x ib/\(∀ m u,vs[m]?=some u->w.cell? ⟨g,j*e.wd+m,none⟩=some u/\w.frozen? ⟨g,j*e.wd+m,none⟩=false)/\(∀ b∈ib,b∈bl)/\g∈bl/\ib.Nodup /\
   ∀ w' x',Fr ib w w'->e.E w' vs x' ib->zk e w' (.slice (some ⟨g,0,none⟩) n cap) (xs.set j x') bl:=by
 have f:=h.lt;obtain⟨l,F,A,v,rfl⟩:=h;have J:j<xs.length:=(List.getElem?_eq_some_iff.1 hx).1;have o:l[j]?=some l[j]:=yx (by omega);have s:=GX F A;have K:n=xs.length:=by
  rcases v.2 with ⟨D,M⟩ |⟨L,E,H,D,_⟩
  ·cases D
  ·injection D
 subst K;have d:=hd;rw[List.nodup_append]at d;have k:∀ p∈l,∀ b∈p.2,b∈(Value.slice (some ⟨g,0,none⟩) xs.length cap).ownBlock.toList++l.flatMap (·.2):=fun p o b hb=>by
  rw[List.mem_append];exact .inr (List.mem_flatMap.2 ⟨p,o,hb⟩)
 refine⟨l[j].1,l[j].2,A j _ x o hx,?_,k _ (yr _),?_,RO d.2.1 o,?_⟩
 ·intro m u G;have C:m<e.wd:=by
   have:=(List.getElem?_eq_some_iff.1 G).1
   rwa [s _ (yr (by omega))]at this
  have f:j*e.wd+m<xs.length*e.wd:=by
   have:(j+1)*e.wd<=xs.length*e.wd:=Nat.mul_le_mul_right _ J;rw[Nat.add_mul]at this;omega
  refine⟨?_,v.frozenAt _⟩;rw[v.cellAt _ f,RN s o m C];exact G
 ·simp[Value.ownBlock]
 ·intro w' x' q B;have I:g ∉ l[j].2:=fun hgp=>d.2.2 g (by simp[Value.ownBlock]) g (List.mem_flatMap.2 ⟨_,yr (by omega),hgp⟩) rfl;refine⟨l,by simp[F],?_,?_,rfl⟩
  ·intro i p y a z;by_cases r:i=j
   ·subst r;rw[List.getElem?_set_self (by omega)]at z;rw[o]at a
    cases a;cases z;exact B
   ·rw[List.getElem?_set_ne (by omega)]at z;exact e.keep (A i p y a z) (q.kp (fun b hb=>f b (k p (List.mem_of_getElem? a) b hb)) (C9 d.2.1 a o r))
  ·rw[List.length_set];exact GW v (q.kp (fun b hb=>f b (by rw[List.mem_append];exact .inl hb)) (fun b hb=>by simp[Value.ownBlock]at hb;rw[hb];exact I))
theorem zk.split(h:zk e w v xs bl):∃ cb,bl=v.ownBlock.toList++cb:=by
 obtain⟨a,_,_,_,rfl⟩:=h;exact⟨_,rfl⟩
end
structure WL (α:Type) where
 wd:Nat
 R:Wo->List Value->α->Prop
 len:∀ {w vs x},R w vs x->vs.length=wd
 keep:∀ {w w' vs x},R w vs x->Bw w w'->R w' vs x
def Je{α:Type}(e:WL α)(w:Wo)(v:Value)(xs:List α):Prop:=
 xs.length<=maxLen/\∃ a cap,v= .slice a xs.length cap/\∀ (j:Nat) (x:α),xs[j]?=some x->∃ b o,a=some ⟨b,o,none⟩/\∃ vs,e.R w vs x/\∀ (m:Nat) (u:Value),vs[m]?=some u->w.cell? ⟨b,o+(j*e.wd+m),none⟩=some u
theorem Je.below{α:Type}{e:WL α}{w w':Wo}{v:Value}{xs:List α}(h:Je e w v xs)(hb:Bw w w'):Je e w' v xs:=by
 obtain⟨k,a,d,l,h⟩:=h;refine⟨k,a,d,l,fun j x hx=>?_⟩;obtain⟨b,o,i,n,g,f⟩:=h j x hx;exact⟨b,o,i,n,e.keep g hb,fun m u hu=>(hb.cell (p:=⟨b,o+(j*e.wd+m),none⟩) (yJ _ _ (f m u hu))).trans (f m u hu)⟩
def GY:WL Bs:={wd:=1,R:=fun _ vs s=>vs=[.string s]/\s.size<=maxLen,len:=fun h=>by rw[h.1];rfl,keep:=fun h _=>h}
def YE:QR Bs:={T:=9,wd:=1,E:=fun _ vs s bl=>vs=[.string s]/\bl=[],len:=fun h=>by rw[h.1];rfl,lt:=fun h b hb=>by rw[h.2]at hb;simp at hb,keep:=fun h _=>h}
abbrev qy(w:Wo)(v:Value)(ss:List Bs)(bl:List Nat):Prop:=zk YE w v ss bl
theorem Y0{w:Wo}{v:Value}{ss:List Bs}{bl:List Nat}:qy w v ss bl↔w.ownsRow 0 9 1 v ss.length (ss.map .string)/\bl=v.ownBlock.toList:=by
 constructor
 ·rintro⟨m,k,h,b,rfl⟩;have g:m=ss.map fun s=>([.string s],[]):=by
   apply List.ext_getElem?;intro j;by_cases i:j<ss.length
   ·obtain⟨g,n⟩:=h j m[j] ss[j] (yx (by omega)) (yx i);rw[yx (by omega),List.getElem?_map,yx i];exact congrArg some (Prod.ext g n)
   ·rw[List.getElem?_eq_none (by omega),List.getElem?_eq_none (by rw[yl];omega)]
  subst g;have d:((ss.map fun s=>(([.string s],[]):List Value×List Nat)).flatMap (·.1))=ss.map .string:=by
   clear k h b;induction ss with
   | nil=>rfl
   | cons a r ih=>rw[yi,List.flatMap_cons,ih];rfl
  have f:((ss.map fun s=>(([.string s],[]):List Value×List Nat)).flatMap (·.2))=[]:=by
   clear k h b d;induction ss with
   | nil=>rfl
   | cons a r ih=>rw[yi,List.flatMap_cons,ih];rfl
  rw[d]at b;rw[f];exact⟨b,by simp⟩
 ·rintro⟨b,rfl⟩;refine⟨ss.map fun s=>([.string s],[]),by simp,?_,?_,?_⟩
  ·intro j p x l hx;rw[List.getElem?_map,hx]at l
   cases l;exact⟨rfl,rfl⟩
  ·have d:((ss.map fun s=>(([.string s],[]):List Value×List Nat)).flatMap (·.1))=ss.map .string:=by
    clear b;induction ss with
    | nil=>rfl
    | cons a r ih=>rw[yi,List.flatMap_cons,ih];rfl
   rw[d];exact b
  ·have f:((ss.map fun s=>(([.string s],[]):List Value×List Nat)).flatMap (·.2))=[]:=by
    clear b;induction ss with
    | nil=>rfl
    | cons a r ih=>rw[yi,List.flatMap_cons,ih];rfl
   rw[f];simp
theorem qy.ss{w:Wo}{v:Value}{ss:List Bs}{bl:List Nat}(h:qy w v ss bl):∃ a g cap,v= .slice a ss.length cap/\SS w a g 0 ss:=by
 obtain⟨d,_⟩:=Y0.1 h;rcases d.2 with ⟨b,i⟩ |⟨g,cap,f,b,k,l,_⟩
 ·exact⟨none,0,0,by rw[b,i],⟨fun h=>by omega,fun j hj=>by omega⟩⟩
 ·refine⟨some ⟨g,0,none⟩,g,cap,b,⟨fun _=>rfl,fun j hj=>?_⟩⟩;subst b;rw[Nat.zero_add,d.cellAt j (by omega)];simp[hj]
theorem RStr.ss{w:Wo}{v:Value}{ss:List Bs}(h:Je GY w v ss):∃ a b o cap,v= .slice a ss.length cap/\SS w a b o ss/\ss.length<=maxLen/\∀ j,(ss.getD j ByteArray.empty).size<=maxLen:=by
 obtain⟨m,a,cap,n,h⟩:=h;have g:∀ j,(ss.getD j ByteArray.empty).size<=maxLen:=by
  intro j;by_cases d:j<ss.length
  ·obtain⟨_,_,_,_,⟨_,i⟩,_⟩:=h j ss[j] (yx d);simpa [List.getD,d]using i
  ·simp[List.getD,d]
 by_cases k:0<ss.length
 ·obtain⟨b,o,l,_⟩:=h 0 ss[0] (yx k);refine⟨a,b,o,cap,n,⟨fun _=>l,fun j d=>?_⟩,m,g⟩;obtain⟨q,r,f,s,⟨i,_⟩,p⟩:=h j ss[j] (yx d);rw[l]at f;cases f;have:=p 0 (.string ss[j]) (by rw[i];rfl);simp[GY]at this;simpa [List.getD,d]using this
 ·exact⟨a,0,0,cap,n,⟨fun h=>absurd h k,fun j d=>by omega⟩,m,g⟩
theorem Ea(xa:Option Addr)(xb xo xc:Nat)(ss:List Bs)(L:Nat)(w:Wo)(h:SS w xa xb xo ss)(hL:L<=1048576)(hm:ss.length<=maxLen)(hws:∀ j,(ss.getD j ByteArray.empty).size<=maxLen):
  Calls Tryz.prog 79 #[.slice xa ss.length xc,.int .i64 L] w fun e w'=>e= .returned (.int .i64 (Xb L ss))/\w'=w:=by
 unfold maxLen at hm;have a:=h.ad;have o:=zb h.cell;have p:=zb hws;clear h hws;by_cases r:L<ss.length
 ·go_in;go_wp2;go_ret;refine⟨Jl ?_,rfl⟩;unfold Xb;rw[yf (by omega)]
 ·go_in;go_wp2;go_loop [1,5] (fun l i=>∃ k:Nat,k<=ss.length/\i= .int .i64 k/\ss.length+qh (ss.take k)<=L/\l= .int .i64 ((L:Int) - ss.length - qh (ss.take k))) (fun _ i=>ss.length - (intOf i).toNat)
  case atStart=>exact⟨0,yt _,rfl,by simp[qh];omega,by simp[qh]⟩
  case round=>
   obtain⟨k,v,rfl,b,rfl⟩:=hrel;by_cases d:k<ss.length
   ·have u:=uh o k d;have n:=uh p k;have m:=RL (ss.take k) (ss.getD k ByteArray.empty);rw[← UM d]at m;obtain rfl:=a (by omega);generalize ss.getD k ByteArray.empty=s at *;unfold maxLen at n;generalize qh (ss.take k)=T at *;generalize hT2:qh (ss.take (k+1))=q at *;have f:=zb hT2;clear hT2 a;have g:=zb m;clear m;by_cases x:ss.length+T+s.size<=L
    ·go_wp2;go_round
     case rel=>exact⟨k+1,by omega,by go_num,by rw[uh f,uh g];omega,by rw[uh f,uh g];go_num⟩
     case measure=>simp[intOf];omega
    ·go_wp2;go_ret;refine⟨Jl ?_,rfl⟩;have:=RM ss (k+1);unfold Xb;rw[yf (by rw[uh f,uh g]at this;omega)]
   ·go_wp2;go_ret;refine⟨Jl ?_,rfl⟩;have e:ss.take k=ss:=yq (by omega);rw[e]at b ⊢;unfold Xb;rw[yg b];omega
def Qa(L n:Nat):Int:=if n<=L then (L:Int) - n else -1
theorem Vt{L n:Nat}(h:n<=L):Qa L n=((L - n:Nat):Int):=by unfold Qa;rw[yg h];omega
theorem JC{L n:Nat}(h:¬ n<=L):Qa L n= -1:=by unfold Qa;rw[yf h]
theorem RP(L n:Nat): -1<=Qa L n:=by unfold Qa;split<;>omega
theorem RQ(L n:Nat):Qa L n<=L:=by unfold Qa;split<;>omega
def YF(ss:List Bs):Nat:=ss.length+qh ss
theorem Eb(v:Value)(ss:List Bs)(L:Nat)(w:Wo)(h:Je GY w v ss)(hL:L<=1048576):
  Calls Tryz.prog 79 #[v,.int .i64 L] w fun e w'=>e= .returned (.int .i64 (Qa L (YF ss)))/\Bw w w':=by
 obtain⟨a,b,o,d,rfl,g,f,i⟩:=RStr.ss h;refine (Ea a b o d ss L w g hL f i).mono ?_;rintro e w' ⟨rfl,rfl⟩;exact⟨rfl,yH _ _⟩
theorem zu(w:Wo)(o:Obj):Bw w (w.alloc o):=(yH _ _).alloc (ye _) o
theorem Xd{α:Type}{l:List α}(h:l.length=3):∃ a b c,l=[a,b,c]:=by
 match l,h with
 | [a,b,c],_=>exact⟨a,b,c,rfl⟩
theorem Xe{α:Type}{l:List α}(h:l.length=4):∃ a b c d,l=[a,b,c,d]:=by
 match l,h with
 | [a,b,c,d],_=>exact⟨a,b,c,d,rfl⟩
theorem V8(l:List Nat)(k:Nat):(l.take k).sum<=l.sum:=by
 have h:=List.take_append_drop k l;have:(l.take k++l.drop k).sum=l.sum:=by rw[h]
 rw[List.sum_append]at this;omega
theorem V9{α:Type}(f:α->Nat)(l:List α)(k:Nat)(x:α)(h:l[k]?=some x):((l.take (k+1)).map f).sum=((l.take k).map f).sum+f x:=by
 rw[List.take_add_one,h];simp
theorem F5:(Tryz.prog.info? 9).map (fun i=>(i.zero,i.size,i.bytes))=some (some (.string ByteArray.empty),1,16):=by kernel_rfl
theorem Ec(xa ya:Option Addr)(xb xo xc yb yo yc:Nat)(ss:List Bs)(w:Wo)(hx:SS w xa xb xo ss)(hy:SS w ya yb yo ss)(hm:ss.length<=9223372036854775807):
  Calls Tryz.prog 106 #[.slice xa ss.length xc,.slice ya ss.length yc] w fun e w'=>e= .returned (.bool true)/\∃ n,w'=w.drewN n:=by
 have a:=hx.ad;have b:=hy.ad;have j:=zb hx.cell;have l:=zb hy.cell;clear hx hy;go_in;go_wp2;go_loopw [5] (fun i wr=>∃ k:Nat,k<=ss.length/\i= .int .i64 k/\∃ n,wr=w.drewN n) (fun i _=>ss.length - (intOf i).toNat)
 case atStart=>exact⟨0,yt _,rfl,0,rfl⟩
 case round=>
  obtain⟨k,p,rfl,n,rfl⟩:=hrel;by_cases d:k<ss.length
  ·have f:=uh j k d;have g:=uh l k d;obtain rfl:=a (by omega);obtain rfl:=b (by omega);clear a b;generalize ss.getD k ByteArray.empty=s at *;have h:(k:Int)<(ss.length:Int):=by omega
   have m:(w.drewN n).cell? ⟨xb,xo+k,none⟩=some (.string s):=f;have o:(w.drewN n).cell? ⟨yb,yo+k,none⟩=some (.string s):=g;go_wp2;go_quiet (fail);go_wp2;go_roundw
   case rel=>exact⟨k+1,by omega,by go_num,_,by first | rfl |(simp[World.drewN_drewN])⟩
   case measure=>simp[intOf];omega
  ·clear a b;go_wp2;go_ret;exact⟨rfl,_,rfl⟩
def QI(c:UInt8):List UInt8:=if c.toNat=126 then [126,48]else if c.toNat=47 then [126,49]else [c]
def Zq(l:List UInt8):List UInt8:=l.flatMap QI
def qI(ss:List Bs):List UInt8:=ss.flatMap (fun s=>47 :: Zq s.data.toList)
theorem Ed(c:UInt8):(QI c).length<=2:=by unfold QI;split<;>(try split)<;>simp
theorem F6(l:List UInt8):(Zq l).length<=2*l.length:=by
 induction l with
 | nil=>simp[Zq]
 | cons c l ih=>have:=Ed c;simp only[Zq,List.flatMap_cons,yh,yn]at *;omega
theorem RS(l:List UInt8)(c:UInt8):Zq (l++[c])=Zq l++QI c:=by simp[Zq]
theorem RT(ss:List Bs)(s:Bs):qI (ss++[s])=qI ss++47 :: Zq s.data.toList:=by simp[qI]
theorem Zn(s:Bs):s.data.toList.length=s.size:=Array.length_toList
theorem RU(ss:List Bs):(qI ss).length<=ss.length+2*qh ss:=by
 induction ss with
 | nil=>simp[qI,qh]
 | cons s ss ih=>
  have:=F6 s.data.toList;have e:=Zn s;simp only[qI,qh,List.flatMap_cons,yh,yn,yi,yL]at *;omega
theorem WM(s:Bs)(k:Nat)(h:k<s.size):s.data.toList.take (k+1)=s.data.toList.take k++[s[k]]:=by
 rw[yy (by simpa using h)];rfl
theorem Xf(s:Bs):s.data.toList.take s.size=s.data.toList:=yq (Nat.le_of_eq (Zn s))
theorem Xg{ss:List Bs}{j:Nat}(hj:j<ss.length):qh (ss.take j)+(ss.getD j ByteArray.empty).size<=qh ss:=by
 have:=RM ss (j+1);rw[UM hj,RL]at this;exact this
theorem F7{c:UInt8}(h:(c.toNat:Int)=126):QI c=[126,48]:=by unfold QI;rw[yg (by omega)]
theorem F8{c:UInt8}(h:(c.toNat:Int)=47):QI c=[126,49]:=by unfold QI;rw[yf (by omega),yg (by omega)]
theorem UN{c:UInt8}(h:¬ (c.toNat:Int)=126)(h':¬ (c.toNat:Int)=47):QI c=[c]:=by unfold QI;rw[yf (by omega),yf (by omega)]
def zJ:List UInt8->Option (List UInt8)
 | []=>some []
 | c :: r=>
  if c.toNat=126 then
   match r with
   | []=>none
   | d :: r'=>if d.toNat=48 then (zJ r').map (126 :: ·)else if d.toNat=49 then (zJ r').map (47 :: ·)else none
  else (zJ r).map (c :: ·)
theorem WN{c:UInt8}(r:List UInt8)(h:¬ (c.toNat:Int)=126):zJ (c :: r)=(zJ r).map ([c]++·):=by
 rw[zJ.eq_def];simp only;rw[yf (by omega)];rfl
theorem UO{c:UInt8}(h:(c.toNat:Int)=126):zJ [c]=none:=by
 rw[zJ.eq_def];simp only;rw[yg (by omega)]
theorem WO{c d:UInt8}(r:List UInt8)(h:(c.toNat:Int)=126)(h':(d.toNat:Int)=48):zJ (c :: d :: r)=(zJ r).map ([126]++·):=by
 rw[zJ.eq_def];simp only;rw[yg (by omega),yg (by omega)];rfl
theorem WP{c d:UInt8}(r:List UInt8)(h:(c.toNat:Int)=126)(h':(d.toNat:Int)=49):zJ (c :: d :: r)=(zJ r).map ([47]++·):=by
 rw[zJ.eq_def];simp only;rw[yg (by omega),yf (by omega),yg (by omega)];rfl
theorem UP{c d:UInt8}(r:List UInt8)(h:(c.toNat:Int)=126)(h':¬ (d.toNat:Int)=48)(h'':¬ (d.toNat:Int)=49):zJ (c :: d :: r)=none:=by
 rw[zJ.eq_def];simp only;rw[yg (by omega),yf (by omega),yf (by omega)]
def Jf(l:List UInt8)(j:Nat)(acc:List UInt8):Prop:=zJ l=(zJ (l.drop j)).map (acc++·)
theorem Jf.start(l:List UInt8):Jf l 0 []:=by simp[Jf]
theorem Jf.step{l:List UInt8}{j k:Nat}{acc m:List UInt8}(h:Jf l j acc)(hs:zJ (l.drop j)=(zJ (l.drop k)).map (m++·)):Jf l k (acc++m):=by
 unfold Jf at *;rw[h,hs,Option.map_map];congr 1;funext x;simp
theorem Jf.bad{l:List UInt8}{j:Nat}{acc:List UInt8}(h:Jf l j acc)(hs:zJ (l.drop j)=none):zJ l=none:=by
 unfold Jf at h;rw[h,hs];rfl
theorem Jf.fin{l:List UInt8}{j:Nat}{acc:List UInt8}(h:Jf l j acc)(hj:l.length<=j):zJ l=some acc:=by
 unfold Jf at h;rw[h,List.drop_eq_nil_of_le hj];simp[zJ]
theorem Qn(s:Bs)(j:Nat)(h:j<s.size):s.data.toList.drop j=s[j] :: s.data.toList.drop (j+1):=by
 rw[List.drop_eq_getElem_cons (by rw[Zn];exact h)];rfl
theorem WQ(s:Bs)(j:Nat)(h:¬ j<s.size):s.data.toList.drop j=[]:=List.drop_eq_nil_of_le (by rw[Zn];omega)
def Xh(o:Option (List UInt8)):Value:=.tuple #[.string ⟨(o.getD []).toArray⟩,.bool o.isSome]
def ZH:List UInt8->List (List UInt8)
 | []=>[[]]
 | c :: r=>if c.toNat=47 then [] :: ZH r else (match ZH r with | []=>[[c]] | p :: ps=>(c :: p) :: ps)
theorem Ga(l:List UInt8):ZH l≠[]:=by
 cases l with
 | nil=>simp[ZH]
 | cons c r=>
  rw[ZH];split
  ·simp
  ·split<;>simp
theorem Gb{c:UInt8}(r:List UInt8)(h:c.toNat=47):ZH (c :: r)=[] :: ZH r:=by rw[ZH,yg h]
theorem Y1{c:UInt8}{r p:List UInt8}{ps:List (List UInt8)}(h:¬ c.toNat=47)(hr:ZH r=p :: ps):ZH (c :: r)=(c :: p) :: ps:=by rw[ZH,yf h,hr]
theorem RV:∀ l:List UInt8,Lib.splitK [47] 0 (Lib.count l [47]) l=ZH l
 | []=>by rw[Lib.count_miss (by simp[Lib.index])];rfl
 | c :: r=>by
  have ih:=RV r;by_cases h:c=47
  ·subst h;have a:Lib.index (47 :: r) [47]=((0:Nat):Int):=by rw[Lib.index];simp[List.isPrefixOf]
   rw[Lib.count_cons_eq,Nat.add_comm,Lib.splitK,a];rw[Gb r (by decide),← ih];simp
  ·have k:([47]:List UInt8).isPrefixOf (c :: r)=false:=by simp[List.isPrefixOf,Ne.symm h]
   have a:Lib.index (c :: r) [47]=if Lib.index r [47] == -1 then -1 else Lib.index r [47]+1:=by rw[Lib.index,k];simp
   have g:¬ c.toNat=47:=fun e=>h (by have:=UInt8.ofNat_toNat (x:=c);rw[e]at this;exact this.symm);rw[Lib.count_cons_ne c 47 r h];by_cases f:Lib.index r [47]= -1
   ·rw[Lib.count_miss f]at ih ⊢;rw[Lib.splitK]at ih ⊢;rw[Y1 g ih.symm]
   ·have i:=Lib.index_ge r [47];obtain⟨j,d⟩:∃ j:Nat,Lib.index r [47]=j:=⟨(Lib.index r [47]).toNat,by omega⟩;have b:Lib.index (c :: r) [47]=((j+1:Nat):Int):=by rw[a,yf (fun e=>f (yC.1 e)),d];omega
    rw[Lib.count_hit (by simp) d,Nat.add_comm]at ih ⊢;rw[Lib.splitK,d]at ih;rw[Lib.splitK,b];rw[yf (fun e=>by have:=yC.1 e;omega)]at ih ⊢;simp only[Int.toNat_natCast,Nat.add_zero]at ih ⊢;rw[Y1 g ih.symm];simp
theorem Ee(s:Bs):(Lib.splitB ⟨#[47]⟩ 0 (Lib.countB s ⟨#[47]⟩) s).map (·.data.toList)=ZH s.data.toList:=by
 rw[Lib.splitB_data];exact RV _
def QB(l:List UInt8):Option (List (List UInt8)):=(ZH l).mapM zJ
def zG:List UInt8->Option (List (List UInt8))
 | []=>some []
 | c :: r=>if c.toNat=47 then QB r else none
end Go.Proofs.YtekpghcckdjnhaaGreatDoor
namespace Go.Proofs.YtekpghcckdjnhaaGreatDoor
open Go.RowKit Go.Lib
def bt(s:Bs)(i:Nat):Nat:=(s.data.toList.getD i 0).toNat
theorem Z7(s:Bs)(i:Nat):bt s i<256:=UInt8.toNat_lt _
theorem Zr(s:Bs)(i:Nat)(h:i<s.size):bt s i=s[i].toNat:=by
 unfold bt;have:s.data.toList[i]?=some s[i]:=by rw[yx (by rw[Zn];exact h)];rfl
 rw[List.getD_eq_getElem?_getD,this];rfl
theorem Yk(s:Bs)(i:Nat):Utf8.decode s i=decodeN (s.size - i) (bt s i) (bt s (i+1)) (bt s (i+2)) (bt s (i+3)):=by
 rw[decode_N,Zn];rfl
def Q6(n b0 b1 b2 b3:Nat):Nat:=if b0<128 then 1 else if (decodeN n b0 b1 b2 b3).2=1 then 0 else (decodeN n b0 b1 b2 b3).2
def rl(s:Bs)(i:Nat):Nat:=Q6 (s.size - i) (bt s i) (bt s (i+1)) (bt s (i+2)) (bt s (i+3))
theorem Xi{n b0 b1 b2 b3:Nat}(h:b0<128):Q6 n b0 b1 b2 b3=1:=by simp[Q6,h]
theorem Oa{n b0 b1 b2 b3:Nat}(h:128<=b0)(h':b0<192):Q6 n b0 b1 b2 b3=0:=by
 unfold Q6 decodeN;rw[yf (by omega)]
 repeat' split
 all_goals first | rfl |(exfalso;omega) |(simp at *;done) |(exfalso;simp at *;omega)
theorem WR{n b0 b1 b2 b3:Nat}(h:192<=b0)(h':b0<224)(hb1:b1<256):
  Q6 n b0 b1 b2 b3=if 2<=n/\128<=b1/\b1<192/\128<=(b0 - 192)*64+(b1 - 128)then 2 else 0:=by
 unfold Q6 decodeN;rw[yf (by omega)]
 repeat' split
 all_goals first | rfl | omega |(exfalso;omega) |(exfalso;simp at *;omega)
theorem WS{n b0 b1 b2 b3:Nat}(h:224<=b0)(h':b0<240)(hb1:b1<256)(hb2:b2<256):
  Q6 n b0 b1 b2 b3=if 3<=n/\128<=b1/\b1<192/\128<=b2/\b2<192/\2048<=(b0 - 224)*4096+(b1 - 128)*64+(b2 - 128)/\((b0 - 224)*4096+(b1 - 128)*64+(b2 - 128)<55296∨57344<=(b0 - 224)*4096+(b1 - 128)*64+(b2 - 128))then 3 else 0:=by
 unfold Q6 decodeN;rw[yf (by omega)]
 repeat' split
 all_goals first | rfl | omega |(exfalso;omega) |(exfalso;simp at *;omega)
theorem WT{n b0 b1 b2 b3:Nat}(h:240<=b0)(h':b0<256)(hb1:b1<256)(hb2:b2<256)(hb3:b3<256):
  Q6 n b0 b1 b2 b3=if 4<=n/\128<=b1/\b1<192/\128<=b2/\b2<192/\128<=b3/\b3<192/\65536<=(b0 - 240)*262144+(b1 - 128)*4096+(b2 - 128)*64+(b3 - 128)/\(b0 - 240)*262144+(b1 - 128)*4096+(b2 - 128)*64+(b3 - 128)<=1114111 then 4 else 0:=by
 unfold Q6 decodeN;rw[yf (by omega)]
 repeat' split
 all_goals first | rfl | omega |(exfalso;omega) |(exfalso;simp at *;omega)
end Go.Proofs.YtekpghcckdjnhaaGreatDoor
namespace Go.Proofs.YtekpghcckdjnhaaGreatDoor
open Go.RowKit
def zI(b:Nat):Bool:=decide (48<=b) && decide (b<=57)
theorem Qo{b:Nat}:zI b=true↔48<=b/\b<=57:=by simp[zI]
def qm(l:List UInt8):Nat:=l.foldl (fun v c=>v*10+(c.toNat - 48)) 0
theorem WU(l:List UInt8)(c:UInt8):qm (l++[c])=qm l*10+(c.toNat - 48):=by unfold qm;rw[List.foldl_append];rfl
theorem RW(s:Bs)(k:Nat)(h:k<s.size):s.data.toList[k]'(by rw[Zn];exact h)=s[k]:=rfl
theorem RY:∀ (n:Nat) (t:List UInt8),t.length=n->qm t<10 ^ n∨¬ (∀ c∈t,zI c.toNat=true):=by
 intro n;induction n with
 | zero=>intro t h;rw[yN h];exact .inl (by simp[qm])
 | succ n ih=>
  intro t h;rcases List.eq_nil_or_concat t with e |⟨a,c,e⟩
  ·subst e;simp at h
  ·rw[List.concat_eq_append]at e;subst e;by_cases b:∀ x∈a++[c],zI x.toNat=true
   ·left;have f:=Qo.1 (b c (by simp));rcases ih a (by simpa using h)with d | d
    ·rw[WU,Nat.pow_succ];omega
    ·exact absurd (fun x hx=>b x (by simp[hx])) d
   ·exact .inr b
theorem WV:(Tryz.prog.info? 5).map (fun i=>(i.zero,i.size,i.bytes))=some (some (.int .u8 0),1,1):=by kernel_rfl
theorem Xj{l:List UInt8}{j:Nat}(hj:j<l.length):(Lib.byteCells l)[j]?=some (.int .u8 (l[j].toNat:Int)):=by simp[Lib.byteCells,hj]
theorem QD(w:Wo)(t:TypeId)(x:Value):∀ j u,[x][j]?=some u->(w.alloc (.cells #[x] t)).cell? ((⟨w.heap.size,0,none⟩:Addr).add j)=some u:=by
 intro j u a
 match j,a with
 | 0,a=>simp at a;subst a;simp[Addr.add]
theorem Y2(w:Wo)(t:TypeId)(x y:Value):∀ j u,[x,y][j]?=some u->(w.alloc (.cells #[x,y] t)).cell? ((⟨w.heap.size,0,none⟩:Addr).add j)=some u:=by
 intro j u a
 match j,a with
 | 0,a=>simp at a;subst a;simp[Addr.add]
 | 1,a=>simp at a;subst a;simp[Addr.add]
theorem YG(k:IntKind)(a:Int):∀ u∈[Value.int k a],u.oneCell'=true:=by intro u b;simp at b;subst b;rfl
theorem Vu(k:IntKind)(a b:Int):∀ u∈[Value.int k a,Value.int k b],u.oneCell'=true:=by
 intro u d;simp at d;rcases d with rfl | rfl<;>rfl
theorem qU{w1:Wo}{B e:Nat}{v':Value}{l m:List UInt8}{news:List Value}{k:Nat}(h:w1.ownsRow B e 1 v' ((Lib.byteCells l).length+k) (Lib.byteCells l++news))(hn:news=Lib.byteCells m)(hk:k=m.length):
  w1.ownsRow B e 1 v' (Lib.byteCells (l++m)).length (Lib.byteCells (l++m)):=by
 subst hn;subst hk;rw[Lib.byteCells_append];have:(Lib.byteCells l++Lib.byteCells m).length=(Lib.byteCells l).length+m.length:=by simp[Lib.byteCells]
 rw[this];exact h
theorem WW{w:Wo}{B:Nat}{v:Value}{l:List UInt8}(h:w.ownsRow B 5 1 v (Lib.byteCells l).length (Lib.byteCells l)):(convert 160 9 v).run Tryz.prog w= .ok (.string ⟨l.toArray⟩) w:=by
 have i:=yK l;rcases h.2 with ⟨b,k⟩ |⟨g,a,d,b,_⟩
 ·have f:l=[]:=yN (by omega);subst b;subst f;exact run_convert_bytes_nil (P:=Tryz.prog) w 160 5 Tryz.underlying160 Tryz.underlying5 0 0 9 Tryz.underlying9
 ·subst b;rw[i]at h ⊢;exact run_convert_bytes_back (P:=Tryz.prog) w 160 9 5 ⟨g,0,none⟩ a l Tryz.underlying160 Tryz.underlying5 Tryz.underlying9 (fun j hj=>by
   rw[show ((⟨g,0,none⟩:Addr).add j)=⟨g,j,none⟩from by simp[Addr.add];omega,h.cellAt j (by omega)];exact Xj hj)
def Z8(r:Nat):List Nat:=
 if r<128 then [r]else if r<2048 then [192+r / 64,128+r % 64]
 else if r<65536 then [224+r / 4096,128+r / 64 % 64,128+r % 64]
 else [240+r / 262144,128+r / 4096 % 64,128+r / 64 % 64,128+r % 64]
def ZC(r:Nat):List UInt8:=(Z8 r).map UInt8.ofNat
def ze(l:List UInt8):Bs:=⟨l.toArray⟩
theorem Zf(l:List UInt8):(ze l).data.toList=l:=by simp[ze]
theorem Zw(l:List UInt8):(ze l).size=l.length:=by rw[← Zn,Zf]
theorem GZ(w:Wo)(l:List UInt8)(cs:Array Value)(n:Nat)(hn:n=l.length)(hcs:cs.toList=Lib.byteCells l):
  (convert 160 9 (.slice (some ⟨w.heap.size,0,none⟩) n n)).run Tryz.prog (w.alloc (.cells cs 5))= .ok (.string (ze l)) (w.alloc (.cells cs 5)):=by
 subst hn;exact run_convert_bytes_back (P:=Tryz.prog) _ 160 9 5 ⟨w.heap.size,0,none⟩ l.length l Tryz.underlying160 Tryz.underlying5 Tryz.underlying9 (fun j hj=>by
  rw[Go.WideShapes.add_plain,cell_of_row _ w.heap.size (0+j) cs 5 (0,0) (yG w _),Nat.zero_add];have h:=Xj hj;rw[← hcs]at h;simpa using h)
theorem RZ(r:Nat)(w:Wo)(hr:r<=1114111):
  Calls Tryz.prog 151 #[.int .i64 r] w fun e w'=>e= .returned (.string (ze (ZC r)))/\Bw w w':=by
 by_cases a:r<128
 ·have d:=GZ w (ZC r) #[.int .u8 (r:Int)] 1 (by simp[ZC,Z8,a]) (by simp[ZC,Z8,a,Lib.byteCells];omega);have b:(r:Int)<128:=by omega
  generalize ZC r=u at *;go_in;go_wp2;go_ret;exact⟨rfl,(yH _ _).alloc (ye _) _⟩
 ·by_cases f:r<2048
  ·have d:=GZ w (ZC r) #[.int .u8 (192+(r:Int) / 64),.int .u8 (128+(r:Int) % 64)] 2 (by simp[ZC,Z8,a,f]) (by simp[ZC,Z8,a,f,Lib.byteCells];omega);have b:¬ (r:Int)<128:=by omega
   have g:(r:Int)<2048:=by omega
   generalize ZC r=u at *;go_in;go_wp2;go_ret;exact⟨rfl,(yH _ _).alloc (ye _) _⟩
  ·by_cases h:r<65536
   ·have d:=GZ w (ZC r) #[.int .u8 (224+(r:Int) / 4096),.int .u8 (128+(r:Int) / 64 % 64),.int .u8 (128+(r:Int) % 64)] 3 (by simp[ZC,Z8,a,f,h]) (by simp[ZC,Z8,a,f,h,Lib.byteCells];omega);have b:¬ (r:Int)<128:=by omega
    have g:¬ (r:Int)<2048:=by omega
    have i:(r:Int)<65536:=by omega
    generalize ZC r=u at *;go_in;go_wp2;go_ret;exact⟨rfl,(yH _ _).alloc (ye _) _⟩
   ·have d:=GZ w (ZC r) #[.int .u8 (240+(r:Int) / 262144),.int .u8 (128+(r:Int) / 4096 % 64),.int .u8 (128+(r:Int) / 64 % 64),.int .u8 (128+(r:Int) % 64)] 4 (by simp[ZC,Z8,a,f,h]) (by simp[ZC,Z8,a,f,h,Lib.byteCells];omega);have b:¬ (r:Int)<128:=by omega
    have g:¬ (r:Int)<2048:=by omega
    have i:¬ (r:Int)<65536:=by omega
    generalize ZC r=u at *;go_in;go_wp2;go_ret;exact⟨rfl,(yH _ _).alloc (ye _) _⟩
def Jm:List UInt8:=[48,49,50,51,52,53,54,55,56,57,97,98,99,100,101,102]
def qB(c:UInt8):List UInt8:=
 if c.toNat=34∨c.toNat=92 then [92,c]else if c.toNat=8 then [92,98]else if c.toNat=9 then [92,116]else if c.toNat=10 then [92,110]
 else if c.toNat=12 then [92,102]else if c.toNat=13 then [92,114]else if c.toNat<32 then [92,117,48,48,Jm.getD (c.toNat / 16) 0,Jm.getD (c.toNat % 16) 0]else [c]
theorem Ob(c:UInt8):(qB c).length<=6:=by
 unfold qB
 repeat' split
 all_goals simp
def qs(l:List UInt8):List UInt8:=l.flatMap qB
def quoted(l:List UInt8):List UInt8:=34 ::(qs l++[34])
theorem Ef(l:List UInt8)(c:UInt8):qs (l++[c])=qs l++qB c:=by simp[qs]
theorem Oc(l m:List UInt8):qs (l++m)=qs l++qs m:=by simp[qs]
theorem Sa(l:List UInt8):(qs l).length<=6*l.length:=by
 induction l with
 | nil=>simp[qs]
 | cons c l ih=>have:=Ob c;simp only[qs,List.flatMap_cons,yh,yn]at *;omega
theorem WX{c:UInt8}(h:(c.toNat:Int)=34∨(c.toNat:Int)=92):qB c=[92,c]:=by unfold qB;rw[yg (by omega)]
theorem Od{c:UInt8}(h:(c.toNat:Int)=8):qB c=[92,98]:=by unfold qB;rw[yf (by omega),yg (by omega)]
theorem Oe{c:UInt8}(h:(c.toNat:Int)=9):qB c=[92,116]:=by unfold qB;rw[yf (by omega),yf (by omega),yg (by omega)]
theorem Of{c:UInt8}(h:(c.toNat:Int)=10):qB c=[92,110]:=by unfold qB;rw[yf (by omega),yf (by omega),yf (by omega),yg (by omega)]
theorem Og{c:UInt8}(h:(c.toNat:Int)=12):qB c=[92,102]:=by unfold qB;rw[yf (by omega),yf (by omega),yf (by omega),yf (by omega),yg (by omega)]
theorem Oh{c:UInt8}(h:(c.toNat:Int)=13):qB c=[92,114]:=by unfold qB;rw[yf (by omega),yf (by omega),yf (by omega),yf (by omega),yf (by omega),yg (by omega)]
def WY(n:Nat):Prop:=n<32/\¬ n=8/\¬ n=9/\¬ n=10/\¬ n=12/\¬ n=13
theorem Oi{c:UInt8}(h:WY c.toNat):qB c=[92,117,48,48,Jm.getD (c.toNat / 16) 0,Jm.getD (c.toNat % 16) 0]:=by
 obtain⟨a,b,d,f,g,i⟩:=h;unfold qB;rw[yf (by omega),yf b,yf d,yf f,yf g,yf i,yg a]
theorem Xk{c:UInt8}(h:¬ c.toNat=34)(h':¬ c.toNat=92)(h'':32<=c.toNat):qB c=[c]:=by
 unfold qB;rw[yf (by omega),yf (by omega),yf (by omega),yf (by omega),yf (by omega),yf (by omega),yf (by omega)]
theorem Xl(k:Nat)(h:k<16):(⟨Jm.toArray⟩:Bs)[k]'(by show k<16;exact h)=Jm.getD k 0:=by
 rcases (show k=0∨k=1∨k=2∨k=3∨k=4∨k=5∨k=6∨k=7∨k=8∨k=9∨k=10∨k=11∨k=12∨k=13∨k=14∨k=15 from by omega)with rfl | rfl | rfl | rfl | rfl | rfl | rfl | rfl | rfl | rfl | rfl | rfl | rfl | rfl | rfl | rfl<;>rfl
theorem Oj:∀ l:List UInt8,(∀ c∈l,128<=c.toNat)->qs l=l
 | [],_=>rfl
 | c :: l,h=>by
  have h1:=h c yp;have a:=Oj l (fun d hd=>h d (yv _ hd));show qB c++qs l=c :: l
  rw[Xk (by omega) (by omega) (by omega),a];rfl
def Jn(s:Bs)(k:Nat)(c:Int):Bool:=match s.data.toList[k]? with
 | some x=>(x.toNat:Int) ==c
 | none=>false
theorem Ol(s:Bs)(k:Nat)(h:k<s.size):s.data.toList[k]?=some s[k]:=by
 rw[yx (by rw[Zn];exact h)];rfl
theorem Y3{s:Bs}{k:Nat}{c:Int}(h:k<s.size):Jn s k c=((s[k].toNat:Int) ==c):=by
 unfold Jn;rw[Ol s k h]
theorem WZ{s:Bs}{k:Nat}{c:Int}(h:¬ k<s.size):Jn s k c=false:=by
 unfold Jn;rw[List.getElem?_eq_none (by rw[Zn];omega)]
theorem Sb{a b:Bool}(h:a=b):Ending.returned (.bool a)= .returned (.bool b):=by rw[h]
theorem Gc(s:Bs)(i:Int)(k:Nat)(hik:i=(k:Int))(c:Int)(w:Wo):
  Calls Tryz.prog 114 #[.string s,.int .i64 i,.int .u8 c] w fun e w'=>e= .returned (.bool (Jn s k c))/\w=w':=by
 subst hik;by_cases h:k<s.size
 ·have a:=zb (Y3 (c:=c) h);have b:(k:Int)<(s.size:Int):=by omega
  go_in;go_wp2;go_ret;exact⟨Sb (by rw[uh a]),rfl⟩
 ·have a:=zb (WZ (c:=c) h);have b:decide ((k:Int)<(s.size:Int))=false:=by simp;omega
  go_in;go_wp2;go_ret;exact⟨Sb (by rw[uh a]),rfl⟩
theorem UQ(l:List UInt8):∀ u∈Lib.byteCells l,u.oneCell'=true:=by
 intro u a;simp only[Lib.byteCells,yO]at a;obtain⟨b,_,rfl⟩:=a;rfl
theorem UR(w:Wo)(l:List UInt8):∃ cap W,(convert 9 160 (.string (ze l))).run Tryz.prog w= .ok (.slice (some ⟨w.heap.size,0,none⟩) l.length cap) W /\
  (∀ j u,(Lib.byteCells l)[j]?=some u->W.cell? ((⟨w.heap.size,0,none⟩:Addr).add j)=some u)/\Bw w W/\(∀ (B e:Nat) v n xs,w.ownsRow B e 1 v n xs->W.ownsRow B e 1 v n xs)/\w.heap.size<=W.heap.size:=by
 have h:=run_bytes_of_string (P:=Tryz.prog) w 9 160 5 (ze l) Tryz.underlying9 Tryz.underlying160 Tryz.underlying5;have a:(ze l).size=l.length:=Zw l;refine⟨_,_,(by rw[h,a]),?_,?_,?_,?_⟩
 ·intro j u b;have d:j<l.length:=by
   have:=(List.getElem?_eq_some_iff.1 b).1
   rwa [yK]at this
  have k:(ze l).data.size=l.length:=by simp[ze]
  have f:=bytesRow_at (ze l) (grownCap w (ze l).size 0 5) j (by omega);rw[Go.WideShapes.add_plain,show (0:Nat)+j=j from by omega];have g:(w.drew.alloc (.cells (bytesRow (ze l) (grownCap w (ze l).size 0 5)) 5 ((bytesRow (ze l) (grownCap w (ze l).size 0 5)).size,(bytesRow (ze l) (grownCap w (ze l).size 0 5)).size+1))).heap[w.heap.size]?=some (.cells (bytesRow (ze l) (grownCap w (ze l).size 0 5)) 5 ((bytesRow (ze l) (grownCap w (ze l).size 0 5)).size,(bytesRow (ze l) (grownCap w (ze l).size 0 5)).size+1)):=yG w.drew _;rw[a]at g f;rw[cell_of_row _ w.heap.size j _ 5 _ g,f];rw[Xj d]at b;rw[← b];simp[ze]
 ·exact ((yH _ _).drew).alloc (ye _) _
 ·intro B e v n xs i;exact World.ownsRow.alloc (w:=w.drew) i _
 ·show w.heap.size<=(w.heap.push _).size
  simp
theorem G1:(Tryz.prog.info? 9).map (fun i=>(i.zero,i.size,i.bytes))=some (some (.string ByteArray.empty),1,16):=by kernel_rfl
def Qp(t:List UInt8):Value:=.string ⟨t.toArray⟩
abbrev OT(w:Wo)(B:Nat)(v:Value)(ts:List (List UInt8)):Prop:=w.ownsRow B 9 1 v ts.length (ts.map Qp)
def zz(t:List UInt8):Bs:=⟨t.toArray⟩
theorem OT.shape{w:Wo}{B:Nat}{v:Value}{ts:List (List UInt8)}(h:OT w B v ts):∃ a g cap,v= .slice a ts.length cap/\SS w a g 0 (ts.map zz)/\(0<ts.length->B<=g):=by
 rcases h.2 with ⟨b,f⟩ |⟨g,cap,d,b,i,k,_⟩
 ·exact⟨none,0,0,by rw[b,f],⟨fun h=>by rw[yl]at h;omega,fun j hj=>by rw[yl]at hj;omega⟩,fun h=>by omega⟩
 ·refine⟨some ⟨g,0,none⟩,g,cap,b,⟨fun _=>rfl,fun j hj=>?_⟩,fun _=>i⟩;subst b;rw[yl]at hj;rw[Nat.zero_add,h.cellAt j (by omega)];simp[Qp,zz,hj]
theorem Vv(s:Bs):∀ u∈[Value.string s],u.oneCell'=true:=by intro u a;simp at a;subst a;rfl
theorem OT.step{w:Wo}{B:Nat}{v:Value}{ts:List (List UInt8)}{t:List UInt8}(h:w.ownsRow B 9 1 v (ts.length+1) (ts.map Qp++[Qp t])):OT w B v (ts++[t]):=by
 unfold OT;rw[yh,yw];exact h
theorem Om(t:List UInt8):Xh (some t)= .tuple #[.string (zz t),.bool true]:=rfl
theorem On:Xh none= .tuple #[.string ⟨#[]⟩,.bool false]:=rfl
def QS(l:List UInt8)(f k:Nat):Prop:=∀ m,f<=m->m<k->∀ c,l[m]?=some c->¬ c.toNat=47
theorem Eg{p:List UInt8}(hp:∀ c∈p,¬ c.toNat=47){c:UInt8}(hc:c.toNat=47)(r:List UInt8):ZH (p++c :: r)=p :: ZH r:=by
 induction p with
 | nil=>exact Gb r hc
 | cons a p ih=>
  have:=ih (fun c hc=>hp c (yv _ hc));exact Y1 (hp a yp) this
theorem Eh{p:List UInt8}(hp:∀ c∈p,¬ c.toNat=47):ZH p=[p]:=by
 induction p with
 | nil=>rfl
 | cons a p ih=>
  have:=ih (fun c hc=>hp c (yv _ hc));exact Y1 (hp a yp) this
theorem QS.piece{l:List UInt8}{f k:Nat}(h:QS l f k):∀ c∈(l.drop f).take (k - f),¬ c.toNat=47:=by
 intro c a;obtain⟨i,b,rfl⟩:=yX.1 a;rw[ym,yu]at b;refine h (f+i) (by omega) (by omega) _ ?_;rw[List.getElem_take,List.getElem_drop,yx (by omega)]
theorem QS.cut{l:List UInt8}{f k:Nat}(h:QS l f k)(hfk:f<=k)(hk:k<l.length)(hc:l[k].toNat=47):ZH (l.drop f)=(l.drop f).take (k - f) :: ZH (l.drop (k+1)):=by
 have e:l.drop f=(l.drop f).take (k - f)++l[k] :: l.drop (k+1):=by
  have a:=(List.take_append_drop (k - f) (l.drop f)).symm;rw[List.drop_drop,show f+(k - f)=k from by omega,List.drop_eq_getElem_cons hk]at a;exact a
 have b:=Eg h.piece hc (l.drop (k+1));rw[← e]at b;exact b
theorem QS.last{l:List UInt8}{f:Nat}(h:QS l f l.length):ZH (l.drop f)=[l.drop f]:=by
 have a:=h.piece;rw[yq (by rw[yu];omega)]at a;exact Eh a
theorem QS.snoc{l:List UInt8}{f k:Nat}(h:QS l f k)(hk:k<l.length)(hc:¬ l[k].toNat=47):QS l f (k+1):=by
 intro m b d c a;by_cases e:m=k
 ·subst e;rw[yx hk]at a;simp at a;subst a;exact hc
 ·exact h m b (by omega) c a
theorem QS.none(l:List UInt8)(k:Nat):QS l k k:=fun m h1 h2=>by omega
theorem Xm{l p:List UInt8}{ps:List (List UInt8)}(h:ZH l=p :: ps):QB l=(zJ p).bind fun t=>(ps.mapM zJ).map (t :: ·):=by
 unfold QB;rw[h,List.mapM_cons]
 cases zJ p with
 | none=>rfl
 | some t=>cases List.mapM zJ ps<;>rfl
def JD(l:List UInt8)(f:Nat)(done:List (List UInt8)):Prop:=QB (l.drop 1)=(QB (l.drop f)).map (done++·)
theorem JD.cut{l:List UInt8}{f k:Nat}{done:List (List UInt8)}{t:List UInt8}(h:JD l f done)(hn:QS l f k)(hfk:f<=k)(hk:k<l.length)(hc:l[k].toNat=47)(hu:zJ ((l.drop f).take (k - f))=some t):JD l (k+1) (done++[t]):=by
 unfold JD at *;rw[h,Xm (hn.cut hfk hk hc),hu];show Option.map (done++·) (Option.map (t :: ·) (QB (l.drop (k+1))))=_
 rw[Option.map_map];congr 1;funext x;simp
theorem JD.cutBad{l:List UInt8}{f k:Nat}{done:List (List UInt8)}(h:JD l f done)(hn:QS l f k)(hfk:f<=k)(hk:k<l.length)(hc:l[k].toNat=47)(hu:zJ ((l.drop f).take (k - f))=none):QB (l.drop 1)=none:=by
 unfold JD at h;rw[h,Xm (hn.cut hfk hk hc),hu];rfl
theorem JD.last{l:List UInt8}{f:Nat}{done:List (List UInt8)}{t:List UInt8}(h:JD l f done)(hn:QS l f l.length)(hu:zJ ((l.drop f).take (l.length - f))=some t):QB (l.drop 1)=some (done++[t]):=by
 rw[yq (by rw[yu];omega)]at hu;unfold JD at h;rw[h,Xm hn.last,hu];rfl
theorem JD.lastBad{l:List UInt8}{f:Nat}{done:List (List UInt8)}(h:JD l f done)(hn:QS l f l.length)(hu:zJ ((l.drop f).take (l.length - f))=none):QB (l.drop 1)=none:=by
 rw[yq (by rw[yu];omega)]at hu;unfold JD at h;rw[h,Xm hn.last,hu];rfl
theorem Sc{l:List UInt8}(h0:0<l.length)(hc:l[0].toNat=47):zG l=QB (l.drop 1):=by
 cases l with
 | nil=>simp at h0
 | cons c r=>simp only[List.getElem_cons_zero]at hc;rw[zG,yg hc];rfl
theorem Sd{l:List UInt8}(h0:0<l.length)(hc:¬ l[0].toNat=47):zG l=none:=by
 cases l with
 | nil=>simp at h0
 | cons c r=>simp only[List.getElem_cons_zero]at hc;rw[zG,yf hc]
theorem Xn(s:Bs)(f k:Nat):(s.extract f k).data.toList=(s.data.toList.drop f).take (k - f):=by
 exact Lib.extract_data s f k
theorem Se(s:Bs)(w:Wo)(hs:s.size<=1048576):
  Calls Tryz.prog 107 #[.string s] w fun e w'=>e= .returned (Xh (zJ s.data.toList))/\Bw w w':=by
 obtain⟨L,J,z,A,B⟩:=info_parts WV;go_in;go_wp2;go_loopw [4,5] (fun v i wr=>∃ (j:Nat) (h:List UInt8),j<=s.size/\i= .int .i64 j/\wr.ownsRow w.heap.size 5 1 v (Lib.byteCells h).length (Lib.byteCells h)/\Bw w wr/\(Lib.byteCells h).length<=j/\Jf s.data.toList j h) (fun _ i _=>s.size - (intOf i).toNat)
 case atStart=>exact⟨0,[],yt _,rfl,World.ownsRow_lit w #[] 0 (ye _) (by unfold maxLen;omega) rfl,(yH _ _).alloc (ye _) _,ye _,Jf.start _⟩
 case round=>
  obtain⟨j,h,R,rfl,b,H,y,F⟩:=hrel;have q:=H.size;have C:=zb F;clear F;by_cases K:j<s.size
  ·have r:=Qn s j K;have x:=zb H;clear H;by_cases d:(s[j].toNat:Int)=126
   ·have Q:((s[j].toNat:Int) !=126)=false:=by simpa using d
    by_cases u:j+1<s.size
    ·have o:=Qn s (j+1) u;by_cases l:(s[j+1].toNat:Int)=48
     ·have I:Jn s (j+1) 48=true:=by rw[Y3 u];simpa using l
      have E:Hid (zJ (s.data.toList.drop j)=(zJ (s.data.toList.drop (j+2))).map ([126]++·)):=by show _=_;rw[r,o,WO _ d l]
      clear l;clear d r o;go_wp2_with (first |(go_at_call 114;refine (Gc s _ (j+1) (by omega) _ _).mono ?_;rintro e w' ⟨rfl,rfl⟩) |(at_builtin;refine wpList_append_own _ rfl (.tmp 27) (.tmp 28) 160 rfl w.heap.size 5 L (.int .u8 0) 1 1 Tryz.underlying160 J z A B rfl (by decide) _ _ _ rfl (b.alloc _) ⟨wr.heap.size,0,none⟩ 1 1 [.int .u8 126] rfl rfl (QD _ _ _) (YG _ _) (by unfold maxLen;omega) (by omega) (by simp;omega) ?_));intro O G f a _;have p:Bw w G:=((uh x).alloc q _).grown a (by simp;omega) (fun k hk=>(b.lt k hk).1);have g:=qU (m:=[126]) f (by simp[Lib.byteCells]) rfl;clear f a b x;go_wp2;go_roundw
      case rel=>exact⟨j+2,h++[126],by omega,by go_num,g,p,by simp[Lib.byteCells]at y ⊢;omega,(uh C).step (uh E)⟩
      case measure=>simp[intOf];omega
     ·by_cases n:(s[j+1].toNat:Int)=49
      ·have I:Jn s (j+1) 48=false:=by rw[Y3 u];simpa using l
       have M:Jn s (j+1) 49=true:=by rw[Y3 u];simpa using n
       have E:Hid (zJ (s.data.toList.drop j)=(zJ (s.data.toList.drop (j+2))).map ([47]++·)):=by show _=_;rw[r,o,WP _ d n]
       clear l n;clear d r o;go_wp2_with (first |(go_at_call 114;refine (Gc s _ (j+1) (by omega) _ _).mono ?_;rintro e w' ⟨rfl,rfl⟩) |(at_builtin;refine wpList_append_own _ rfl (.tmp 36) (.tmp 37) 160 rfl w.heap.size 5 L (.int .u8 0) 1 1 Tryz.underlying160 J z A B rfl (by decide) _ _ _ rfl (b.alloc _) ⟨wr.heap.size,0,none⟩ 1 1 [.int .u8 47] rfl rfl (QD _ _ _) (YG _ _) (by unfold maxLen;omega) (by omega) (by simp;omega) ?_));intro O G f a _;have p:Bw w G:=((uh x).alloc q _).grown a (by simp;omega) (fun k hk=>(b.lt k hk).1);have g:=qU (m:=[47]) f (by simp[Lib.byteCells]) rfl;clear f a b x;go_wp2;go_roundw
       case rel=>exact⟨j+2,h++[47],by omega,by go_num,g,p,by simp[Lib.byteCells]at y ⊢;omega,(uh C).step (uh E)⟩
       case measure=>simp[intOf];omega
      ·have I:Jn s (j+1) 48=false:=by rw[Y3 u];simpa using l
       have M:Jn s (j+1) 49=false:=by rw[Y3 u];simpa using n
       have D:=zb ((uh C).bad (by rw[r,o,UP _ d l n]));clear d l n r o b;go_wp2_with (go_at_call 114;refine (Gc s _ (j+1) (by omega) _ _).mono ?_;rintro e w' ⟨rfl,rfl⟩);go_ret2;exact⟨by rw[uh D];rfl,uh x⟩
    ·have I:Jn s (j+1) 48=false:=WZ u;have M:Jn s (j+1) 49=false:=WZ u;have D:=zb ((uh C).bad (by rw[r,WQ s (j+1) u,UO d]));clear d r b;go_wp2_with (go_at_call 114;refine (Gc s _ (j+1) (by omega) _ _).mono ?_;rintro e w' ⟨rfl,rfl⟩);go_ret2;exact⟨by rw[uh D];rfl,uh x⟩
   ·have Q:((s[j].toNat:Int) !=126)=true:=by simpa using d
    have E:Hid (zJ (s.data.toList.drop j)=(zJ (s.data.toList.drop (j+1))).map ([s[j]]++·)):=by show _=_;rw[r,WN _ d]
    clear d r;go_wp2_with (at_builtin;refine wpList_append_own _ rfl (.tmp 17) (.tmp 21) 160 rfl w.heap.size 5 L (.int .u8 0) 1 1 Tryz.underlying160 J z A B rfl (by decide) _ _ _ rfl (b.alloc _) ⟨wr.heap.size,0,none⟩ 1 1 [.int .u8 s[j].toNat] rfl rfl (QD _ _ _) (YG _ _) (by unfold maxLen;omega) (by omega) (by simp;omega) ?_);intro O G f a _;have p:Bw w G:=((uh x).alloc q _).grown a (by simp;omega) (fun k hk=>(b.lt k hk).1);have g:=qU (m:=[s[j]]) f (by simp[Lib.byteCells]) rfl;clear f a b x;go_wp2;go_roundw
    case rel=>exact⟨j+1,h++[s[j]],by omega,by go_num,g,p,by simp[Lib.byteCells]at y ⊢;omega,(uh C).step (uh E)⟩
    case measure=>simp[intOf];omega
  ·have N:=(uh C).fin (by rw[Zn];omega);have D:=zb N;have P:=WW b;clear N b;go_wp2;go_ret2;exact⟨by rw[uh D];rfl,H⟩
theorem Wa(s:Bs)(w:Wo)(hs:s.size<=1048576):
  Calls Tryz.prog 67 #[.string s] w fun e w'=>∃ v,e= .returned (.tuple #[v,.bool (zG s.data.toList).isSome])/\OT w' w.heap.size v ((zG s.data.toList).getD [])/\Bw w w':=by
 obtain⟨i0,hi,R,S,T⟩:=info_parts G1;have g:=World.ownsRow_lit (base:=w.heap.size) (e:=9) (size:=1) w #[] 0 (ye _) (by unfold maxLen;omega) rfl;have r:Bw w (w.alloc (.cells #[] 9)):=(yH _ _).alloc (ye _) _;by_cases X:s.size=0
 ·have ab:s=⟨#[]⟩:=by
   have:s.data.toList=[]:=yN (by rw[Zn];exact X);obtain⟨⟨l⟩⟩:=s;simp at this;subst this;rfl
  subst ab;have P:=zb g;clear g X;go_in;go_wp2;go_ret2;exact⟨_,rfl,uh P,r⟩
 ·have hne:s.toList.isEmpty=false:=by
   rw[Lib.toList_data,List.isEmpty_eq_false_iff];intro e;exact X (by rw[← Zn,e];rfl)
  have h0':0<s.size:=by omega
  have hdl:=Zn s;by_cases B:(s[0].toNat:Int)=47
  ·have t1:((s[0].toNat:Int) !=47)=false:=by simpa using B
   have G:Hid (zG s.data.toList=QB (s.data.toList.drop 1)):=Sc (by omega) (by show s[0].toNat=47;omega);have P:=zb g;clear g B;generalize hl:s.data.toList=l at *;have U:=zb hl;clear hl;go_in;go_wp2;go_loopw [4,5,6] (fun v fr i wr=>∃ (k f:Nat) (a:List (List UInt8)),1<=k/\k<=s.size+1/\1<=f/\f<=k/\i= .int .i64 k/\fr= .int .i64 f/\a.length<=k/\OT wr w.heap.size v a/\Bw w wr/\(k<=s.size->QS l f k/\JD l f a)/\(k=s.size+1->QB (l.drop 1)=some a)) (fun _ _ i _=>s.size+1 - (intOf i).toNat)
   case atStart=>exact⟨1,1,[],by omega,by omega,by omega,by omega,rfl,rfl,by simp,uh P,r,fun _=>⟨QS.none _ _,by simp[JD]⟩,fun h=>by omega⟩
   case round=>
    obtain⟨k,f,a,hk1,hk2,Z,Q,rfl,rfl,hdl2,j,J,u,hZ⟩:=hrel;have x:=J.size;have O:=zb u;have V:=zb hZ;clear u hZ P;by_cases K:k<=s.size
    ·by_cases aa:k=s.size
     ·have u:=uh O K;have E:k=l.length:=by omega
      have q:QS l f l.length:=by rw[← E];exact u.1
      subst aa;have t2:((s.size:Int) ==(s.size:Int))=true:=by simp
      have L:(s.extract f s.size).size<=1048576:=by rw[← Zn,Xn,ym,yu,Zn];omega
      have p:=Xn s f s.size;rw[uh U]at p;have C:=Se (s.extract f s.size) wr L;rw[p]at C
      cases ho:zJ ((l.drop f).take (s.size - f))with
      | none=>
       rw[ho,On]at C;have A:=zb C;have z:Hid (QB (l.drop 1)=none):=by have:=u.2.lastBad q (by rw[← E];exact ho);exact this
       clear C ho p u q E O V;go_wp2_with fail;refine (uh A).mono ?_;rintro e N ⟨rfl,d⟩;have y:=J.trans (d.mono x);have m:=World.ownsRow_lit (base:=w.heap.size) (e:=9) (size:=1) N #[] 0 y.size (by unfold maxLen;omega) rfl;have I:=zb m;clear j d A m;go_wp2;go_ret2;exact⟨_,by rw[uh G,uh z];rfl,by rw[uh G,uh z];exact uh I,y.alloc y.size _⟩
      | some t=>
       rw[ho,Om]at C;have A:=zb C;have z:Hid (QB (l.drop 1)=some (a++[t])):=by have:=u.2.last q (by rw[← E];exact ho);exact this
       clear u q E O V C ho p;go_wp2_with fail;refine (uh A).mono ?_;rintro e N ⟨rfl,d⟩;have y:=J.trans (d.mono x);have o:=ZB j d;have M:=y.size;clear j d A;go_wp2_with (at_builtin;(refine wpList_append_own _ rfl (.tmp 44) (.tmp 46) 55 rfl w.heap.size 9 i0 (.string ByteArray.empty) 1 16 Tryz.underlying55 hi R S T rfl (by decide) _ _ _ rfl (o.alloc _) ⟨N.heap.size,0,none⟩ 1 1 [.string (zz t)] rfl rfl (QD _ _ _) (Vv _) (by unfold maxLen;omega) (by omega) (by simp;omega) ?_));intro v2 w2 n b _;have W:Bw w w2:=(y.alloc M _).grown b (by simp;omega) (fun k hk=>(o.lt k hk).1);have F:=OT.step (t:=t) n;clear n b o;go_wp2;go_roundw
       case rel=>exact⟨s.size+1,s.size+1,a++[t],by omega,by omega,by omega,by omega,by go_num,by go_num,by simp;omega,F,W,fun h=>by omega,fun _=>uh z⟩
       case measure=>simp[intOf]
     ·have hlt:k<s.size:=by omega
      have t2:((k:Int) ==(s.size:Int))=false:=by simp;omega
      by_cases Y:(s[k].toNat:Int)=47
      ·have t3:((s[k].toNat:Int) ==47)=true:=by simpa using Y
       have u:=uh O K;have D:k<l.length:=by omega
       have H:l[k].toNat=47:=by
                        have e:l[k].toNat=s[k].toNat:=by (have e:=uh U;subst e;rfl)
                        omega
       have L:(s.extract f k).size<=1048576:=by rw[← Zn,Xn,ym,yu,Zn];omega
       have p:=Xn s f k;rw[uh U]at p;have C:=Se (s.extract f k) wr L;rw[p]at C
       cases ho:zJ ((l.drop f).take (k - f))with
       | none=>
        rw[ho,On]at C;have A:=zb C;have z:Hid (QB (l.drop 1)=none):=u.2.cutBad u.1 Q D H ho;clear C ho p;go_wp2_with fail;refine (uh A).mono ?_;rintro e N ⟨rfl,d⟩;have y:=J.trans (d.mono x);have m:=World.ownsRow_lit (base:=w.heap.size) (e:=9) (size:=1) N #[] 0 y.size (by unfold maxLen;omega) rfl;have I:=zb m;clear j d A m;go_wp2;go_ret2;exact⟨_,by rw[uh G,uh z];rfl,by rw[uh G,uh z];exact uh I,y.alloc y.size _⟩
       | some t=>
        rw[ho,Om]at C;have A:=zb C;have z:=zb (u.2.cut u.1 Q D H ho);clear u D H Y O V;clear C ho p;go_wp2_with fail;refine (uh A).mono ?_;rintro e N ⟨rfl,d⟩;have y:=J.trans (d.mono x);have o:=ZB j d;have M:=y.size;clear j d A;go_wp2_with (at_builtin;refine wpList_append_own _ rfl (.tmp 44) (.tmp 46) 55 rfl w.heap.size 9 i0 (.string ByteArray.empty) 1 16 Tryz.underlying55 hi R S T rfl (by decide) _ _ _ rfl (o.alloc _) ⟨N.heap.size,0,none⟩ 1 1 [.string (zz t)] rfl rfl (QD _ _ _) (Vv _) (by unfold maxLen;omega) (by omega) (by simp;omega) ?_);intro v2 w2 n b _;have W:Bw w w2:=(y.alloc M _).grown b (by simp;omega) (fun k hk=>(o.lt k hk).1);have F:=OT.step (t:=t) n;clear n b o;go_wp2;go_roundw
        case rel=>exact⟨k+1,k+1,a++[t],by omega,by omega,by omega,by omega,by go_num,by go_num,by simp;omega,F,W,fun _=>⟨QS.none _ _,uh z⟩,fun h=>by omega⟩
        case measure=>simp[intOf];omega
      ·have t3:((s[k].toNat:Int) ==47)=false:=by simpa using Y
       go_wp2;go_roundw
       case rel=>
        have ⟨hn,ht⟩:=uh O K;have D:k<l.length:=by omega
        have H:l[k].toNat=s[k].toNat:=by have e:=uh U;subst e;rfl
        exact⟨k+1,f,a,by omega,by omega,Z,by omega,by go_num,rfl,by omega,j,J,fun _=>⟨hn.snoc D (by omega),ht⟩,fun h=>by omega⟩
       case measure=>simp[intOf];omega
    ·have z:=zb (uh V (by omega));go_wp2;go_ret2;exact⟨_,by rw[uh G,uh z];rfl,by rw[uh G,uh z];exact j,J⟩
  ·have t1:((s[0].toNat:Int) !=47)=true:=by simpa using B
   have G:Hid (zG s.data.toList=none):=Sd (by omega) (fun e=>B (by show ((s[0].toNat:Int))=47;have:s.data.toList[0].toNat=s[0].toNat:=rfl;omega));have P:=zb g;clear g B;go_in;go_wp2;go_ret2;exact⟨_,by rw[uh G];rfl,by rw[uh G];exact uh P,r⟩
theorem Oo(s:Bs)(w:Wo)(hsz:s.size<=1048576):
  Calls Tryz.prog 81 #[.string s] w fun e w'=>e= .returned (.bool (zG s.data.toList).isSome)/\Bw w w':=by
 have a:=zb (Wa s w hsz);obtain⟨z,b⟩:∃ z,(zG s.data.toList).isSome=z:=⟨_,rfl⟩;rw[b]at a ⊢;clear b;go_in;go_wp2_with fail;refine (uh a).mono ?_;rintro e g ⟨v,rfl,f,d⟩;clear a f
 cases z
 all_goals (
  go_wp2;go_ret;exact⟨rfl,d⟩)
def Vw(k:Nat):UInt8:=UInt8.ofNat (48+k % 10)
def Gd:Nat->Nat->Bs->Bs
 | 0,_,acc=>acc
 | f+1,k,acc=>if k=0 then acc else Gd f (k / 10) (⟨#[Vw k]⟩++acc)
def ZJ(k:Nat):Bs:=⟨#[109]⟩++Gd k k ByteArray.empty
theorem Ei(k:Nat):((Vw k).toNat:Int)=48+(k:Int) % 10:=by
 have:(Vw k).toNat=48+k % 10:=by unfold Vw;rw[UInt8.toNat_ofNat'];omega
 omega
theorem Ej(w:Wo)(x:UInt8)(n:Int)(h:(x.toNat:Int)=n):(convert 160 9 (.slice (some ⟨w.heap.size,0,none⟩) 1 1)).run Tryz.prog (w.alloc (.cells #[.int .u8 n] 5))= .ok (.string ⟨#[x]⟩) (w.alloc (.cells #[.int .u8 n] 5)):=by
 subst h;exact run_convert_bytes_back (P:=Tryz.prog) _ 160 9 5 ⟨w.heap.size,0,none⟩ 1 [x] Tryz.underlying160 Tryz.underlying5 Tryz.underlying9 (fun j hj=>by
  simp at hj;subst hj;exact QD w 5 _ 0 _ rfl)
theorem Ek(f k:Nat)(acc:Bs)(h:0<k):Gd (f+1) k acc=Gd f (k / 10) (⟨#[Vw k]⟩++acc):=by
 rw[Gd,yf (by omega)]
theorem Sf(x:UInt8):(⟨#[x]⟩:Bs).size=1:=rfl
theorem El(a b:Bs):(a++b).size=a.size+b.size:=ByteArray.size_append
theorem Ge(k0:Nat)(w:Wo)(h1:1<=k0)(h2:k0<=1099511627776):
  Calls Tryz.prog 61 #[.int .i64 k0] w fun e w'=>e= .returned (.string (ZJ k0))/\Bw w w':=by
 go_in;go_wp2;go_loopw [0,3] (fun i o wr=>∃ (f k:Nat) (a:Bs),k<=f/\k<=k0/\i= .int .i64 k/\o= .string a/\a.size+f<=k0/\Gd f k a=Gd k0 k0 ByteArray.empty/\Bw w wr) (fun i _ _=>(intOf i).toNat)
 case atStart=>exact⟨k0,k0,ByteArray.empty,ye _,ye _,rfl,rfl,by show 0+k0<=k0;omega,rfl,yH _ _⟩
 case round=>
  obtain⟨f,k,a,x,v,rfl,rfl,r,h,l⟩:=hrel;have j:=zb h;clear h;by_cases u:0<k
  ·have g:(0:Int)<(k:Int):=by omega
   obtain⟨f,rfl⟩:∃ f',f=f'+1:=⟨f - 1,by omega⟩;have s:=Ej wr (Vw k) _ (Ei k);have d:=run_string_add_sum (P:=Tryz.prog) (wr.alloc (.cells #[.int .u8 (48+(k:Int) % 10)] 5)) ⟨#[Vw k]⟩ a (by rw[Sf];omega);have n:=zb (l.alloc l.size (.cells #[.int .u8 (48+(k:Int) % 10)] 5));have q:Hid ((⟨#[Vw k]⟩++a:Bs).size=1+a.size):=El _ _;rw[Ek f k a u]at j;clear l;generalize (⟨#[Vw k]⟩++a:Bs)=b at *;go_wp2;go_roundw
   case rel=>exact⟨f,k / 10,b,by omega,by omega,by go_num,rfl,by rw[uh q];omega,uh j,uh n⟩
   case measure=>simp[intOf];omega
  ·have m:Hid (Gd k0 k0 ByteArray.empty=a):=by
    have e:=uh j;have g:k=0:=by omega
    subst g;rw[← e];cases f with
    | zero=>rfl
    | succ f=>rfl
   have d:=run_string_add_sum (P:=Tryz.prog) wr ⟨#[109]⟩ a (by rw[Sf];omega);have p:Hid (ZJ k0=⟨#[109]⟩++a):=by have e:=uh m;show _=_;unfold ZJ;rw[e]
   clear m j;generalize (⟨#[109]⟩++a:Bs)=b at *;go_wp2;go_ret;exact⟨by rw[uh p];rfl,l⟩
def US(k n:Nat):List Value:=(List.range n).map fun j=>.string (ZJ (k+j))
theorem Em{k n j:Nat}(hj:j<n):(US k n)[j]?=some (.string (ZJ (k+j))):=by simp[US,hj]
theorem En(B:Nat)(v:Value)(n k0:Nat)(w:Wo)(hv:w.ownsRow B 9 1 v n (US k0 n))(hn:n<=268435456)(h1:1<=k0)(h2:k0<=1099200000000):
  Calls Tryz.prog 78 #[v,.int .i64 k0] w fun e w'=>e= .returned (.int .i64 (k0+n:Nat))/\Bw w w':=by
 obtain⟨a,b,rfl,o⟩:∃ a b,v= .slice a n b/\(0<n->∃ g,a=some ⟨g,0,none⟩):=by
  rcases hv.2 with ⟨h,z⟩ |⟨g,b,y,h,f,_⟩
  ·exact⟨none,0,by rw[h,z],fun h=>by omega⟩
  ·exact⟨some ⟨g,0,none⟩,b,h,fun _=>⟨g,rfl⟩⟩
 go_in;go_wp2;go_loopw [1,5] (fun q i wr=>∃ (j:Nat),j<=n/\i= .int .i64 j/\q= .int .i64 (k0+j:Nat)/\Bw w wr) (fun _ i _=>n - (intOf i).toNat)
 case atStart=>exact⟨0,yt _,rfl,rfl,yH _ _⟩
 case round=>
  obtain⟨j,E,rfl,rfl,f⟩:=hrel;have u:=f.size;by_cases m:j<n
  ·obtain⟨g,rfl⟩:=o (by omega);have d:=hv.cellAt j (by omega);rw[Em m]at d;have k:g<w.heap.size:=yJ _ _ d;have A:wr.cell? ⟨g,j,none⟩=some (.string (ZJ (k0+j))):=(f.cell (p:=⟨g,j,none⟩) k).trans d;have s:(j:Int)<(n:Int):=by omega
   have D:=zb hv;have x:=zb f;clear hv d f;go_wp2;go_region_with (go_at_call 61;refine (Ge (k0+j) _ (by omega) (by omega)).mono ?_;rintro e F ⟨rfl,r⟩;have C:=(r.cell (p:=⟨g,j,none⟩) (by simp;omega)).trans A)
   all_goals go_wp2
   all_goals go_roundw
   all_goals first
    | exact⟨j+1,by omega,by go_num,by go_num,(uh x).drew.trans (r.mono (by simp;omega))⟩
    |(simp[intOf];omega)
  ·go_wp2;go_ret;have l:j=n:=by omega
   subst l;exact⟨rfl,f⟩
theorem Sg:(Tryz.prog.info? 192).map (·.size)=some 2:=by kernel_rfl
theorem Eo:liesAt Tryz.prog Tryz.prog.depth 192 (2 / Tryz.prog.cellsOf 192) 0 192 1=true:=by kernel_rfl
theorem infoByte:(Tryz.prog.info? 5).map (fun i=>(i.zero,i.size,i.bytes))=some (some (.int .u8 0),1,1):=by kernel_rfl
theorem Sh(b:Nat)(w:Wo)(h0:w.cell? ⟨b,0,none⟩=some (.pointer (some ⟨b,0,none⟩))):
  Calls Tryz.prog 214 #[.pointer (some ⟨b,0,none⟩)] w fun e w'=>e= .returned (.tuple #[])/\w'=w:=by
 obtain⟨j,a,_⟩:=yz.1 Sg;go_in;go_wp2;rw[Lib.run_neq_ptr_same w _ Tryz.underlying190 a];go_wp2;go_end0;exact⟨rfl,rfl⟩
theorem Si(b:Nat)(w:Wo)(h0:w.cell? ⟨b,0,none⟩=some (.pointer none))(hsh:w.shape? b=some (192,2))(hfz:w.frozen? ⟨b,0,none⟩=false):
  Calls Tryz.prog 214 #[.pointer (some ⟨b,0,none⟩)] w fun e w'=>e= .returned (.tuple #[])/\w'=w.setCell ⟨b,0,none⟩ (.pointer (some ⟨b,0,none⟩)):=by
 obtain⟨j,d,a⟩:=yz.1 Sg;go_in;go_wp2;rw[Lib.run_to_unsafe w ⟨b,0,none⟩ Tryz.underlying190 Tryz.underlying238 d (by rw[a];decide) hsh (Nat.zero_lt_succ 1)];simp only[Result.andThen];rw[Oper.upon_value];go_wp2;rw[run_callFunc_extern Tryz.func240 (by kernel_rfl) (by kernel_rfl) (by kernel_rfl) (e:=Extern.AbiNoEscape.same) (by kernel_rfl)];rw[Lib.run_noEscape];simp only[Result.andThen];rw[Oper.upon_value];go_wp2;rw[Lib.run_from_unsafe w ⟨b,0,none⟩ Tryz.underlying238 Tryz.underlying190 d hsh Eo];simp only[Result.andThen];rw[Oper.upon_value];go_wp2;go_end0;exact⟨rfl,rfl⟩
theorem Sj(B b:Nat)(bs:List Value)(w:Wo)(h:Lib.IsBuilder 192 5 B b bs w):
  Calls Tryz.prog 214 #[.pointer (some ⟨b,0,none⟩)] w fun e w'=>e= .returned (.tuple #[])/\(Lib.BuilderAt 192 5 B b (.pointer (some ⟨b,0,none⟩)) bs w'/\Below B w w'):=by
 rcases h with h | h
 ·refine (Si b w h.cell0 h.shape h.frozen0).mono ?_;rintro e w' ⟨rfl,rfl⟩;exact⟨rfl,h.used _,(yH B w).setCell (p:=⟨b,0,none⟩) h.1 _⟩
 ·refine (Sh b w h.cell0).mono ?_;rintro e w' ⟨rfl,rfl⟩;exact⟨rfl,h,yH B _⟩
theorem UT(B b:Nat)(bs:List Value)(c:Int)(w:Wo)(h:Lib.IsBuilder 192 5 B b bs w)(hlen:bs.length+1<=140737488355328)(hBw:B<=w.heap.size):
  Calls Tryz.prog 180 #[.pointer (some ⟨b,0,none⟩),.int .u8 c] w fun e w'=>e= .returned .nilIface/\(Lib.BuilderAt 192 5 B b (.pointer (some ⟨b,0,none⟩)) (bs++[.int .u8 c]) w'/\Below B w w'):=by
 obtain⟨J,H,z,A,C⟩:=info_parts infoByte;go_in;go_wp2_with (go_at_call 214;refine (Sj B b bs _ h).mono ?_);rintro e o ⟨rfl,G,i⟩;obtain⟨D,v,m,n,y⟩:=G;have c0:o.cell? ⟨b,0,none⟩=some (.pointer (some ⟨b,0,none⟩)):=by rw[yF m];rfl
 have c1:o.cell? ⟨b,1,none⟩=some v:=by rw[yF m];rfl
 go_wp2_with (at_builtin;refine wpList_append_own _ rfl _ _ 160 rfl B 5 J (.int .u8 0) 1 1 Tryz.underlying160 H z A C rfl (by decide) _ _ _ rfl (n.alloc _) ⟨o.heap.size,0,none⟩ 1 1 [.int .u8 c] rfl rfl ?c1 ?c2 ?c3 ?c4 ?c5 ?_)
 case c1=>
  intro j u q
  match j,q with
  | 0,q=>simp at q;subst q;simp[Addr.add]
 case c2=>intro u E;simp at E;subst E;rfl
 case c3=>unfold maxLen;omega
 case c4=>omega
 case c5=>have:=i.size;simp;omega
 intro K r d a _;have x:b<o.heap.size:=by
  rcases Nat.lt_or_ge b o.heap.size with s | s
  ·exact s
  ·simp[Array.getElem?_eq_none s]at m
 have l:r.heap[b]?=some (.cells #[.pointer (some ⟨b,0,none⟩),v] 192 (0,0)):=by
  rw[a.block b (by simp;omega) (fun e=>y e.symm),Lib.alloc_old o _ b x];exact m
 have L:r.cell? ⟨b,0,none⟩=some (.pointer (some ⟨b,0,none⟩)):=by rw[yF l];rfl
 have M:r.cell? ⟨b,1,none⟩=some v:=by rw[yF l];rfl
 have N:r.frozen? ⟨b,1,none⟩=false:=yI l 1;obtain⟨g,f,rfl⟩:∃ g f,K= .slice (some ⟨g,0,none⟩) (bs.length+1) f:=by
  rcases d.2 with ⟨_,O⟩ |⟨g,f,F,I,_⟩
  ·omega
  ·exact⟨g,f,I⟩
 go_wp2;go_ret;refine⟨rfl,?_,?_⟩
 ·exact Lib.BuilderAt.put (T:=192) (e:=5) D l (bs':=bs++[.int .u8 c]) (by simpa using d) (by decide)
 ·exact ((i.alloc (by have:=i.size;omega) _).grown a (by have:=i.size;simp;omega) (fun k hk=>(n.lt k hk).1)).setCell (p:=⟨b,1,none⟩) D _
theorem Sk(B b:Nat)(bs:List Value)(s:Bs)(w:Wo)(h:Lib.IsBuilder 192 5 B b bs w)(hlen:bs.length+s.size<=140737488355328)(hBw:B<=w.heap.size):
  Calls Tryz.prog 252 #[.pointer (some ⟨b,0,none⟩),.string s] w fun e w'=>e= .returned (.tuple #[.int .i64 s.size,.nilIface])/\(Lib.BuilderAt 192 5 B b (.pointer (some ⟨b,0,none⟩)) (bs++Lib.strCells s) w'/\Below B w w'):=by
 obtain⟨I,H,y,z,A⟩:=info_parts infoByte;go_in;go_wp2_with (go_at_call 214;refine (Sj B b bs _ h).mono ?_);rintro e n ⟨rfl,G,m⟩;obtain⟨D,v,i,j,u⟩:=G;have c0:n.cell? ⟨b,0,none⟩=some (.pointer (some ⟨b,0,none⟩)):=by rw[yF i];rfl
 have c1:n.cell? ⟨b,1,none⟩=some v:=by rw[yF i];rfl
 go_wp2_with (at_builtin;refine Lib.wpList_append_own_string _ rfl _ _ 160 9 rfl B 5 I Tryz.underlying160 Tryz.underlying9 H y z A _ _ _ rfl j s rfl ?c3 ?c4 ?c5 ?_)
 case c3=>unfold maxLen;omega
 case c4=>omega
 case c5=>have:=m.size;omega
 intro J o d a _;have r:b<n.heap.size:=by
  rcases Nat.lt_or_ge b n.heap.size with q | q
  ·exact q
  ·simp[Array.getElem?_eq_none q]at i
 have f:o.heap[b]?=some (.cells #[.pointer (some ⟨b,0,none⟩),v] 192 (0,0)):=by
  rw[a.block b r (fun e=>u e.symm)];exact i
 have K:o.cell? ⟨b,0,none⟩=some (.pointer (some ⟨b,0,none⟩)):=by rw[yF f];rfl
 have L:o.cell? ⟨b,1,none⟩=some v:=by rw[yF f];rfl
 have M:o.frozen? ⟨b,1,none⟩=false:=yI f 1;obtain⟨C,E,l,rfl⟩:∃ C E l,J= .slice C E l:=by
  rcases d.2 with ⟨x,_⟩ |⟨g,l,F,x,_⟩
  ·exact⟨_,_,_,x⟩
  ·exact⟨_,_,_,x⟩
 go_wp2;go_ret2;refine⟨rfl,?_,?_⟩
 ·exact Lib.BuilderAt.put (T:=192) (e:=5) D f (bs':=bs++Lib.strCells s) (by simpa [Lib.strCells_length]using d) (by decide)
 ·exact (m.grown a (by have:=m.size;omega) (fun k hk=>(j.lt k hk).1)).setCell (p:=⟨b,1,none⟩) D _
open Go.Shelf in
def Sm:Go.Shelf.Ren:=⟨fun | 169=>130 | n=>n,fun | 70=>190 | 9=>9 | 0=>0 | 72=>192 | 37=>160 | 127=>230 | 3=>3 | 5=>5 | n=>n,fun | n=>n⟩
theorem Ep:Go.Proofs.Lays.n169 Tryz.prog Sm:={
 mixed:=by kernel_rfl
 f169:=Tryz.func130.trans (congrArg some (by kernel_rfl))
 t0:=Tryz.underlying0
 a0:=Tryz.isAgg0
 z0:=Tryz.sizeOf0
 v0:=Tryz.zeroValue0
 t3:=Tryz.underlying3
 a3:=Tryz.isAgg3
 z3:=Tryz.sizeOf3
 v3:=Tryz.zeroValue3
 t9:=Tryz.underlying9
 a9:=Tryz.isAgg9
 z9:=Tryz.sizeOf9
 v9:=Tryz.zeroValue9
 t37:=Tryz.underlying160
 a37:=Tryz.isAgg160
 z37:=Tryz.sizeOf160
 v37:=Tryz.zeroValue160
 t70:=Tryz.underlying190
 a70:=Tryz.isAgg190
 z70:=Tryz.sizeOf190
 v70:=Tryz.zeroValue190
 t72:=Tryz.underlying192
 a72:=Tryz.isAgg192
 z72:=Tryz.sizeOf192
 v72:=Tryz.zeroValue192
 t127:=Tryz.underlying230
 a127:=Tryz.isAgg230
 z127:=Tryz.sizeOf230
 v127:=Tryz.zeroValue230}
theorem Er:Builder.Extra Tryz.prog Sm:={
 sizeBuilder:=by kernel_rfl
 liesBuilder:=by kernel_rfl
 t5:=Tryz.underlying5
 a5:=Tryz.isAgg5
 z5:=Tryz.sizeOf5
 v5:=Tryz.zeroValue5
 infoByte:=by kernel_rfl
 cellsByte:=by kernel_rfl
 sizeByte:=by kernel_rfl
 neB5:=by decide}
theorem UU(B b:Nat)(l:List UInt8)(w:Wo)(h:Lib.IsBuilder 192 5 B b (Lib.byteCells l) w)(hBw:B<=w.heap.size):
  Calls Tryz.prog 130 #[.pointer (some ⟨b,0,none⟩)] w fun e w'=>e= .returned (.string ⟨l.toArray⟩)/\Below B w w':=Any.Builder_String_any Ep Er B b l w h hBw
abbrev zS(B b:Nat)(l:List UInt8)(w:Wo):Prop:=Lib.IsBuilder 192 5 B b (Lib.byteCells l) w
theorem zS.byte{B b:Nat}{l:List UInt8}{c:UInt8}{w:Wo}{n:Int}(hn:n=(c.toNat:Int))(h:Lib.BuilderAt 192 5 B b (.pointer (some ⟨b,0,none⟩)) (Lib.byteCells l++[.int .u8 n]) w):zS B b (l++[c]) w:=by
 subst hn;exact Or.inr (by rw[Lib.byteCells_append];exact h)
theorem zS.str{B b:Nat}{l:List UInt8}{s:Bs}{m:List UInt8}{w:Wo}(hm:m=s.data.toList)(h:Lib.BuilderAt 192 5 B b (.pointer (some ⟨b,0,none⟩)) (Lib.byteCells l++Lib.strCells s) w):zS B b (l++m) w:=by
 subst hm;exact Or.inr (by rw[Lib.byteCells_append];exact h)
theorem zS.cells{B b:Nat}{l m:List UInt8}{xs:List Value}{w:Wo}(hx:xs=Lib.byteCells m)(h:Lib.BuilderAt 192 5 B b (.pointer (some ⟨b,0,none⟩)) (Lib.byteCells l++xs) w):zS B b (l++m) w:=by
 subst hx;exact Or.inr (by rw[Lib.byteCells_append];exact h)
theorem Es(s:Bs)(w:Wo)(hs:s.size<=1048576):
  Calls Tryz.prog 159 #[.string s] w fun e w'=>e= .returned (Xh (zJ s.data.toList))/\Bw w w':=by
 go_in;go_wp2;go_loopw [5] (fun i wr=>∃ (j:Nat) (b:List UInt8),j<=s.size/\i= .int .i64 j/\zS w.heap.size w.heap.size b wr/\Bw w wr/\(Lib.byteCells b).length<=j/\Jf s.data.toList j b) (fun i _=>s.size - (intOf i).toNat)
 case atStart=>exact⟨0,[],yt _,rfl,Lib.fresh_isBuilder _ _ w,(yH _ _).alloc (ye _) _,ye _,Jf.start _⟩
 case round=>
  obtain⟨j,b,E,rfl,n,q,p,x⟩:=hrel;have g:=q.size;have r:=zb x;clear x;by_cases y:j<s.size
  ·have o:=Qn s j y;by_cases a:(s[j].toNat:Int)=126
   ·have C:((s[j].toNat:Int) !=126)=false:=by simpa using a
    by_cases l:j+1<s.size
    ·have k:=Qn s (j+1) l;have B:((j:Int)+1 ==(s.size:Int))=false:=by simp;omega
     by_cases d:(s[j+1].toNat:Int)=48
     ·have A:((s[j+1].toNat:Int) ==48)=true:=by simpa using d
      have v:Hid (zJ (s.data.toList.drop j)=(zJ (s.data.toList.drop (j+2))).map ([126]++·)):=by show _=_;rw[o,k,WO _ a d]
      clear a d o k;go_wp2_with (go_at_call 180;refine (UT w.heap.size w.heap.size _ _ _ n (by omega) g).mono ?_);rintro e z ⟨rfl,l,f⟩;have m:=zS.byte (c:=126) rfl l;clear l n;go_wp2;go_roundw
      case rel=>exact⟨j+2,b++[126],by omega,by go_num,m,q.trans f,by simp[Lib.byteCells]at p ⊢;omega,(uh r).step (uh v)⟩
      case measure=>simp[intOf];omega
     ·by_cases h:(s[j+1].toNat:Int)=49
      ·have A:((s[j+1].toNat:Int) ==48)=false:=by simpa using d
       have D:((s[j+1].toNat:Int) ==49)=true:=by simpa using h
       have v:Hid (zJ (s.data.toList.drop j)=(zJ (s.data.toList.drop (j+2))).map ([47]++·)):=by show _=_;rw[o,k,WP _ a h]
       clear a d h o k;go_wp2_with (go_at_call 180;refine (UT w.heap.size w.heap.size _ _ _ n (by omega) g).mono ?_);rintro e z ⟨rfl,l,f⟩;have m:=zS.byte (c:=47) rfl l;clear l n;go_wp2;go_roundw
       case rel=>exact⟨j+2,b++[47],by omega,by go_num,m,q.trans f,by simp[Lib.byteCells]at p ⊢;omega,(uh r).step (uh v)⟩
       case measure=>simp[intOf];omega
      ·have A:((s[j+1].toNat:Int) ==48)=false:=by simpa using d
       have D:((s[j+1].toNat:Int) ==49)=false:=by simpa using h
       have u:=zb ((uh r).bad (by rw[o,k,UP _ a d h]));clear a d h o k n;go_wp2;go_ret2;exact⟨by rw[uh u];rfl,q⟩
    ·have B:((j:Int)+1 ==(s.size:Int))=true:=by simp;omega
     have u:=zb ((uh r).bad (by rw[o,WQ s (j+1) l,UO a]));clear a o n;go_wp2;go_ret2;exact⟨by rw[uh u];rfl,q⟩
   ·have C:((s[j].toNat:Int) !=126)=true:=by simpa using a
    have v:Hid (zJ (s.data.toList.drop j)=(zJ (s.data.toList.drop (j+1))).map ([s[j]]++·)):=by show _=_;rw[o,WN _ a]
    clear a o;go_wp2_with (go_at_call 180;refine (UT w.heap.size w.heap.size _ _ _ n (by omega) g).mono ?_);rintro e z ⟨rfl,l,f⟩;have m:=zS.byte (c:=s[j]) rfl l;clear l n;go_wp2;go_roundw
    case rel=>exact⟨j+1,b++[s[j]],by omega,by go_num,m,q.trans f,by simp[Lib.byteCells]at p ⊢;omega,(uh r).step (uh v)⟩
    case measure=>simp[intOf];omega
  ·have u:=zb ((uh r).fin (by rw[Zn];omega));go_wp2_with (go_at_call 130;refine (UU w.heap.size w.heap.size b _ n g).mono ?_);rintro e z ⟨rfl,f⟩;clear n;go_wp2;go_ret2;exact⟨by rw[uh u];rfl,q.trans f⟩
theorem Et{w w1 w2:Wo}{r:Option Nat}(h:w.grownBy w1 r)(k:w1.grownBy w2 r):w.grownBy w2 r:=
 ⟨k.os.trans h.os,k.tape.trans h.tape,k.output.trans h.output,yP h.size k.size,fun j hj hne=>(k.block j (yE hj h.size) hne).trans (h.block j hj hne)⟩
theorem Eu{w w1:Wo}{r:Option Nat}(h:Bw w w1):w.grownBy w1 r:=⟨h.os,h.tape,h.output,h.size,fun k hk _=>h.block k hk⟩
theorem Ev(w:Wo)(n rb i:Nat)(z:Value):w.grownBy ((w.drewN n).setCell ⟨rb,i,none⟩ z) (some rb):=
 ⟨rfl,rfl,rfl,by simp[World.setCell],fun k _ hne=>Below.heap_setCell (w.drewN n) ⟨rb,i,none⟩ z k (fun e=>hne (by rw[e]))⟩
def ZV(ts us:List (List UInt8)):Bool:=decide (ts.length<=us.length/\∀ j,j<ts.length->ts.getD j []=us.getD j [])
theorem Xo{ts:List (List UInt8)}{j:Nat}(h:j<ts.length):(ts.map zz).getD j ByteArray.empty=zz (ts.getD j []):=by simp[h]
theorem Ew{a b:List UInt8}(h:zz a=zz b):a=b:=by
 have:(zz a).data.toList=(zz b).data.toList:=by rw[h]
 simpa [zz]using this
theorem Oq{B1 B2:Nat}(v u:Value)(ts us:List (List UInt8))(w:Wo)(h:OT w B1 v ts)(k:OT w B2 u us)(hl:ts.length<=1048577)(hl2:us.length<=1048577):
  Calls Tryz.prog 94 #[v,u] w fun e w'=>e= .returned (.bool (ZV ts us))/\∃ n,w'=w.drewN n:=by
 obtain⟨a,g,M,rfl,F,_⟩:=h.shape;obtain⟨Q,R,I,rfl,s,_⟩:=k.shape;have d:=F.ad;have f:=s.ad;have G:=zb F.cell;have H:=zb s.cell;rw[yl]at d f;simp only[yl]at G H;clear h k F s;by_cases A:ts.length<=us.length
 ·have B:¬ (us.length:Int)<(ts.length:Int):=by omega
  go_in;go_wp2;go_loopw [5] (fun i wr=>∃ m:Nat,m<=ts.length/\i= .int .i64 m/\(∀ j,j<m->ts.getD j []=us.getD j [])/\∃ n,wr=w.drewN n) (fun i _=>ts.length - (intOf i).toNat)
  case atStart=>exact⟨0,yt _,rfl,fun j hj=>by omega,0,rfl⟩
  case round=>
   obtain⟨m,S,rfl,b,n,rfl⟩:=hrel;have E:=zb b;clear b;by_cases o:m<ts.length
   ·have l:m<us.length:=by omega
    have y:=uh G m o;have z:=uh H m l;obtain rfl:=d (by omega);obtain rfl:=f (by omega);rw[Xo o]at y;rw[Xo l]at z;have x:Hid (ts.getD m []≠us.getD m []->ZV ts us=false):=fun h=>by
     unfold ZV;rw[decide_eq_false_iff_not];rintro⟨_,O⟩;exact h (O m o)
    have L:Hid (ts.getD m []=us.getD m []->∀ j,j<m+1->ts.getD j []=us.getD j []):=fun h j hj=>by
     by_cases e:j=m
     ·subst e;exact h
     ·exact uh E j (by omega)
    clear d f E;generalize ts.getD m []=p at *;generalize us.getD m []=q at *;have J:(m:Int)<(ts.length:Int):=by omega
    have K:(m:Int)<(us.length:Int):=by omega
    rw[Nat.zero_add]at y z;by_cases r:p=q
    ·subst r;have C:=zb (uh L rfl);go_wp2;go_quiet (fail);go_wp2;go_roundw
     case rel=>exact⟨m+1,by omega,by go_num,uh C,_,by first | rfl |(simp[World.drewN_drewN])⟩
     case measure=>simp[intOf];omega
    ·have D:=zb (uh x r);have P:((zz p).toList ==(zz q).toList)=false:=by
      rw[yd,Lib.toList_data,Lib.toList_data];intro e;exact r (by simpa [zz]using e)
     go_wp2;go_quiet (fail);go_wp2;go_ret;exact⟨by rw[uh D];rfl,_,World.drewN_drewN ..⟩
   ·have x:Hid (ZV ts us=true):=by
     show _=_;unfold ZV;rw[decide_eq_true_iff];exact⟨A,fun j hj=>uh E j (by omega)⟩
    clear d f;go_wp2;go_ret;exact⟨by rw[uh x];rfl,_,rfl⟩
 ·have x:Hid (ZV ts us=false):=by
   show _=_;unfold ZV;rw[decide_eq_false_iff_not];rintro⟨N,_⟩;exact A N
  have B:(us.length:Int)<(ts.length:Int):=by omega
  go_in;go_wp2;go_ret;exact⟨by rw[uh x];rfl,0,rfl⟩
end Go.Proofs.YtekpghcckdjnhaaGreatDoor
namespace Go.Proofs.YtekpghcckdjnhaaGreatDoor
def Y4(o1 o2:Option (List (List UInt8))):Int:=match o1,o2 with
 | some ts,some us=>if ZV ts us=true/\ZV us ts=true then 1 else if ZV ts us=true then 2 else if ZV us ts=true then 3 else 0
 | _,_=>-1
def Ot(n:Nat)(ts us:List (List UInt8)):Bool:=decide ((ts.map zz).take n=(us.map zz).take n)
theorem Ez{ts us:List (List UInt8)}(h:ts.length<=us.length):Ot ts.length ts us=ZV ts us:=by
 unfold Ot ZV;rw[decide_eq_decide];constructor
 ·intro e;refine⟨h,fun j b=>?_⟩;have:=congrArg (fun l=>l[j]?) e;simp[b]at this;have a:j<us.length:=by omega
  simp[a]at this;simpa [b,a]using Ew this
 ·rintro⟨_,e⟩;apply List.ext_getElem?;intro j;by_cases b:j<ts.length
  ·have a:j<us.length:=by omega
   have:=e j b;simp[b,a]at this;simp[b,a,this]
  ·simp[List.getElem?_take,b]
theorem EA{ts us:List (List UInt8)}(h:ZV ts us=true):ts.length<=us.length:=by
 unfold ZV at h;exact (of_decide_eq_true h).1
end Go.Proofs.YtekpghcckdjnhaaGreatDoor
namespace Go.Proofs.YtekpghcckdjnhaaGreatDoor
open Go.RowKit
theorem Ou(b:Nat)(w:Wo)(hb:b<256):
  Calls Tryz.prog 209 #[.int .u8 b] w fun e w'=>e= .returned (.bool (zI b))/\w=w':=by
 by_cases h:48<=b
 ·have a:Hid (zI b=decide ((b:Int)<=57)):=by
   show _=_
   unfold zI;rw[yj h,Bool.true_and];apply decide_eq_decide.2;omega
  have d:(48:Int)<=(b:Int):=by omega
  go_in;go_wp2;go_ret;exact⟨by rw[uh a];rfl,rfl⟩
 ·have a:Hid (zI b=false):=by
   show _=_
   unfold zI;rw[yk h,Bool.false_and]
  have d:¬ (48:Int)<=(b:Int):=by omega
  go_in;go_wp2;go_ret;exact⟨by rw[uh a];rfl,rfl⟩
def W2(most:Nat)(t:List UInt8):Prop:=1<=t.length/\t.length<=most/\∀ c∈t,zI c.toNat=true
instance (most : Nat) (t : List UInt8) : Decidable (W2 most t) := by unfold W2; infer_instance
def YH(most:Nat)(t:List UInt8):Value:=if W2 most t then .tuple #[.int .i64 (qm t:Int),.bool true]else .tuple #[.int .i64 0,.bool false]
theorem EB(s:Bs)(most:Nat)(w:Wo)(hs:s.size<=1048576)(hm:most<=9):
  Calls Tryz.prog 187 #[.string s,.int .i64 (most:Int)] w fun e w'=>e= .returned (YH most s.data.toList)/\w=w':=by
 have b:¬ W2 most s.data.toList->YH most s.data.toList= .tuple #[.int .i64 0,.bool false]:=fun h=>by unfold YH;rw[yf h]
 have n:=Zn s;by_cases B:s.size<1
 ·have z:=zb (b (fun h=>by have:=h.1;omega));have E:s=⟨#[]⟩:=by
   have:s.data.toList=[]:=yN (by omega);obtain⟨⟨l⟩⟩:=s;simp at this;subst this;rfl
  subst E;clear b B n hs;go_in;go_wp2;go_ret2;exact⟨by rw[uh z];rfl,rfl⟩
 ·have P:s.toList.isEmpty=false:=by
   rw[ByteArray.toList_eq,List.isEmpty_eq_false_iff];intro e;rw[e]at n;simp at n;omega
  by_cases F:most<s.size
  ·have z:=zb (b (fun h=>by have:=h.2.1;omega));have K:(most:Int)<(s.size:Int):=by omega
   clear b B F;go_in;go_wp2;go_ret2;exact⟨by rw[uh z];rfl,rfl⟩
  ·have K:¬ (most:Int)<(s.size:Int):=by omega
   have M:0<s.size:=by omega
   have N:(0:Int)<(s.size:Int):=by omega
   have x:Hid (∀ (k:Nat) (r:k<s.size) (w:Wo),Calls Tryz.prog 209 #[.int .u8 (s[k].toNat:Int)] w (Rk (.bool (zI s[k].toNat)) w)):=fun k r w=>Ou s[k].toNat w (UInt8.toNat_lt _);have f:Hid (∀ k (r:k<s.size),zI s[k].toNat=false->YH most s.data.toList= .tuple #[.int .i64 0,.bool false]):=fun k r hd=>b (fun h=>by
    have:=h.2.2 s[k] (by rw[← RW s k r];exact yr _);rw[hd]at this;cases this)
   have d:Hid ((∀ k (r:k<s.size),zI s[k].toNat=true)->YH most s.data.toList= .tuple #[.int .i64 (qm s.data.toList:Int),.bool true]):=fun g=>by
    have C:W2 most s.data.toList:=⟨by omega,by omega,fun c hc=>by
     obtain⟨j,m,rfl⟩:=List.getElem_of_mem hc;exact g j (by omega)⟩
    unfold YH;rw[yg C]
   have H:s.size<=9:=by omega
   clear b B F;go_in;go_wp2;go_loopw [6,18] (fun vv iv wr=>∃ k:Nat,k<=s.size/\iv= .int .i64 (k:Int)/\vv= .int .i64 ((qm (s.data.toList.take k):Nat):Int)/\(∀ j (m:j<s.size),j<k->zI s[j].toNat=true)/\w=wr) (fun _ iv _=>s.size - (intOf iv).toNat)
   case atStart=>exact⟨0,yt _,rfl,rfl,fun j _ m=>by omega,rfl⟩
   case round=>
    obtain⟨k,r,rfl,rfl,g,rfl⟩:=hrel;have a:=zb g;clear g;by_cases p:k<s.size
    ·have G:(k:Int)<(s.size:Int):=by omega
     have i:=zb (uh x k p w);have q:s.data.toList.take (k+1)=s.data.toList.take k++[s[k]]:=WM s k p;have u:Hid (qm (s.data.toList.take (k+1))=qm (s.data.toList.take k)*10+(s[k].toNat - 48)):=by show _=_;rw[q,WU]
     have o:qm (s.data.toList.take k)<1000000000∨¬ ∀ c∈s.data.toList.take k,zI c.toNat=true:=by
      rcases RY k (s.data.toList.take k) (by rw[ym];omega)with h | h
      ·left;have:10 ^ k<=10 ^ 9:=Nat.pow_le_pow_right (by omega) (by omega);omega
      ·exact .inr h
     have v:qm (s.data.toList.take k)<1000000000:=o.elim id fun h=>absurd (fun c hc=>by
      obtain⟨j,m,rfl⟩:=List.getElem_of_mem hc;rw[ym]at m;rw[List.getElem_take];exact uh a j (by omega) (by omega)) h
     cases hd:zI s[k].toNat with
     | false=>
      have A:=zb (uh f k p hd);rw[hd]at i;clear hd u q o v a f d x;go_wp2_with fail;refine (uh i).mono ?_;rintro e L ⟨rfl,rfl⟩;clear i;go_wp2;go_ret2;exact⟨by rw[uh A];rfl,rfl⟩
     | true=>
      have O:=Qo.1 hd;have y:Hid (∀ j (m:j<s.size),j<k+1->zI s[j].toNat=true):=fun j m hjk=>by
       by_cases e:j=k
       ·subst e;exact hd
       ·exact uh a j m (by omega)
      rw[hd]at i;have I:(48:Int)<=(s[k].toNat:Int):=by omega
      have J:(s[k].toNat:Int)<=57:=by omega
      generalize qm (s.data.toList.take k)=D at *;clear hd q o a f d x;go_wp2_with fail;refine (uh i).mono ?_;rintro e L ⟨rfl,rfl⟩;clear i;go_wp2;go_roundw
      case rel=>exact⟨k+1,by omega,by go_num,by rw[uh u];go_num,uh y,trivial⟩
      case measure=>simp[intOf];omega
    ·have e:s.data.toList.take k=s.data.toList:=yq (by omega);rw[e];have A:=zb (uh d (fun j m=>uh a j m (by omega)));generalize qm s.data.toList=D at *;clear a f d x e;go_wp2;go_ret2;exact⟨by rw[uh A];rfl,rfl⟩
theorem EC(most:Nat)(t:List UInt8):∃ (z:Int) (b:Bool),YH most t= .tuple #[.int .i64 z,.bool b]:=by
 unfold YH;split
 ·exact⟨_,_,rfl⟩
 ·exact⟨_,_,rfl⟩
def Gf(w:Wo):Prop:=Lib.Utf8Tabs 2 3 w
theorem Gf.below{w w':Wo}(h:Gf w)(hb:Bw w w'):Gf w':=by
 refine⟨fun c hc=>?_,fun i hi=>?_⟩
 ·have:=h.1 c hc;exact (hb.cell (yJ _ _ this)).trans this
 ·have a:=h.2 i hi;exact⟨(hb.cell (yJ _ _ a.1)).trans a.1,(hb.cell (yJ _ _ a.2)).trans a.2⟩
def qJ(B:Nat)(w:Wo):Prop:=∃ w0:Wo,w0.heap.size<=B/\Gf w0/\Bw w0 w
theorem qJ.of{w:Wo}(h:Gf w):qJ w.heap.size w:=⟨w,ye _,h,yH _ _⟩
theorem qJ.tabs{B:Nat}{w:Wo}(h:qJ B w):Gf w:=by
 obtain⟨a,_,t,b⟩:=h;exact t.below b
theorem qJ.next{B B':Nat}{w w':Wo}(h:qJ B w)(hb:Below B' w w')(hB:B<=B'):qJ B w':=by
 obtain⟨d,a,t,b⟩:=h;exact⟨d,a,t,b.trans (hb.mono (by omega))⟩
theorem Ov{w:Wo}{B e:Nat}{v:Value}{n:Nat}{xs:List Value}(h:w.ownsRow B e 1 v n xs):∀ k,v.ownBlock=some k->∃ cs fz,w.heap[k]?=some (.cells cs e fz):=by
 intro k a;rcases h.2 with ⟨rfl,_⟩ |⟨g,b,d,rfl,_,f,_⟩
 ·simp[Value.ownBlock]at a
 ·simp only[Value.ownBlock,Option.some.injEq]at a;subst a;exact⟨_,_,f⟩
theorem Ow(B b:Nat)(bs:List Value)(w:Wo)(h:Lib.IsBuilder 192 5 B b bs w):
  Calls Tryz.prog 214 #[.pointer (some ⟨b,0,none⟩)] w fun e w'=>e= .returned (.tuple #[])/\(Lib.BuilderAt 192 5 B b (.pointer (some ⟨b,0,none⟩)) bs w'/\Below B w w'/\Lib.OthersKept 5 (some b) w w'):=by
 rcases h with h | h
 ·refine (Si b w h.cell0 h.shape h.frozen0).mono ?_;rintro e w' ⟨rfl,rfl⟩;exact⟨rfl,h.used _,(yH B w).setCell (p:=⟨b,0,none⟩) h.1 _,(Lib.OthersKept.refl _ _ w).setCell ⟨b,0,none⟩ rfl _⟩
 ·refine (Sh b w h.cell0).mono ?_;rintro e w' ⟨rfl,rfl⟩;exact⟨rfl,h,yH B _,Lib.OthersKept.refl _ _ _⟩
theorem W6(B b:Nat)(bs:List Value)(c:Int)(w:Wo)(h:Lib.IsBuilder 192 5 B b bs w)(hlen:bs.length+1<=140737488355328)(hBw:B<=w.heap.size):
  Calls Tryz.prog 180 #[.pointer (some ⟨b,0,none⟩),.int .u8 c] w fun e w'=>e= .returned .nilIface/\(Lib.BuilderAt 192 5 B b (.pointer (some ⟨b,0,none⟩)) (bs++[.int .u8 c]) w'/\Below B w w'/\Lib.OthersKept 5 (some b) w w'):=by
 obtain⟨K,I,A,C,D⟩:=info_parts infoByte;go_in;go_wp2_with (go_at_call 214;refine (Ow B b bs _ h).mono ?_);rintro e o ⟨rfl,H,l,x⟩;obtain⟨E,v,n,d,z⟩:=H;have c0:o.cell? ⟨b,0,none⟩=some (.pointer (some ⟨b,0,none⟩)):=by rw[yF n];rfl
 have c1:o.cell? ⟨b,1,none⟩=some v:=by rw[yF n];rfl
 go_wp2_with (at_builtin;refine wpList_append_own _ rfl _ _ 160 rfl B 5 K (.int .u8 0) 1 1 Tryz.underlying160 I A C D rfl (by decide) _ _ _ rfl (d.alloc _) ⟨o.heap.size,0,none⟩ 1 1 [.int .u8 c] rfl rfl ?c1 ?c2 ?c3 ?c4 ?c5 ?_)
 case c1=>
  intro j u q
  match j,q with
  | 0,q=>simp at q;subst q;simp[Addr.add]
 case c2=>intro u F;simp at F;subst F;rfl
 case c3=>unfold maxLen;omega
 case c4=>omega
 case c5=>have:=l.size;simp;omega
 intro L r f a _;have y:b<o.heap.size:=by
  rcases Nat.lt_or_ge b o.heap.size with s | s
  ·exact s
  ·simp[Array.getElem?_eq_none s]at n
 have m:r.heap[b]?=some (.cells #[.pointer (some ⟨b,0,none⟩),v] 192 (0,0)):=by
  rw[a.block b (by simp;omega) (fun e=>z e.symm),Lib.alloc_old o _ b y];exact n
 have M:r.cell? ⟨b,0,none⟩=some (.pointer (some ⟨b,0,none⟩)):=by rw[yF m];rfl
 have N:r.cell? ⟨b,1,none⟩=some v:=by rw[yF m];rfl
 have O:r.frozen? ⟨b,1,none⟩=false:=yI m 1;obtain⟨g,i,rfl⟩:∃ g i,L= .slice (some ⟨g,0,none⟩) (bs.length+1) i:=by
  rcases f.2 with ⟨_,P⟩ |⟨g,i,G,J,_⟩
  ·omega
  ·exact⟨g,i,J⟩
 go_wp2;go_ret;refine⟨rfl,?_,?_,((x.alloc _).grown a (Ov (d.alloc _))).setCell ⟨b,1,none⟩ rfl _⟩
 ·exact Lib.BuilderAt.put (T:=192) (e:=5) E m (bs':=bs++[.int .u8 c]) (by simpa using f) (by decide)
 ·exact ((l.alloc (by have:=l.size;omega) _).grown a (by have:=l.size;simp;omega) (fun k hk=>(d.lt k hk).1)).setCell (p:=⟨b,1,none⟩) E _
theorem YI(B b:Nat)(bs:List Value)(s:Bs)(w:Wo)(h:Lib.IsBuilder 192 5 B b bs w)(hlen:bs.length+s.size<=140737488355328)(hBw:B<=w.heap.size):
  Calls Tryz.prog 252 #[.pointer (some ⟨b,0,none⟩),.string s] w fun e w'=>e= .returned (.tuple #[.int .i64 s.size,.nilIface])/\(Lib.BuilderAt 192 5 B b (.pointer (some ⟨b,0,none⟩)) (bs++Lib.strCells s) w'/\Below B w w'/\Lib.OthersKept 5 (some b) w w'):=by
 obtain⟨J,I,z,A,C⟩:=info_parts infoByte;go_in;go_wp2_with (go_at_call 214;refine (Ow B b bs _ h).mono ?_);rintro e n ⟨rfl,H,m,r⟩;obtain⟨E,v,j,d,x⟩:=H;have c0:n.cell? ⟨b,0,none⟩=some (.pointer (some ⟨b,0,none⟩)):=by rw[yF j];rfl
 have c1:n.cell? ⟨b,1,none⟩=some v:=by rw[yF j];rfl
 go_wp2_with (at_builtin;refine Lib.wpList_append_own_string _ rfl _ _ 160 9 rfl B 5 J Tryz.underlying160 Tryz.underlying9 I z A C _ _ _ rfl d s rfl ?c3 ?c4 ?c5 ?_)
 case c3=>unfold maxLen;omega
 case c4=>omega
 case c5=>have:=m.size;omega
 intro K o f a _;have u:b<n.heap.size:=by
  rcases Nat.lt_or_ge b n.heap.size with q | q
  ·exact q
  ·simp[Array.getElem?_eq_none q]at j
 have i:o.heap[b]?=some (.cells #[.pointer (some ⟨b,0,none⟩),v] 192 (0,0)):=by
  rw[a.block b u (fun e=>x e.symm)];exact j
 have L:o.cell? ⟨b,0,none⟩=some (.pointer (some ⟨b,0,none⟩)):=by rw[yF i];rfl
 have M:o.cell? ⟨b,1,none⟩=some v:=by rw[yF i];rfl
 have N:o.frozen? ⟨b,1,none⟩=false:=yI i 1;obtain⟨D,F,l,rfl⟩:∃ D F l,K= .slice D F l:=by
  rcases f.2 with ⟨y,_⟩ |⟨g,l,G,y,_⟩
  ·exact⟨_,_,_,y⟩
  ·exact⟨_,_,_,y⟩
 go_wp2;go_ret2;refine⟨rfl,?_,?_,(r.grown a (Ov d)).setCell ⟨b,1,none⟩ rfl _⟩
 ·exact Lib.BuilderAt.put (T:=192) (e:=5) E i (bs':=bs++Lib.strCells s) (by simpa [Lib.strCells_length]using f) (by decide)
 ·exact (m.grown a (by have:=m.size;omega) (fun k hk=>(d.lt k hk).1)).setCell (p:=⟨b,1,none⟩) E _
end Go.Proofs.YtekpghcckdjnhaaGreatDoor
namespace Go.Proofs.YtekpghcckdjnhaaGreatDoor
theorem Ox:∀ t:List UInt8,zJ (Zq t)=some t
 | []=>rfl
 | c :: t=>by
  have ih:=Ox t;have e:Zq (c :: t)=QI c++Zq t:=by simp[Zq]
  rw[e];by_cases a:(c.toNat:Int)=126
  ·rw[F7 a];show zJ (126 :: 48 :: Zq t)=_
   rw[WO _ (by decide) (by decide),ih];have:c=126:=by have:=UInt8.ofNat_toNat (x:=c);rw[show c.toNat=126 from by omega]at this;exact this.symm
   subst this;rfl
  ·by_cases b:(c.toNat:Int)=47
   ·rw[F8 b];show zJ (126 :: 49 :: Zq t)=_
    rw[WP _ (by decide) (by decide),ih];have:c=47:=by have:=UInt8.ofNat_toNat (x:=c);rw[show c.toNat=47 from by omega]at this;exact this.symm
    subst this;rfl
   ·rw[UN a b];show zJ (c :: Zq t)=_
    rw[WN _ a,ih];rfl
theorem Sn(t:List UInt8):∀ c∈Zq t,¬ c.toNat=47:=by
 intro c d;unfold Zq at d;obtain⟨a,_,b⟩:=List.mem_flatMap.1 d;unfold QI at b;split at b
 ·simp at b;rcases b with rfl | rfl<;>decide
 ·split at b
  ·simp at b;rcases b with rfl | rfl<;>decide
  ·simp at b;subst b;assumption
theorem ED(ts us:List (List UInt8)):ZV ts (ts++us)=true:=by
 unfold ZV;rw[decide_eq_true_iff];exact⟨by simp,fun j hj=>by simp[List.getD,List.getElem?_append_left hj]⟩
theorem Wc{c:UInt8}{n:Nat}(h:c.toNat=n):c=UInt8.ofNat n:=by rw[← h,UInt8.ofNat_toNat]
theorem Oy{α β:Type}{o:Option α}{f:α->β}{b:β}(h:o.map f=some b):∃ a,o=some a/\f a=b:=by
 cases o with
 | none=>simp at h
 | some a=>exact⟨a,rfl,by simpa using h⟩
theorem EE(n:Nat):∀ (p t:List UInt8),p.length<=n->zJ p=some t->(∀ c∈p,¬ c.toNat=47)->p=Zq t:=by
 induction n with
 | zero=>intro p t k h _;obtain rfl:=yN (Nat.le_zero.1 k);simp[zJ]at h;subst h;rfl
 | succ n ih=>
  intro p t k h a
  cases p with
  | nil=>simp[zJ]at h;subst h;rfl
  | cons c r=>
   by_cases f:(c.toNat:Int)=126
   ·cases r with
    | nil=>rw[UO f]at h;cases h
    | cons d r=>
     by_cases l:(d.toNat:Int)=48
     ·rw[WO r f l]at h;obtain⟨g,i,j⟩:=Oy h;subst j;have:=ih r g (by simp at k;omega) i (fun c b=>a c (yv _ (yv _ b)));rw[this,Wc (show c.toNat=126 by omega),Wc (show d.toNat=48 by omega)];rfl
     ·by_cases m:(d.toNat:Int)=49
      ·rw[WP r f m]at h;obtain⟨g,i,j⟩:=Oy h;subst j;have:=ih r g (by simp at k;omega) i (fun c b=>a c (yv _ (yv _ b)));rw[this,Wc (show c.toNat=126 by omega),Wc (show d.toNat=49 by omega)];rfl
      ·rw[UP r f l m]at h;cases h
   ·rw[WN r f]at h;obtain⟨g,i,j⟩:=Oy h;subst j;have:=ih r g (by simp at k;omega) i (fun c b=>a c (yv _ b));have b:¬ (c.toNat:Int)=47:=fun e=>a c yp (by omega);show c :: r=QI c++Zq g
    rw[UN f b,← this];rfl
theorem Xp:∀ (l p:List UInt8),p∈ZH l->∀ c∈p,¬ c.toNat=47
 | [],p,h,c,hc=>by simp[ZH]at h;subst h;simp at hc
 | a :: r,p,h,c,hc=>by
  by_cases ha:a.toNat=47
  ·rw[Gb r ha]at h;rcases List.mem_cons.1 h with rfl | h
   ·simp at hc
   ·exact Xp r p h c hc
  ·cases hp:ZH r with
   | nil=>exact absurd hp (Ga r)
   | cons q qs=>
    rw[Y1 ha hp]at h;rcases List.mem_cons.1 h with rfl | h
    ·rcases List.mem_cons.1 hc with rfl | hc
     ·exact ha
     ·exact Xp r q (by rw[hp];exact yp) c hc
    ·exact Xp r p (by rw[hp];exact yv _ h) c hc
def Gg(ps:List (List UInt8)):List UInt8:=ps.flatMap (fun p=>47 :: p)
theorem So:∀ l:List UInt8,Gg (ZH l)=47 :: l
 | []=>rfl
 | a :: r=>by
  have ih:=So r;by_cases b:a.toNat=47
  ·rw[Gb r b,show Gg ([] :: ZH r)=47 :: Gg (ZH r)from rfl,ih,Wc b];rfl
  ·cases hp:ZH r with
   | nil=>exact absurd hp (Ga r)
   | cons q qs=>
    rw[Y1 b hp];rw[hp]at ih;have e:q++Gg qs=r:=by simpa [Gg]using ih
    show 47 ::(a :: q++Gg qs)=_
    rw[← e];rfl
def ptr(ts:List (List UInt8)):List UInt8:=ts.flatMap (fun t=>47 :: Zq t)
theorem Sp:∀ (ps ts:List (List UInt8)),ps.mapM zJ=some ts->(∀ p∈ps,∀ c∈p,¬ c.toNat=47)->Gg ps=ptr ts
 | [],ts,h,_=>by simp at h;subst h;rfl
 | p :: ps,ts,h,hno=>by
  rw[List.mapM_cons]at h
  cases h1:zJ p with
  | none=>rw[h1]at h;simp at h
  | some t=>
   cases h2:ps.mapM zJ with
   | none=>rw[h1,h2]at h;simp at h
   | some us=>
    rw[h1,h2]at h;simp at h;subst h;have e1:=EE _ p t (ye _) h1 (hno p yp);have a:=Sp ps us h2 (fun q hq=>hno q (yv _ hq));show 47 ::(p++Gg ps)=47 ::(Zq t++ptr us)
    rw[a,e1]
theorem Sq{l:List UInt8}{ts:List (List UInt8)}(h:zG l=some ts):l=ptr ts:=by
 cases l with
 | nil=>simp[zG]at h;subst h;rfl
 | cons c r=>
  rw[zG]at h;split at h
  ·rename_i hc;unfold QB at h;have:=Sp _ _ h (fun p hp=>Xp r p hp);rw[So]at this;rw[← this,Wc hc];rfl
  ·cases h
theorem EF{a b:List UInt8}(h:Zq a=Zq b):a=b:=by
 have d:=Ox a;have f:=Ox b;rw[h,f]at d;exact (Option.some.inj d).symm
def Sl(l:List UInt8):Prop:=l=[]∨∃ r,l=47 :: r
theorem Oz(ts:List (List UInt8)):Sl (ptr ts):=by cases ts with
 | nil=>exact .inl rfl
 | cons t ts=>exact .inr ⟨_,rfl⟩
theorem Sr:∀ (a b x y:List UInt8),(∀ c∈a,¬ c.toNat=47)->(∀ c∈b,¬ c.toNat=47)->Sl x->Sl y->a++x=b++y->a=b/\x=y
 | [],[],x,y,_,_,_,_,h=>⟨rfl,h⟩
 | [],d :: b,x,y,_,hb,hx,_,h=>by
  rcases hx with rfl |⟨r,rfl⟩
  ·simp at h
  ·simp at h;exact absurd (by rw[← h.1];rfl) (hb d yp)
 | c :: a,[],x,y,ha,_,_,hy,h=>by
  rcases hy with rfl |⟨r,rfl⟩
  ·simp at h
  ·simp at h;exact absurd (by rw[h.1];rfl) (ha c yp)
 | c :: a,d :: b,x,y,ha,hb,hx,hy,h=>by
  simp at h;have:=Sr a b x y (fun c hc=>ha c (yv _ hc)) (fun c hc=>hb c (yv _ hc)) hx hy h.2;exact⟨by rw[h.1,this.1],this.2⟩
theorem EG{x y:List UInt8}(hx:Sl x)(hy:Sl y):Sl (x++y):=by
 rcases hx with rfl |⟨r,rfl⟩
 ·exact hy
 ·exact .inr ⟨_,rfl⟩
theorem Ss:∀ (ts us:List (List UInt8)) (rest:List UInt8),Sl rest->ptr us=ptr ts++rest->∃ vs,us=ts++vs
 | [],us,_,_,_=>⟨us,rfl⟩
 | t :: ts,us,rest,hr,h=>by
  cases us with
  | nil=>simp[ptr]at h
  | cons u us=>
   have e:Zq u++ptr us=Zq t++(ptr ts++rest):=by
    have:(47:UInt8) ::(Zq u++ptr us)=47 ::(Zq t++ptr ts++rest):=h;simpa using this
   obtain⟨a,b⟩:=Sr _ _ _ _ (Sn u) (Sn t) (Oz us) (EG (Oz ts) hr) e;obtain⟨vs,rfl⟩:=Ss ts us rest hr b;exact⟨vs,by rw[EF a];rfl⟩
theorem St(ts us:List (List UInt8)):ZV ts us=true↔∃ vs,us=ts++vs:=by
 constructor
 ·intro h;have b:=EA h;rw[← Ez b]at h;unfold Ot at h;have h:=of_decide_eq_true h;refine⟨us.drop ts.length,?_⟩;have e:ts=us.take ts.length:=by
   have a:(ts.map zz).map (·.data.toList)=(us.take ts.length).map (fun x=>(zz x).data.toList):=by
    rw[← List.map_take,yq (by simp)]at h;rw[h];simp[Function.comp_def]
   simpa [zz,Function.comp_def]using a
  conv=>lhs;rw[← List.take_append_drop ts.length us]
  rw[← e]
 ·rintro⟨vs,rfl⟩;exact ED ts vs
def JE(x y:List UInt8):Bool:=Lib.hasPrefix y x && (match Lib.trimPrefix y x with | []=>true | c :: _=>c.toNat ==47)
theorem Su{x y:List UInt8}{ts us:List (List UInt8)}(hx:zG x=some ts)(hy:zG y=some us):JE x y=ZV ts us:=by
 have f:=Sq hx;have g:=Sq hy
 cases hp:ZV ts us with
 | true=>
  obtain⟨d,rfl⟩:=(St ts us).1 hp;have e:y=x++ptr d:=by rw[f,g];simp[ptr]
  have a:Lib.hasPrefix y x=true:=by rw[e];simp[Lib.hasPrefix]
  unfold JE;rw[a];have b:Lib.trimPrefix y x=ptr d:=by unfold Lib.trimPrefix;rw[a,yg rfl,e];simp
  rw[b];rcases Oz d with h |⟨r,h⟩<;>rw[h]<;>rfl
 | false=>
  cases hl:JE x y with
  | false=>rfl
  | true=>
   exfalso;unfold JE at hl;simp only[Bool.and_eq_true]at hl;obtain⟨a,b⟩:=hl;have j:x<+:y:=by simpa [Lib.hasPrefix]using a
   obtain⟨r,i⟩:=j;have k:Lib.trimPrefix y x=r:=by unfold Lib.trimPrefix;rw[a,yg rfl,← i];simp
   rw[k]at b;have l:Sl r:=by
    cases r with
    | nil=>exact .inl rfl
    | cons c r=>exact .inr ⟨r,by
                    have:c.toNat=47:=by simpa using b
                    rw[Wc this];rfl⟩
   have:=(St ts us).2 (Ss ts us r l (by rw[← f,← g,i]));rw[hp]at this;cases this
def Yl(x y:List UInt8):Bool:=(zG x).isSome && (zG y).isSome && (JE x y || JE y x)
theorem EH(x y:List UInt8):Yl x y=decide (0<Y4 (zG x) (zG y)):=by
 unfold Yl
 cases hx:zG x with
 | none=>simp[Y4]
 | some ts=>
  cases hy:zG y with
  | none=>simp[Y4]
  | some us=>
   rw[Su hx hy,Su hy hx];simp only[Option.isSome_some,Bool.true_and,Y4];by_cases a:ZV ts us=true<;>by_cases b:ZV us ts=true<;>simp[a,b]
def Gh(xs ys:List (List UInt8)):Bool:=xs.any fun x=>ys.any fun y=>Yl x y
end Go.Proofs.YtekpghcckdjnhaaGreatDoor
namespace Go.Proofs.YtekpghcckdjnhaaGreatDoor
open Go.RowKit
theorem EI(B b:Nat)(l:List UInt8)(s:Bs)(w:Wo)(h:zS B b l w)(hB:B<=w.heap.size)(hs:s.size<=1048576)(hl:l.length<=2097152):
  Calls Tryz.prog 223 #[.pointer (some ⟨b,0,none⟩),.string s] w fun e w'=>e= .returned (.tuple #[])/\zS B b (l++47 :: Zq s.data.toList) w'/\Below B w w':=by
 have E:Hid ((Lib.byteCells l).length=l.length):=yK l;go_in;go_wp2_with (go_at_call 180;refine (UT B b _ 47 _ h (by rw[uh E];omega) hB).mono ?_);rintro e J ⟨rfl,C,r⟩;have p:=zS.byte (c:=47) rfl C;clear C h;go_wp2;go_loopw [9] (fun i wr=>∃ j:Nat,j<=s.size/\i= .int .i64 j/\zS B b (l++47 :: Zq (s.data.toList.take j)) wr/\Below B w wr) (fun i _=>s.size - (intOf i).toNat)
 case atStart=>exact⟨0,yt _,rfl,by simpa [Zq]using p,r⟩
 case round=>
  obtain⟨j,I,rfl,o,v⟩:=hrel;have k:B<=wr.heap.size:=by have:=v.size;omega
  by_cases z:j<s.size
  ·have A:(Lib.byteCells (l++47 :: Zq (s.data.toList.take j))).length<=l.length+1+2*j:=by
    have:=F6 (s.data.toList.take j);have H:(s.data.toList.take j).length=j:=by rw[ym,Zn];omega
    rw[yK,yh,yn];omega
   have x:Hid (l++47 :: Zq (s.data.toList.take (j+1))=(l++47 :: Zq (s.data.toList.take j))++QI s[j]):=by
    show _=_
    rw[WM s j z,RS];simp
   generalize l++47 :: Zq (s.data.toList.take j)=q at *;clear p r;by_cases a:(s[j].toNat:Int)=126
   ·have F:((s[j].toNat:Int) ==126)=true:=by simpa using a
    have u:=zb (F7 a);clear a;go_wp2_with (go_at_call 252;refine (Sk B b _ _ _ o (by show _+2<=_;omega) k).mono ?_);rintro e D ⟨rfl,n,g⟩;have f:=zS.str (m:=[126,48]) rfl n;clear n o A;go_wp2;go_roundw
    case rel=>exact⟨j+1,by omega,by go_num,by rw[uh x,uh u];exact f,v.trans g⟩
    case measure=>simp[intOf];omega
   ·have F:((s[j].toNat:Int) ==126)=false:=by simpa using a
    by_cases d:(s[j].toNat:Int)=47
    ·have G:((s[j].toNat:Int) ==47)=true:=by simpa using d
     have u:=zb (F8 d);clear a d;go_wp2_with (go_at_call 252;refine (Sk B b _ _ _ o (by show _+2<=_;omega) k).mono ?_);rintro e D ⟨rfl,n,g⟩;have f:=zS.str (m:=[126,49]) rfl n;clear n o A;go_wp2;go_roundw
     case rel=>exact⟨j+1,by omega,by go_num,by rw[uh x,uh u];exact f,v.trans g⟩
     case measure=>simp[intOf];omega
    ·have G:((s[j].toNat:Int) ==47)=false:=by simpa using d
     have u:=zb (UN a d);clear a d;go_wp2_with (go_at_call 180;refine (UT B b _ _ _ o (by omega) k).mono ?_);rintro e D ⟨rfl,n,g⟩;have f:=zS.byte (c:=s[j]) rfl n;clear n o A;go_wp2;go_roundw
     case rel=>exact⟨j+1,by omega,by go_num,by rw[uh x,uh u];exact f,v.trans g⟩
     case measure=>simp[intOf];omega
  ·have y:j=s.size:=by omega
   subst y;rw[Xf]at o;clear p r;go_wp2;go_end0;exact⟨rfl,o,v⟩
theorem Sv(xa:Option Addr)(xb xo xc:Nat)(ss:List Bs)(w:Wo)(h:SS w xa xb xo ss)(hm:ss.length+qh ss<=1048576):
  Calls Tryz.prog 192 #[.slice xa ss.length xc] w fun e w'=>e= .returned (.string ⟨(qI ss).toArray⟩)/\Bw w w':=by
 have a:=h.ad;have u:=zb h.cell;clear h;have r:ss.length<=1048576:=by omega
 have o:=zb hm;clear hm;go_in;go_wp2;go_loopw [8] (fun i wr=>∃ k:Nat,k<=ss.length/\i= .int .i64 k/\zS w.heap.size w.heap.size (qI (ss.take k)) wr/\Bw w wr) (fun i _=>ss.length - (intOf i).toNat)
 case atStart=>exact⟨0,yt _,rfl,Lib.fresh_isBuilder _ _ w,(yH _ _).alloc (ye _) _⟩
 case round=>
  obtain⟨k,C,rfl,j,l⟩:=hrel;have d:=l.size;by_cases b:k<ss.length
  ·have g:=uh u k b;have B:=(l.cell (p:=⟨xb,xo+k,none⟩) (yJ _ _ g)).trans g;obtain rfl:=a (by omega);have n:(ss.getD k ByteArray.empty).size<=1048576:=by have:=Xg b;have:=uh o;omega
   have m:(qI (ss.take k)).length<=2097152:=by
    have y:=RU (ss.take k);have q:=Xg b;have z:=uh o;have A:(ss.take k).length=k:=by rw[ym];omega
    omega
   have v:Hid (qI (ss.take (k+1))=qI (ss.take k)++47 :: Zq (ss.getD k ByteArray.empty).data.toList):=by
    show _=_;rw[UM b,RT]
   clear a g;generalize ss.getD k ByteArray.empty=s at *;generalize qI (ss.take k)=p at *;go_wp2_with (go_at_call 223;refine (EI w.heap.size w.heap.size p s _ j d n m).mono ?_);rintro e x ⟨rfl,q,f⟩;clear j;go_wp2;go_roundw
   case rel=>exact⟨k+1,by omega,by go_num,by rw[uh v];exact q,l.trans f⟩
   case measure=>simp[intOf];omega
  ·have e:ss.take k=ss:=yq (by omega);rw[e]at j;have E:=zb e;clear a e;go_wp2_with (go_at_call 130;refine (UU w.heap.size w.heap.size (qI ss) _ j d).mono ?_);rintro e x ⟨rfl,f⟩;clear j;go_wp2;go_ret;exact⟨rfl,l.trans f⟩
theorem Sw {α:Type} {e:QR α} (hone:∀ {w vs x bl},e.E w vs x bl->∀ u∈vs,u.oneCell'=true) {t:TypeId} (ht:Tryz.prog.underlying t=some (.slice e.T)) {z:Value} {bytes:Nat}
  (hinfo:(Tryz.prog.info? e.T).map (fun i=>(i.zero,i.size,i.bytes))=some (some z,e.wd,bytes)) (hzs:z.cells.size=e.wd) (hsz:0<e.wd) (hby:bytes<=100)
  {w:Wo} {ops:Array Oper} {rest:List Oper} {o:Oper} {a:Act} {Q:Exit->Act->Wo->Prop} (hg:o.guard=none) (s x:Operand)
  (ho:o.op= .call {callee:=.builtin .append,args:=#[s,x],argTypes:=#[t,t]}) {v:Value} {xs:List α} {cb:List Nat} (hs:a.eval s= .slice none 0 0) (hx:a.eval x=v)
  (h:zk e w v xs (v.ownBlock.toList++cb)) (hl:xs.length<=40000000)
  (hK:∀ v' w',zk e w' v' xs (v'.ownBlock.toList++cb)->(∀ g,v'.ownBlock=some g->w.heap.size<=g)->Bw w w'->wpList Tryz.prog ops Q rest (a.put o.dst v') w'):wpList Tryz.prog ops Q (o :: rest) a w:=by
 obtain⟨N,M,I,J,K⟩:=info_parts hinfo;have G:=h.lt;obtain⟨r,m,A,d,E⟩:=h;have F:=List.append_cancel_left E;have l:=w.ownsRow_nil w.heap.size e.T e.wd;rcases d.2 with ⟨C,U⟩ |⟨g,D,O,C,_⟩
 ·subst C;refine wpList_append_own_none hg s x t ho w.heap.size e.T N e.wd ht M _ _ _ hs l hx ?_;exact hK _ w ⟨r,m,A,d,E⟩ (fun g hg=>by simp[Value.ownBlock]at hg) (yH _ _)
 ·have S:=GX m A;have n:∀ u∈r.flatMap (·.1),u.oneCell'=true:=by
   intro u q;obtain⟨p,B,q⟩:=List.mem_flatMap.1 q;obtain⟨j,R,rfl⟩:=yX.1 B;exact hone (A j r[j] (xs[j]'(by omega)) (yx R) (yx (by omega))) u q
  have H:v.ownBlock=some g:=by rw[C];rfl
  refine wpList_append_own _ hg s x t ho w.heap.size e.T N z e.wd bytes ht M I J K hzs hsz _ 0 [] hs l ⟨g,0,none⟩ xs.length D (r.flatMap (·.1)) (hx.trans C) d.1 (fun j u q=>d.cells H j u q) n (by unfold maxLen;omega) ?_ (ye _) ?_
  ·have:(0+xs.length)*bytes<=(0+xs.length)*100:=Nat.mul_le_mul_left _ hby
   omega
  ·intro v' w' L P _;have f:Bw w w':=(yH _ _).grown P (ye _) (fun k hk=>by simp[Value.ownBlock]at hk);refine hK v' w' ⟨r,m,fun j p y B hy=>e.keep (A j p y B hy) fun b hb1=>f.block b (G b (by rw[E];exact List.mem_append.2 (.inr (List.mem_flatMap.2 ⟨p,List.mem_of_getElem? B,hb1⟩)))),?_,by rw[F]⟩ (fun g hg=>(L.lt g hg).1) f;have:=qT L (yt _);simpa using this
theorem OA(xa:Option Addr)(xb xo xc:Nat)(ss:List Bs)(w:Wo)(h:SS w xa xb xo ss)(hm:ss.length+qh ss<=1048576):
  Calls Tryz.prog 68 #[.slice xa ss.length xc] w fun e w'=>e= .returned (.string ⟨(qI ss).toArray⟩)/\Bw w w':=by
 obtain⟨R,Q,D,E,F⟩:=info_parts WV;have x:=h.ad;have HC:=zb h.cell;clear h;have hlen:ss.length<=1048576:=by omega
 have HM:=zb hm;clear hm;go_in;go_wp2;go_loopw [3,4] (fun v i wr=>∃ k:Nat,k<=ss.length/\i= .int .i64 k/\wr.ownsRow w.heap.size 5 1 v (Lib.byteCells (qI (ss.take k))).length (Lib.byteCells (qI (ss.take k)))/\Bw w wr) (fun _ i _=>ss.length - (intOf i).toNat)
 case atStart=>exact⟨0,yt _,rfl,World.ownsRow_lit w #[] 0 (ye _) (by unfold maxLen;omega) rfl,(yH _ _).alloc (ye _) _⟩
 case round=>
  obtain⟨k,G,rfl,a,y⟩:=hrel;by_cases C:k<ss.length
  ·have L:=uh HC k C;have aa:xb<w.heap.size:=yJ _ _ L;obtain rfl:=x (by omega);have N:=UM C;have hsz:(ss.getD k ByteArray.empty).size<=1048576:=by have:=Xg C;have:=uh HM;omega
   have hpl:(qI (ss.take k)).length+2*(ss.getD k ByteArray.empty).size+1<=2097152:=by
    have h1:=RU (ss.take k);have h2:=Xg C;have h3:=uh HM;have h4:(ss.take k).length=k:=by rw[ym];omega
    omega
   clear x;generalize hs:ss.getD k ByteArray.empty=s at *;have K:=zb N;have HS:=zb hs;clear N hs;have HP:Hid (qI (ss.take (k+1))=qI (ss.take k)++47 :: Zq s.data.toList):=by
    have e:=uh K;show _=_;rw[e,RT]
   generalize qI (ss.take k)=p at *;clear K;have B:=zb y;have o:=y.size;clear y;have M:(Lib.byteCells p).length=p.length:=yK p;have H:=zb M;clear M;go_wp2_with (at_builtin;refine wpList_append_own _ rfl (.tmp 13) (.tmp 14) 160 rfl w.heap.size 5 R (.int .u8 0) 1 1 Tryz.underlying160 Q D E F rfl (by decide) _ _ _ rfl (a.alloc _) ⟨wr.heap.size,0,none⟩ 1 1 [.int .u8 47] rfl rfl (QD _ _ _) (YG _ _) (by rw[uh H];unfold maxLen;omega) (by rw[uh H];omega) (by simp;omega) ?_);intro v1 w1 A r _;have I:Bw w w1:=((uh B).alloc o _).grown r (by simp;omega) (fun k G=>(a.lt k G).1);have n:=qU (m:=[47]) A (by simp[Lib.byteCells]) rfl;clear A r a B H;go_wp2;go_loopw [3,5] (fun v i wr=>∃ j:Nat,j<=s.size/\i= .int .i64 j/\wr.ownsRow w.heap.size 5 1 v (Lib.byteCells (p++47 :: Zq (s.data.toList.take j))).length (Lib.byteCells (p++47 :: Zq (s.data.toList.take j)))/\Bw w wr) (fun _ i _=>s.size - (intOf i).toNat)
   case atStart=>exact⟨0,yt _,rfl,by simpa [Zq]using n,I⟩
   case round=>
    obtain⟨j,hj,rfl,a,y⟩:=hrel;have hc:wr.cell? ⟨xb,xo+k,none⟩=some (.string s):=(y.cell (p:=⟨xb,xo+k,none⟩) aa).trans L;have o:=y.size;by_cases X:j<s.size
    ·have Y:(Lib.byteCells (p++47 :: Zq (s.data.toList.take j))).length<=p.length+1+2*j:=by
      have:=F6 (s.data.toList.take j);have h5:(s.data.toList.take j).length=j:=by rw[ym,Zn];omega
      rw[yK,yh,yn];omega
     have T:Hid (p++47 :: Zq (s.data.toList.take (j+1))=(p++47 :: Zq (s.data.toList.take j))++QI s[j]):=by
      show _=_
      rw[WM s j X,RS];simp
     generalize p++47 :: Zq (s.data.toList.take j)=q at *;have B:=zb y;clear y n I;by_cases l:(s[j].toNat:Int)=126
     ·have t1:((s[j].toNat:Int) ==126)=true:=by simpa using l
      have J:=zb (F7 l);clear l;go_wp2_with (at_builtin;refine wpList_append_own _ rfl (.tmp 32) (.tmp 33) 160 rfl w.heap.size 5 R (.int .u8 0) 1 1 Tryz.underlying160 Q D E F rfl (by decide) _ _ _ rfl (a.alloc _) ⟨wr.heap.size,0,none⟩ 2 2 [.int .u8 126,.int .u8 48] rfl rfl (Y2 _ _ _ _) (Vu _ _ _) (by unfold maxLen;omega) (by omega) (by simp;omega) ?_);intro v2 O d b _;have z:Bw w O:=((uh B).alloc o _).grown b (by simp;omega) (fun k G=>(a.lt k G).1);have f:=qU (m:=[126,48]) d (by simp[Lib.byteCells]) rfl;clear d b a B Y;go_wp2;go_roundw
      case rel=>exact⟨j+1,by omega,by go_num,by rw[uh T,uh J];exact f,z⟩
      case measure=>simp[intOf];omega
     ·have t1:((s[j].toNat:Int) ==126)=false:=by simpa using l
      by_cases u:(s[j].toNat:Int)=47
      ·have t2:((s[j].toNat:Int) ==47)=true:=by simpa using u
       have J:=zb (F8 u);clear l u;go_wp2_with (at_builtin;refine wpList_append_own _ rfl (.tmp 42) (.tmp 43) 160 rfl w.heap.size 5 R (.int .u8 0) 1 1 Tryz.underlying160 Q D E F rfl (by decide) _ _ _ rfl (a.alloc _) ⟨wr.heap.size,0,none⟩ 2 2 [.int .u8 126,.int .u8 49] rfl rfl (Y2 _ _ _ _) (Vu _ _ _) (by unfold maxLen;omega) (by omega) (by simp;omega) ?_);intro v2 O d b _;have z:Bw w O:=((uh B).alloc o _).grown b (by simp;omega) (fun k G=>(a.lt k G).1);have f:=qU (m:=[126,49]) d (by simp[Lib.byteCells]) rfl;clear d b a B Y;go_wp2;go_roundw
       case rel=>exact⟨j+1,by omega,by go_num,by rw[uh T,uh J];exact f,z⟩
       case measure=>simp[intOf];omega
      ·have t2:((s[j].toNat:Int) ==47)=false:=by simpa using u
       have J:=zb (UN l u);clear l u;go_wp2_with (at_builtin;refine wpList_append_own _ rfl (.tmp 45) (.tmp 52) 160 rfl w.heap.size 5 R (.int .u8 0) 1 1 Tryz.underlying160 Q D E F rfl (by decide) _ _ _ rfl (a.alloc _) ⟨wr.heap.size,0,none⟩ 1 1 [.int .u8 s[j].toNat] rfl rfl (QD _ _ _) (YG _ _) (by unfold maxLen;omega) (by omega) (by simp;omega) ?_);intro v2 O d b _;have z:Bw w O:=((uh B).alloc o _).grown b (by simp;omega) (fun k G=>(a.lt k G).1);have f:=qU (m:=[s[j]]) d (by simp[Lib.byteCells]) rfl;clear d b a B Y;go_wp2;go_roundw
       case rel=>exact⟨j+1,by omega,by go_num,by rw[uh T,uh J];exact f,z⟩
       case measure=>simp[intOf];omega
    ·have W:j=s.size:=by omega
     subst W;rw[Xf]at a;clear n I;go_wp2;go_roundw
     case rel=>exact⟨k+1,by omega,by go_num,by rw[uh HP];exact a,y⟩
     case measure=>simp[intOf];omega
  ·have e:ss.take k=ss:=yq (by omega);rw[e]at a;clear x;have hl:=yK (qI ss);rcases a.2 with ⟨Z,h0⟩ |⟨g,U,cur,Z,_⟩
   ·have e0:qI ss=[]:=yN (by omega);subst Z;have V:=run_convert_bytes_nil (P:=Tryz.prog) wr 160 5 Tryz.underlying160 Tryz.underlying5 0 0 9 Tryz.underlying9;have S:=zb e0;clear e0 h0 a hl;go_wp2;go_ret;exact⟨by rw[uh S];rfl,y⟩
   ·subst Z;rw[hl]at a ⊢;have V:=run_convert_bytes_back (P:=Tryz.prog) wr 160 9 5 ⟨g,0,none⟩ U (qI ss) Tryz.underlying160 Tryz.underlying5 Tryz.underlying9 (fun j hj=>by
     rw[show ((⟨g,0,none⟩:Addr).add j)=⟨g,j,none⟩from by simp[Addr.add];omega,a.cellAt j (by omega)];exact Xj hj)
    go_wp2;go_ret;exact⟨rfl,y⟩
end Go.Proofs.YtekpghcckdjnhaaGreatDoor
namespace Go.Proofs.YtekpghcckdjnhaaGreatDoor
theorem UV{c:UInt8}{n:Nat}(h:c.toNat=n):c=UInt8.ofNat n:=by rw[← h,UInt8.ofNat_toNat]
theorem Xq:∀ (n:Nat) (l t:List UInt8),l.length<=n->zJ l=some t->(∀ c∈l,¬ c.toNat=47)->Zq t=l
 | _,[],t,_,h,_=>by rw[zJ]at h;injection h with h;subst h;rfl
 | 0,c :: r,t,hn,_,_=>by simp at hn
 | n+1,c :: r,t,hn,h,hc=>by
  by_cases h1:c.toNat=126
  ·have hcI:(c.toNat:Int)=126:=by omega
   have j:=UV h1
   cases r with
   | nil=>rw[UO hcI]at h;cases h
   | cons d r=>
    have k:r.length<=n:=by simp at hn;omega
    have b:∀ c∈r,¬ c.toNat=47:=fun x hx=>hc x (yv _ (yv _ hx));by_cases m:d.toNat=48
    ·have i:=UV m;rw[WO r hcI (by omega)]at h;simp only[yz]at h;obtain⟨a,f,rfl⟩:=h;have g:=Xq n r a k f b;show QI 126++Zq a=_
     rw[g,j,i];rfl
    ·by_cases o:d.toNat=49
     ·have i:=UV o;rw[WP r hcI (by omega)]at h;simp only[yz]at h;obtain⟨a,f,rfl⟩:=h;have g:=Xq n r a k f b;show QI 47++Zq a=_
      rw[g,j,i];rfl
     ·rw[UP r hcI (by omega) (by omega)]at h;cases h
  ·rw[WN r (by omega)]at h;simp only[yz]at h;obtain⟨a,f,rfl⟩:=h;have g:=Xq n r a (by simp at hn;omega) f (fun x hx=>hc x (yv _ hx));show QI c++Zq a=_
   have p:=hc c yp;rw[g,UN (by omega) (by omega)];rfl
theorem Sx:∀ (l p:List UInt8) (ps:List (List UInt8)),ZH l=p :: ps->l=p++ps.flatMap (47 :: ·)/\∀ q∈p :: ps,∀ c∈q,¬ c.toNat=47
 | [],p,ps,h=>by
  rw[ZH]at h;injection h with h1 h2;subst h1;subst h2;exact⟨rfl,fun q hq c hc=>by simp at hq;subst hq;simp at hc⟩
 | c :: r,p,ps,h=>by
  obtain⟨p',ps',e⟩:∃ p' ps',ZH r=p' :: ps':=by
   cases hp:ZH r with
   | nil=>exact absurd hp (Ga r)
   | cons a b=>exact⟨a,b,rfl⟩
  obtain⟨h1,h2⟩:=Sx r p' ps' e;by_cases hc:c.toNat=47
  ·rw[Gb r hc,e]at h;injection h with e1 e2;subst e1;subst e2;refine⟨?_,fun q hq x hx=>?_⟩
   ·have d:=UV hc;rw[d,h1];rfl
   ·rcases List.mem_cons.1 hq with rfl | hq
    ·simp at hx
    ·exact h2 q hq x hx
  ·rw[Y1 hc e]at h;injection h with e1 e2;subst e1;subst e2;refine⟨by rw[List.cons_append,← h1],fun q hq x hx=>?_⟩;rcases List.mem_cons.1 hq with rfl | hq
   ·rcases List.mem_cons.1 hx with rfl | hx
    ·exact hc
    ·exact h2 p' yp x hx
   ·exact h2 q (yv _ hq) x hx
theorem Sy:∀ (ps ts:List (List UInt8)),ps.mapM zJ=some ts->(∀ q∈ps,∀ c∈q,¬ c.toNat=47)->ts.map Zq=ps
 | [],ts,h,_=>by simp at h;subst h;rfl
 | p :: ps,ts,h,hp=>by
  rw[List.mapM_cons]at h
  cases h1:zJ p with
  | none=>rw[h1]at h;cases h
  | some t=>
   cases h2:ps.mapM zJ with
   | none=>rw[h1,h2]at h;cases h
   | some ts'=>
    rw[h1,h2]at h;injection h with h;subst h;rw[yi,Xq p.length p t (ye _) h1 (hp p yp),Sy ps ts' h2 (fun q hq=>hp q (yv _ hq))]
theorem EJ(ts:List (List UInt8)):qI (ts.map zz)=(ts.map Zq).flatMap (47 :: ·):=by
 unfold qI;rw[List.flatMap_map,List.flatMap_map];rfl
theorem Sz{l:List UInt8}{ts:List (List UInt8)}(h:zG l=some ts):qI (ts.map zz)=l:=by
 cases l with
 | nil=>rw[zG]at h;injection h with h;subst h;rfl
 | cons c r=>
  rw[zG]at h;split at h
  ·rename_i hc;obtain⟨p,d,e⟩:∃ p d,ZH r=p :: d:=by
    cases hp:ZH r with
    | nil=>exact absurd hp (Ga r)
    | cons a b=>exact⟨a,b,rfl⟩
   obtain⟨g,i⟩:=Sx r p d e;unfold QB at h;rw[e]at h;rw[EJ,Sy _ ts h i];have f:=UV hc;rw[f,g];rfl
  ·cases h
end Go.Proofs.YtekpghcckdjnhaaGreatDoor
namespace Go.Proofs.YtekpghcckdjnhaaGreatDoor
open Go.RowKit
theorem EK {P:Program} (w:Wo) {base:Nat} {t ty e:TypeId} {i:TypeInfo} {z:Value} (ht:P.underlying t=some (.slice e)) (hi:P.info? e=some i) (hz:i.zero=some z)
  {v:Value} {n:Nat} {xs:List Value} (hown:w.ownsRow base e i.size v n xs) {a:Addr} {m c:Nat} {news:List Value} (hl:news.length=m*i.size) (hnews:∀ j u,news[j]?=some u->w.cell? (a.add j)=some u) (h1:∀ u∈news,u.oneCell'=true)
  (h0:0<m) (h63:n+m<=maxLen) (hbytes:(n+m)*i.bytes<=140737488355328) {v':Value} {w':Wo} (hr:(Builtin.append_ #[t,t] ty #[v,.slice (some a) m c]).run P w= .ok v' w'):
  v'.ownBlock=v.ownBlock∨v'.ownBlock=some w.heap.size:=by
 unfold maxLen at h63;rcases hown.2 with ⟨k,o⟩ |⟨g,d,f,k,_,l,_,_,h,_⟩
 ·subst k;subst o;have hx:=run_append_nil (P:=P) w t ty e i z ht hi hz a m c news hl hnews h0 (by omega) (by simp only[Nat.zero_add]at hbytes;omega);rw[hx]at hr;injection hr with hr1 _;subst hr1;exact .inr rfl
 ·subst k;by_cases b:n+m<=d
  ·have hx:=run_append_room (P:=P) w t ty e i ht hi g n d f l a m c news hl hnews h1 b (by rw[hl,h,← Nat.add_mul];exact Nat.mul_le_mul_right _ b);rw[hx]at hr;injection hr with hr1 _;subst hr1;exact .inl rfl
  ·have hx:=run_append_grow (P:=P) w t ty e i z ht hi hz ⟨g,0,none⟩ n d xs hown.1 (hown.cells (g:=g) rfl) a m c news hl hnews (by omega) (by omega) (growslice_fits (by omega) hbytes);rw[hx]at hr;injection hr with hr1 _;subst hr1;exact .inr rfl
theorem SA {e t:TypeId} (ht:Tryz.prog.underlying t=some (.slice e)) {z:Value} {bytes:Nat}
  (hinfo:(Tryz.prog.info? e).map (fun i=>(i.zero,i.size,i.bytes))=some (some z,1,bytes)) (hzs:z.cells.size=1) (hby:bytes<=100)
  {w:Wo} {ops:Array Oper} {rest:List Oper} {o:Oper} {a:Act} {Q:Exit->Act->Wo->Prop} (hg:o.guard=none) (s x:Operand)
  (ho:o.op= .call {callee:=.builtin .append,args:=#[s,x],argTypes:=#[t,t]}) {B:Nat} {v:Value} {xs:List Value} {n:Nat} (hs:a.eval s=v)
  (hown:w.ownsRow B e 1 v n xs) {y:Value} (hy:y.oneCell'=true) {g:Nat} (hx:a.eval x= .slice (some ⟨g,0,none⟩) 1 1)
  (hcell:w.cell? ⟨g,0,none⟩=some y) (hB:B<=w.heap.size) (hl:n<=40000000)
  (hK:∀ v' w',w'.ownsRow B e 1 v' (n+1) (xs++[y])->w.grownBy w' v.ownBlock->(v'.ownBlock=v.ownBlock∨v'.ownBlock=some w.heap.size)->wpList Tryz.prog ops Q rest (a.put o.dst v') w'):
  wpList Tryz.prog ops Q (o :: rest) a w:=by
 obtain⟨C,m,d,b,f⟩:=info_parts hinfo;have k:(n+1)*bytes<=(n+1)*100:=Nat.mul_le_mul_left _ hby
 have l:∀ (j:Nat) (u:Value),[y][j]?=some u->w.cell? ((⟨g,0,none⟩:Addr).add j)=some u:=fun j u hu=>by
  cases j with
  | zero=>simp at hu;subst hu;simpa [Addr.add]using hcell
  | succ j=>simp at hu
 have h:∀ u∈[y],u.oneCell'=true:=fun u hu=>by simp at hu;subst hu;exact hy
 obtain⟨v',w',p,q,r,_⟩:=run_append_own (P:=Tryz.prog) w B t o.type e C z 1 bytes ht m d b f hzs (by decide) v n xs hown ⟨g,0,none⟩ 1 1 [y] rfl l h (by unfold maxLen;omega) (by omega) hB;have A:=EK (P:=Tryz.prog) w (z:=z) ht m d (by rw[b];exact hown) (by rw[b];rfl) l h (by omega) (by unfold maxLen;omega) (by rw[f];omega) p;exact Lib.wpList_append_run w hg s x t t ho v _ hs hx v' w' p (hK v' w' q r A)
theorem EL{s t:Bs}(h:¬ s=t):(s.toList ==t.toList)=false:=by
 refine Bool.eq_false_iff.2 fun e=>h ?_;rw[yC,ByteArray.toList_eq,ByteArray.toList_eq]at e;exact ByteArray.ext (by simpa using e)
theorem SB(ss tt:List Bs)(xa ya:Option Addr)(xb xo xc yb yo yc:Nat)(w:Wo)(hx:SS w xa xb xo ss)(hy:SS w ya yb yo tt)(hm:ss.length<=10000000):
  Calls Tryz.prog 220 #[.slice xa ss.length xc,.slice ya tt.length yc] w fun e w'=>e= .returned (.bool (decide (ss=tt)))/\∃ n,w'=w.drewN n:=by
 by_cases l:ss.length=tt.length
 ·have b:=hx.ad;have a:=hy.ad;have B:=zb hx.cell;have y:=zb hy.cell;have g:Hid ((∀ j,j<ss.length->ss.getD j ByteArray.empty=tt.getD j ByteArray.empty)->decide (ss=tt)=true):=fun h=>yj (List.ext_getElem l fun j h1 h2=>by
   have:=h j h1;simpa [List.getD,h1,h2]using this)
  have f:Hid (∀ j,j<ss.length->¬ ss.getD j ByteArray.empty=tt.getD j ByteArray.empty->decide (ss=tt)=false):=fun j _ h=>yk fun e=>h (by rw[e]);rw[← l]at a y ⊢;clear hx hy l;generalize decide (ss=tt)=Q at *;go_in;go_wp2;go_loopw [13] (fun i wr=>∃ k:Nat,k<=ss.length/\i= .int .i64 k/\(∃ n,wr=w.drewN n)/\Hid (∀ j,j<k->ss.getD j ByteArray.empty=tt.getD j ByteArray.empty)) (fun i _=>ss.length - (intOf i).toNat)
  case atStart=>exact⟨0,yt _,rfl,⟨0,rfl⟩,fun j hj=>by omega⟩
  case round=>
   obtain⟨k,H,rfl,⟨n,rfl⟩,m⟩:=hrel;by_cases d:k<ss.length
   ·have v:=uh B k d;have x:=uh y k d;obtain rfl:=b (by omega);obtain rfl:=a (by omega);have r:=zb (uh f k d);have p:Hid (ss.getD k ByteArray.empty=tt.getD k ByteArray.empty->∀ j,j<k+1->ss.getD j ByteArray.empty=tt.getD j ByteArray.empty):=fun e j hj=>by
     by_cases E:j=k
     ·rw[E];exact e
     ·exact uh m j (by omega)
    clear b a f m;generalize hs:ss.getD k ByteArray.empty=s at *;generalize ht:tt.getD k ByteArray.empty=t at *;clear hs ht;have z:(k:Int)<(ss.length:Int):=by omega
    have C:(w.drewN n).cell? ⟨xb,xo+k,none⟩=some (.string s):=v;have D:(w.drewN n).cell? ⟨yb,yo+k,none⟩=some (.string t):=x;by_cases o:s=t
    ·have q:=zb (uh p o);subst o;clear p r;go_wp2;go_quiet (fail);go_wp2;go_roundw
     case rel=>exact⟨k+1,by omega,by go_num,⟨_,by first | rfl |(simp[World.drewN_drewN])⟩,q⟩
     case measure=>simp[intOf];omega
    ·have G:=EL o;have u:=zb (uh r o);clear p r;go_wp2;go_quiet (fail);go_wp2;go_ret;exact⟨by rw[uh u];rfl,_,by rw[World.drewN_drewN]⟩
   ·have u:=zb (uh g fun j hj=>uh m j (by omega));clear b a m;go_wp2;go_ret;exact⟨by rw[uh u];rfl,_,rfl⟩
 ·have A:decide (ss=tt)=false:=yk fun e=>l (by rw[e]);rw[A];have F:¬ ((ss.length:Int)=(tt.length:Int)):=by omega
  clear A hx hy l;generalize ss.length=I at *;generalize tt.length=J at *;go_in;go_wp2;go_ret;exact⟨rfl,0,rfl⟩
theorem EM{w w':Wo}{B e size n:Nat}{v:Value}{xs:List Value}(h:w.ownsRow B e size v n xs)(hk:∀ b,v.ownBlock=some b->w'.heap[b]?=w.heap[b]?):w'.ownsRow B e size v n xs:=by
 refine⟨h.1,?_⟩;rcases h.2 with i |⟨g,a,d,f,j,k,r⟩
 ·exact .inl i
 ·exact .inr ⟨g,a,d,f,j,(hk g (by rw[f];rfl)).trans k,r⟩
theorem Xr {w:Wo} {ops:Array Oper} {rest:List Oper} {o:Oper} {a:Act} {Q:Exit->Act->Wo->Prop} (hg:o.guard=none) (s x:Operand)
  (ho:o.op= .call {callee:=.builtin .append,args:=#[s,x],argTypes:=#[55,55]}) {B:Nat} {v:Value} {ts:List (List UInt8)} (hs:a.eval s=v)
  (h:OT w B v ts) {t:List UInt8} {g:Nat} (hx:a.eval x= .slice (some ⟨g,0,none⟩) 1 1) (hcell:w.cell? ⟨g,0,none⟩=some (.string (ze t))) (hB:B<=w.heap.size) (hl:ts.length<=1000000)
  (hK:∀ v' w',OT w' B v' (ts++[t])->w.grownBy w' v.ownBlock->(v'.ownBlock=v.ownBlock∨v'.ownBlock=some w.heap.size)->wpList Tryz.prog ops Q rest (a.put o.dst v') w'):wpList Tryz.prog ops Q (o :: rest) a w:=by
 refine SA Tryz.underlying55 G1 rfl (by decide) hg s x ho hs h (y:=.string (ze t)) rfl hx hcell hB (by omega) ?_;intro v' w' b d f;refine hK v' w' ?_ d f;unfold OT;rw[yh,yw];exact b
end Go.Proofs.YtekpghcckdjnhaaGreatDoor
namespace Go.Proofs.YtekpghcckdjnhaaGreatDoor
open Go.ChangeShapes Go.WideShapes Go.ChangeAt Go.RowKit Go.Deep
section
variable {H:Type} {enc:TypeId×Value->H} {P:Program} {w:Wo} {sp:Nat->Bool} {held:Bool}
theorem Xs{t:TypeId}(ht:P.underlying t=some (.int .i64)){n:Nat}{cs:List Value}{y:DataW H×List MemPlace}(h:DataW.trod enc P w 0 sp held n t cs=some y):∃ z,cs=[.int .i64 z]:=by
 cases n with
 | zero=>simp[DataW.trod]at h
 | succ n=>
  unfold DataW.trod at h;rw[ht]at h;split at h<;>simp_all
theorem W7{t:TypeId}(ht:P.underlying t=some .string){n:Nat}{cs:List Value}{y:DataW H×List MemPlace}(h:DataW.trod enc P w 0 sp held n t cs=some y):∃ s,cs=[.string s]/\s.size<=maxLen:=by
 cases n with
 | zero=>simp[DataW.trod]at h
 | succ n=>
  unfold DataW.trod at h;rw[ht]at h;split at h<;>simp_all
theorem SC{α:Type}{l:List α}(h:l.length=3):∃ a b c,l=[a,b,c]:=by
 match l,h with
 | [a,b,c],_=>exact⟨a,b,c,rfl⟩
theorem OB {α:Type} [Inhabited α] (e:WL α) {t et:TypeId} (ht:Tryz.prog.underlying t=some (.slice et)) (hwd:Tryz.prog.cellsOf et=e.wd) (hpos:0<e.wd)
  (hopen:∀ (n:Nat) (cs:List Value) (y:DataW H×List MemPlace),DataW.trod enc Tryz.prog w 0 sp held n et cs=some y->∃ x,e.R w cs x)
  {fuel:Nat} {cs:List Value} {x:DataW H×List MemPlace} (h:DataW.trod enc Tryz.prog w 0 sp held fuel t cs=some x):∃ v xs,cs=[v]/\Je e w v xs:=by
 rcases open_slice ht h with ⟨L,_⟩ |⟨a,len,z,m,n,D,O,rfl,_,P,Q,C,_,hx⟩
 ·exact⟨_,[],L,by simp,none,0,rfl,fun j y l=>by simp at l⟩
 ·have N:len<=m:=by rw[C];split<;>omega
  obtain⟨X,F⟩:=choose_lt (n:=len) (p:=fun i y=>∃ d,w.cells? 0 (a.add (i*e.wd)) e.wd=some d/\e.R w d y) fun i hi=>by
   obtain⟨d,s,A⟩:=hx i (by omega);obtain⟨y,l⟩:=hopen _ _ _ A;rw[hwd]at s;exact⟨y,d,s,l⟩
  refine⟨_,(List.range len).map X,rfl,by simp;omega,some a,z,by simp,fun j y l=>?_⟩;have G:j<len:=by have:=(List.getElem?_eq_some_iff.1 l).1;simpa using this
  rw[List.getElem?_map,List.getElem?_range G]at l
  cases l;obtain⟨d,s,A⟩:=F j G;obtain⟨_,I,g⟩:=World.cells?_some s;obtain⟨b,o,r⟩:=a;have E:r=none:=by
   obtain⟨J,K,_⟩:=F 0 (by omega);obtain⟨_,B,f⟩:=World.cells?_some K;have q:=f 0 hpos;rw[yx (by omega)]at q;simpa [Addr.add]using World.cell?_spot q
  subst E;refine⟨b,o,rfl,d,A,fun k u hu=>?_⟩;have M:k<e.wd:=by have:=(List.getElem?_eq_some_iff.1 hu).1;omega
  have:=g k M;rw[hu]at this;rw[← this];rw[Go.WideShapes.add_plain,Go.WideShapes.add_plain,Nat.add_assoc]
instance : Inhabited ByteArray := ⟨ByteArray.empty⟩
theorem EN{fuel:Nat}{cs:List Value}{x:DataW H×List MemPlace}(h:DataW.trod enc Tryz.prog w 0 sp held fuel 55 cs=some x):∃ v xs,cs=[v]/\Je GY w v xs:=
 OB GY Tryz.underlying55 (by kernel_rfl) (by decide) (fun n cs y h=>by
  obtain⟨s,a,b⟩:=W7 Tryz.underlying9 h;exact⟨s,a,b⟩) h
end
end Go.Proofs.YtekpghcckdjnhaaGreatDoor
