import Derived.Test.YtekpghcckdjnhaaGreatDoorBz1
import Derived.Handy
import Derived.Deep.RegionHeld3
set_option maxRecDepth 100000
set_option maxHeartbeats 8000000
namespace Go.Proofs.YtekpghcckdjnhaaGreatDoor
open Go.RowKit Go.Proofs.Tryz
def putN(w:Wo)(g:Nat):Nat->List Value->Wo
 | _,[]=>w
 | o,a :: r=>putN (w.setCell ⟨g,o,none⟩ a) g (o+1) r
def Gn(xs:List Value):Nat->List Value->List Value
 | _,[]=>xs
 | o,a :: r=>Gn (xs.set o a) (o+1) r
theorem U9:∀ (vs A rest:List Value),vs.length<=rest.length->Gn (A++rest) A.length vs=A++vs++rest.drop vs.length
 | [],A,rest,_=>by simp[Gn]
 | a :: r,A,[],h=>by simp at h
 | a :: r,A,b :: rest,h=>by
  have:=U9 r (A++[a]) rest (by simpa using h);rw[Gn,List.set_append_right _ _ (ye _),Nat.sub_self,List.set_cons_zero];rw[yh]at this;simpa using this
theorem Nm{w:Wo}{g cap n e size:Nat}{xs:List Value}(h:w.ownsRow 0 e size (.slice (some ⟨g,0,none⟩) n cap) n xs):∀ (vs:List Value) (o:Nat),(putN w g o vs).ownsRow 0 e size (.slice (some ⟨g,0,none⟩) n cap) n (Gn xs o vs):=by
 intro vs;induction vs generalizing w xs with
 | nil=>intro o;exact h
 | cons a r ih=>intro o;exact ih (h.stored o a).1 (o+1)
theorem ZO{w:Wo}{g k:Nat}(hk:k≠g):∀ (vs:List Value) (o:Nat),(putN w g o vs).heap[k]?=w.heap[k]?:=by
 intro vs;induction vs generalizing w with
 | nil=>intro o;rfl
 | cons a r ih=>intro o;exact (ih (o+1)).trans (Below.heap_setCell _ _ _ _ hk)
theorem ZL{B g:Nat}{a w:Wo}(h:Below B a w)(hg:B<=g):∀ (vs:List Value) (o:Nat),Below B a (putN w g o vs):=by
 intro vs;induction vs generalizing w with
 | nil=>intro o;exact h
 | cons c r ih=>intro o;exact ih (h.setCell (p:=⟨g,o,none⟩) hg c) (o+1)
theorem Hg{w:Wo}{g:Nat}{cs:Array Value}{T:TypeId}(h:w.heap[g]?=some (.cells cs T (0,0))):∀ (vs:List Value) (o:Nat),(putN w g o vs).heap[g]?=some (.cells (Gn cs.toList o vs).toArray T (0,0)):=by
 intro vs;induction vs generalizing w cs with
 | nil=>intro o;simpa [putN,Gn]using h
 | cons a r ih=>
  intro o;have:=ih (heap_setCell_same w g o cs T a h) (o+1);rw[putN,this,Gn];simp
theorem qV{w:Wo}{g:Nat}{cs:Array Value}{T:TypeId}(h:w.heap[g]?=some (.cells cs T (0,0)))(vs:List Value)(hl:vs.length=cs.size):(putN w g 0 vs).heap[g]?=some (.cells vs.toArray T (0,0)):=by
 rw[Hg h];have:=U9 vs [] cs.toList (by simp[hl]);simp only[List.nil_append,yD]at this;rw[this,List.drop_of_length_le (by simp[hl]),yS]
def Qb{α:Type}(e:QR α)(w:Wo)(g n cap:Nat)(xs:List α)(bl:List Nat):Prop:=
 ∃ (ps:List (List Value×List Nat)) (rest:List Value),ps.length=xs.length/\(∀ (j:Nat) (p:List Value×List Nat) (x:α),ps[j]?=some p->xs[j]?=some x->e.E w p.1 x p.2) /\
  w.ownsRow 0 e.T e.wd (.slice (some ⟨g,0,none⟩) n cap) n (ps.flatMap (·.1)++rest)/\bl=ps.flatMap (·.2)
section
variable {α:Type} {e:QR α} {w w':Wo} {g n cap:Nat} {xs:List α} {bl:List Nat}
theorem Qb.start{cs:List Value}(h:w.ownsRow 0 e.T e.wd (.slice (some ⟨g,0,none⟩) n cap) n cs):Qb e w g n cap [] []:=⟨[],cs,rfl,fun _ _ _ h=>by simp at h,h,rfl⟩
theorem Qb.keep(h:Qb e w g n cap xs bl)(hg:w'.heap[g]?=w.heap[g]?)(hk:Kp bl w w'):Qb e w' g n cap xs bl:=by
 obtain⟨k,a,f,d,i,rfl⟩:=h;refine⟨k,a,f,fun j p x hp hx=>e.keep (d j p x hp hx) fun b hb=>hk b (List.mem_flatMap.2 ⟨p,List.mem_of_getElem? hp,hb⟩),GW i fun b hb=>?_,rfl⟩;simp[Value.ownBlock]at hb;rw[hb];exact hg
theorem Qb.lt(h:Qb e w g n cap xs bl):g<w.heap.size/\∀ b∈bl,b<w.heap.size:=by
 obtain⟨m,d,o,f,k,rfl⟩:=h;refine⟨(k.lt g rfl).2,fun b a=>?_⟩;obtain⟨p,l,a⟩:=List.mem_flatMap.1 a;obtain⟨j,i,rfl⟩:=yX.1 l;exact e.lt (f j m[j] (xs[j]'(by omega)) (yx i) (yx (by omega))) b a
theorem Qb.below(h:Qb e w g n cap xs bl)(hb:Bw w w'):Qb e w' g n cap xs bl:=h.keep (hb.block g h.lt.1) (.of_below hb h.lt.2)
theorem Qb.cell(h:Qb e w g n cap xs bl)(hlt:xs.length<n)(m:Nat)(hm:m<e.wd):∃ u,w.cell? ⟨g,xs.length*e.wd+m,none⟩=some u:=by
 obtain⟨k,d,j,i,b,rfl⟩:=h;have:(xs.length+1)*e.wd<=n*e.wd:=Nat.mul_le_mul_right _ hlt;rw[Nat.add_mul]at this;have f:=b.1;have a:xs.length*e.wd+m<n*e.wd:=by omega
 rw[b.cellAt _ a];exact⟨_,yx (by rw[f];exact a)⟩
theorem Qb.frozen(h:Qb e w g n cap xs bl)(j:Nat):w.frozen? ⟨g,j,none⟩=false:=by
 obtain⟨i,a,f,d,b,rfl⟩:=h;exact b.frozenAt _
theorem Qb.put(h:Qb e w g n cap xs bl)(hlt:xs.length<n)(hg:g ∉ bl){vs:List Value}{x:α}{ib:List Nat}(hE:e.E w vs x ib)(hgi:g ∉ ib):
  Qb e (putN w g (xs.length*e.wd) vs) g n cap (xs++[x]) (bl++ib):=by
 obtain⟨v,a,o,i,u,rfl⟩:=h;have r:=GX o i;have d:(v.flatMap (·.1)).length=xs.length*e.wd:=by rw[Xc r,o]
 have B:=e.len hE;have q:vs.length<=a.length:=by
  have z:=u.1;rw[yh,d]at z;have:(xs.length+1)*e.wd<=n*e.wd:=Nat.mul_le_mul_right _ hlt;rw[Nat.add_mul]at this;omega
 have l:∀ b':List Nat,g ∉ b'->Kp b' w (putN w g (xs.length*e.wd) vs):=fun b' hb b hbb=>ZO (k:=b) (g:=g) (fun h=>hb (by rw[← h];exact hbb)) _ _;refine⟨v++[(vs,ib)],a.drop vs.length,by simp[o],?_,?_,by simp⟩
 ·intro j p y f m;by_cases A:j<xs.length
  ·rw[List.getElem?_append_left (by omega)]at f m;exact e.keep (i j p y f m) (l _ fun hb=>hg (List.mem_flatMap.2 ⟨p,List.mem_of_getElem? f,hb⟩))
  ·have s:=(List.getElem?_eq_some_iff.1 m).1;rw[yh,yR]at s;have:j=xs.length:=by omega
   subst this;rw[← o]at f;simp at f m;subst f;subst m;exact e.keep hE (l _ hgi)
 ·have:=Nm u vs (xs.length*e.wd);rw[← d,U9 _ _ _ q,d]at this;simpa using this
theorem Qb.full(h:Qb e w g n cap xs bl)(hn:xs.length=n):zk e w (.slice (some ⟨g,0,none⟩) xs.length cap) xs (g :: bl):=by
 obtain⟨l,a,b,f,i,rfl⟩:=h;have d:=GX b f;have k:a=[]:=by
  have j:=i.1;rw[yh,Xc d,b,hn]at j;exact yN (by omega)
 subst k;subst hn;refine⟨l,b,f,by simpa using i,by simp[Value.ownBlock]⟩
end
def Zj(B:Nat)(bl:List Nat):Prop:=bl.Nodup/\∀ b∈bl,B<=b
theorem Zj.nil(B:Nat):Zj B []:=⟨List.nodup_nil,fun _ h=>by simp at h⟩
theorem Zj.mono{B B':Nat}{bl:List Nat}(h:Zj B bl)(hB:B'<=B):Zj B' bl:=⟨h.1,fun b hb=>yP hB (h.2 b hb)⟩
theorem Zj.app{B C:Nat}{bl cl:List Nat}(h:Zj B bl)(hlt:∀ b∈bl,b<C)(k:Zj C cl)(hBC:B<=C):Zj B (bl++cl):=by
 refine⟨List.nodup_append.2 ⟨h.1,k.1,fun a ha b d e=>?_⟩,fun b d=>?_⟩
 ·subst e;have:=hlt a ha;have:=k.2 a d;omega
 ·rcases List.mem_append.1 d with d | d
  ·exact h.2 b d
  ·exact yP hBC (k.2 b d)
theorem Zj.cons{B B' g:Nat}{bl:List Nat}(h:Zj B bl)(hg:B'<=g)(hgB:g<B):Zj B' (g :: bl):=
 ⟨List.nodup_cons.2 ⟨fun hm=>by have:=h.2 g hm;omega,h.1⟩,fun b a=>by
  rcases List.mem_cons.1 a with rfl | a
  ·exact hg
  ·have:=h.2 b a;omega⟩
theorem Hh(v:Value)(ss:List Bs)(w:Wo)(hr:Je GY w v ss)(hm:ss.length<=1048576):
  Calls prog 98 #[v] w fun e w'=>∃ v' bl,e= .returned v'/\qy w' v' ss bl/\Zj w.heap.size bl/\Bw w w':=by
 obtain⟨T,Q,R,U,rfl,h,_,_⟩:=RStr.ss hr;obtain⟨O,H,x,y,z⟩:=info_parts F5;have d:=h.ad;have G:=zb h.cell;clear h hr;go_in;go_wp2_with (at_make;refine wpList_make_full _ rfl _ _ 55 rfl w.heap.size 9 O (.string ByteArray.empty) 1 underlying55 H x y .i64 .i64 _ _ ss.length rfl rfl rfl rfl (by rw[z];omega) (by unfold maxLen;omega) (ye _) ?_);intro P a f;have q:Bw w P:=(yH _ _).grown f (ye _) (by intro k I;cases I);clear f H x y z;go_wp2;go_loopw [4] (fun i wr=>∃ k:Nat,k<=ss.length/\i= .int .i64 k/\Bw w wr/\∃ o,wr.ownsRow w.heap.size 9 1 (.slice (some ⟨w.heap.size,0,none⟩) ss.length ss.length) ss.length o/\∀ j,j<k->o[j]?=some (.string (ss.getD j ByteArray.empty))) (fun i _=>ss.length - (intOf i).toNat)
 case atStart=>exact⟨0,yt _,rfl,q,_,a,fun j r=>by omega⟩
 case round=>
  obtain⟨k,I,rfl,n,o,a,m⟩:=hrel;by_cases E:k<ss.length
  ·have l:=uh G k E;have g:=a.1;have S:=(n.cell (p:=⟨Q,R+k,none⟩) (yJ _ _ l)).trans l;have N:=a.frozenAt k;have C:=a.cellAt k (by omega);have u:=a.stored k (.string (ss.getD k ByteArray.empty));obtain⟨A,hold⟩:∃ A,o[k]?=some A:=⟨o[k]'(by omega),by simp⟩;rw[hold]at C;have B:=zb u;have M:=zb m;have K:=zb g;have J:=zb n;obtain rfl:=d (by omega);clear l u m a hold d g n;generalize hs:ss.getD k ByteArray.empty=s at *;have L:=zb hs;clear hs;go_wp2;go_roundw
   case rel=>
    refine⟨k+1,by omega,by go_num,(uh J).setCell (ye _) _,_,(uh B).1,?_⟩;intro j r;have g:=uh K;by_cases e:j=k
    ·subst e;rw[uh L];rw[List.getElem?_set_self (by omega)]
    ·rw[List.getElem?_set_ne (by omega)];exact uh M j (by omega)
   case measure=>simp[intOf];omega
  ·have D:k=ss.length:=by omega
   subst D;clear d G;go_wp2;go_ret;have g:=a.1;have F:o=ss.map .string:=by
    apply List.ext_getElem?;intro j;by_cases r:j<ss.length
    ·rw[m j r,List.getElem?_map,yx r];simp[List.getD,r]
    ·rw[List.getElem?_eq_none (by omega),List.getElem?_eq_none (by rw[yl];omega)]
   subst F;exact⟨_,[w.heap.size],rfl,Y0.2 ⟨qT a (yt _),rfl⟩,⟨by simp,fun b n=>by simp at n;omega⟩,n⟩
theorem zk.other{α:Type}{e:QR α}{w:Wo}{v:Value}{xs:List α}{bl:List Nat}(h:zk e w v xs bl){g:Nat}(hg:g ∉ bl)(o:Nat)(u:Value):zk e (w.setCell ⟨g,o,none⟩ u) v xs bl:=
 h.keep fun b hb=>Below.heap_setCell _ _ _ _ fun he=>hg (by subst he;exact hb)
theorem Zj.not{B g:Nat}{bl:List Nat}(h:Zj B bl)(hg:g<B):g ∉ bl:=fun hm=>by have:=h.2 g hm;omega
structure Hi(w:Wo)(a b c:Obj)(w':Wo):Prop where
 bel:Bw w w'
 size:w'.heap.size=w.heap.size+1+1+1
 k0:w'.heap[w.heap.size]?=some a
 k1:w'.heap[w.heap.size+1]?=some b
 k2:w'.heap[w.heap.size+1+1]?=some c
theorem VF(w:Wo)(a b c:Obj):Hi w a b c (((w.alloc a).alloc b).alloc c):=by
 refine⟨zh (zh (zu w _) (zu _ _)) (zu _ _),by simp,?_,?_,?_⟩
 ·exact ((zu _ c).block _ (by simp;omega)).trans (((zu _ b).block _ (by simp)).trans (yG w a))
 ·have:=yG (w.alloc a) b;rw[show (w.alloc a).heap.size=w.heap.size+1 from by simp]at this;exact ((zu _ c).block _ (by simp)).trans this
 ·have:=yG ((w.alloc a).alloc b) c;simpa using this
theorem zk.putN{α:Type}{e:QR α}{w:Wo}{v:Value}{xs:List α}{bl:List Nat}(h:zk e w v xs bl){g:Nat}(hg:g ∉ bl)(vs:List Value)(o:Nat):zk e (putN w g o vs) v xs bl:=
 h.keep fun b hb=>ZO (fun he=>hg (by subst he;exact hb)) _ _
theorem J8(w:Wo)(n:Nat):Bw w (w.drewN n):=⟨rfl,rfl,rfl,ye _,fun _ _=>rfl⟩
theorem zk.len{α:Type}{e:QR α}{w:Wo}{v:Value}{xs:List α}{bl:List Nat}(h:zk e w v xs bl):xs.length<=maxLen:=by
 obtain⟨n,m,l,d,_⟩:=h;rcases d.2 with ⟨f,i⟩ |⟨g,a,b,f,_,_,j,k,_⟩
 ·omega
 ·omega
theorem Hj(v v':Value)(ss:List Bs)(bl bl':List Nat)(w:Wo)(h:qy w v ss bl)(k:qy w v' ss bl'):
  Calls prog 106 #[v,v'] w fun e w'=>e= .returned (.bool true)/\Bw w w':=by
 obtain⟨a,g,d,rfl,j⟩:=h.ss;obtain⟨f,i,b,rfl,l⟩:=k.ss;refine (Ec a f g 0 d i 0 b ss w j l (by have:=h.len;unfold maxLen at this;omega)).mono ?_;rintro e w' ⟨rfl,n,rfl⟩;exact⟨rfl,J8 w n⟩
structure Hk(w:Wo)(a b:Obj)(w':Wo):Prop where
 bel:Bw w w'
 size:w'.heap.size=w.heap.size+1+1
 k0:w'.heap[w.heap.size]?=some a
 k1:w'.heap[w.heap.size+1]?=some b
theorem Y8(w:Wo)(a b:Obj):Hk w a b ((w.alloc a).alloc b):=by
 refine⟨zh (zu w _) (zu _ _),by simp,?_,?_⟩
 ·exact ((zu _ b).block _ (by simp)).trans (yG w a)
 ·have:=yG (w.alloc a) b;rw[show (w.alloc a).heap.size=w.heap.size+1 from by simp]at this;exact this
structure zl where
 no:Int
 doc:Bs
 touched:List Bs
def Y9:WL zl where
 wd:=3
 R:=fun w vs m=>∃ q,vs=[.int .i64 m.no,.string m.doc,q]/\m.doc.size<=maxLen/\Je GY w q m.touched
 len:=fun h=>by obtain⟨q,h,_⟩:=h;rw[h];rfl
 keep:=fun h hb=>by obtain⟨q,h1,h0,h2⟩:=h;exact⟨q,h1,h0,h2.below hb⟩
def zT:QR zl where
 T:=57
 wd:=3
 E:=fun w vs m bl=>∃ q,vs=[.int .i64 m.no,.string m.doc,q]/\qy w q m.touched bl
 len:=fun h=>by obtain⟨q,h,_⟩:=h;rw[h];rfl
 lt:=fun h=>by obtain⟨q,_,h⟩:=h;exact h.lt
 keep:=fun h hk=>by obtain⟨q,h1,h2⟩:=h;exact⟨q,h1,h2.keep hk⟩
def ZZ(m:zl):Nat:=m.doc.size+YF m.touched
def ZG(ms:List zl):Nat:=ms.length+(ms.map ZZ).sum
theorem Hl(a0 a1 a2 b0 b1 b2:Value)(m:zl)(ib jb:List Nat)(w:Wo)(h:zT.E w [a0,a1,a2] m ib)(k:zT.E w [b0,b1,b2] m jb):
  Calls prog 60 #[.agg #[a0,a1,a2],.agg #[b0,b1,b2]] w fun e w'=>e= .returned (.bool true)/\Bw w w':=by
 obtain⟨q,a,j⟩:=h;injection a with e0 a;subst e0;injection a with e1 a;subst e1;injection a with e2 a;subst e2;clear a;obtain⟨q,a,f⟩:=k;injection a with e0 a;subst e0;injection a with e1 a;subst e1;injection a with e2 a;subst e2;clear a;have g:=zb j;have i:=zb f;clear j f;go_in;go_wp2_with fail;have d:=Y8 w (Obj.cells #[Value.int IntKind.i64 m.no,Value.string m.doc,a2] 57) (Obj.cells #[Value.int IntKind.i64 m.no,Value.string m.doc,b2] 57);generalize ((w.alloc (Obj.cells #[Value.int IntKind.i64 m.no,Value.string m.doc,a2] 57)).alloc (Obj.cells #[Value.int IntKind.i64 m.no,Value.string m.doc,b2] 57))=p at *;refine (Hj a2 b2 m.touched ib jb p ((uh g).below d.bel) ((uh i).below d.bel)).mono ?_;rintro e r ⟨rfl,b⟩;have n:=d.size;have o:=(b.block w.heap.size (by omega)).trans d.k0;have f:=(b.block (w.heap.size+1) (by omega)).trans d.k1;have l:=zb (zh d.bel b);clear d b o f g i;go_wp2;go_ret;exact⟨rfl,uh l⟩
theorem Hm(v v':Value)(ms:List zl)(bl bl':List Nat)(w:Wo)(h:zk zT w v ms bl)(k:zk zT w v' ms bl'):
  Calls prog 30 #[v,v'] w fun e w'=>e= .returned (.bool true)/\Bw w w':=by
 have B:=h.len;unfold maxLen at B;obtain⟨M,N,rfl,_,d⟩:=h.form;obtain⟨O,P,rfl,_,f⟩:=k.form;have H:=zb h;have K:=zb k;clear h k;go_in;go_wp2;go_loopw [5] (fun i wr=>∃ k:Nat,k<=ms.length/\i= .int .i64 k/\Bw w wr) (fun i _=>ms.length - (intOf i).toNat)
 case atStart=>exact⟨0,yt _,rfl,yH _ _⟩
 case round=>
  obtain⟨k,J,rfl,j⟩:=hrel;by_cases l:k<ms.length
  ·obtain⟨g,rfl⟩:=d (by omega);obtain⟨p,rfl⟩:=f (by omega);obtain⟨E,C,m,n,_⟩:=((uh H).below j).at (yx l);obtain⟨u,x,y,rfl⟩:=Xd (zT.len m);have c0:wr.cell? ⟨g,k*3,none⟩=_:=(n 0 _ rfl).1;have c1:wr.cell? ⟨g,k*3+1,none⟩=_:=(n 1 _ rfl).1;have c2:wr.cell? ⟨g,k*3+2,none⟩=_:=(n 2 _ rfl).1;obtain⟨E,D,a,b,_⟩:=((uh K).below j).at (yx l);obtain⟨z,o,A,rfl⟩:=Xd (zT.len a);have F:wr.cell? ⟨p,k*3,none⟩=_:=(b 0 _ rfl).1;have G:wr.cell? ⟨p,k*3+1,none⟩=_:=(b 1 _ rfl).1;have I:wr.cell? ⟨p,k*3+2,none⟩=_:=(b 2 _ rfl).1;have hx:Bw wr wr.drew:=(yH _ _).drew;have s:=zb (Hl u x y z o A ms[k] C D wr.drew (zT.keep m (.of_below hx (zT.lt m))) (zT.keep a (.of_below hx (zT.lt a))));have q:=zb j;have r:(k:Int)<(ms.length:Int):=by omega
   clear d f n b m a j hx;go_wp2;go_region_law (go_simp;refine (uh s).mono ?_;rintro e L ⟨rfl,o⟩)
   all_goals go_wp2
   all_goals go_roundw
   all_goals first
    | exact⟨k+1,by omega,by go_num,(uh q).drew.trans (o.mono (by have:=(uh q).size;simp;omega))⟩
    |(simp[intOf];omega)
  ·clear d f;go_wp2;go_ret;exact⟨rfl,j⟩
structure zw where
 kind:Int
 path:Bs
 src:Bs
 val:Bs
def Yr(m:zw):List Value:=[.int .i64 m.kind,.string m.path,.string m.src,.string m.val]
def Va:WL zw where
 wd:=4
 R:=fun _ vs m=>vs=[.int .i64 m.kind,.string m.path,.string m.src,.string m.val]/\m.path.size<=maxLen/\m.src.size<=maxLen/\m.val.size<=maxLen
 len:=fun h=>by rw[h.1];rfl
 keep:=fun h _=>h
def Zh:QR zw where
 T:=95
 wd:=4
 E:=fun _ vs m bl=>vs=[.int .i64 m.kind,.string m.path,.string m.src,.string m.val]/\bl=[]
 len:=fun h=>by rw[h.1];rfl
 lt:=fun h b hb=>by rw[h.2]at hb;cases hb
 keep:=fun h _=>h
def Ql(m:zw):Nat:=m.path.size+m.src.size+m.val.size
theorem Hn(a0 a1 a2 a3:Value)(m:zw)(L:Nat)(w:Wo)(h:Va.R w [a0,a1,a2,a3] m)(hL:L<=1048576):
  Calls prog 63 #[.agg #[a0,a1,a2,a3],.int .i64 L] w fun e w'=>e= .returned (.int .i64 (Qa L (Ql m)))/\Bw w w':=by
 obtain⟨a,d,f,g⟩:=h;injection a with e0 a;injection a with e1 a;injection a with e2 a;injection a with e3 a;subst e0;subst e1;subst e2;subst e3;clear a;unfold maxLen at d f g;by_cases j:m.path.size<=L
 ·by_cases k:m.path.size+m.src.size<=L
  ·by_cases i:m.path.size+m.src.size+m.val.size<=L
   ·have b:Qa L (Ql m)=(L:Int) - (m.path.size:Int) - (m.src.size:Int) - (m.val.size:Int):=by
     unfold Ql;rw[Vt i];omega
    rw[b];clear b;go_in;go_wp2;go_ret;exact⟨rfl,zu w _⟩
   ·rw[JC (by unfold Ql;omega)];go_in;go_wp2;go_ret;exact⟨rfl,zu w _⟩
  ·rw[JC (by unfold Ql;omega)];go_in;go_wp2;go_ret;exact⟨rfl,zu w _⟩
 ·rw[JC (by unfold Ql;omega)];go_in;go_wp2;go_ret;exact⟨rfl,zu w _⟩
def Z4(ms:List zw):Nat:=ms.length+(ms.map Ql).sum
theorem Ho(v:Value)(ms:List zw)(L:Nat)(w:Wo)(h:Je Va w v ms)(hL:L<=1048576):
  Calls prog 34 #[v,.int .i64 L] w fun e w'=>e= .returned (.int .i64 (Qa L (Z4 ms)))/\Bw w w':=by
 have H:=zb h;obtain⟨M,a,J,rfl,d⟩:=h;unfold maxLen at M;clear d;by_cases R:L<ms.length
 ·go_in;go_wp2;go_ret;exact⟨Jl (JC (by unfold Z4;omega)).symm,yH _ _⟩
 ·go_in;go_wp2;go_loopw [1,5] (fun l i wr=>∃ k:Nat,k<=ms.length/\i= .int .i64 k/\ms.length+((ms.take k).map Ql).sum<=L/\l= .int .i64 ((L - (ms.length+((ms.take k).map Ql).sum):Nat):Int)/\Bw w wr) (fun _ i _=>ms.length - (intOf i).toNat)
  case atStart=>exact⟨0,yt _,rfl,by simp;omega,by simp;omega,yH _ _⟩
  case round=>
   obtain⟨k,S,rfl,q,rfl,j⟩:=hrel;by_cases r:k<ms.length
   ·have N:=V9 Ql ms k ms[k] (yx r);have s:=V8 (ms.map Ql) (k+1);rw[← List.map_take]at s;obtain⟨_,Q,C,K,d⟩:=(uh H).below j;injection K with he1 he2 he3;subst he1;subst he3;clear he2;obtain⟨b,o,rfl,V,x,p⟩:=d k ms[k] (yx r);obtain⟨E,F,G,I,rfl⟩:=Xe (Va.len x);have c0:wr.cell? ⟨b,o+k*4,none⟩=_:=p 0 _ rfl;have c1:wr.cell? ⟨b,o+k*4+1,none⟩=_:=p 1 _ rfl;have c2:wr.cell? ⟨b,o+k*4+2,none⟩=_:=p 2 _ rfl;have c3:wr.cell? ⟨b,o+k*4+3,none⟩=_:=p 3 _ rfl;have g:=zb (Hn E F G I ms[k] (L - (ms.length+((ms.take k).map Ql).sum)) wr x (by omega));clear d p x;have D:Hid (Z4 ms=ms.length+(ms.map Ql).sum):=rfl;generalize (ms.map Ql).sum=P at *;generalize ((ms.take k).map Ql).sum=T at *;have f:∃ B,((ms.take (k+1)).map Ql).sum=B:=⟨_,rfl⟩;obtain⟨B,f⟩:=f;rw[f]at N s;have A:=zb f;clear f;generalize Ql ms[k]=z at *;by_cases U:ms.length+T+z<=L
    ·rw[Vt (by omega)]at g;go_wp2_with fail;refine (uh g).mono ?_;rintro e O ⟨rfl,m⟩;have u:=zb (zh j m);clear g m j c0 c1 c2 c3;go_wp2;go_roundw
     case rel=>exact⟨k+1,by omega,by go_num,by rw[uh A];omega,by rw[uh A];go_num,uh u⟩
     case measure=>simp[intOf];omega
    ·rw[JC (by omega)]at g;go_wp2_with fail;refine (uh g).mono ?_;rintro e O ⟨rfl,m⟩;have u:=zb (zh j m);clear g m j c0 c1 c2 c3;go_wp2;go_ret;exact⟨Jl (JC (by rw[uh D];omega)).symm,uh u⟩
   ·have y:k=ms.length:=by omega
    subst y;rw[yU]at q ⊢;go_wp2;go_ret;exact⟨Jl (Vt (n:=Z4 ms) q).symm,j⟩
theorem Hp(a0 a1 a2 a3:Value)(m:zw)(w:Wo)(h:Va.R w [a0,a1,a2,a3] m)(_hs:Ql m<=1048576):
  Calls prog 72 #[.agg #[a0,a1,a2,a3]] w fun e w'=>∃ b0 b1 b2 b3 ib,e= .returned (.agg #[b0,b1,b2,b3])/\Zh.E w' [b0,b1,b2,b3] m ib/\Zj (w.heap.size+1) ib/\Bw w w':=by
 obtain⟨a,d,f,g⟩:=h;injection a with e0 a;injection a with e1 a;injection a with e2 a;injection a with e3 a;subst e0;subst e1;subst e2;subst e3;clear a d f g;go_in;go_wp2;have b:=VF w (Obj.cells #[.int .i64 m.kind,.string m.path,.string m.src,.string m.val] 117) (Obj.cells #[.int .i64 m.kind,.string m.path,.string m.src,.string m.val] 95) (Obj.cells #[.int .i64 m.kind,.string m.path,.string m.src,.string m.val] 95);refine bodyPost_ret (results_cell_row rfl _ _ (w.heap.size+1) 95 #[_,_,_,_] (0,0) _ rfl b.k1 underlying95 rfl (by kernel_rfl)) rfl ?_;exact⟨_,_,_,_,[],rfl,⟨rfl,rfl⟩,Zj.nil _,b.bel⟩
theorem Nn:(prog.info? 95).map (fun i=>(i.zero,i.size,i.bytes))=some (some (.agg #[.int .i64 0,.string ByteArray.empty,.string ByteArray.empty,.string ByteArray.empty]),4,56):=by kernel_rfl
theorem Hq(v:Value)(ms:List zw)(w:Wo)(h:Je Va w v ms)(hs:Z4 ms<=1048576):
  Calls prog 39 #[v] w fun e w'=>∃ v' bl,e= .returned v'/\zk Zh w' v' ms bl/\Zj w.heap.size bl/\Bw w w':=by
 have hl:ms.length<=1048576:=by unfold Z4 at hs;omega
 have I:∀ k (F:k<ms.length),Ql ms[k]<=1048576:=fun k F=>by
  have h1:=V9 Ql ms k ms[k] (yx F);have h2:=V8 (ms.map Ql) (k+1);rw[← List.map_take]at h2;unfold Z4 at hs;omega
 have HZ:=zb I;clear hs I;have H:=zb h;obtain⟨hm,a,cap,rfl,j⟩:=h;clear j hm;obtain⟨i0,hi,J,K,L⟩:=info_parts Nn;go_in;go_wp2_with (at_make;refine wpList_make_full _ rfl _ _ 26 rfl 0 95 i0 (.agg #[.int .i64 0,.string ByteArray.empty,.string ByteArray.empty,.string ByteArray.empty]) 4 underlying26 hi J K .i64 .i64 _ _ ms.length rfl rfl rfl rfl (by rw[L];omega) (by unfold maxLen;omega) (yt _) ?_);intro w1 r l;have p:Bw w w1:=(yH _ _).grown l (ye _) (by intro k F;cases F);have m:Qb Zh w1 w.heap.size ms.length ms.length [] []:=Qb.start r;have hg1:=m.lt.1;have HP:=zb m;have HB:=zb p;clear l hi J K L r m p;go_wp2;go_loopw [4] (fun i wr=>∃ k:Nat,k<=ms.length/\i= .int .i64 k/\Bw w wr/\∃ bl,Qb Zh wr w.heap.size ms.length ms.length (ms.take k) bl/\Zj (w.heap.size+1) bl) (fun i _=>ms.length - (intOf i).toNat)
 case atStart=>exact⟨0,yt _,rfl,uh HB,[],uh HP,Zj.nil _⟩
 case round=>
  obtain⟨k,F,rfl,z,bl,m,W⟩:=hrel;by_cases n:k<ms.length
  ·have hgr:=m.lt.1;obtain⟨_,a',aa,he,j⟩:=(uh H).below z;injection he with he1 he2 he3;subst he1;subst he3;clear he2;obtain⟨b,o,rfl,vs,X,E⟩:=j k ms[k] (yx n);obtain⟨a0,a1,a2,a3,rfl⟩:=Xe (Va.len X);have c0:wr.cell? ⟨b,o+k*4,none⟩=_:=E 0 _ rfl;have c1:wr.cell? ⟨b,o+k*4+1,none⟩=_:=E 1 _ rfl;have c2:wr.cell? ⟨b,o+k*4+2,none⟩=_:=E 2 _ rfl;have c3:wr.cell? ⟨b,o+k*4+3,none⟩=_:=E 3 _ rfl;have Z:=zb (Hp a0 a1 a2 a3 ms[k] wr X (uh HZ k n));have d:(ms.take k).length=k:=by rw[ym];omega
   have u:=zb m;have s:=zb W;have A:=zb z;have B:=zb d;clear j E X m W z d;go_wp2_with fail;refine (uh Z).mono ?_;rintro e M ⟨b0,b1,y2,b3,ib,rfl,U,y,P⟩;have x:=(uh u).below P;have d:=uh B;have f:(ms.take k).length<ms.length:=by rw[d];exact n
   obtain⟨u0,Q⟩:=x.cell f 0 (by decide);rw[d]at Q;have Q:M.cell? ⟨w.heap.size,k*4,none⟩=some u0:=Q;obtain⟨u1,R⟩:=x.cell f 1 (by decide);rw[d]at R;have R:M.cell? ⟨w.heap.size,k*4+1,none⟩=some u1:=R;obtain⟨u2,S⟩:=x.cell f 2 (by decide);rw[d]at S;have S:M.cell? ⟨w.heap.size,k*4+2,none⟩=some u2:=S;obtain⟨u3,T⟩:=x.cell f 3 (by decide);rw[d]at T;have T:M.cell? ⟨w.heap.size,k*4+3,none⟩=some u3:=T;have fz:=x.frozen;have G:w.heap.size ∉ bl:=(uh s).not (by omega);have q:w.heap.size ∉ ib:=y.not (by omega);have D:=zb (x.put f G U q);have O:=zb ((uh s).app (C:=wr.heap.size+1) (fun b z=>by have:=(uh u).lt.2 b z;omega) y (by omega));have N:=zb (zh (uh A) P);have V:=U;have g:=V.1;injection g with e0 g;subst e0;injection g with e1 g;subst e1;injection g with e2 g;subst e2;injection g with e3 g;subst e3;clear g;rw[d]at D;clear x U y P Z G q u s A d f B;go_wp2;go_roundw
   case rel=>exact⟨k+1,by omega,by go_num,ZL (uh N) (ye _) [_,_,_,_] (k*4),_,by rw[List.take_add_one,yx n];exact uh D,uh O⟩
   case measure=>simp[intOf];omega
  ·have Y:k=ms.length:=by omega
   subst Y;rw[yU]at m;go_wp2;go_ret;exact⟨_,_,rfl,m.full rfl,W.cons (ye _) (by omega),z⟩
theorem Hr(a0 a1 a2 a3 b0 b1 b2 b3:Value)(m:zw)(ib jb:List Nat)(w:Wo)(h:Zh.E w [a0,a1,a2,a3] m ib)(k:Zh.E w [b0,b1,b2,b3] m jb):
  Calls prog 59 #[.agg #[a0,a1,a2,a3],.agg #[b0,b1,b2,b3]] w fun e w'=>e= .returned (.bool true)/\Bw w w':=by
 have a:=h.1;injection a with e0 a;subst e0;injection a with e1 a;subst e1;injection a with e2 a;subst e2;injection a with e3 a;subst e3;clear a;have a:=k.1;injection a with e0 a;subst e0;injection a with e1 a;subst e1;injection a with e2 a;subst e2;injection a with e3 a;subst e3;clear a;go_in;go_wp2;go_ret;exact⟨rfl,zh (zu w _) (zu _ _)⟩
theorem Hs(v v':Value)(ms:List zw)(bl bl':List Nat)(w:Wo)(h:zk Zh w v ms bl)(k:zk Zh w v' ms bl'):
  Calls prog 29 #[v,v'] w fun e w'=>e= .returned (.bool true)/\Bw w w':=by
 have D:=h.len;unfold maxLen at D;obtain⟨P,Q,rfl,_,d⟩:=h.form;obtain⟨R,S,rfl,_,f⟩:=k.form;have H:=zb h;have K:=zb k;clear h k;go_in;go_wp2;go_loopw [5] (fun i wr=>∃ k:Nat,k<=ms.length/\i= .int .i64 k/\Bw w wr) (fun i _=>ms.length - (intOf i).toNat)
 case atStart=>exact⟨0,yt _,rfl,yH _ _⟩
 case round=>
  obtain⟨k,N,rfl,j⟩:=hrel;by_cases m:k<ms.length
  ·obtain⟨g,rfl⟩:=d (by omega);obtain⟨n,rfl⟩:=f (by omega);obtain⟨G,E,o,l,_⟩:=((uh H).below j).at (yx m);obtain⟨u,x,y,z,rfl⟩:=Xe (Zh.len o);have c0:wr.cell? ⟨g,k*4,none⟩=_:=(l 0 _ rfl).1;have c1:wr.cell? ⟨g,k*4+1,none⟩=_:=(l 1 _ rfl).1;have c2:wr.cell? ⟨g,k*4+2,none⟩=_:=(l 2 _ rfl).1;have c3:wr.cell? ⟨g,k*4+3,none⟩=_:=(l 3 _ rfl).1;obtain⟨G,F,b,a,_⟩:=((uh K).below j).at (yx m);obtain⟨A,p,B,C,rfl⟩:=Xe (Zh.len b);have I:wr.cell? ⟨n,k*4,none⟩=_:=(a 0 _ rfl).1;have J:wr.cell? ⟨n,k*4+1,none⟩=_:=(a 1 _ rfl).1;have L:wr.cell? ⟨n,k*4+2,none⟩=_:=(a 2 _ rfl).1;have M:wr.cell? ⟨n,k*4+3,none⟩=_:=(a 3 _ rfl).1;have hx:Bw wr wr.drew:=(yH _ _).drew;have s:=zb (Hr u x y z A p B C ms[k] E F wr.drew (Zh.keep o (.of_below hx (Zh.lt o))) (Zh.keep b (.of_below hx (Zh.lt b))));have q:=zb j;have r:(k:Int)<(ms.length:Int):=by omega
   clear d f l a o b j hx;go_wp2;go_region_law (go_simp;refine (uh s).mono ?_;rintro e O ⟨rfl,p⟩)
   all_goals go_wp2
   all_goals go_roundw
   all_goals first
    | exact⟨k+1,by omega,by go_num,(uh q).drew.trans (p.mono (by have:=(uh q).size;simp;omega))⟩
    |(simp[intOf];omega)
  ·clear d f;go_wp2;go_ret;exact⟨rfl,j⟩
def YM(k n:Nat):List Bs:=(List.range n).map fun j=>ZJ (k+j)
theorem XI(k n:Nat):(YM k n).length=n:=by simp[YM]
def J9(k:Nat)(ss:List Bs)(j:Nat):List Bs:=YM k j++ss.drop j
theorem Hu(k:Nat)(ss:List Bs){j:Nat}(h:j<=ss.length):(J9 k ss j).length=ss.length:=by unfold J9;rw[yh,XI,yu];omega
theorem Hv(k:Nat)(ss:List Bs){j:Nat}(h:j<ss.length):(J9 k ss j).set j (ZJ (k+j))=J9 k ss (j+1):=by
 unfold J9;rw[List.set_append_right _ _ (by rw[XI];omega),XI,Nat.sub_self,List.drop_eq_getElem_cons h,List.set_cons_zero];unfold YM;rw[List.range_succ,yw,List.append_assoc];rfl
theorem Hw(k:Nat)(ss:List Bs):J9 k ss 0=ss:=by simp[J9,YM]
theorem Hx(k:Nat)(ss:List Bs):J9 k ss ss.length=YM k ss.length:=by simp[J9]
theorem Hy(v:Value)(ss:List Bs)(bl:List Nat)(k0:Nat)(w:Wo)(hv:qy w v ss bl)(hd:bl.Nodup)(hn:ss.length<=268435456)(h1:1<=k0)(h2:k0<=1099200000000):
  Calls prog 62 #[v,.int .i64 k0] w fun e w'=>e= .returned (.int .i64 (k0+ss.length:Nat))/\qy w' v (YM k0 ss.length) bl/\Fr bl w w':=by
 obtain⟨a,f,rfl,_,s⟩:=hv.form;have F:=zb hv;have C:=zb hd;clear hv hd;go_in;go_wp2;go_loopw [1,5] (fun q i wr=>∃ (j:Nat),j<=ss.length/\i= .int .i64 j/\q= .int .i64 (k0+j:Nat)/\Fr bl w wr/\qy wr (.slice a ss.length f) (J9 k0 ss j) bl) (fun _ i _=>ss.length - (intOf i).toNat)
 case atStart=>exact⟨0,yt _,rfl,rfl,Fr.refl _ _,by rw[Hw];exact uh F⟩
 case round=>
  obtain⟨j,L,rfl,rfl,o,d⟩:=hrel;by_cases b:j<ss.length
  ·obtain⟨g,rfl⟩:=s (by omega);have u:=zb (Ge (k0+j) wr (by omega) (by omega));have B:=Hu k0 ss (Nat.le_of_lt b);have E:=zb (Hv k0 ss b);have z:=zb d;have x:=zb o;have y:=zb B;clear d o B;go_wp2_with fail;refine (uh u).mono ?_;rintro e K ⟨rfl,n⟩;have d:=(uh z).below n;obtain⟨J,I,H,p,_,A,_⟩:=d.at (yx (show j<(J9 k0 ss j).length by rw[uh y];exact b));obtain⟨rfl,rfl⟩:=H;have c0:=(p 0 _ rfl).1;have G:=(p 0 _ rfl).2;rw[show j*YE.wd+0=j from by simp[YE]]at c0 G;have l:=d.put (uh C) (yx (show j<(J9 k0 ss j).length by rw[uh y];exact b)) 0 (by decide) (.string (ZJ (k0+j))) (ZJ (k0+j)) (fun w' J I h=>⟨by rw[h.1];rfl,h.2⟩);rw[uh E]at l;have k:qy (K.setCell ⟨g,j,none⟩ (.string (ZJ (k0+j)))) (.slice (some ⟨g,0,none⟩) ss.length f) (J9 k0 ss (j+1)) bl:=by
    rw[show j*YE.wd+0=j from by simp[YE]]at l;exact l
   have D:=zb k;have m:=zb (((uh x).next n).set A j (.string (ZJ (k0+j))));clear l k d p n u z x A;go_wp2;go_roundw
   case rel=>exact⟨j+1,by omega,by go_num,by go_num,uh m,uh D⟩
   case measure=>simp[intOf];omega
  ·have r:j=ss.length:=by omega
   subst r;rw[Hx]at d;go_wp2;go_ret;exact⟨rfl,d,o⟩
theorem Hz(k n:Nat):(YM k n).map Value.string=US k n:=by simp[YM,US]
theorem H9(v:Value)(bl:List Nat)(n k0:Nat)(w:Wo)(hv:qy w v (YM k0 n) bl)(hn:n<=268435456)(h1:1<=k0)(h2:k0<=1099200000000):
  Calls prog 78 #[v,.int .i64 k0] w fun e w'=>e= .returned (.int .i64 (k0+n:Nat))/\Bw w w':=by
 have h:=(Y0.1 hv).1;rw[XI,Hz]at h;exact En 0 v n k0 w h hn h1 h2
def qe{α:Type}(f:Nat->α->α)(c:α->Nat):Nat->List α->List α
 | _,[]=>[]
 | k,x :: r=>f k x :: qe f c (k+c x) r
def Zs{α:Type}(c:α->Nat)(l:List α):Nat:=(l.map c).sum
theorem Gp{α:Type}(f:Nat->α->α)(c:α->Nat):∀ (l:List α) (k:Nat),(qe f c k l).length=l.length
 | [],_=>rfl
 | x :: r,k=>by rw[qe,yn,Gp f c r,yn]
theorem DP{α:Type}(f:Nat->α->α)(c:α->Nat)(x:α):∀ (l:List α) (k:Nat),qe f c k (l++[x])=qe f c k l++[f (k+Zs c l) x]
 | [],k=>by simp[qe,Zs]
 | y :: r,k=>by
  rw[List.cons_append,qe,qe,DP f c x r,List.cons_append];unfold Zs;rw[yi,yL,Nat.add_assoc]
def Ys{α:Type}(f:Nat->α->α)(c:α->Nat)(k:Nat)(l:List α)(j:Nat):List α:=qe f c k (l.take j)++l.drop j
section
variable {α:Type} {f:Nat->α->α} {c:α->Nat} {k:Nat} {l:List α} {j:Nat}
theorem DQ:Ys f c k l 0=l:=by simp[Ys,qe]
theorem DR:Ys f c k l l.length=qe f c k l:=by simp[Ys]
theorem DS(h:j<l.length):(Ys f c k l j)[j]?=some l[j]:=by
 have a:(qe f c k (l.take j)).length=j:=by rw[Gp,ym];omega
 unfold Ys;rw[List.getElem?_append_right (by omega),a,Nat.sub_self,List.getElem?_drop];simp[h]
theorem DT(h:j<l.length)(x:α):(Ys f c k l j).set j x=qe f c k (l.take j)++x :: l.drop (j+1):=by
 have a:(qe f c k (l.take j)).length=j:=by rw[Gp,ym];omega
 unfold Ys;rw[List.set_append_right _ _ (by omega),a,Nat.sub_self,List.drop_eq_getElem_cons h,List.set_cons_zero]
theorem DU(h:j<l.length):qe f c k (l.take j)++f (k+Zs c (l.take j)) l[j] :: l.drop (j+1)=Ys f c k l (j+1):=by
 unfold Ys;rw[yy h,DP,List.append_assoc];rfl
theorem Gq(h:j<l.length):Zs c (l.take (j+1))=Zs c (l.take j)+c l[j]:=by
 exact V9 c l j l[j] (yx h)
theorem Ka:Zs c (l.take j)<=Zs c l:=by
 unfold Zs;rw[List.map_take];exact V8 _ _
theorem DX(h:j<l.length):(qe f c k l)[j]?=some (f (k+Zs c (l.take j)) l[j]):=by
 induction l generalizing j k with
 | nil=>simp at h
 | cons x r ih=>
  cases j with
  | zero=>simp[qe,Zs]
  | succ j=>
   rw[qe,List.getElem?_cons_succ,ih (by simpa using h),List.take_succ_cons,List.getElem_cons_succ];unfold Zs;rw[yi,yL,Nat.add_assoc]
theorem VG{A B:List α}{x:α}(h:A.length=j):(A++x :: B)[j]?=some x:=by
 rw[List.getElem?_append_right (by omega),h,Nat.sub_self];rfl
theorem Kb{A B:List α}{x:α}(h:A.length=j)(y:α):(A++x :: B).set j y=A++y :: B:=by
 rw[List.set_append_right _ _ (by omega),h,Nat.sub_self,List.set_cons_zero]
theorem zaa(w:Wo)(g i j:Nat)(v:Value)(h:i≠j):(w.setCell ⟨g,i,none⟩ v).cell? ⟨g,j,none⟩=w.cell? ⟨g,j,none⟩:=World.cell?_setCell_other _ _ _ _ (by intro e;injection e with _ e;exact h e)
theorem DY(h:j<l.length):(qe f c k (l.take j)).length=j:=by rw[Gp,ym];omega
end
def ZE(m:zl):Nat:=m.touched.length+2
def JU(k:Nat)(m:zl):zl:=⟨(k:Int),ZJ (k+1),YM (k+1+1) m.touched.length⟩
theorem DZ{ms:List zl}(hn:ZG ms<=268435456)(k:Nat)(hk:k<ms.length):ms[k].touched.length<=268435456:=by
 have b:=V9 ZZ ms k ms[k] (yx hk);have a:=V8 (ms.map ZZ) (k+1);rw[← List.map_take]at a;unfold ZG at hn;have d:ms[k].touched.length<=ZZ ms[k]:=by unfold ZZ YF;omega
 omega
theorem zab(v:Value)(ms:List zl)(bl:List Nat)(k0:Nat)(w:Wo)(hv:zk zT w v ms bl)(hd:bl.Nodup)(hn:ZG ms<=268435456)(h2:k0+Zs ZE ms<=1099200000000):
  Calls prog 31 #[v,.int .i64 k0] w fun e w'=>e= .returned (.int .i64 (k0+Zs ZE ms:Nat))/\zk zT w' v (qe JU ZE k0 ms) bl/\Fr bl w w':=by
 have hln:ms.length<=268435456:=by unfold ZG at hn;omega
 have af:=zb (DZ hn);obtain⟨a,cap,rfl,y,W⟩:=hv.form;clear y;have HV:=zb hv;have Z:=zb hd;clear hv hd hn;go_in;go_wp2;go_loopw [1,5] (fun q i wr=>∃ (j:Nat),j<=ms.length/\i= .int .i64 j/\q= .int .i64 (k0+Zs ZE (ms.take j):Nat)/\Fr bl w wr/\zk zT wr (.slice a ms.length cap) (Ys JU ZE k0 ms j) bl) (fun _ i _=>ms.length - (intOf i).toNat)
 case atStart=>exact⟨0,yt _,rfl,by simp[Zs],Fr.refl _ _,by rw[DQ];exact uh HV⟩
 case round=>
  obtain⟨j,hj,rfl,rfl,hb,S⟩:=hrel;by_cases b:j<ms.length
  ·obtain⟨g,rfl⟩:=W (by omega);have hle:=Ka (c:=ZE) (l:=ms) (j:=j);have n:=Ka (c:=ZE) (l:=ms) (j:=j+1);rw[Gq b]at n;have hcm:ZE ms[j]=ms[j].touched.length+2:=rfl;have U:=uh af j b;have hs:=Gq (c:=ZE) b;have R:=DU (f:=JU) (c:=ZE) (k:=k0) b;have r:=fun x=>DT (f:=JU) (c:=ZE) (k:=k0) b x;have u:=DS (f:=JU) (c:=ZE) (k:=k0) b;generalize hK:k0+Zs ZE (ms.take j)=K at *;generalize ms[j]=m at *
   -- the number is marked
   obtain⟨vs,ib,hE,hc,hx1,z,hx2⟩:=S.at u;obtain⟨q,rfl,hq⟩:=hE;have c0:wr.cell? ⟨g,j*3,none⟩=_:=(hc 0 _ rfl).1;have f0:wr.frozen? ⟨g,j*3,none⟩=_:=(hc 0 _ rfl).2;have p1:zk zT (wr.setCell ⟨g,j*3,none⟩ (.int .i64 (K:Int))) _ _ bl:=S.put (uh Z) u 0 (by decide) (.int .i64 (K:Int)) ⟨(K:Int),m.doc,m.touched⟩ (fun w' vs ib h=>by obtain⟨q,rfl,h⟩:=h;exact⟨q,rfl,h⟩);rw[r]at p1;have L:=hb.set z (j*3) (.int .i64 (K:Int));have hA:=DY (f:=JU) (c:=ZE) (k:=k0) b;generalize qe JU ZE k0 (ms.take j)=A at *;generalize ms.drop (j+1)=B at *;have HM:=zb (Ge (K+1) (wr.setCell ⟨g,j*3,none⟩ (.int .i64 (K:Int))) (by omega) (by omega));have E:=zb L;have J:=zb p1;have HHG:=zb z;have aa:=zb R;have HS:=zb hs;have C:=zb hA;have HK:=zb hK;have HLE:=zb n;have N:K+2+m.touched.length<=1099200000000:=by omega
   have H:=zb N;have hKc:K<=1099200000000:=by omega
   have ad:=zb U;clear S hb hc p1 L hq r u z R hs hA hK hle n hcm h2 hx1 hx2 W N U;go_wp2_with fail;refine (uh HM).mono ?_;rintro e X ⟨rfl,b2⟩;have o2:=(uh J).below b2;obtain⟨vs2,kb,hE2,o,hy1,z,hy2⟩:=o2.at (VG (uh C));obtain⟨q2,rfl,hq2⟩:=hE2;have d1:X.cell? ⟨g,j*3+1,none⟩=_:=(o 1 _ rfl).1;have d2:X.cell? ⟨g,j*3+2,none⟩=some q2:=(o 2 _ rfl).1;have e1:X.frozen? ⟨g,j*3+1,none⟩=_:=(o 1 _ rfl).2;have p2:zk zT (X.setCell ⟨g,j*3+1,none⟩ (.string (ZJ (K+1)))) _ _ bl:=o2.put (uh Z) (VG (uh C)) 1 (by decide) (.string (ZJ (K+1))) ⟨(K:Int),ZJ (K+1),m.touched⟩ (fun w' vs ib h=>by obtain⟨q,rfl,h⟩:=h;exact⟨q,rfl,h⟩);rw[Kb (uh C)]at p2;have M:=((uh E).next b2).set z (j*3+1) (.string (ZJ (K+1)));obtain⟨vs5,jb,hE5,O,Q,hz1,P,d⟩:=p2.inner (uh Z) (VG (uh C));obtain⟨Y,rfl,V⟩:=hE5;have hqq:Y=q2:=by
    have c5:(X.setCell ⟨g,j*3+1,none⟩ (.string (ZJ (K+1)))).cell? ⟨g,j*3+2,none⟩=some Y:=(O 2 _ rfl).1;rw[zaa _ _ _ _ _ (by omega),d2]at c5;exact (Option.some.inj c5).symm
   subst hqq;have I:=zb (Hy Y m.touched jb (K+1+1) _ V P (uh ad) (by omega) (by have:=uh H;omega));have p:=zb M;have D:=zb d;have G:=zb Q;clear HM E J b2 o2 o hy1 z hy2 hq2 p2 M O Q hz1 P d V c0 f0;go_wp2_with fail;refine (uh I).mono ?_;rintro e w3 ⟨rfl,T,s⟩;have o3:=uh D w3 (JU K m) s ⟨Y,rfl,T⟩;rw[Kb (uh C),uh aa]at o3;have ab:=zb o3;have F:=zb ((uh p).trans (s.mono (uh G)));have hKB:=uh H;clear I D p G T s o3 d1 d2 e1;go_wp2;go_roundw
   case rel=>
    have hk1:=uh HK;have hk2:=uh HS;have hk3:ZE m=m.touched.length+2:=rfl;exact⟨j+1,by omega,by go_num,by rw[hk2,hk3,← hk1];go_num,uh F,uh ab⟩
   case measure=>simp[intOf];omega
  ·have hjn:j=ms.length:=by omega
   subst hjn;rw[DR]at S;rw[yU];go_wp2;go_ret;exact⟨rfl,S,hb⟩
theorem zac(v:Value)(ms:List zl)(bl:List Nat)(k0:Nat)(w:Wo)(hv:zk zT w v (qe JU ZE k0 ms) bl)(hn:ZG ms<=268435456)(h2:k0+Zs ZE ms<=1099200000000):
  Calls prog 43 #[v,.int .i64 k0] w fun e w'=>e= .returned (.int .i64 (k0+Zs ZE ms:Nat))/\Bw w w':=by
 have hln:ms.length<=268435456:=by unfold ZG at hn;omega
 have G:=zb (DZ hn);obtain⟨a,Z,rfl,h,n⟩:=hv.form;rw[Gp]at n;have R:=zb hv;have F:=zb n;rw[Gp]at R ⊢;clear hv hn h n;go_in;go_wp2;go_loopw [1,5] (fun q i wr=>∃ (j:Nat),j<=ms.length/\i= .int .i64 j/\q= .int .i64 (k0+Zs ZE (ms.take j):Nat)/\Bw w wr) (fun _ i _=>ms.length - (intOf i).toNat)
 case atStart=>exact⟨0,yt _,rfl,by simp[Zs],yH _ _⟩
 case round=>
  obtain⟨j,hj,rfl,rfl,B⟩:=hrel;by_cases b:j<ms.length
  ·obtain⟨g,rfl⟩:=uh F (by omega);have d:=Ka (c:=ZE) (l:=ms) (j:=j+1);rw[Gq b]at d;have H:ZE ms[j]=ms[j].touched.length+2:=rfl;have A:=uh G j b;have V:=Gq (c:=ZE) b;have y:=DX (f:=JU) (c:=ZE) (k:=k0) b;generalize hK:k0+Zs ZE (ms.take j)=K at *;generalize ms[j]=m at *;obtain⟨vs,ib,hE,C,N,hg,O⟩:=((uh R).below B).at y;obtain⟨q,rfl,U⟩:=hE;have c0:wr.cell? ⟨g,j*3,none⟩=some (.int .i64 (K:Int)):=(C 0 _ rfl).1;have c1:wr.cell? ⟨g,j*3+1,none⟩=some (.string (ZJ (K+1))):=(C 1 _ rfl).1;have c2:wr.cell? ⟨g,j*3+2,none⟩=some q:=(C 2 _ rfl).1;have Q:=zb (Ge (K+1) wr.drew (by omega) (by omega));have x:K+2+m.touched.length<=1099200000000:=by omega
   have r:Hid (∀ wx,Bw wr wx->Calls _ _ _ wx _):=fun wx hx=>H9 q ib m.touched.length (K+1+1) wx (U.below hx) A (by omega) (by omega);have P:=zb B;have Y:=zb V;have X:=zb hK;have z:g<wr.heap.size:=yJ _ _ c0;have hKc:K<=1099200000000:=by omega
   have E:=zb x;clear N O C U B y d H V hK hg h2 x A;go_wp2;go_region_law (go_simp;refine (uh Q).mono ?_;rintro e W ⟨rfl,S⟩;have u:Bw wr W:=((yH _ _).drew).trans (S.mono (by simp));have d1:=(u.cell (p:=⟨g,j*3+1,none⟩) z).trans c1)
   all_goals (
    have d2:=(u.cell (p:=⟨g,j*3+2,none⟩) z).trans c2;have s:=zb (uh r W u);have o:=zb (zh (uh P) u);clear Q r P S u c0 c1 c2 d1;go_wp2_with fail;refine (uh s).mono ?_;rintro e w2 ⟨rfl,T⟩;have D:=zb (zh (uh o) T);have hKB:=uh E;clear s o T d2;go_wp2)
   all_goals go_roundw
   all_goals first
    |(
      refine⟨j+1,by omega,by go_num,?_,uh D⟩;have J:=uh X;have L:=uh Y;have M:ZE m=m.touched.length+2:=rfl;rw[L,M,← J];go_num)
    |(simp[intOf];omega)
  ·have I:j=ms.length:=by omega
   subst I;rw[yU];go_wp2;go_ret;exact⟨rfl,B⟩
def Ue(w:Wo)(v:Value)(h:List zl)(bl:List Nat):Prop:=∃ p,v= .agg #[p]/\zk zT w p h bl
theorem D2(v:Value)(h:List zl)(bl:List Nat)(w:Wo)(hv:Ue w v h bl)(hd:bl.Nodup)(hn:ZG h<=268435456)(k0:Nat)(h2:k0+Zs ZE h<=1099200000000):
  Calls prog 12 #[v,.int .i64 k0] w fun e w'=>e= .returned (.int .i64 (k0+Zs ZE h:Nat))/\Ue w' v (qe JU ZE k0 h) bl/\Fr bl w w':=by
 obtain⟨p,rfl,f⟩:=hv;have b:=zb f;have a:=zb hd;clear f hd;go_in;go_wp2_with fail;refine (zab p h bl k0 _ ((uh b).below (zu w _)) (uh a) hn h2).mono ?_;rintro e k ⟨rfl,g,d⟩;have j:Hid (Ue k (.agg #[p]) (qe JU ZE k0 h) bl):=⟨p,rfl,g⟩;have i:=zb ((Fr.of_below (bl:=bl) (zu w _)).trans d);clear g d b a;go_wp2;go_ret;exact⟨rfl,uh j,uh i⟩
theorem zad(v:Value)(h:List zl)(bl:List Nat)(w:Wo)(k0:Nat)(hv:Ue w v (qe JU ZE k0 h) bl)(hn:ZG h<=268435456)(h2:k0+Zs ZE h<=1099200000000):
  Calls prog 19 #[v,.int .i64 k0] w fun e w'=>e= .returned (.int .i64 (k0+Zs ZE h:Nat))/\Bw w w':=by
 obtain⟨p,rfl,d⟩:=hv;have a:=zb d;clear d;go_in;go_wp2_with fail;refine (zac p h bl k0 _ ((uh a).below (zu w _)) hn h2).mono ?_;rintro e g ⟨rfl,b⟩;have f:=zb (zh (zu w _) b);clear b a;go_wp2;go_ret;exact⟨rfl,uh f⟩
theorem XJ(v v':Value)(h:List zl)(bl bl':List Nat)(w:Wo)(hv:Ue w v h bl)(hv':Ue w v' h bl'):
  Calls prog 11 #[v,v'] w fun e w'=>e= .returned (.bool true)/\Bw w w':=by
 obtain⟨p,rfl,g⟩:=hv;obtain⟨q,rfl,i⟩:=hv';have b:=zb g;have d:=zb i;clear g i;go_in;go_wp2_with fail;have a:Bw w ((w.alloc (.cells #[p] 35)).alloc (.cells #[q] 35)):=zh (zu w _) (zu _ _);refine (Hm p q h bl bl' _ ((uh b).below a) ((uh d).below a)).mono ?_;rintro e k ⟨rfl,f⟩;have j:=zb (zh a f);clear f b d a;go_wp2;go_ret;exact⟨rfl,uh j⟩
def JG:Array Value:=#[.string ⟨#[97,100,100]⟩,.int .i64 1,.bool false,.bool true,.bool false,.bool true,.func (Fn.func 181) #[] #[],.string ⟨#[114,101,109,111,118,101]⟩,.int .i64 2,.bool false,.bool false,.bool false,.bool true,.func (Fn.func 182) #[] #[],.string ⟨#[114,101,112,108,97,99,101]⟩,.int .i64 3,.bool false,.bool true,.bool false,.bool false,.func (Fn.func 183) #[] #[],.string ⟨#[109,111,118,101]⟩,.int .i64 4,.bool true,.bool false,.bool true,.bool true,.func (Fn.func 184) #[] #[],.string ⟨#[99,111,112,121]⟩,.int .i64 5,.bool true,.bool false,.bool false,.bool true,.func (Fn.func 185) #[] #[],.string ⟨#[116,101,115,116]⟩,.int .i64 6,.bool false,.bool true,.bool false,.bool false,.func (Fn.func 186) #[] #[]]
theorem D4(w:Wo):Calls prog 160 #[] w fun e w'=>e= .returned (.slice (some ⟨w.heap.size,0,none⟩) 6 6)/\w'=w.alloc (.cells JG 202):=by
 go_in;go_wp2;go_ret;exact⟨rfl,rfl⟩
theorem zae{w:Wo}{g:Nat}(hg:w.heap[g]?=some (.cells JG 202 (0,0))){j:Nat}(hj:j<6):
  ∃ c0 c2 c3 c4 c5 c6,w.cell? ⟨g,j*7,none⟩=some c0/\w.cell? ⟨g,j*7+1,none⟩=some (.int .i64 ((j:Int)+1))/\w.cell? ⟨g,j*7+2,none⟩=some c2/\w.cell? ⟨g,j*7+3,none⟩=some c3/\w.cell? ⟨g,j*7+4,none⟩=some c4/\w.cell? ⟨g,j*7+5,none⟩=some c5/\w.cell? ⟨g,j*7+6,none⟩=some c6:=by
 rcases (show j=0∨j=1∨j=2∨j=3∨j=4∨j=5 from by omega)with rfl | rfl | rfl | rfl | rfl | rfl
 all_goals exact⟨_,_,_,_,_,_,yF hg _,yF hg _,yF hg _,yF hg _,yF hg _,yF hg _,yF hg _⟩
theorem zaf(a0 a1 a2:Value)(m:zl)(L:Nat)(w:Wo)(h:Y9.R w [a0,a1,a2] m)(hL:L<=1048576):
  Calls prog 44 #[.agg #[a0,a1,a2],.int .i64 L] w fun e w'=>e= .returned (.int .i64 (Qa L (ZZ m)))/\Bw w w':=by
 obtain⟨q,a,p,l⟩:=h;injection a with e0 a;injection a with e1 a;injection a with e2 a;subst e0;subst e1;subst e2;clear a;unfold maxLen at p;by_cases r:m.doc.size<=L
 ·have g:Hid (∀ o,Calls _ _ _ (w.alloc o) _):=fun o=>Eb a2 m.touched (L - m.doc.size) _ (l.below (zu w o)) (by omega);have n:Qa L (ZZ m)=Qa (L - m.doc.size) (YF m.touched):=by
   unfold ZZ Qa;by_cases f:YF m.touched<=L - m.doc.size
   ·rw[yg f,yg (by omega)];omega
   ·rw[yf f,yf (by omega)]
  rw[n];have i:=RP (L - m.doc.size) (YF m.touched);have d:=RQ (L - m.doc.size) (YF m.touched);have b:((L - m.doc.size:Nat):Int)=(L:Int) - (m.doc.size:Int):=by omega
  rw[b]at g d;generalize Qa (L - m.doc.size) (YF m.touched)=z at *;clear l n b;go_in;go_wp2_with fail;refine (uh g _).mono ?_;rintro e s ⟨rfl,k⟩;have j:=zb (zh (zu w _) k);clear k g;by_cases f:z<0
  ·have:z= -1:=by omega
   subst this;clear f i d;go_wp2;go_ret;exact⟨rfl,uh j⟩
  ·go_wp2;go_ret;exact⟨rfl,uh j⟩
 ·rw[JC (by unfold ZZ;omega)];go_in;go_wp2;go_ret;exact⟨rfl,zu w _⟩
theorem zag(v:Value)(ms:List zl)(L:Nat)(w:Wo)(h:Je Y9 w v ms)(hL:L<=1048576):
  Calls prog 20 #[v,.int .i64 L] w fun e w'=>e= .returned (.int .i64 (Qa L (ZG ms)))/\Bw w w':=by
 have H:=zb h;obtain⟨K,a,I,rfl,d⟩:=h;unfold maxLen at K;clear d;by_cases Q:L<ms.length
 ·go_in;go_wp2;go_ret;exact⟨Jl (JC (by unfold ZG;omega)).symm,yH _ _⟩
 ·go_in;go_wp2;go_loopw [1,5] (fun l i wr=>∃ k:Nat,k<=ms.length/\i= .int .i64 k/\ms.length+((ms.take k).map ZZ).sum<=L/\l= .int .i64 ((L - (ms.length+((ms.take k).map ZZ).sum):Nat):Int)/\Bw w wr) (fun _ i _=>ms.length - (intOf i).toNat)
  case atStart=>exact⟨0,yt _,rfl,by simp;omega,by simp;omega,yH _ _⟩
  case round=>
   obtain⟨k,R,rfl,p,rfl,j⟩:=hrel;by_cases q:k<ms.length
   ·have M:=V9 ZZ ms k ms[k] (yx q);have r:=V8 (ms.map ZZ) (k+1);rw[← List.map_take]at r;obtain⟨_,P,C,J,d⟩:=(uh H).below j;injection J with he1 he2 he3;subst he1;subst he3;clear he2;obtain⟨b,o,rfl,U,x,s⟩:=d k ms[k] (yx q);obtain⟨E,F,G,rfl⟩:=Xd (Y9.len x);have c0:wr.cell? ⟨b,o+k*3,none⟩=_:=s 0 _ rfl;have c1:wr.cell? ⟨b,o+k*3+1,none⟩=_:=s 1 _ rfl;have c2:wr.cell? ⟨b,o+k*3+2,none⟩=_:=s 2 _ rfl;have g:=zb (zaf E F G ms[k] (L - (ms.length+((ms.take k).map ZZ).sum)) wr x (by omega));clear d s x;have D:Hid (ZG ms=ms.length+(ms.map ZZ).sum):=rfl;generalize (ms.map ZZ).sum=O at *;generalize ((ms.take k).map ZZ).sum=T at *;have f:∃ B,((ms.take (k+1)).map ZZ).sum=B:=⟨_,rfl⟩;obtain⟨B,f⟩:=f;rw[f]at M r;have A:=zb f;clear f;generalize ZZ ms[k]=z at *;by_cases S:ms.length+T+z<=L
    ·rw[Vt (by omega)]at g;go_wp2_with fail;refine (uh g).mono ?_;rintro e N ⟨rfl,m⟩;have u:=zb (zh j m);clear g m j c0 c1 c2;go_wp2;go_roundw
     case rel=>exact⟨k+1,by omega,by go_num,by rw[uh A];omega,by rw[uh A];go_num,uh u⟩
     case measure=>simp[intOf];omega
    ·rw[JC (by omega)]at g;go_wp2_with fail;refine (uh g).mono ?_;rintro e N ⟨rfl,m⟩;have u:=zb (zh j m);clear g m j c0 c1 c2;go_wp2;go_ret;exact⟨Jl (JC (by rw[uh D];omega)).symm,uh u⟩
   ·have y:k=ms.length:=by omega
    subst y;rw[yU]at p ⊢;go_wp2;go_ret;exact⟨Jl (Vt (n:=ZG ms) p).symm,j⟩
theorem zah(a0 a1 a2:Value)(m:zl)(w:Wo)(h:Y9.R w [a0,a1,a2] m)(hs:ZZ m<=1048576):
  Calls prog 52 #[.agg #[a0,a1,a2]] w fun e w'=>∃ b0 b1 b2 ib,e= .returned (.agg #[b0,b1,b2])/\zT.E w' [b0,b1,b2] m ib/\Zj (w.heap.size+1) ib/\Bw w w':=by
 obtain⟨q,b,_,n⟩:=h;injection b with e0 b;subst e0;injection b with e1 b;subst e1;injection b with e2 b;subst e2;have C:m.touched.length<=1048576:=by unfold ZZ YF at hs;omega
 clear hs b;have l:=zb n;clear n;go_in;go_wp2_with fail;have a:=VF w (Obj.cells #[Value.int IntKind.i64 m.no,Value.string m.doc,a2] 88) (Obj.cells #[Value.int IntKind.i64 0,Value.string ⟨#[]⟩,Value.slice none 0 0] 57) (Obj.cells #[Value.int IntKind.i64 m.no,Value.string m.doc,Value.slice none 0 0] 57);generalize (((w.alloc (Obj.cells #[Value.int IntKind.i64 m.no,Value.string m.doc,a2] 88)).alloc (Obj.cells #[Value.int IntKind.i64 0,Value.string ⟨#[]⟩,Value.slice none 0 0] 57)).alloc (Obj.cells #[Value.int IntKind.i64 m.no,Value.string m.doc,Value.slice none 0 0] 57))=H at *;refine (Hh a2 m.touched H ((uh l).below a.bel) C).mono ?_;rintro e d ⟨K,u,rfl,k,o,b1⟩;obtain⟨L,M,rfl,_,_⟩:=k.form;have D:=a.size;have E:=(b1.block w.heap.size (by omega)).trans a.k0;have f:=(b1.block (w.heap.size+1) (by omega)).trans a.k1;have i:=(b1.block (w.heap.size+1+1) (by omega)).trans a.k2;have z:d.cell? ⟨w.heap.size+1+1,0,none⟩=some (.int .i64 m.no):=yF i 0;have A:d.cell? ⟨w.heap.size+1+1,1,none⟩=some (.string m.doc):=yF i 1;have B:d.cell? ⟨w.heap.size+1+1,2,none⟩=some (.slice none 0 0):=yF i 2;have v:d.cell? ⟨w.heap.size+1,0,none⟩=some (.int .i64 0):=yF f 0;have x:d.cell? ⟨w.heap.size+1,1,none⟩=some (.string ⟨#[]⟩):=yF f 1;have y:d.cell? ⟨w.heap.size+1,2,none⟩=some (.slice none 0 0):=yF f 2;have J:=yI i;have I:=yI f;have p:=zb (zh a.bel b1);have s:=zb k;have j:=zb o;have r:=zb f;clear b1 k o a l E f i;go_wp2;refine bodyPost_ret (results_cell_row rfl _ _ (w.heap.size+1) 57 #[_,_,_] (0,0) _ rfl (qV (w:=putN d (w.heap.size+1+1) 2 [_]) ((ZO (by omega) _ _).trans (uh r)) [_,_,_] rfl) underlying57 rfl (by kernel_rfl)) rfl ?_;have F:=(uh j).not (g:=w.heap.size+1) (by omega);have G:=(uh j).not (g:=w.heap.size+1+1) (by omega);refine⟨_,_,_,u,rfl,⟨_,rfl,((uh s).putN G [_] 2).putN F [_,_,_] 0⟩,(uh j).mono (by omega),?_⟩;exact ZL (g:=w.heap.size+1) (ZL (g:=w.heap.size+1+1) (uh p) (by omega) [_] 2) (by omega) [_,_,_] 0
theorem zai:(prog.info? 57).map (fun i=>(i.zero,i.size,i.bytes))=some (some (.agg #[.int .i64 0,.string ByteArray.empty,.slice none 0 0]),3,48):=by kernel_rfl
theorem zaj(v:Value)(ms:List zl)(w:Wo)(h:Je Y9 w v ms)(hs:ZG ms<=1048576):
  Calls prog 25 #[v] w fun e w'=>∃ v' bl,e= .returned v'/\zk zT w' v' ms bl/\Zj w.heap.size bl/\Bw w w':=by
 have hl:ms.length<=1048576:=by unfold ZG at hs;omega
 have I:∀ k (F:k<ms.length),ZZ ms[k]<=1048576:=fun k F=>by
  have h1:=V9 ZZ ms k ms[k] (yx F);have h2:=V8 (ms.map ZZ) (k+1);rw[← List.map_take]at h2;unfold ZG at hs;omega
 have HZ:=zb I;clear hs I;have H:=zb h;obtain⟨hm,a,cap,rfl,j⟩:=h;clear j hm;obtain⟨i0,hi,J,K,L⟩:=info_parts zai;go_in;go_wp2_with (at_make;refine wpList_make_full _ rfl _ _ 33 rfl 0 57 i0 (.agg #[.int .i64 0,.string ByteArray.empty,.slice none 0 0]) 3 underlying33 hi J K .i64 .i64 _ _ ms.length rfl rfl rfl rfl (by rw[L];omega) (by unfold maxLen;omega) (yt _) ?_);intro w1 r l;have p:Bw w w1:=(yH _ _).grown l (ye _) (by intro k F;cases F);have m:Qb zT w1 w.heap.size ms.length ms.length [] []:=Qb.start r;have hg1:=m.lt.1;have HP:=zb m;have HB:=zb p;clear l hi J K L r m p;go_wp2;go_loopw [4] (fun i wr=>∃ k:Nat,k<=ms.length/\i= .int .i64 k/\Bw w wr/\∃ bl,Qb zT wr w.heap.size ms.length ms.length (ms.take k) bl/\Zj (w.heap.size+1) bl) (fun i _=>ms.length - (intOf i).toNat)
 case atStart=>exact⟨0,yt _,rfl,uh HB,[],uh HP,Zj.nil _⟩
 case round=>
  obtain⟨k,F,rfl,z,bl,m,V⟩:=hrel;by_cases n:k<ms.length
  ·have hgr:=m.lt.1;obtain⟨_,a',aa,he,j⟩:=(uh H).below z;injection he with he1 he2 he3;subst he1;subst he3;clear he2;obtain⟨b,o,rfl,vs,W,M⟩:=j k ms[k] (yx n);obtain⟨a0,a1,a2,rfl⟩:=Xd (Y9.len W);have c0:wr.cell? ⟨b,o+k*3,none⟩=_:=M 0 _ rfl;have c1:wr.cell? ⟨b,o+k*3+1,none⟩=_:=M 1 _ rfl;have c2:wr.cell? ⟨b,o+k*3+2,none⟩=_:=M 2 _ rfl;have Z:=zb (zah a0 a1 a2 ms[k] wr W (uh HZ k n));have d:(ms.take k).length=k:=by rw[ym];omega
   have u:=zb m;have s:=zb V;have A:=zb z;have B:=zb d;clear j M W m V z d;go_wp2_with fail;refine (uh Z).mono ?_;rintro e Y ⟨b0,b1,y2,ib,rfl,T,x,P⟩;have y:=(uh u).below P;have d:=uh B;have f:(ms.take k).length<ms.length:=by rw[d];exact n
   obtain⟨u0,Q⟩:=y.cell f 0 (by decide);rw[d]at Q;have Q:Y.cell? ⟨w.heap.size,k*3,none⟩=some u0:=Q;obtain⟨u1,R⟩:=y.cell f 1 (by decide);rw[d]at R;have R:Y.cell? ⟨w.heap.size,k*3+1,none⟩=some u1:=R;obtain⟨u2,S⟩:=y.cell f 2 (by decide);rw[d]at S;have S:Y.cell? ⟨w.heap.size,k*3+2,none⟩=some u2:=S;have fz:=y.frozen;have G:w.heap.size ∉ bl:=(uh s).not (by omega);have q:w.heap.size ∉ ib:=x.not (by omega);have D:=zb (y.put f G T q);have O:=zb ((uh s).app (C:=wr.heap.size+1) (fun b z=>by have:=(uh u).lt.2 b z;omega) x (by omega));have N:=zb (zh (uh A) P);have U:=T;obtain⟨q0,g,E⟩:=U;injection g with e0 g;subst e0;injection g with e1 g;subst e1;injection g with e2 g;subst e2;clear g;obtain⟨xa0,xc0,rfl,_,_⟩:=E.form;clear E;rw[d]at D;clear y T x P Z G q u s A d f B;go_wp2;go_roundw
   case rel=>exact⟨k+1,by omega,by go_num,ZL (uh N) (ye _) [_,_,_] (k*3),_,by rw[List.take_add_one,yx n];exact uh D,uh O⟩
   case measure=>simp[intOf];omega
  ·have X:k=ms.length:=by omega
   subst X;rw[yU]at m;go_wp2;go_ret;exact⟨_,_,rfl,m.full rfl,V.cons (ye _) (by omega),z⟩
def YN(w:Wo)(v:Value)(h:List zl):Prop:=∃ p,v= .agg #[p]/\Je Y9 w p h
theorem YN.below{w w':Wo}{v:Value}{h:List zl}(ho:YN w v h)(hb:Bw w w'):YN w' v h:=by
 obtain⟨p,b,a⟩:=ho;exact⟨p,b,a.below hb⟩
theorem zak(v:Value)(h:List zl)(w:Wo)(hr:YN w v h):
  Calls prog 5 #[v,.int .i64 1048576] w fun e w'=>e= .returned (.int .i64 (Qa 1048576 (ZG h)))/\Bw w w':=by
 obtain⟨p,rfl,i⟩:=hr;have f:Hid (∀ o,Calls _ _ _ (w.alloc o) _):=fun o=>zag p h 1048576 _ (i.below (zu w o)) (by omega);have a:=RP 1048576 (ZG h);have b:=RQ 1048576 (ZG h);generalize Qa 1048576 (ZG h)=z at *;clear i;go_in;go_wp2_with fail;refine (uh f _).mono ?_;rintro e k ⟨rfl,g⟩;have d:=zb (zh (zu w _) g);clear g f;by_cases j:z<0
 ·have:z= -1:=by omega
  subst this;clear j a b;go_wp2;go_ret;exact⟨rfl,uh d⟩
 ·go_wp2;go_ret;exact⟨rfl,uh d⟩
theorem zal(v:Value)(h:List zl)(w:Wo)(hr:YN w v h)(hs:ZG h<=1048576):
  Calls prog 7 #[v] w fun e w'=>∃ p bl,e= .returned (.agg #[p])/\zk zT w' p h bl/\Zj w.heap.size bl/\Bw w w':=by
 obtain⟨p,rfl,m⟩:=hr;have l:=zb m;clear m;go_in;go_wp2_with fail;have a:=VF w (Obj.cells #[p] 24) (Obj.cells #[Value.slice none 0 0] 35) (Obj.cells #[Value.slice none 0 0] 35);generalize (((w.alloc (Obj.cells #[p] 24)).alloc (Obj.cells #[Value.slice none 0 0] 35)).alloc (Obj.cells #[Value.slice none 0 0] 35))=B at *;refine (zaj p h B ((uh l).below a.bel) hs).mono ?_;rintro e k ⟨E,bl,rfl,i,n,b⟩;obtain⟨F,G,rfl,_,_⟩:=i.form;have x:=a.size;have y:=(b.block w.heap.size (by omega)).trans a.k0;have d:=(b.block (w.heap.size+1) (by omega)).trans a.k1;have j:=(b.block (w.heap.size+1+1) (by omega)).trans a.k2;have u:k.cell? ⟨w.heap.size+1+1,0,none⟩=some (.slice none 0 0):=yF j 0;have s:k.cell? ⟨w.heap.size+1,0,none⟩=some (.slice none 0 0):=yF d 0;have D:=yI j;have C:=yI d;have o:=zb (zh a.bel b);have r:=zb i;have f:=zb n;have q:=zb d;clear b i n a l y d j;go_wp2;refine bodyPost_ret (results_cell_row rfl _ _ (w.heap.size+1) 35 #[_] (0,0) _ rfl (qV (w:=putN k (w.heap.size+1+1) 0 [_]) ((ZO (by omega) _ _).trans (uh q)) [_] rfl) underlying35 rfl (by kernel_rfl)) rfl ?_;have z:=(uh f).not (g:=w.heap.size+1) (by omega);have A:=(uh f).not (g:=w.heap.size+1+1) (by omega);refine⟨_,bl,rfl,((uh r).putN A [_] 0).putN z [_] 0,(uh f).mono (by omega),?_⟩;exact ZL (g:=w.heap.size+1) (ZL (g:=w.heap.size+1+1) (uh o) (by omega) [_] 0) (by omega) [_] 0
def ZU(_:zw):Nat:=4
def JH(k:Nat)(_:zw):zw:=⟨(k:Int),ZJ (k+1),ZJ (k+1+1),ZJ (k+1+1+1)⟩
theorem Kc(ms:List zw):Zs ZU ms=4*ms.length:=by
 unfold Zs;induction ms with
 | nil=>rfl
 | cons m r ih=>rw[yi,yL,ih,yn];unfold ZU;omega
theorem zam(v:Value)(ms:List zw)(bl:List Nat)(k0:Nat)(w:Wo)(hv:zk Zh w v ms bl)(hd:bl.Nodup)(hn:ms.length<=268435456)(h2:k0+Zs ZU ms<=1099200000000):
  Calls prog 32 #[v,.int .i64 k0] w fun e w'=>e= .returned (.int .i64 (k0+Zs ZU ms:Nat))/\zk Zh w' v (qe JH ZU k0 ms) bl/\Fr bl w w':=by
 obtain⟨a,cap,rfl,C,Q⟩:=hv.form;clear C;have HV:=zb hv;have R:=zb hd;clear hv hd;go_in;go_wp2;go_loopw [1,5] (fun q i wr=>∃ (j:Nat),j<=ms.length/\i= .int .i64 j/\q= .int .i64 (k0+Zs ZU (ms.take j):Nat)/\Fr bl w wr/\zk Zh wr (.slice a ms.length cap) (Ys JH ZU k0 ms j) bl) (fun _ i _=>ms.length - (intOf i).toNat)
 case atStart=>exact⟨0,yt _,rfl,by simp[Zs],Fr.refl _ _,by rw[DQ];exact uh HV⟩
 case round=>
  obtain⟨j,hj,rfl,rfl,hb,P⟩:=hrel;by_cases b:j<ms.length
  ·obtain⟨g,rfl⟩:=Q (by omega);have o:=Ka (c:=ZU) (l:=ms) (j:=j+1);rw[Gq b]at o;have hcm:ZU ms[j]=4:=rfl;have hs:=Gq (c:=ZU) b;have O:=DU (f:=JH) (c:=ZU) (k:=k0) b;have p:=fun x=>DT (f:=JH) (c:=ZU) (k:=k0) b x;have s:=DS (f:=JH) (c:=ZU) (k:=k0) b;generalize hK:k0+Zs ZU (ms.take j)=K at *;generalize ms[j]=m at *
   -- the kind is marked
   obtain⟨T,S,hE,hc,hx1,d,hx2⟩:=P.at s;obtain⟨rfl,_⟩:=hE;have c0:wr.cell? ⟨g,j*4,none⟩=_:=(hc 0 _ rfl).1;have f0:wr.frozen? ⟨g,j*4,none⟩=_:=(hc 0 _ rfl).2;have p1:zk Zh (wr.setCell ⟨g,j*4,none⟩ (.int .i64 (K:Int))) _ _ bl:=P.put (uh R) s 0 (by decide) (.int .i64 (K:Int)) ⟨(K:Int),m.path,m.src,m.val⟩ (fun w' T S h=>by obtain⟨rfl,h⟩:=h;exact⟨rfl,h⟩);rw[p]at p1;have M:=hb.set d (j*4) (.int .i64 (K:Int));have hA:=DY (f:=JH) (c:=ZU) (k:=k0) b;generalize qe JH ZU k0 (ms.take j)=A at *;generalize ms.drop (j+1)=B at *;have N:K+4<=1099200000000:=by omega
   have hKc:K<=1099200000000:=by omega
   have HM:=zb (Ge (K+1) (wr.setCell ⟨g,j*4,none⟩ (.int .i64 (K:Int))) (by omega) (by omega));have F:=zb M;have I:=zb p1;have X:=zb O;have HS:=zb hs;have n:=zb hA;have HK:=zb hK;have r:=zb N;clear P hb hc p1 M p s d O hs hA hK o hcm h2 hx1 hx2 Q N;go_wp2_with fail;refine (uh HM).mono ?_;rintro e U ⟨rfl,Z⟩;have o2:=(uh I).below Z;obtain⟨vs2,kb,hE2,u,_,d,_⟩:=o2.at (VG (uh n));obtain⟨rfl,_⟩:=hE2;have d1:U.cell? ⟨g,j*4+1,none⟩=_:=(u 1 _ rfl).1;have e1:U.frozen? ⟨g,j*4+1,none⟩=_:=(u 1 _ rfl).2;have p2:zk Zh (U.setCell ⟨g,j*4+1,none⟩ (.string (ZJ (K+1)))) _ _ bl:=o2.put (uh R) (VG (uh n)) 1 (by decide) (.string (ZJ (K+1))) ⟨(K:Int),ZJ (K+1),m.src,m.val⟩ (fun w' T S h=>by obtain⟨rfl,h⟩:=h;exact⟨rfl,h⟩);rw[Kb (uh n)]at p2;have D:=zb (((uh F).next Z).set d (j*4+1) (.string (ZJ (K+1))));have J:=zb p2;have G:=zb (Ge (K+1+1) (U.setCell ⟨g,j*4+1,none⟩ (.string (ZJ (K+1)))) (by omega) (by have:=uh r;omega));clear HM F I Z o2 u d p2 c0 f0;go_wp2_with fail;refine (uh G).mono ?_;rintro e V ⟨rfl,b3⟩;have o3:=(uh J).below b3;obtain⟨vs3,kb3,hE3,y,_,d,_⟩:=o3.at (VG (uh n));obtain⟨rfl,_⟩:=hE3;have d2:V.cell? ⟨g,j*4+2,none⟩=_:=(y 2 _ rfl).1;have e2:V.frozen? ⟨g,j*4+2,none⟩=_:=(y 2 _ rfl).2;have p3:zk Zh (V.setCell ⟨g,j*4+2,none⟩ (.string (ZJ (K+1+1)))) _ _ bl:=o3.put (uh R) (VG (uh n)) 2 (by decide) (.string (ZJ (K+1+1))) ⟨(K:Int),ZJ (K+1),ZJ (K+1+1),m.val⟩ (fun w' T S h=>by obtain⟨rfl,h⟩:=h;exact⟨rfl,h⟩);rw[Kb (uh n)]at p3;have E:=zb (((uh D).next b3).set d (j*4+2) (.string (ZJ (K+1+1))));have L:=zb p3;have H:=zb (Ge (K+1+1+1) (V.setCell ⟨g,j*4+2,none⟩ (.string (ZJ (K+1+1)))) (by omega) (by have:=uh r;omega));clear G D J b3 o3 y d p3 d1 e1;go_wp2_with fail;refine (uh H).mono ?_;rintro e w4 ⟨rfl,b4⟩;have o4:=(uh L).below b4;obtain⟨vs4,kb4,hE4,z,_,d,_⟩:=o4.at (VG (uh n));obtain⟨rfl,_⟩:=hE4;have d3:w4.cell? ⟨g,j*4+3,none⟩=_:=(z 3 _ rfl).1;have e3:w4.frozen? ⟨g,j*4+3,none⟩=_:=(z 3 _ rfl).2;have p4:zk Zh (w4.setCell ⟨g,j*4+3,none⟩ (.string (ZJ (K+1+1+1)))) _ _ bl:=o4.put (uh R) (VG (uh n)) 3 (by decide) (.string (ZJ (K+1+1+1))) (JH K m) (fun w' T S h=>by obtain⟨rfl,h⟩:=h;exact⟨rfl,h⟩);rw[Kb (uh n),uh X]at p4;have W:=zb (((uh E).next b4).set d (j*4+3) (.string (ZJ (K+1+1+1))));have Y:=zb p4;have hKB:=uh r;clear H E L b4 o4 z d p4 d2 e2;go_wp2;go_roundw
   case rel=>
    have hk1:=uh HK;have hk2:=uh HS;have hk3:ZU m=4:=rfl;exact⟨j+1,by omega,by go_num,by rw[hk2,hk3,← hk1];go_num,uh W,uh Y⟩
   case measure=>simp[intOf];omega
  ·have hjn:j=ms.length:=by omega
   subst hjn;rw[DR]at P;rw[yU];go_wp2;go_ret;exact⟨rfl,P,hb⟩
theorem zan(v:Value)(ms:List zw)(bl:List Nat)(k0:Nat)(w:Wo)(hv:zk Zh w v (qe JH ZU k0 ms) bl)(hn:ms.length<=268435456)(h2:k0+Zs ZU ms<=1099200000000):
  Calls prog 33 #[v,.int .i64 k0] w fun e w'=>e= .returned (.int .i64 (k0+Zs ZU ms:Nat))/\Bw w w':=by
 obtain⟨a,cap,rfl,x,A⟩:=hv.form;rw[Gp]at A;have HV:=zb hv;have N:=zb A;rw[Gp]at HV ⊢;clear hv x A;go_in;go_wp2;go_loopw [1,5] (fun q i wr=>∃ (j:Nat),j<=ms.length/\i= .int .i64 j/\q= .int .i64 (k0+Zs ZU (ms.take j):Nat)/\Bw w wr) (fun _ i _=>ms.length - (intOf i).toNat)
 case atStart=>exact⟨0,yt _,rfl,by simp[Zs],yH _ _⟩
 case round=>
  obtain⟨j,hj,rfl,rfl,J⟩:=hrel;by_cases z:j<ms.length
  ·obtain⟨g,rfl⟩:=uh N (by omega);have b:=Ka (c:=ZU) (l:=ms) (j:=j+1);rw[Gq z]at b;have P:ZU ms[j]=4:=rfl;have hs:=Gq (c:=ZU) z;have H:=DX (f:=JH) (c:=ZU) (k:=k0) z;generalize hK:k0+Zs ZU (ms.take j)=K at *;generalize ms[j]=m at *;obtain⟨vs,ib,hE,I,U,hg,V⟩:=((uh HV).below J).at H;obtain⟨rfl,-⟩:=hE;have c0:wr.cell? ⟨g,j*4,none⟩=some (.int .i64 (K:Int)):=(I 0 _ rfl).1;have y:g<wr.heap.size:=yJ _ _ c0;have B:Hid (∀ X:Wo,Bw wr X->X.cell? ⟨g,j*4+1,none⟩=some (.string (ZJ (K+1)))):=fun X hX=>(hX.cell (p:=⟨g,j*4+1,none⟩) y).trans (I 1 _ rfl).1;have C:Hid (∀ X:Wo,Bw wr X->X.cell? ⟨g,j*4+2,none⟩=some (.string (ZJ (K+1+1)))):=fun X hX=>(hX.cell (p:=⟨g,j*4+2,none⟩) y).trans (I 2 _ rfl).1;have D:Hid (∀ X:Wo,Bw wr X->X.cell? ⟨g,j*4+3,none⟩=some (.string (ZJ (K+1+1+1)))):=fun X hX=>(hX.cell (p:=⟨g,j*4+3,none⟩) y).trans (I 3 _ rfl).1;have G:K+4<=1099200000000:=by omega
   have d:Hid (∀ n,1<=n->n<=K+4->∀ X:Wo,Calls prog 61 #[.int .i64 (n:Nat)] X (Rb (.string (ZJ n)) X)):=fun n h1 h2 X=>Ge n X h1 (by omega);have HB:=zb J;have HS:=zb hs;have HK:=zb hK;have hKc:K<=1099200000000:=by omega
   have M:=zb G;have O:Bw wr wr.drew:=(yH _ _).drew;have S0:=zb (uh B _ O);have Z:=zb (uh d (K+1) (by omega) (by omega) wr.drew);clear U V I J H b P hs hK hg h2 G;go_wp2_with fail;go_region_held3 (fun w'=>w'.cell? ⟨g,j*4+1,none⟩=some (.string (ZJ (K+1))))
    (first | exact uh S1 | exact uh S0)
    (first
     |(
       go_simp;refine (uh Z).mono ?_;rintro e W ⟨rfl,b1⟩;have h:Bw wr W:=zh O b1;have S1:=zb (uh B _ h)))
   have s:Bw wr W.drew:=h.drew;have S2:=zb (uh C _ s);have E:=zb (uh d (K+1+1) (by omega) (by omega) W.drew);clear S0 S1 Z b1 h O c0;go_wp2_with fail;go_region_held3 (fun w'=>w'.cell? ⟨g,j*4+2,none⟩=some (.string (ZJ (K+1+1))))
    (first | exact uh S3 | exact uh S2)
    (first
     |(
       go_simp;refine (uh E).mono ?_;rintro e Y ⟨rfl,b2⟩;have o:Bw wr Y:=zh s b2;have S3:=zb (uh C _ o)))
   have u:Bw wr Y.drew:=o.drew;have S4:=zb (uh D _ u);have F:=zb (uh d (K+1+1+1) (by omega) (by omega) Y.drew);clear S2 S3 E b2 o s;go_wp2_with fail;go_region_held3 (fun w'=>w'.cell? ⟨g,j*4+3,none⟩=some (.string (ZJ (K+1+1+1))))
    (first | exact uh S5 | exact uh S4)
    (first
     |(
       go_simp;refine (uh F).mono ?_;rintro e w3 ⟨rfl,b3⟩;have r:Bw wr w3:=zh u b3;have S5:=zb (uh D _ r)))
   have L:=zb (zh (uh HB) r);have hKB:=uh M;clear S4 S5 F b3 r u;go_wp2;go_roundw
   case rel=>
    have R:=uh HK;have S:=uh HS;have T:ZU m=4:=rfl;exact⟨j+1,by omega,by go_num,by rw[S,T,← R];go_num,uh L⟩
   case measure=>simp[intOf];omega
  ·have Q:j=ms.length:=by omega
   subst Q;rw[yU];go_wp2;go_ret;exact⟨rfl,J⟩
theorem zao{α:Type}(A B C:List α)(a b:α):(A++b ::(B++a :: C)).Perm (A++a ::(B++b :: C)):=by
 refine List.Perm.append_left A ?_;refine ((List.perm_middle (a:=a) (l₁:=B) (l₂:=C)).cons b).trans ?_;exact (List.Perm.swap a b _).trans ((List.perm_middle (a:=b) (l₁:=B) (l₂:=C)).symm.cons a)
theorem D5{α:Type}{l:List α}{n:Nat}(h:n<=l.length):∃ A B,l=A++B/\A.length=n/\B.length=l.length - n:=⟨l.take n,l.drop n,(List.take_append_drop n l).symm,by rw[ym];omega,by rw[yu]⟩
theorem D6{α β:Type}{P:α->β->Prop}{ps:List α}{xs:List β}:(∀ (j:Nat) (p:α) (x:β),ps[j]?=some p->xs[j]?=some x->P p x)↔∀ r∈ps.zip xs,P r.1 r.2:=by
 constructor
 ·intro h r f;obtain⟨j,b,rfl⟩:=yX.1 f;rw[List.length_zip]at b;simp only[List.getElem_zip];exact h j _ _ (yx (by omega)) (yx (by omega))
 ·intro h j p x d hx;obtain⟨g,rfl⟩:=List.getElem?_eq_some_iff.1 d;obtain⟨i,rfl⟩:=List.getElem?_eq_some_iff.1 hx;have a:(ps.zip xs)[j]'(by rw[List.length_zip];omega)∈ps.zip xs:=yr _;rw[List.getElem_zip]at a;exact h _ a
theorem zk.swap{α:Type}{e:QR α}{w:Wo}{g n cap:Nat}{P M Q:List α}{x y:α}{bl:List Nat}(h:zk e w (.slice (some ⟨g,0,none⟩) n cap) (P++x ::(M++y :: Q)) bl)(hd:bl.Nodup):
  ∃ us vs,us.length=e.wd/\vs.length=e.wd/\(∀ m u,us[m]?=some u->w.cell? ⟨g,P.length*e.wd+m,none⟩=some u)/\(∀ m u,vs[m]?=some u->w.cell? ⟨g,(P.length+1+M.length)*e.wd+m,none⟩=some u)/\(∀ m,m<(P.length+1+M.length+1)*e.wd->w.frozen? ⟨g,m,none⟩=false)/\(∃ ix,e.E w us x ix)/\(∃ iy,e.E w vs y iy) /\
   ∃ bl',zk e (Go.Proofs.YtekpghcckdjnhaaGreatDoor.putN (Go.Proofs.YtekpghcckdjnhaaGreatDoor.putN w g (P.length*e.wd) vs) g ((P.length+1+M.length)*e.wd) us) (.slice (some ⟨g,0,none⟩) n cap) (P++y ::(M++x :: Q)) bl'/\bl'.Perm bl:=by
 obtain⟨ps,F,A,N,rfl⟩:=h;have s:=GX F A;simp only[yh,yn]at F;obtain⟨d,R1,rfl,S,l1'⟩:=D5 (l:=ps) (n:=P.length) (by omega);obtain⟨p,R2,rfl⟩:∃ p R,R1=p :: R:=by cases R1 with
  | nil=>simp only[yS]at F;omega
  | cons p R=>exact⟨p,R,rfl⟩
 simp only[yh,yn]at F l1';obtain⟨a,R3,rfl,U,l2'⟩:=D5 (l:=R2) (n:=M.length) (by omega);obtain⟨q,f,rfl⟩:∃ p R,R3=p :: R:=by cases R3 with
  | nil=>simp only[yS]at F;omega
  | cons p R=>exact⟨p,R,rfl⟩
 simp only[yh,yn]at F;have l3:f.length=Q.length:=by omega
 replace A:=(D6 (P:=fun (p:List Value×List Nat) x=>e.E w p.1 x p.2)).1 A
 have zE:(d++p ::(a++q :: f)).zip (P++x ::(M++y :: Q))=d.zip P++(p,x) ::(a.zip M++(q,y) :: f.zip Q):=by
  rw[List.zip_append S,List.zip_cons_cons,List.zip_append U,List.zip_cons_cons]
 have zE':(d++q ::(a++p :: f)).zip (P++y ::(M++x :: Q))=d.zip P++(q,y) ::(a.zip M++(p,x) :: f.zip Q):=by
  rw[List.zip_append S,List.zip_cons_cons,List.zip_append U,List.zip_cons_cons]
 rw[zE]at A;have k:p.1.length=e.wd:=s p (by simp);have o:q.1.length=e.wd:=s q (by simp);have D:(d.flatMap (·.1)).length=P.length*e.wd:=by rw[Xc (fun r v=>s r (by simp[v])),S]
 have W:(a.flatMap (·.1)).length=M.length*e.wd:=by rw[Xc (fun r v=>s r (by simp[v])),U]
 have hj:(P.length+1+M.length)*e.wd=P.length*e.wd+e.wd+M.length*e.wd:=by rw[Nat.add_mul,Nat.add_mul,Nat.one_mul]
 have B:(d++p ::(a++q :: f)).flatMap (·.1)=d.flatMap (·.1)++(p.1++(a.flatMap (·.1)++(q.1++f.flatMap (·.1)))):=by simp[List.flatMap_append,List.flatMap_cons]
 have J:(d++q ::(a++p :: f)).flatMap (·.1)=d.flatMap (·.1)++(q.1++(a.flatMap (·.1)++(p.1++f.flatMap (·.1)))):=by simp[List.flatMap_append,List.flatMap_cons]
 have I:∀ (j:Nat) (u:Value),((d++p ::(a++q :: f)).flatMap (·.1))[j]?=some u->w.cell? ⟨g,j,none⟩=some u:=fun j u hu=>by
  have:=N.cells (g:=g) rfl j u hu
  rwa [Go.WideShapes.add_plain,Nat.zero_add]at this
 have hn:n=(P++x ::(M++y :: Q)).length:=by
  rcases N.2 with ⟨i,h0⟩ |⟨g',G,V,i,_⟩
  ·cases i
  ·injection i
 have Y:∀ m,w.frozen? ⟨g,m,none⟩=false:=by
  rcases N.2 with ⟨i,h0⟩ |⟨g',G,V,i,_,hg,_⟩
  ·cases i
  ·injection i with i;injection i with i;injection i with i;subst i;exact fun m=>yI hg m
 refine⟨p.1,q.1,k,o,fun m u hu=>I _ u ?_,fun m u hu=>I _ u ?_,fun m _=>Y m,⟨_,A (p,x) (by simp)⟩,⟨_,A (q,y) (by simp)⟩,?_⟩
 ·have O:=(List.getElem?_eq_some_iff.1 hu).1;rw[B,List.getElem?_append_right (by omega),D,Nat.add_sub_cancel_left,List.getElem?_append_left O];exact hu
 ·have O:=(List.getElem?_eq_some_iff.1 hu).1;rw[B,hj,List.getElem?_append_right (by omega),List.getElem?_append_right (by omega),List.getElem?_append_right (by omega),List.getElem?_append_left (by omega),D,k,W];rw[show P.length*e.wd+e.wd+M.length*e.wd+m - P.length*e.wd - e.wd - M.length*e.wd=m by omega];exact hu
 ·have Z:∀ r∈d++p ::(a++q :: f),g ∉ r.2:=fun r v O=>by
   have X:g∈(d++p ::(a++q :: f)).flatMap (·.2):=List.mem_flatMap.2 ⟨r,v,O⟩;exact (List.nodup_append.1 hd).2.2 g (by simp[Value.ownBlock]) g X rfl
  refine⟨_,⟨d++q ::(a++p :: f),by simp[S,U,l3],?_,?_,rfl⟩,?_⟩
  ·refine (D6 (P:=fun (p:List Value×List Nat) x=>e.E _ p.1 x p.2)).2 ?_;rw[zE'];intro r v;have C:r∈d.zip P++(p,x) ::(a.zip M++(q,y) :: f.zip Q):=by simp only[List.mem_append,List.mem_cons]at v ⊢;rcases v with h | h | h | h | h<;>simp[h]
   have L:r.1∈d++p ::(a++q :: f):=by rw[← zE]at C;exact (List.of_mem_zip C).1
   refine e.keep (A r C) fun b X=>?_;have H:b≠g:=fun e1=>Z r.1 L (e1 ▸ X);exact (ZO H _ _).trans (ZO H _ _)
  ·have K:(P++y ::(M++x :: Q)).length=n:=by rw[hn];simp
   rw[K];have ho':w.ownsRow 0 e.T e.wd (.slice (some ⟨g,0,none⟩) n cap) n ((d++p ::(a++q :: f)).flatMap (·.1)):=by rw[← hn]at N;exact N
   have h1:=Nm ho' q.1 (P.length*e.wd);have z:=Nm h1 p.1 ((P.length+1+M.length)*e.wd);rw[B,← D,U9 _ _ _ (by simp;omega),List.drop_append_of_le_length (by omega),o,← k,List.drop_length,List.nil_append]at z;rw[D]at z;rw[show d.flatMap (·.1)++q.1++(a.flatMap (·.1)++(q.1++f.flatMap (·.1)))=(d.flatMap (·.1)++q.1++a.flatMap (·.1))++(q.1++f.flatMap (·.1)) by simp,show (P.length+1+M.length)*p.1.length=(d.flatMap (·.1)++q.1++a.flatMap (·.1)).length by rw[yh,yh,D,W,o,k,hj],U9 _ _ _ (by simp;omega),List.drop_append_of_le_length (by omega),k,← o,List.drop_length,List.nil_append]at z;rw[J];simp only[List.append_assoc]at z;rw[yh,yh,D,W,o]at z;rw[hj];rw[← Nat.add_assoc]at z;exact z
  ·refine List.Perm.append_left _ ?_;exact (zao d a f p q).flatMap_right _
end Go.Proofs.YtekpghcckdjnhaaGreatDoor
namespace Go.Proofs.YtekpghcckdjnhaaGreatDoor
open Go.ChangeShapes Go.WideShapes Go.ChangeAt Go.RowKit Go.Deep Go.Proofs.Tryz
section
variable {H:Type} {enc:TypeId×Value->H} {w:Wo} {sp:Nat->Bool} {held:Bool}
instance : Inhabited zl := ⟨⟨0, ByteArray.empty, []⟩⟩
theorem D7{α:Type}{l:List α}(h:l.length=1):∃ a,l=[a]:=by
 match l,h with
 | [a],_=>exact⟨a,rfl⟩
theorem zap{n:Nat}{cs:List Value}{y:DataW H×List MemPlace}(h:DataW.trod enc prog w 0 sp held n 88 cs=some y):∃ m,Y9.R w cs m:=by
 obtain⟨E,k,_,_,x,g,d⟩:=DataW.trod_struct underlying88 h;have f:cs.length=3:=x.trans (by kernel_rfl);obtain⟨i,b,a,rfl⟩:=SC f;obtain⟨p,r,s,rfl⟩:=SC g;have j:DataW.trod enc prog w 0 sp held k 3 (List.take (prog.cellsOf 3) [i,b,a])=some p:=d 0 _ rfl;have l:DataW.trod enc prog w 0 sp held k 9 (List.take (prog.cellsOf 9) [b,a])=some r:=d 1 _ rfl;have o:DataW.trod enc prog w 0 sp held k 55 (List.take (prog.cellsOf 55) [a])=some s:=d 2 _ rfl;rw[show prog.cellsOf 3=1 from by kernel_rfl]at j;rw[show prog.cellsOf 9=1 from by kernel_rfl]at l;rw[show prog.cellsOf 55=1 from by kernel_rfl]at o;obtain⟨C,u⟩:=Xs underlying3 (j:DataW.trod enc prog w 0 sp held k 3 [i]=some p);obtain⟨B,v,D⟩:=W7 underlying9 (l:DataW.trod enc prog w 0 sp held k 9 [b]=some r);obtain⟨q,ss,z,A⟩:=EN (o:DataW.trod enc prog w 0 sp held k 55 [a]=some s)
 cases u;cases v;cases z;exact⟨⟨C,B,ss⟩,_,rfl,D,A⟩
theorem zaq{fuel:Nat}{cs:List Value}{x:DataW H×List MemPlace}(h:DataW.trod enc prog w 0 sp held fuel 22 cs=some x):∃ v xs,cs=[v]/\Je Y9 w v xs:=
 OB Y9 underlying22 (by kernel_rfl) (by decide) (fun _ _ _ h=>zap h) h
theorem zar{n:Nat}{cs:List Value}{y:DataW H×List MemPlace}(h:DataW.trod enc prog w 0 sp held n 24 cs=some y):∃ a hb,cs=[a]/\YN w (.agg #[a]) hb:=by
 obtain⟨r,k,_,_,m,d,l⟩:=DataW.trod_struct underlying24 h;have b:cs.length=1:=m.trans (by kernel_rfl);obtain⟨f,rfl⟩:=D7 b;obtain⟨i,rfl⟩:=D7 d;have g:DataW.trod enc prog w 0 sp held k 22 (List.take (prog.cellsOf 22) [f])=some i:=l 0 _ rfl;rw[show prog.cellsOf 22=1 from by kernel_rfl]at g;obtain⟨p,q,j,o⟩:=zaq (g:DataW.trod enc prog w 0 sp held k 22 [f]=some i)
 cases j;exact⟨_,q,rfl,_,rfl,o⟩
end
section
variable {H:Type} {enc:TypeId×Value->H} {w:Wo} {sp:Nat->Bool} {held:Bool}
theorem XK{α:Type}{l:List α}(h:l.length=4):∃ a b c d,l=[a,b,c,d]:=by
 match l,h with
 | [a,b,c,d],_=>exact⟨a,b,c,d,rfl⟩
instance : Inhabited zw := ⟨⟨0, ByteArray.empty, ByteArray.empty, ByteArray.empty⟩⟩
theorem zas{n:Nat}{cs:List Value}{y:DataW H×List MemPlace}(h:DataW.trod enc prog w 0 sp held n 117 cs=some y):∃ m,Va.R w cs m:=by
 obtain⟨L,k,_,_,C,i,d⟩:=DataW.trod_struct underlying117 h;have g:cs.length=4:=C.trans (by kernel_rfl);obtain⟨j,f,b,a,rfl⟩:=XK g;obtain⟨r,s,u,v,rfl⟩:=XK i;have l:DataW.trod enc prog w 0 sp held k 3 (List.take (prog.cellsOf 3) [j,f,b,a])=some r:=d 0 _ rfl;have o:DataW.trod enc prog w 0 sp held k 9 (List.take (prog.cellsOf 9) [f,b,a])=some s:=d 1 _ rfl;have p:DataW.trod enc prog w 0 sp held k 9 (List.take (prog.cellsOf 9) [b,a])=some u:=d 2 _ rfl;have q:DataW.trod enc prog w 0 sp held k 9 (List.take (prog.cellsOf 9) [a])=some v:=d 3 _ rfl;rw[show prog.cellsOf 3=1 from by kernel_rfl]at l;rw[show prog.cellsOf 9=1 from by kernel_rfl]at o p q;obtain⟨G,x⟩:=Xs underlying3 (l:DataW.trod enc prog w 0 sp held k 3 [j]=some r);obtain⟨D,z,I⟩:=W7 underlying9 (o:DataW.trod enc prog w 0 sp held k 9 [f]=some s);obtain⟨E,A,J⟩:=W7 underlying9 (p:DataW.trod enc prog w 0 sp held k 9 [b]=some u);obtain⟨F,B,K⟩:=W7 underlying9 (q:DataW.trod enc prog w 0 sp held k 9 [a]=some v)
 cases x;cases z;cases A;cases B;exact⟨⟨G,D,E,F⟩,rfl,I,J,K⟩
theorem zat{fuel:Nat}{cs:List Value}{x:DataW H×List MemPlace}(h:DataW.trod enc prog w 0 sp held fuel 43 cs=some x):∃ v xs,cs=[v]/\Je Va w v xs:=
 OB Va underlying43 (by kernel_rfl) (by decide) (fun _ _ _ h=>zas h) h
end
end Go.Proofs.YtekpghcckdjnhaaGreatDoor
