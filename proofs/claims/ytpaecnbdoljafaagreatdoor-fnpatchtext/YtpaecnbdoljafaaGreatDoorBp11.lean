import Derived.Test.YtpaecnbdoljafaaGreatDoorBp1
import Derived.Handy
set_option maxRecDepth 100000
set_option maxHeartbeats 8000000
namespace Go.Proofs.YtpaecnbdoljafaaGreatDoor
open Go.RowKit Go.Proofs.Tryz
def putN(w:Wo)(g:Nat):Nat->List Value->Wo
 | _,[]=>w
 | o,a :: r=>putN (w.setCell ⟨g,o,none⟩ a) g (o+1) r
def Vj(xs:List Value):Nat->List Value->List Value
 | _,[]=>xs
 | o,a :: r=>Vj (xs.set o a) (o+1) r
theorem X6:∀ (vs A rest:List Value),vs.length<=rest.length->Vj (A++rest) A.length vs=A++vs++rest.drop vs.length
 | [],A,rest,_=>by simp[Vj]
 | a :: r,A,[],h=>by simp at h
 | a :: r,A,b :: rest,h=>by
  have:=X6 r (A++[a]) rest (by simpa using h);rw[Vj,List.set_append_right _ _ (yd _),Nat.sub_self,List.set_cons_zero];rw[yg]at this;simpa using this
theorem Td{w:Wo}{g cap n e size:Nat}{xs:List Value}(h:w.ownsRow 0 e size (.slice (some ⟨g,0,none⟩) n cap) n xs):∀ (vs:List Value) (o:Nat),(putN w g o vs).ownsRow 0 e size (.slice (some ⟨g,0,none⟩) n cap) n (Vj xs o vs):=by
 intro vs;induction vs generalizing w xs with
 | nil=>intro o;exact h
 | cons a r ih=>intro o;exact ih (h.stored o a).1 (o+1)
theorem N7{w:Wo}{g k:Nat}(hk:k≠g):∀ (vs:List Value) (o:Nat),(putN w g o vs).heap[k]?=w.heap[k]?:=by
 intro vs;induction vs generalizing w with
 | nil=>intro o;rfl
 | cons a r ih=>intro o;exact (ih (o+1)).trans (Below.heap_setCell _ _ _ _ hk)
theorem JU{B g:Nat}{a w:Wo}(h:Below B a w)(hg:B<=g):∀ (vs:List Value) (o:Nat),Below B a (putN w g o vs):=by
 intro vs;induction vs generalizing w with
 | nil=>intro o;exact h
 | cons c r ih=>intro o;exact ih (h.setCell (p:=⟨g,o,none⟩) hg c) (o+1)
theorem Te{w:Wo}{g:Nat}{cs:Array Value}{T:TypeId}(h:w.heap[g]?=some (.cells cs T (0,0))):∀ (vs:List Value) (o:Nat),(putN w g o vs).heap[g]?=some (.cells (Vj cs.toList o vs).toArray T (0,0)):=by
 intro vs;induction vs generalizing w cs with
 | nil=>intro o;simpa [putN,Vj]using h
 | cons a r ih=>
  intro o;have:=ih (heap_setCell_same w g o cs T a h) (o+1);rw[putN,this,Vj];simp
theorem Jj{w:Wo}{g:Nat}{cs:Array Value}{T:TypeId}(h:w.heap[g]?=some (.cells cs T (0,0)))(vs:List Value)(hl:vs.length=cs.size):(putN w g 0 vs).heap[g]?=some (.cells vs.toArray T (0,0)):=by
 rw[Te h];have:=X6 vs [] cs.toList (by simp[hl]);simp only[List.nil_append,yC]at this;rw[this,List.drop_of_length_le (by simp[hl]),List.append_nil]
def QK{α:Type}(e:Jg α)(w:Wo)(g n cap:Nat)(xs:List α)(bl:List Nat):Prop:=
 ∃ (ps:List (List Value×List Nat)) (rest:List Value),ps.length=xs.length/\(∀ (j:Nat) (p:List Value×List Nat) (x:α),ps[j]?=some p->xs[j]?=some x->e.E w p.1 x p.2) /\
  w.ownsRow 0 e.T e.wd (.slice (some ⟨g,0,none⟩) n cap) n (ps.flatMap (·.1)++rest)/\bl=ps.flatMap (·.2)
section
variable {α:Type} {e:Jg α} {w w':Wo} {g n cap:Nat} {xs:List α} {bl:List Nat}
theorem QK.start{cs:List Value}(h:w.ownsRow 0 e.T e.wd (.slice (some ⟨g,0,none⟩) n cap) n cs):QK e w g n cap [] []:=⟨[],cs,rfl,fun _ _ _ h=>by simp at h,h,rfl⟩
theorem QK.keep(h:QK e w g n cap xs bl)(hg:w'.heap[g]?=w.heap[g]?)(hk:Kp bl w w'):QK e w' g n cap xs bl:=by
 obtain⟨k,a,f,d,i,rfl⟩:=h;refine⟨k,a,f,fun j p x hp hx=>e.keep (d j p x hp hx) fun b hb=>hk b (List.mem_flatMap.2 ⟨p,List.mem_of_getElem? hp,hb⟩),NO i fun b hb=>?_,rfl⟩;simp[Value.ownBlock]at hb;rw[hb];exact hg
theorem QK.lt(h:QK e w g n cap xs bl):g<w.heap.size/\∀ b∈bl,b<w.heap.size:=by
 obtain⟨m,d,o,f,k,rfl⟩:=h;refine⟨(k.lt g rfl).2,fun b a=>?_⟩;obtain⟨p,l,a⟩:=List.mem_flatMap.1 a;obtain⟨j,i,rfl⟩:=List.mem_iff_getElem.1 l;exact e.lt (f j m[j] (xs[j]'(by omega)) (yw i) (yw (by omega))) b a
theorem QK.below(h:QK e w g n cap xs bl)(hb:Bw w w'):QK e w' g n cap xs bl:=h.keep (hb.block g h.lt.1) (.of_below hb h.lt.2)
theorem QK.cell(h:QK e w g n cap xs bl)(hlt:xs.length<n)(m:Nat)(hm:m<e.wd):∃ u,w.cell? ⟨g,xs.length*e.wd+m,none⟩=some u:=by
 obtain⟨k,d,j,i,b,rfl⟩:=h;have:(xs.length+1)*e.wd<=n*e.wd:=Nat.mul_le_mul_right _ hlt;rw[Nat.add_mul]at this;have f:=b.1;have a:xs.length*e.wd+m<n*e.wd:=by omega
 rw[b.cellAt _ a];exact⟨_,yw (by rw[f];exact a)⟩
theorem QK.frozen(h:QK e w g n cap xs bl)(j:Nat):w.frozen? ⟨g,j,none⟩=false:=by
 obtain⟨i,a,f,d,b,rfl⟩:=h;exact b.frozenAt _
theorem QK.put(h:QK e w g n cap xs bl)(hlt:xs.length<n)(hg:g ∉ bl){vs:List Value}{x:α}{ib:List Nat}(hE:e.E w vs x ib)(hgi:g ∉ ib):
  QK e (putN w g (xs.length*e.wd) vs) g n cap (xs++[x]) (bl++ib):=by
 obtain⟨v,a,o,i,u,rfl⟩:=h;have r:=XW o i;have d:(v.flatMap (·.1)).length=xs.length*e.wd:=by rw[MB r,o]
 have B:=e.len hE;have q:vs.length<=a.length:=by
  have z:=u.1;rw[yg,d]at z;have:(xs.length+1)*e.wd<=n*e.wd:=Nat.mul_le_mul_right _ hlt;rw[Nat.add_mul]at this;omega
 have l:∀ b':List Nat,g ∉ b'->Kp b' w (putN w g (xs.length*e.wd) vs):=fun b' hb b hbb=>N7 (k:=b) (g:=g) (fun h=>hb (by rw[← h];exact hbb)) _ _;refine⟨v++[(vs,ib)],a.drop vs.length,by simp[o],?_,?_,by simp⟩
 ·intro j p y f m;by_cases A:j<xs.length
  ·rw[List.getElem?_append_left (by omega)]at f m;exact e.keep (i j p y f m) (l _ fun hb=>hg (List.mem_flatMap.2 ⟨p,List.mem_of_getElem? f,hb⟩))
  ·have s:=(List.getElem?_eq_some_iff.1 m).1;rw[yg,List.length_singleton]at s;have:j=xs.length:=by omega
   subst this;rw[← o]at f;simp at f m;subst f;subst m;exact e.keep hE (l _ hgi)
 ·have:=Td u vs (xs.length*e.wd);rw[← d,X6 _ _ _ q,d]at this;simpa using this
end
def QB(B:Nat)(bl:List Nat):Prop:=bl.Nodup/\∀ b∈bl,B<=b
theorem QB.nil(B:Nat):QB B []:=⟨List.nodup_nil,fun _ h=>by simp at h⟩
theorem QB.mono{B B':Nat}{bl:List Nat}(h:QB B bl)(hB:B'<=B):QB B' bl:=⟨h.1,fun b hb=>yO hB (h.2 b hb)⟩
theorem QB.app{B C:Nat}{bl cl:List Nat}(h:QB B bl)(hlt:∀ b∈bl,b<C)(k:QB C cl)(hBC:B<=C):QB B (bl++cl):=by
 refine⟨List.nodup_append.2 ⟨h.1,k.1,fun a ha b d e=>?_⟩,fun b d=>?_⟩
 ·subst e;have:=hlt a ha;have:=k.2 a d;omega
 ·rcases List.mem_append.1 d with d | d
  ·exact h.2 b d
  ·exact yO hBC (k.2 b d)
theorem QB.cons{B B' g:Nat}{bl:List Nat}(h:QB B bl)(hg:B'<=g)(hgB:g<B):QB B' (g :: bl):=
 ⟨List.nodup_cons.2 ⟨fun hm=>by have:=h.2 g hm;omega,h.1⟩,fun b a=>by
  rcases List.mem_cons.1 a with rfl | a
  ·exact hg
  ·have:=h.2 b a;omega⟩
theorem Zn.other{α:Type}{e:Jg α}{w:Wo}{v:Value}{xs:List α}{bl:List Nat}(h:Zn e w v xs bl){g:Nat}(hg:g ∉ bl)(o:Nat)(u:Value):Zn e (w.setCell ⟨g,o,none⟩ u) v xs bl:=
 h.keep fun b hb=>Below.heap_setCell _ _ _ _ fun he=>hg (by subst he;exact hb)
theorem QB.not{B g:Nat}{bl:List Nat}(h:QB B bl)(hg:g<B):g ∉ bl:=fun hm=>by have:=h.2 g hm;omega
theorem Zn.putN{α:Type}{e:Jg α}{w:Wo}{v:Value}{xs:List α}{bl:List Nat}(h:Zn e w v xs bl){g:Nat}(hg:g ∉ bl)(vs:List Value)(o:Nat):Zn e (putN w g o vs) v xs bl:=
 h.keep fun b hb=>N7 (fun he=>hg (by subst he;exact hb)) _ _
theorem Zn.len{α:Type}{e:Jg α}{w:Wo}{v:Value}{xs:List α}{bl:List Nat}(h:Zn e w v xs bl):xs.length<=maxLen:=by
 obtain⟨n,m,l,d,_⟩:=h;rcases d.2 with ⟨f,i⟩ |⟨g,a,b,f,_,_,j,k,_⟩
 ·omega
 ·omega
structure zk where
 kind:Int
 path:Bs
 src:Bs
 val:Bs
def Jk(m:zk):List Value:=[.int .i64 m.kind,.string m.path,.string m.src,.string m.val]
def Tf:VX zk where
 wd:=4
 R:=fun _ vs m=>vs=[.int .i64 m.kind,.string m.path,.string m.src,.string m.val]/\m.path.size<=maxLen/\m.src.size<=maxLen/\m.val.size<=maxLen
 len:=fun h=>by rw[h.1];rfl
 keep:=fun h _=>h
def V9:Jg zk where
 T:=59
 wd:=4
 E:=fun _ vs m bl=>vs=[.int .i64 m.kind,.string m.path,.string m.src,.string m.val]/\bl=[]
 len:=fun h=>by rw[h.1];rfl
 lt:=fun h b hb=>by rw[h.2]at hb;cases hb
 keep:=fun h _=>h
def Yd(m:zk):Nat:=m.path.size+m.src.size+m.val.size
def YV(ms:List zk):Nat:=ms.length+(ms.map Yd).sum
def qm:Array Value:=#[.string ⟨#[97,100,100]⟩,.int .i64 1,.bool false,.bool true,.bool false,.bool true,.func (Fn.func 179) #[] #[],.string ⟨#[114,101,109,111,118,101]⟩,.int .i64 2,.bool false,.bool false,.bool false,.bool true,.func (Fn.func 180) #[] #[],.string ⟨#[114,101,112,108,97,99,101]⟩,.int .i64 3,.bool false,.bool true,.bool false,.bool false,.func (Fn.func 181) #[] #[],.string ⟨#[109,111,118,101]⟩,.int .i64 4,.bool true,.bool false,.bool true,.bool true,.func (Fn.func 182) #[] #[],.string ⟨#[99,111,112,121]⟩,.int .i64 5,.bool true,.bool false,.bool false,.bool true,.func (Fn.func 183) #[] #[],.string ⟨#[116,101,115,116]⟩,.int .i64 6,.bool false,.bool true,.bool false,.bool false,.func (Fn.func 184) #[] #[]]
theorem Kj(w:Wo):Calls prog 135 #[] w fun e w'=>e= .returned (.slice (some ⟨w.heap.size,0,none⟩) 6 6)/\w'=w.alloc (.cells qm 135):=by
 go_in;go_wp2;go_ret;exact⟨rfl,rfl⟩
theorem Tg{w:Wo}{g:Nat}(hg:w.heap[g]?=some (.cells qm 135 (0,0))){j:Nat}(hj:j<6):
  ∃ c0 c2 c3 c4 c5 c6,w.cell? ⟨g,j*7,none⟩=some c0/\w.cell? ⟨g,j*7+1,none⟩=some (.int .i64 ((j:Int)+1))/\w.cell? ⟨g,j*7+2,none⟩=some c2/\w.cell? ⟨g,j*7+3,none⟩=some c3/\w.cell? ⟨g,j*7+4,none⟩=some c4/\w.cell? ⟨g,j*7+5,none⟩=some c5/\w.cell? ⟨g,j*7+6,none⟩=some c6:=by
 rcases (show j=0∨j=1∨j=2∨j=3∨j=4∨j=5 from by omega)with rfl | rfl | rfl | rfl | rfl | rfl
 all_goals exact⟨_,_,_,_,_,_,yE hg _,yE hg _,yE hg _,yE hg _,yE hg _,yE hg _,yE hg _⟩
end Go.Proofs.YtpaecnbdoljafaaGreatDoor
