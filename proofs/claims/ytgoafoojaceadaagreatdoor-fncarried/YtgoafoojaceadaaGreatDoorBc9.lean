import Derived.Test.YtgoafoojaceadaaGreatDoorBc5
import Derived.Test.YtgoafoojaceadaaGreatDoorBc4
set_option maxRecDepth 100000
set_option maxHeartbeats 8000000
open Go renaming Calls->δ,Value->ω
open Go.ByteArray renaming toList_eq->Ε
open Go.Ending renaming returned->ε
open Go.IntKind renaming i64->κ
open Go.Obj renaming cells->Η,cells->χ
open Go.Value renaming agg->γ,bool->θ,int->ι,ownBlock->Ν,slice->ς,string->σ
open _root_.Bool renaming false->ζ,true->ξ
open _root_.ByteArray renaming empty->Α
open _root_.List renaming drop_append_of_le_length->Ι,getElem?_append_left->Δ,getElem?_append_right->Γ,getElem?_eq_some_iff->Β,mem_flatMap->Θ,nil_append->Μ,zip_append->Κ,zip_cons_cons->Ζ
open _root_.Option renaming none->ν,some->η
namespace Go.Proofs.YtgoafoojaceadaaGreatDoor
open Go.RowKit Go.Proofs.Tryz
variable{T:TypeId}{w:Wo}{g B n cap k B' j:Nat}{bl:List Nat}{v:ω}{cs:Array ω}{s:Bs}{ss:List Bs}
def putN(w:Wo)(g:Nat):Nat->List ω->Wo
 | _,[]=>w
 | o,a :: r=>putN (w.setCell ⟨g,o,ν⟩ a) g (o+1) r
def Ur(xs:List ω):Nat->List ω->List ω
 | _,[]=>xs
 | o,a :: r=>Ur (xs.set o a) (o+1) r
theorem Oo:∀ (vs A rest:List ω),vs.length<=rest.length->Ur (A++rest) A.length vs=A++vs++rest.drop vs.length
 | [],A,rest,_=>by simp[Ur]
 | a :: r,A,[],h=>by simp at h
 | a :: r,A,b :: rest,h=>by
  have:=Oo r (A++[a]) rest (by simpa using h);rw[Ur,List.set_append_right _ _ (ye _),Nat.sub_self,List.set_cons_zero];rw[yh]at this;simpa using this
theorem Md{e size:Nat}{xs:List ω}(h:w.ownsRow 0 e size (ς (η g) n cap) n xs):∀ (vs:List ω) (o:Nat),(putN w g o vs).ownsRow 0 e size (ς (η g) n cap) n (Ur xs o vs):=by
 intro vs;induction vs generalizing w xs with
 | nil=>intro o;exact h
 | cons a r ih=>intro o;exact ih (h.stored o a).1 (o+1)
theorem qg(hk:k≠g):∀ (vs:List ω) (o:Nat),(putN w g o vs).heap[k]?=w.heap[k]?:=by
 intro vs;induction vs generalizing w with
 | nil=>intro o;rfl
 | cons a r ih=>intro o;exact (ih (o+1)).trans (Below.heap_setCell _ _ _ _ hk)
theorem ZA{a:Wo}(h:Below B a w)(hg:B<=g):∀ (vs:List ω) (o:Nat),Below B a (putN w g o vs):=by
 intro vs;induction vs generalizing w with
 | nil=>intro o;exact h
 | cons c r ih=>intro o;exact ih (h.setCell (p:=⟨g,o,ν⟩) hg c) (o+1)
theorem zkr(h:w.heap[g]?=η (χ cs T (0,0))):∀ (vs:List ω) (o:Nat),(putN w g o vs).heap[g]?=η (χ (Ur cs.toList o vs).toArray T (0,0)):=by
 intro vs;induction vs generalizing w cs with
 | nil=>intro o;simpa [putN,Ur]using h
 | cons a r ih=>
  intro o;have:=ih (heap_setCell_same w g o cs T a h) (o+1);rw[putN,this,Ur];simp
theorem qG(h:w.heap[g]?=η (χ cs T (0,0)))(vs:List ω)(hl:vs.length=cs.size):(putN w g 0 vs).heap[g]?=η (χ vs.toArray T (0,0)):=by
 rw[zkr h];have:=Oo vs [] cs.toList (by simp[hl]);simp only[Μ,yE]at this;rw[this,List.drop_of_length_le (by simp[hl]),yT]
def J1{α:Type}(e:Jq α)(w:Wo)(g n cap:Nat)(xs:List α)(bl:List Nat):Prop:=
 ∃ (ps:List (List ω×List Nat)) (rest:List ω),ps.length=xs.length/\(∀ (j:Nat) (p:List ω×List Nat) (x:α),ps[j]?=η p->xs[j]?=η x->e.E w p.1 x p.2) /\
  w.ownsRow 0 e.T e.wd (ς (η ⟨g,0,ν⟩) n cap) n (ps.flatMap (·.1)++rest)/\bl=ps.flatMap (·.2)
section
variable {α:Type} {e:Jq α} {w w':Wo} {g n cap:Nat} {xs:List α} {bl:List Nat}
theorem J1.start{cs:List ω}(h:w.ownsRow 0 e.T e.wd (ς (η g) n cap) n cs):J1 e w g n cap [] []:=⟨[],cs,rfl,fun _ _ _ h=>by simp at h,h,rfl⟩
theorem J1.keep(h:J1 e w g n cap xs bl)(hg:w'.heap[g]?=w.heap[g]?)(hk:Kp bl w w'):J1 e w' g n cap xs bl:=by
 obtain⟨k,a,f,d,i,rfl⟩:=h;refine⟨k,a,f,fun j p x hp hx=>e.keep (d j p x hp hx) fun b hb=>hk b (Θ.2 ⟨p,List.mem_of_getElem? hp,hb⟩),Vu i fun b hb=>?_,rfl⟩;simp[Ν]at hb;rw[hb];exact hg
theorem J1.lt(h:J1 e w g n cap xs bl):g<w.heap.size/\∀ b∈bl,b<w.heap.size:=by
 obtain⟨m,d,o,f,k,rfl⟩:=h;refine⟨(k.lt g rfl).2,fun b a=>?_⟩;obtain⟨p,l,a⟩:=Θ.1 a;obtain⟨j,i,rfl⟩:=yY.1 l;exact e.lt (f j m[j] (xs[j]'om) (yy i) (yy om)) b a
theorem J1.below(h:J1 e w g n cap xs bl)(hb:Below w w w'):J1 e w' g n cap xs bl:=h.keep (hb.block g h.lt.1) (.of_below hb h.lt.2)
theorem J1.cell(h:J1 e w g n cap xs bl)(hlt:xs.length<n)(m:Nat)(hm:m<e.wd):∃ u,w.cell? ⟨g,xs.length*e.wd+m,ν⟩=η u:=by
 obtain⟨k,d,j,i,b,rfl⟩:=h;have:(xs.length+1)*e.wd<=n*e.wd:=Nat.mul_le_mul_right _ hlt;rw[Nat.add_mul]at this;have f:=b.1;have a:xs.length*e.wd+m<n*e.wd:=om;rw[b.cellAt _ a];exact⟨_,yy (by rw[f];exact a)⟩
theorem J1.frozen(h:J1 e w g n cap xs bl)(j:Nat):w.frozen? ⟨g,j,ν⟩=ζ:=by
 obtain⟨i,a,f,d,b,rfl⟩:=h;exact b.frozenAt _
theorem J1.put(h:J1 e w g n cap xs bl)(hlt:xs.length<n)(hg:g ∉ bl){vs:List ω}{x:α}{ib:List Nat}(hE:e.E w vs x ib)(hgi:g ∉ ib):
  J1 e (putN w g (xs.length*e.wd) vs) g n cap (xs++[x]) (bl++ib):=by
 obtain⟨v,a,o,i,u,rfl⟩:=h;have r:=KL o i;have d:(v.flatMap (·.1)).length=xs.length*e.wd:=by rw[RP r,o]
 have B:=e.len hE;have q:vs.length<=a.length:=by
  have z:=u.1;rw[yh,d]at z;have:(xs.length+1)*e.wd<=n*e.wd:=Nat.mul_le_mul_right _ hlt;rw[Nat.add_mul]at this;omega
 have l:∀ b':List Nat,g ∉ b'->Kp b' w (putN w g (xs.length*e.wd) vs):=fun b' hb b hbb=>qg (k:=b) (g:=g) (fun h=>hb (by rw[← h];exact hbb)) _ _;refine⟨v++[(vs,ib)],a.drop vs.length,by simp[o],?_,?_,sm⟩
 .intro j p y f m;by_cases A:j<xs.length
  .rw[Δ om]at f m;exact e.keep (i j p y f m) (l _ fun hb=>hg (Θ.2 ⟨p,List.mem_of_getElem? f,hb⟩))
  .have s:=(Β.1 m).1;rw[yh,yS]at s;have:j=xs.length:=om;subst this;rw[← o]at f;simp at f m;subst f;subst m;exact e.keep hE (l _ hgi)
 .have:=Md u vs (xs.length*e.wd);rw[← d,Oo _ _ _ q,d]at this;simpa using this
end
def ZO(B:Nat)(bl:List Nat):Prop:=bl.Nodup/\∀ b∈bl,B<=b
theorem ZO.nil(B:Nat):ZO B []:=⟨List.nodup_nil,fun _ h=>by simp at h⟩
theorem ZO.mono(h:ZO B bl)(hB:B'<=B):ZO B' bl:=⟨h.1,fun b hb=>yQ hB (h.2 b hb)⟩
theorem ZO.app{C:Nat}{cl:List Nat}(h:ZO B bl)(hlt:∀ b∈bl,b<C)(k:ZO C cl)(hBC:B<=C):ZO B (bl++cl):=by
 refine⟨List.nodup_append.2 ⟨h.1,k.1,fun a ha b d e=>?_⟩,fun b d=>?_⟩
 .subst e;have:=hlt a ha;have:=k.2 a d;omega
 .rcases List.mem_append.1 d with d | d
  .exact h.2 b d
  .exact yQ hBC (k.2 b d)
theorem ZO.cons(h:ZO B bl)(hg:B'<=g)(hgB:g<B):ZO B' (g :: bl):=
 ⟨List.nodup_cons.2 ⟨fun hm=>by have:=h.2 g hm;omega,h.1⟩,fun b a=>by
  rcases List.mem_cons.1 a with rfl | a
  .exact hg
  .have:=h.2 b a;omega⟩
theorem zu.other{α:Type}{e:Jq α}{xs:List α}(h:zu e w v xs bl)(hg:g ∉ bl)(o:Nat)(u:ω):zu e (w.setCell ⟨g,o,ν⟩ u) v xs bl:=
 h.keep fun b hb=>Below.heap_setCell _ _ _ _ fun he=>hg (by subst he;exact hb)
theorem ZO.not(h:ZO B bl)(hg:g<B):g ∉ bl:=fun hm=>by have:=h.2 g hm;omega
structure zks(w:Wo)(a b c:Obj)(w':Wo):Prop where
 bel:Bw w w'
 size:w'.heap.size=w.heap.size+1+1+1
 k0:w'.heap[w.heap.size]?=η a
 k1:w'.heap[w.heap.size+1]?=η b
 k2:w'.heap[w.heap.size+1+1]?=η c
theorem Us(w:Wo)(a b c:Obj):zks w a b c (((w.alloc a).alloc b).alloc c):=by
 refine⟨zh (zh (zG w _) (zG _ _)) (zG _ _),sm,?_,?_,?_⟩
 .exact ((zG _ c).block _ so).trans (((zG _ b).block _ sm).trans (yH w a))
 .have:=yH (w.alloc a) b;rw[show (w.alloc a).heap.size=w.heap.size+1 from by simp]at this;exact ((zG _ c).block _ sm).trans this
 .have:=yH ((w.alloc a).alloc b) c;simpa using this
theorem zu.putN{α:Type}{e:Jq α}{xs:List α}(h:zu e w v xs bl)(hg:g ∉ bl)(vs:List ω)(o:Nat):zu e (putN w g o vs) v xs bl:=
 h.keep fun b hb=>qg (fun he=>hg (by subst he;exact hb)) _ _
theorem GQ(w:Wo)(n:Nat):Below w w (w.drewN n):=⟨rfl,rfl,rfl,ye _,fun _ _=>rfl⟩
theorem zu.len{α:Type}{e:Jq α}{xs:List α}(h:zu e w v xs bl):xs.length<=maxLen:=by
 obtain⟨n,m,l,d,_⟩:=h;rcases d.2 with ⟨f,i⟩ |⟨g,a,b,f,_,_,j,k,_⟩
 .omega
 .omega
structure zkt(w:Wo)(a b:Obj)(w':Wo):Prop where
 bel:Bw w w'
 size:w'.heap.size=w.heap.size+1+1
 k0:w'.heap[w.heap.size]?=η a
 k1:w'.heap[w.heap.size+1]?=η b
theorem YU(w:Wo)(a b:Obj):zkt w a b ((w.alloc a).alloc b):=by
 refine⟨zh (zG w _) (zG _ _),sm,?_,?_⟩
 .exact ((zG _ b).block _ sm).trans (yH w a)
 .have:=yH (w.alloc a) b;rw[show (w.alloc a).heap.size=w.heap.size+1 from by simp]at this;exact this
structure zk where
 kind:Int
 path:Bs
 src:Bs
 val:Bs
def Jv(m:zk):List ω:=[ι κ m.kind,σ m.path,σ m.src,σ m.val]
def Qc:Jq zk where
 T:=82
 wd:=4
 E:=fun _ vs m bl=>vs=[ι κ m.kind,σ m.path,σ m.src,σ m.val]/\bl=[]
 len:=fun h=>by rw[h.1];rfl
 lt:=fun h b hb=>by rw[h.2]at hb;cases hb
 keep:=fun h _=>h
def Oq(m:zk):Nat:=m.path.size+m.src.size+m.val.size
theorem zbk:(prog.info? 82).map (fun i=>(i.zero,i.size,i.bytes))=η (η (γ #[ι κ 0,Α,Α,Α]),4,56):=by kernel_rfl
def zbl{α:Type}(c:α->Nat)(l:List α):Nat:=(l.map c).sum
structure zi where
 no:Int
 doc:Bs
 touched:List Bs
def Zi:Jq zi where
 T:=37
 wd:=3
 E:=fun w vs m bl=>∃ q,vs=[ι κ m.no,σ m.doc,q]/\QK w q m.touched bl
 len:=fun h=>by obtain⟨q,h,_⟩:=h;rw[h];rfl
 lt:=fun h=>by obtain⟨q,_,h⟩:=h;exact h.lt
 keep:=fun h hk=>by obtain⟨q,h1,h2⟩:=h;exact⟨q,h1,h2.keep hk⟩
def Ro(m:zi):Nat:=m.doc.size+MU m.touched
def zbm(ms:List zi):Nat:=ms.length+(ms.map Ro).sum
def Rp(m:zi):Nat:=m.touched.length+2
def Rq(w:Wo)(v:ω)(h:List zi)(bl:List Nat):Prop:=∃ p,v=γ #[p]/\zu Zi w p h bl
theorem Rq.below{w':Wo}{h:List zi}(ho:Rq w v h bl)(hb:Bw w w'):Rq w' v h bl:=by
 obtain⟨p,b,a⟩:=ho;exact⟨p,b,a.below hb⟩
def YC:Array ω:=#[σ ⟨#[97,100,100]⟩,ι κ 1,θ ζ,θ ξ,θ ζ,θ ξ,.func (Fn.func 180) #[] #[],σ ⟨#[114,101,109,111,118,101]⟩,ι κ 2,θ ζ,θ ζ,θ ζ,θ ξ,.func (Fn.func 181) #[] #[],σ ⟨#[114,101,112,108,97,99,101]⟩,ι κ 3,θ ζ,θ ξ,θ ζ,θ ζ,.func (Fn.func 182) #[] #[],σ ⟨#[109,111,118,101]⟩,ι κ 4,θ ξ,θ ζ,θ ξ,θ ξ,.func (Fn.func 183) #[] #[],σ ⟨#[99,111,112,121]⟩,ι κ 5,θ ξ,θ ζ,θ ζ,θ ξ,.func (Fn.func 184) #[] #[],σ ⟨#[116,101,115,116]⟩,ι κ 6,θ ζ,θ ξ,θ ζ,θ ζ,.func (Fn.func 185) #[] #[]]
theorem zbn(w:Wo):δ prog 133 #[] w fun e w'=>e=ε (ς (η w) 6 6)/\w'=w.alloc (χ YC 154):=by
 go_in;go_wp2;go_ret;exact⟨rfl,rfl⟩
theorem zku(hg:w.heap[g]?=η (χ YC 154 (0,0)))(hj:j<6):
  ∃ c0 c2 c3 c4 c5 c6,w.cell? ⟨g,j*7,ν⟩=η c0/\w.cell? ⟨g,j*7+1,ν⟩=η (ι κ ((j:Int)+1))/\w.cell? ⟨g,j*7+2,ν⟩=η c2/\w.cell? ⟨g,j*7+3,ν⟩=η c3/\w.cell? ⟨g,j*7+4,ν⟩=η c4/\w.cell? ⟨g,j*7+5,ν⟩=η c5/\w.cell? ⟨g,j*7+6,ν⟩=η c6:=by
 rcases (show j=0∨j=1∨j=2∨j=3∨j=4∨j=5 from by omega)with rfl | rfl | rfl | rfl | rfl | rfl
 all_goals exact⟨_,_,_,_,_,_,yG hg _,yG hg _,yG hg _,yG hg _,yG hg _,yG hg _,yG hg _⟩
theorem zkv{α:Type}(A B C:List α)(a b:α):(A++b ::(B++a :: C)).Perm (A++a ::(B++b :: C)):=by
 refine List.Perm.append_left A ?_;refine ((List.perm_middle (a:=a) (l₁:=B) (l₂:=C)).cons b).trans ?_;exact (List.Perm.swap a b _).trans ((List.perm_middle (a:=b) (l₁:=B) (l₂:=C)).symm.cons a)
theorem zbo{α:Type}{l:List α}(h:n<=l.length):∃ A B,l=A++B/\A.length=n/\B.length=l.length - n:=⟨l.take n,l.drop n,(List.take_append_drop n l).symm,by rw[ym];omega,by rw[yv]⟩
theorem zbp{α β:Type}{P:α->β->Prop}{ps:List α}{xs:List β}:(∀ (j:Nat) (p:α) (x:β),ps[j]?=η p->xs[j]?=η x->P p x)↔∀ r∈ps.zip xs,P r.1 r.2:=by
 constructor
 .intro h r f;obtain⟨j,b,rfl⟩:=yY.1 f;rw[List.length_zip]at b;simp only[List.getElem_zip];exact h j _ _ (yy om) (yy om)
 .intro h j p x d hx;obtain⟨g,rfl⟩:=Β.1 d;obtain⟨i,rfl⟩:=Β.1 hx;have a:(ps.zip xs)[j]'(by rw[List.length_zip];omega)∈ps.zip xs:=yt _;rw[List.getElem_zip]at a;exact h _ a
theorem zu.swap{α:Type}{e:Jq α}{P M Q:List α}{x y:α}(h:zu e w (ς (η g) n cap) (P++x ::(M++y :: Q)) bl)(hd:bl.Nodup):
  ∃ us vs,us.length=e.wd/\vs.length=e.wd/\(∀ m u,us[m]?=η u->w.cell? ⟨g,P.length*e.wd+m,ν⟩=η u)/\(∀ m u,vs[m]?=η u->w.cell? ⟨g,(P.length+1+M.length)*e.wd+m,ν⟩=η u)/\(∀ m,m<(P.length+1+M.length+1)*e.wd->w.frozen? ⟨g,m,ν⟩=ζ)/\(∃ ix,e.E w us x ix)/\(∃ iy,e.E w vs y iy) /\
   ∃ bl',zu e (Go.Proofs.YtgoafoojaceadaaGreatDoor.putN (Go.Proofs.YtgoafoojaceadaaGreatDoor.putN w g (P.length*e.wd) vs) g ((P.length+1+M.length)*e.wd) us) (ς (η g) n cap) (P++y ::(M++x :: Q)) bl'/\bl'.Perm bl:=by
 obtain⟨ps,F,A,N,rfl⟩:=h;have s:=KL F A;simp only[yh,yp]at F;obtain⟨d,R1,rfl,S,l1'⟩:=zbo (l:=ps) (n:=P.length) om;obtain⟨p,R2,rfl⟩:∃ p R,R1=p :: R:=by cases R1 with
  | nil=>simp only[yT]at F;omega
  | cons p R=>exact⟨p,R,rfl⟩
 simp only[yh,yp]at F l1';obtain⟨a,R3,rfl,U,l2'⟩:=zbo (l:=R2) (n:=M.length) om;obtain⟨q,f,rfl⟩:∃ p R,R3=p :: R:=by cases R3 with
  | nil=>simp only[yT]at F;omega
  | cons p R=>exact⟨p,R,rfl⟩
 simp only[yh,yp]at F;have l3:f.length=Q.length:=om
 replace A:=(zbp (P:=fun (p:List ω×List Nat) x=>e.E w p.1 x p.2)).1 A
 have zE:(d++p ::(a++q :: f)).zip (P++x ::(M++y :: Q))=d.zip P++(p,x) ::(a.zip M++(q,y) :: f.zip Q):=by
  rw[Κ S,Ζ,Κ U,Ζ]
 have zE':(d++q ::(a++p :: f)).zip (P++y ::(M++x :: Q))=d.zip P++(q,y) ::(a.zip M++(p,x) :: f.zip Q):=by
  rw[Κ S,Ζ,Κ U,Ζ]
 rw[zE]at A;have k:=s p sm;have o:=s q sm;have D:(d.flatMap (·.1)).length=P.length*e.wd:=by rw[RP (fun r v=>s r (by simp[v])),S]
 have W:(a.flatMap (·.1)).length=M.length*e.wd:=by rw[RP (fun r v=>s r (by simp[v])),U]
 have hj:(P.length+1+M.length)*e.wd=P.length*e.wd+e.wd+M.length*e.wd:=by rw[Nat.add_mul,Nat.add_mul,Nat.one_mul]
 have B:(d++p ::(a++q :: f)).flatMap (·.1)=d.flatMap (·.1)++(p.1++(a.flatMap (·.1)++(q.1++f.flatMap (·.1)))):=by simp[List.flatMap_append,List.flatMap_cons]
 have J:(d++q ::(a++p :: f)).flatMap (·.1)=d.flatMap (·.1)++(q.1++(a.flatMap (·.1)++(p.1++f.flatMap (·.1)))):=by simp[List.flatMap_append,List.flatMap_cons]
 have I:∀ (j:Nat) (u:ω),((d++p ::(a++q :: f)).flatMap (·.1))[j]?=η u->w.cell? ⟨g,j,ν⟩=η u:=fun j u hu=>by
  have:=N.cells (g:=g) rfl j u hu
  rwa [Go.WideShapes.add_plain,Nat.zero_add]at this
 have hn:n=(P++x ::(M++y :: Q)).length:=by
  rcases N.2 with ⟨i,h0⟩ |⟨g',G,V,i,_⟩
  .cases i
  .injection i
 have Y:∀ m,w.frozen? ⟨g,m,ν⟩=ζ:=by
  rcases N.2 with ⟨i,h0⟩ |⟨g',G,V,i,_,hg,_⟩
  .cases i
  .injection i with i;injection i with i;injection i with i;subst i;exact fun m=>yJ hg m
 refine⟨p.1,q.1,k,o,fun m u hu=>I _ u ?_,fun m u hu=>I _ u ?_,fun m _=>Y m,⟨_,A (p,x) sm⟩,⟨_,A (q,y) sm⟩,?_⟩
 .have O:=(Β.1 hu).1;rw[B,Γ om,D,Nat.add_sub_cancel_left,Δ O];exact hu
 .have O:=(Β.1 hu).1;rw[B,hj,Γ om,Γ om,Γ om,Δ om,D,k,W];rw[show P.length*e.wd+e.wd+M.length*e.wd+m - P.length*e.wd - e.wd - M.length*e.wd=m by omega];exact hu
 .have Z:∀ r∈d++p ::(a++q :: f),g ∉ r.2:=fun r v O=>by
   have X:g∈(d++p ::(a++q :: f)).flatMap (·.2):=Θ.2 ⟨r,v,O⟩;exact (List.nodup_append.1 hd).2.2 g (by simp[Ν]) g X rfl
  refine⟨_,⟨d++q ::(a++p :: f),by simp[S,U,l3],?_,?_,rfl⟩,?_⟩
  .refine (zbp (P:=fun (p:List ω×List Nat) x=>e.E _ p.1 x p.2)).2 ?_;rw[zE'];intro r v;have C:r∈d.zip P++(p,x) ::(a.zip M++(q,y) :: f.zip Q):=by simp only[List.mem_append,List.mem_cons]at v ⊢;rcases v with h | h | h | h | h<;>simp[h]
   have L:r.1∈d++p ::(a++q :: f):=by rw[← zE]at C;exact (List.of_mem_zip C).1
   refine e.keep (A r C) fun b X=>?_;have H:b≠g:=fun e1=>Z r.1 L (e1 ▸ X);exact (qg H _ _).trans (qg H _ _)
  .have K:(P++y ::(M++x :: Q)).length=n:=by rw[hn];simp
   rw[K];have ho':w.ownsRow 0 e.T e.wd (ς (η g) n cap) n ((d++p ::(a++q :: f)).flatMap (·.1)):=by rw[← hn]at N;exact N
   have h1:=Md ho' q.1 (P.length*e.wd);have z:=Md h1 p.1 ((P.length+1+M.length)*e.wd);rw[B,← D,Oo _ _ _ so,Ι om,o,← k,List.drop_length,Μ]at z;rw[D]at z;rw[show d.flatMap (·.1)++q.1++(a.flatMap (·.1)++(q.1++f.flatMap (·.1)))=(d.flatMap (·.1)++q.1++a.flatMap (·.1))++(q.1++f.flatMap (·.1)) by simp,show (P.length+1+M.length)*p.1.length=(d.flatMap (·.1)++q.1++a.flatMap (·.1)).length by rw[yh,yh,D,W,o,k,hj],Oo _ _ _ so,Ι om,k,← o,List.drop_length,Μ]at z;rw[J];simp only[List.append_assoc]at z;rw[yh,yh,D,W,o]at z;rw[hj];rw[← Nat.add_assoc]at z;exact z
  .refine List.Perm.append_left _ ?_;exact (zkv d a f p q).flatMap_right _
def ZP(s:Bs):Bool:=match Zn s with
 | .inl _=>ζ
 | .inr v=>(ze (ct v)).toList ==s.toList
theorem Ot:ZP s=ξ↔∃ v,Zn s= .inr v/\ze (ct v)=s:=by
 unfold ZP
 cases h:Zn s with
 | inl c=>simp
 | inr v=>
  simp only[yD];constructor
  .intro e;refine⟨v,rfl,?_⟩;rw[Ε,Ε]at e;have:(ze (ct v)).data=s.data:=Array.toList_inj.1 e;exact congrArg ByteArray.mk this
  .rintro⟨d,a,b⟩;injection a with a;subst a;rw[b]
theorem zkw{c:Nat}(h:Zn s= .inl c):c≠0:=by
 unfold Zn at h
 repeat' split at h
 all_goals first
  |(injection h with h;omega)
  | cases h
theorem Me(s:Bs)(w:Wo)(hs:s.size<=1048576):
  δ prog 95 #[s] w fun e w'=>e=ε (θ (ZP s))/\Below w w w':=by
 have a:=zb (XX s w om)
 cases hr:Zn s with
 | inl c=>
  have g:=zkw hr;have d:qi s= .tuple #[σ ⟨#[]⟩,ι κ (c:Int)]:=by unfold qi;rw[hr]
  have b:ZP s=ζ:=by unfold ZP;rw[hr]
  rw[d]at a;rw[b];have f:((c:Int) ==0)=ζ:=by simp only[yd,ne_eq];omega
  go_in;go_wp2_with fail;go_call a as e w1 ⟨rfl,b1⟩;go_wp2;go_ret;exact⟨rfl,b1⟩
 | inr v=>
  have d:qi s= .tuple #[σ (ze (ct v)),ι κ 0]:=by unfold qi;rw[hr]
  have b:ZP s=((ze (ct v)).toList ==s.toList):=by unfold ZP;rw[hr]
  rw[d]at a;rw[b];generalize ze (ct v)=u at *;go_in;go_wp2_with fail;go_call a as e w1 ⟨rfl,b1⟩;go_wp2;go_ret;exact⟨rfl,b1⟩
def ZC(k:Int):Bool:=k ==1 || k ==3 || k ==6
def Z9(k:Int):Bool:=k ==4 || k ==5
theorem Rr(k:Int)(w:Wo):δ prog 108 #[ι κ k] w fun e w'=>e=ε (θ (ZC k))/\w=w':=by
 unfold ZC;by_cases a:k=1
 .subst a;go_in;go_wp2;go_ret;exact⟨rfl,rfl⟩
 .by_cases b:k=3
  .subst b;go_in;go_wp2;go_ret;exact⟨rfl,rfl⟩
  .have d:(k ==1)=ζ:=by simpa using a
   have f:(k ==3)=ζ:=by simpa using b
   rw[d,f];go_in;go_wp2;go_ret;exact⟨sm,rfl⟩
theorem Ou(k:Int)(w:Wo):δ prog 107 #[ι κ k] w fun e w'=>e=ε (θ (Z9 k))/\w=w':=by
 unfold Z9;by_cases a:k=4
 .subst a;go_in;go_wp2;go_ret;exact⟨rfl,rfl⟩
 .have b:(k ==4)=ζ:=by simpa using a
  rw[b];go_in;go_wp2;go_ret;exact⟨sm,rfl⟩
def ZD(m:zk):Bool:=decide (1<=m.kind) && decide (m.kind<=6) && (zH m.path.data.toList).isSome && (if Z9 m.kind then (zH m.src.data.toList).isSome else m.src.toList ==[]) && (if ZC m.kind then ZP m.val else m.val.toList ==[])
theorem XY(m:zk)(w:Wo)(h1:m.path.size<=1048576)(h2:m.src.size<=1048576)(h3:m.val.size<=1048576):
  δ prog 59 #[γ #[ι κ m.kind,m.path,m.src,m.val]] w fun e w'=>e=ε (θ (ZD m))/\Below w w w':=by
 have q:=zG w (Η #[ι κ m.kind,m.path,m.src,m.val] 82);have P:=yH w (Η #[ι κ m.kind,m.path,m.src,m.val] 82);have G:=zb fun wx=>RS m.path wx h1;have H:=zb fun wx=>RS m.src wx h2;have y:=zb fun wx=>Me m.val wx h3;have j:=zb fun wx=>Ou m.kind wx;have k:=zb fun wx=>Rr m.kind wx;by_cases Q:m.kind<1
 .have f:ZD m=ζ:=by unfold ZD;rw[yk om];simp
  rw[f];go_in;go_wp2;go_ret;exact⟨rfl,q⟩
 .by_cases R:6<m.kind
  .have f:ZD m=ζ:=by unfold ZD;rw[yk (p:=m.kind<=6) om];simp
   rw[f];go_in;go_wp2;go_ret;exact⟨rfl,q⟩
  .have M:ZD m=((zH m.path.data.toList).isSome && (if Z9 m.kind then (zH m.src.data.toList).isSome else m.src.toList ==[]) && (if ZC m.kind then ZP m.val else m.val.toList ==[])):=by
    unfold ZD;rw[yj om,yj om];simp
   rw[M];have v:(m.src.toList ==[])=decide (m.src.toList=[]):=by by_cases h:m.src.toList=[]<;>simp[h]
   have x:(m.val.toList ==[])=decide (m.val.toList=[]):=by by_cases h:m.val.toList=[]<;>simp[h]
   rw[v,x];generalize (zH m.path.data.toList).isSome=D at *;generalize (zH m.src.data.toList).isSome=E at *;generalize ZP m.val=S at *;generalize Z9 m.kind=C at *;generalize ZC m.kind=n at *;have g:Hid (∀ wx,Below (w.alloc (Η #[ι κ m.kind,m.path,m.src,m.val] 82)).heap.size (w.alloc (Η #[ι κ m.kind,m.path,m.src,m.val] 82)) wx->wx.cell? w.heap.size=η (ι κ m.kind)/\wx.cell? ⟨w,1,ν⟩=η m.path/\wx.cell? ⟨w,2,ν⟩=η m.src/\wx.cell? ⟨w,3,ν⟩=η m.val):=fun wx hb=>by
    have l:=(hb.block w sm).trans P;exact⟨yG l 0,yG l 1,yG l 2,yG l 3⟩
   have o:=zb q;go_in;go_wp2_with fail;go_call uh G _ as e w1 ⟨rfl,b1⟩;obtain⟨c0,c1,c2,c3⟩:=uh g w1 b1;have b:=zb (zh o b1);have F:=zb b1;by_cases z:D=ξ
   .subst z;by_cases f:C=ξ
    .subst f;go_wp2_with fail;go_call uh j _ as e w2 ⟨rfl,rfl⟩;go_wp2_with fail;go_call uh H _ as e w3 ⟨rfl,b3⟩;obtain⟨I,J,K,L⟩:=uh g w3 (zh F b3);have b:=zb (zh b b3);by_cases A:E=ξ
     .subst A;go_wp2_with fail;go_call uh j _ as e w4 ⟨rfl,rfl⟩;have c0:=I;have c1:=J;have c2:=K;have c3:=L;by_cases i:n=ξ
      .subst i;go_wp2_with fail;go_call uh k _ as e w8 ⟨rfl,rfl⟩;go_wp2_with fail;go_call uh y _ as e w9 ⟨rfl,b9⟩;have a:=zb (zh b b9);go_wp2;go_ret;exact⟨sm,a⟩
      .have d:n=ζ:=by simpa using i
       subst d;go_wp2_with fail;go_call uh k _ as e w8 ⟨rfl,rfl⟩;have a:=b;go_wp2;go_ret;exact⟨by cases m.val.toList<;>simp,a⟩
     .have u:E=ζ:=by simpa using A
      subst u;go_wp2;go_ret;exact⟨sm,b⟩
    .have r:C=ζ:=by simpa using f
     subst r;go_wp2_with fail;go_call uh j _ as e w2 ⟨rfl,rfl⟩;go_wp2_with fail;go_call uh j _ as e w2 ⟨rfl,rfl⟩;by_cases B:m.src.toList=[]
     .by_cases i:n=ξ
      .subst i;go_wp2_with fail;go_call uh k _ as e w8 ⟨rfl,rfl⟩;go_wp2_with fail;go_call uh y _ as e w9 ⟨rfl,b9⟩;have a:=zb (zh b b9);go_wp2;go_ret;exact⟨sm,a⟩
      .have d:n=ζ:=by simpa using i
       subst d;go_wp2_with fail;go_call uh k _ as e w8 ⟨rfl,rfl⟩;have a:=b;go_wp2;go_ret;exact⟨by cases m.val.toList<;>simp,a⟩
     .have N:m.src.toList.isEmpty=ζ:=by simpa using B
      have O:(m.src.toList ==[])=ζ:=by simpa using B
      go_wp2;go_ret;exact⟨sm,b⟩
   .have s:D=ζ:=by simpa using z
    subst s;go_wp2
    all_goals go_ret
    all_goals exact⟨sm,b⟩
def qk(ms:List zk):Int:=if 100<ms.length then 100 else match ms.findIdx? (fun m=>!ZD m)with
 | some i=>(i:Int)
 | none=>-1
def XZ(ms:List zk):Prop:=∀ m∈ms,m.path.size<=1048576/\m.src.size<=1048576/\m.val.size<=1048576
def Yj(ms:List zk):Prop:=XZ ms/\ms.length<=1048576
theorem zbq{ms:List zk}(hl:ms.length<=100)(hk:k<ms.length)(hb:ZD ms[k]=ζ)(hg:∀ j (h:j<ms.length),j<k->ZD ms[j]=ξ):qk ms=(k:Int):=by
 unfold qk;rw[yf om];have:ms.findIdx? (fun m=>!ZD m)=η k:=by
  rw[List.findIdx?_eq_some_iff_getElem];exact⟨hk,by simp[hb],fun j hj=>by simp[hg j om hj]⟩
 rw[this]
theorem zbr{ms:List zk}(hl:ms.length<=100)(hg:∀ j (h:j<ms.length),ZD ms[j]=ξ):qk ms= -1:=by
 unfold qk;rw[yf om];have:ms.findIdx? (fun m=>!ZD m)=ν:=by
  rw[List.findIdx?_eq_none_iff];intro x hx;obtain⟨j,a,rfl⟩:=yY.1 hx;simp[hg j a]
 rw[this]
theorem zbs(v:ω)(ms:List zk)(bl:List Nat)(w:Wo)(h:zu Qc w v ms bl)(hs:XZ ms):
  δ prog 66 #[v] w fun e w'=>e=ε (ι κ (qk ms))/\Below w w w':=by
 obtain⟨J,K,rfl,E,s⟩:=h.form;have H:=zb h;have o:=zb s;have B:=zb hs;have r:=h.len;unfold maxLen at r;by_cases y:ms.length<=100
 .have q:¬ (100:Int)<(ms.length:Int):=om;go_in;go_wp2;go_loopw [3] (fun i wr=>∃ k:Nat,k<=ms.length/\i=ι κ k/\(∀ j (h:j<ms.length),j<k->ZD ms[j]=ξ)/\Below w w wr) (fun i _=>ms.length - (intOf i).toNat)
  case atStart=>exact⟨0,yu _,rfl,fun j _ hj=>om,yI _ _⟩
  case round=>
   obtain⟨k,F,rfl,D,p⟩:=hrel;have n:=zb D;have m:=zb p;by_cases d:k<ms.length
   .have f:(k:Int)<(ms.length:Int):=om;obtain⟨g,rfl⟩:=uh o om;obtain⟨I,G,C,l,_⟩:=(H.below m).at (yy d);obtain⟨rfl,_⟩:=C;have c0:wr.cell? ⟨g,k*4,ν⟩=η (ι κ ms[k].kind):=(l 0 _ rfl).1;have c1:wr.cell? ⟨g,k*4+1,ν⟩=η (.string ms[k].path):=(l 1 _ rfl).1;have c2:wr.cell? ⟨g,k*4+2,ν⟩=η (.string ms[k].src):=(l 2 _ rfl).1;have c3:wr.cell? ⟨g,k*4+3,ν⟩=η (.string ms[k].val):=(l 3 _ rfl).1;have a:=uh B ms[k] (yt _);have u:=zb (XY ms[k] wr a.1 a.2.1 a.2.2);obtain⟨z,A⟩:∃ z,ZD ms[k]=z:=⟨_,rfl⟩;rw[A]at u;have x:=zb A;go_wp2_with fail;go_call u as e w1 ⟨rfl,b1⟩;have b:=zb (zh m b1)
    cases z
    .go_wp2;go_ret;exact⟨by rw[zbq y d (uh x) (uh n)];rfl,b⟩
    .go_wp2;go_roundw
     case rel=>
      refine⟨k+1,om,by go_num,fun j hj hjk=>?_,b⟩;by_cases e:j=k
      .subst e;exact x
      .exact uh n j hj om
     case measure=>simp[intOf];omega
   .have f:¬ (k:Int)<(ms.length:Int):=om;go_wp2;go_ret;exact⟨by rw[zbr y fun j hj=>uh n j hj om];rfl,m⟩
 .have q:(100:Int)<(ms.length:Int):=om;have p:qk ms=100:=by unfold qk;rw[yg om]
  rw[p];go_in;go_wp2;go_ret;exact⟨rfl,yI _ _⟩
theorem Ov(b:Bs):ze b.data.toList=b:=by obtain⟨⟨l⟩⟩:=b;rfl
def ZY(k:Int):List UInt8:=if k=1 then [97,100,100]else if k=2 then [114,101,109,111,118,101]else if k=3 then [114,101,112,108,97,99,101]else if k=4 then [109,111,118,101]else if k=5 then [99,111,112,121]else [116,101,115,116]
theorem Mf(k:Int):(ZY k).length<=7:=by
 unfold ZY
 repeat' split
 all_goals simp
theorem zbt(k:Int)(w:Wo):δ prog 106 #[ι κ k] w fun e w'=>e=ε (σ (ze (ZY k)))/\w=w':=by
 unfold ZY;by_cases a:k=1
 .subst a;go_in;go_wp2;go_ret;exact⟨rfl,rfl⟩
 .by_cases b:k=2
  .subst b;go_in;go_wp2;go_ret;exact⟨rfl,rfl⟩
  .by_cases d:k=3
   .subst d;go_in;go_wp2;go_ret;exact⟨rfl,rfl⟩
   .by_cases f:k=4
    .subst f;go_in;go_wp2;go_ret;exact⟨rfl,rfl⟩
    .by_cases g:k=5
     .subst g;go_in;go_wp2;go_ret;exact⟨rfl,rfl⟩
     .rw[yf a,yf b,yf d,yf f,yf g];have h:(k ==1)=ζ:=by simpa using a
      have i:(k ==2)=ζ:=by simpa using b
      have j:(k ==3)=ζ:=by simpa using d
      have l:(k ==4)=ζ:=by simpa using f
      have m:(k ==5)=ζ:=by simpa using g
      go_in;go_wp2;go_ret;exact⟨rfl,rfl⟩
def Jn(m:zk):List zx:=[([111,112],quoted (ZY m.kind)),([112,97,116,104],quoted m.path.data.toList)]++(if Z9 m.kind then [([102,114,111,109],quoted m.src.data.toList)]else [])++(if ZC m.kind then [([118,97,108,117,101],m.val.data.toList)]else [])
def YD(m:zk):List UInt8:=qm (zI (Jn m))
theorem Rs(m:zk)(h1:m.path.size<=1048576)(h2:m.src.size<=1048576)(h3:m.val.size<=1048576):(Jn m).length<=4/\sumT (zI (Jn m))<=40000000/\(zI (Jn m)).length<=4/\∀ p∈zI (Jn m),p.1.length<=1048576:=by
 have b:(Jn m).length<=4:=by
  unfold Jn
  cases Z9 m.kind<;>cases ZC m.kind<;>simp
 have d:=qZ (Jn m);have n:=Q0 (ZY m.kind);have f:=Q0 m.path.data.toList;have g:=Q0 m.src.data.toList;rw[Zk]at f g;have o:=Mf m.kind;have i:=Q0 [111,112];have j:=Q0 [112,97,116,104];have k:=Q0 [102,114,111,109];have l:=Q0 [118,97,108,117,101];have h:m.val.data.toList.length<=1048576:=by rw[Zk];exact h3
 refine⟨b,?_,by rw[d.length_eq];exact b,fun p hm=>?_⟩
 .rw[XG];unfold Jn
  cases Z9 m.kind<;>cases ZC m.kind<;>simp[sumT,zo]at *<;>omega
 .have a:=d.subset hm;unfold Jn at a;simp at a;rcases a with rfl | rfl |⟨_,rfl⟩ |⟨_,rfl⟩<;>simp
theorem zkx(m:zk)(w:Wo)(h1:m.path.size<=1048576)(h2:m.src.size<=1048576)(h3:m.val.size<=1048576):
  δ prog 54 #[γ #[ι κ m.kind,m.path,m.src,m.val]] w fun e w'=>e=ε (σ (ze (YD m)))/\Below w w w':=by
 have hA:=zG w (Η #[ι κ m.kind,m.path,m.src,m.val] 82);have kA:=yH w (Η #[ι κ m.kind,m.path,m.src,m.val] 82);have HQP:=zb fun wx=>XT m.path wx h1;have HQS:=zb fun wx=>XT m.src wx h2;have HQW:Hid (∀ wx,δ prog 105 #[σ (ze (ZY m.kind))] wx fun e w'=>e=ε (σ (ze (quoted (ZY m.kind))))/\Below wx wx w'):=fun wx=>by
  have:=XT (ze (ZY m.kind)) wx (by rw[zK];have:=Mf m.kind;omega)
  rwa [Zb]at this
 have HW:=zb fun wx=>zbt m.kind wx;have HF:=zb fun wx=>Ou m.kind wx;have HV:=zb fun wx=>Rr m.kind wx;have A:Hid (∀ wx,Below (w.alloc (Η #[ι κ m.kind,m.path,m.src,m.val] 82)).heap.size (w.alloc (Η #[ι κ m.kind,m.path,m.src,m.val] 82)) wx->wx.cell? w.heap.size=η (ι κ m.kind)/\wx.cell? ⟨w,1,ν⟩=η m.path/\wx.cell? ⟨w,2,ν⟩=η m.src/\wx.cell? ⟨w,3,ν⟩=η m.val):=fun wx hb=>by
  have kx:=(hb.block w sm).trans kA;exact⟨yG kx 0,yG kx 1,yG kx 2,yG kx 3⟩
 have D:=zb hA;obtain⟨zf,P⟩:∃ zf,Z9 m.kind=zf:=⟨_,rfl⟩;obtain⟨zv,Q⟩:∃ zv,ZC m.kind=zv:=⟨_,rfl⟩;rw[P]at HF;rw[Q]at HV;have E:=zb P;have F:=zb Q;clear hA kA P Q;obtain⟨i0,L,M,N,O⟩:=info_parts Ua;go_in;go_wp2_with fail;obtain⟨R,Y⟩:∃ R,w.alloc (Η #[ι κ m.kind,m.path,m.src,m.val] 82)=R:=⟨_,rfl⟩;rw[Y]at A D ⊢;clear Y;obtain⟨c0,c1,_,_⟩:=uh A R.drew (yI _ _).drew;have c0w:R.cell? w.heap.size=η (ι κ m.kind):=c0;have c1w:R.cell? ⟨w,1,ν⟩=η m.path:=c1;go_region_law (first
  |(go_simp;go_call uh HW _ as e w1 ⟨rfl,rfl⟩;have Z:=trivial)
  |(
    have:=Z;go_simp;go_call uh HQW _ as e w2 ⟨rfl,b2⟩;have B2:Below R R w2:=((yI _ _).drew).trans b2;obtain⟨d0,d1,d2,d3⟩:=uh A w2 B2;have aa:=trivial;clear Z)
  |(
    have:=aa;go_simp;go_call uh HQP _ as e w3 ⟨rfl,b3⟩;have B3:=zh B2 b3))
 all_goals (
  have hw3:=yQ D.size B3.size;have hGA:=B3.size;have p:Hid (PR (w3.alloc (χ #[σ ⟨#[111,112]⟩,σ (ze (quoted (ZY m.kind))),σ ⟨#[112,97,116,104]⟩,σ (ze (quoted m.path.data.toList))] 120)) w (ς (η w3) 2 2) [([111,112],quoted (ZY m.kind)),([112,97,116,104],quoted m.path.data.toList)]):=
   World.ownsRow_lit w3 #[σ ⟨#[111,112]⟩,σ (ze (quoted (ZY m.kind))),σ ⟨#[112,97,116,104]⟩,σ (ze (quoted m.path.data.toList))] 2 hw3 mo rfl
  have B4:=zh B3 (zG w3 (χ #[σ ⟨#[111,112]⟩,σ (ze (quoted (ZY m.kind))),σ ⟨#[112,97,116,104]⟩,σ (ze (quoted m.path.data.toList))] 120));obtain⟨e0,e1,e2,e3⟩:=uh A _ B4;have I:=zb B4;clear B4 B3 B2 b2 b3 c0 c1 c0w c1w aa;go_wp2_with fail;generalize (w3.alloc (χ #[σ ⟨#[111,112]⟩,σ (ze (quoted (ZY m.kind))),σ ⟨#[112,97,116,104]⟩,σ (ze (quoted m.path.data.toList))] 120))=T at *;generalize w3.heap.size=G at *;go_call uh HF _ as e w5 ⟨rfl,rfl⟩;have X:=yQ D.size I.size;have K:=zb (zh D I)
  cases zf
  .go_wp2_with fail;go_call uh HV _ as e w5' ⟨rfl,rfl⟩
   cases zv
   .have d:Jn m=[([111,112],quoted (ZY m.kind)),([112,97,116,104],quoted m.path.data.toList)]:=by unfold Jn;rw[uh E,uh F];rfl
    have f:=Rs m h1 h2 h3;rw[d]at f;have s:=zb d;have l:=zb (XJ w _ [([111,112],quoted (ZY m.kind)),([112,97,116,104],quoted m.path.data.toList)] _ p sm);have b:=zb f;clear f d;go_wp2_with fail;go_call l as e w8 ⟨v8,rfl,o8,b8⟩;have i:=zb (Un _ v8 _ w8 o8 (uh b).2.1 (by have:=(uh b).2.2.1;omega) (uh b).2.2.2);have q:=zb (zh K b8);clear l o8 b8;go_wp2_with fail;go_call i as e w9 ⟨rfl,b9⟩;have r:=zb (zh q b9);clear i b9;go_wp2;go_ret;exact⟨by rw[YD,uh s];rfl,r⟩
   .have e3':T.cell? ⟨w,3,ν⟩=η (ze m.val.data.toList):=by rw[Ov];exact e3
    have S:Hid (∀ (j:Nat) (u:ω),(Zc ([118,97,108,117,101],m.val.data.toList))[j]?=η u->(T.alloc (χ #[σ ⟨#[118,97,108,117,101]⟩,(ze m.val.data.toList)] 120)).cell? ((T:Addr).add j)=η u):=fun j u h=>Yd T 120 _ _ j u h;have v:Hid (∀ u∈Zc ([118,97,108,117,101],m.val.data.toList),u.oneCell'=ξ):=fun u hu=>by
     simp[Zc]at hu;rcases hu with rfl | rfl<;>rfl
    have x:Hid (World.ownsRow (T.alloc (χ #[σ ⟨#[118,97,108,117,101]⟩,(ze m.val.data.toList)] 120)) w 120 2 (ς (η G) 2 2) 2 ([([111,112],quoted (ZY m.kind)),([112,97,116,104],quoted m.path.data.toList)].flatMap Zc)):=World.ownsRow.alloc p _;clear e3;go_wp2_with (at_builtin;refine wpList_append_own _ rfl (.tmp 27) (.tmp 31) 116 rfl w 120 i0 (γ #[Α,Α]) 2 32 underlying116 L M N O rfl dc _ _ _ rfl x T 1 1 (Zc ([118,97,108,117,101],m.val.data.toList)) rfl rfl (by exact S) (by exact v) mo om so ?_);intro v6 C n y _;have o:Hid (PR C w v6 ([([111,112],quoted (ZY m.kind)),([112,97,116,104],quoted m.path.data.toList)]++[([118,97,108,117,101],m.val.data.toList)])):=n;have z:=zb ((K.alloc X _).grown y so (fun k hk=>(World.ownsRow.lt p k hk).1));clear n y;have d:Jn m=[([111,112],quoted (ZY m.kind)),([112,97,116,104],quoted m.path.data.toList)]++[([118,97,108,117,101],m.val.data.toList)]:=by unfold Jn;rw[uh E,uh F];rfl
    have f:=Rs m h1 h2 h3;rw[d]at f;have s:=zb d;have l:=zb (XJ w _ ([([111,112],quoted (ZY m.kind)),([112,97,116,104],quoted m.path.data.toList)]++[([118,97,108,117,101],m.val.data.toList)]) _ o sm);have b:=zb f;clear f d;go_wp2_with fail;go_call l as e w8 ⟨v8,rfl,o8,b8⟩;have i:=zb (Un _ v8 _ w8 o8 (uh b).2.1 (by have:=(uh b).2.2.1;omega) (uh b).2.2.2);have q:=zb (zh z b8);clear l o8 b8;go_wp2_with fail;go_call i as e w9 ⟨rfl,b9⟩;have r:=zb (zh q b9);clear i b9;go_wp2;go_ret;exact⟨by rw[YD,uh s];rfl,r⟩
  .go_wp2_with fail;go_call uh HQS _ as e w5 ⟨rfl,b5⟩;have hw5:=yQ X b5.size;have J:=zb (zh I b5);have HB5:=zb (zh K b5);have B:=zb (p.below b5);have S:Hid (∀ (j:Nat) (u:ω),(Zc ([102,114,111,109],quoted m.src.data.toList))[j]?=η u->(w5.alloc (χ #[σ ⟨#[102,114,111,109]⟩,σ (ze (quoted m.src.data.toList))] 120)).cell? ((w5:Addr).add j)=η u):=fun j u h=>Yd w5 120 _ _ j u h;have v:Hid (∀ u∈Zc ([102,114,111,109],quoted m.src.data.toList),u.oneCell'=ξ):=fun u hu=>by
    simp[Zc]at hu;rcases hu with rfl | rfl<;>rfl
   have x:Hid (World.ownsRow (w5.alloc (χ #[σ ⟨#[102,114,111,109]⟩,σ (ze (quoted m.src.data.toList))] 120)) w 120 2 (ς (η G) 2 2) 2 ([([111,112],quoted (ZY m.kind)),([112,97,116,104],quoted m.path.data.toList)].flatMap Zc)):=World.ownsRow.alloc B _;clear b5 e0 e1 e2 e3;go_wp2_with (at_builtin;refine wpList_append_own _ rfl (.tmp 17) (.tmp 22) 116 rfl w 120 i0 (γ #[Α,Α]) 2 32 underlying116 L M N O rfl dc _ _ _ rfl x w5 1 1 (Zc ([102,114,111,109],quoted m.src.data.toList)) rfl rfl (by exact S) (by exact v) mo om so ?_);intro v6 C n y _;obtain⟨va,vc,rfl⟩:∃ a c,v6=ς a 3 c:=by
    rcases n.2 with ⟨hv,h0⟩ |⟨g,cap,cur,hv,_⟩
    .exact absurd h0 dc
    .exact⟨_,_,hv⟩
   have o:Hid (PR C w (ς va 3 vc) ([([111,112],quoted (ZY m.kind)),([112,97,116,104],quoted m.path.data.toList)]++[([102,114,111,109],quoted m.src.data.toList)])):=n;have z:=zb ((HB5.alloc hw5 _).grown y so (fun k hk=>(World.ownsRow.lt B k hk).1));have hw6:=z.size;have U:=(J.alloc J.size _).grown y (by have:=J.size;simp;omega) (fun k hk=>by simp[Ν]at hk;omega);obtain⟨d0,d1,d2,d3⟩:=uh A C U;clear n y U S v x B p;go_wp2_with fail;go_call uh HV _ as e w6' ⟨rfl,rfl⟩
   cases zv
   .have d:Jn m=[([111,112],quoted (ZY m.kind)),([112,97,116,104],quoted m.path.data.toList)]++[([102,114,111,109],quoted m.src.data.toList)]:=by unfold Jn;rw[uh E,uh F];rfl
    have f:=Rs m h1 h2 h3;rw[d]at f;have s:=zb d;have l:=zb (XJ w _ ([([111,112],quoted (ZY m.kind)),([112,97,116,104],quoted m.path.data.toList)]++[([102,114,111,109],quoted m.src.data.toList)]) _ o sm);have b:=zb f;clear f d;go_wp2_with fail;go_call l as e w8 ⟨v8,rfl,o8,b8⟩;have i:=zb (Un _ v8 _ w8 o8 (uh b).2.1 (by have:=(uh b).2.2.1;omega) (uh b).2.2.2);have q:=zb (zh z b8);clear l o8 b8;go_wp2_with fail;go_call i as e w9 ⟨rfl,b9⟩;have r:=zb (zh q b9);clear i b9;go_wp2;go_ret;exact⟨by rw[YD,uh s];rfl,r⟩
   .have e3':C.cell? ⟨w,3,ν⟩=η (ze m.val.data.toList):=by rw[Ov];exact d3
    have S:Hid (∀ (j:Nat) (u:ω),(Zc ([118,97,108,117,101],m.val.data.toList))[j]?=η u->(C.alloc (χ #[σ ⟨#[118,97,108,117,101]⟩,(ze m.val.data.toList)] 120)).cell? ((C:Addr).add j)=η u):=fun j u h=>Yd C 120 _ _ j u h;have v:Hid (∀ u∈Zc ([118,97,108,117,101],m.val.data.toList),u.oneCell'=ξ):=fun u hu=>by
     simp[Zc]at hu;rcases hu with rfl | rfl<;>rfl
    have x:Hid (World.ownsRow (C.alloc (χ #[σ ⟨#[118,97,108,117,101]⟩,(ze m.val.data.toList)] 120)) w 120 2 (ς va 3 vc) 3 ((([([111,112],quoted (ZY m.kind)),([112,97,116,104],quoted m.path.data.toList)]++[([102,114,111,109],quoted m.src.data.toList)]:List zx)).flatMap Zc)):=World.ownsRow.alloc o _;clear d3;go_wp2_with (at_builtin;refine wpList_append_own _ rfl (.tmp 27) (.tmp 31) 116 rfl w 120 i0 (γ #[Α,Α]) 2 32 underlying116 L M N O rfl dc _ _ _ rfl x C 1 1 (Zc ([118,97,108,117,101],m.val.data.toList)) rfl rfl (by exact S) (by exact v) mo om so ?_);intro v7 w7 H W _;have V:Hid (PR w7 w v7 ([([111,112],quoted (ZY m.kind)),([112,97,116,104],quoted m.path.data.toList)]++[([102,114,111,109],quoted m.src.data.toList)]++[([118,97,108,117,101],m.val.data.toList)])):=H;have HB7:=zb ((z.alloc hw6 _).grown W so (fun k hk=>(World.ownsRow.lt o k hk).1));clear H W;have d:Jn m=[([111,112],quoted (ZY m.kind)),([112,97,116,104],quoted m.path.data.toList)]++[([102,114,111,109],quoted m.src.data.toList)]++[([118,97,108,117,101],m.val.data.toList)]:=by unfold Jn;rw[uh E,uh F];rfl
    have f:=Rs m h1 h2 h3;rw[d]at f;have s:=zb d;have l:=zb (XJ w _ ([([111,112],quoted (ZY m.kind)),([112,97,116,104],quoted m.path.data.toList)]++[([102,114,111,109],quoted m.src.data.toList)]++[([118,97,108,117,101],m.val.data.toList)]) _ V sm);have b:=zb f;clear f d;go_wp2_with fail;go_call l as e w8 ⟨v8,rfl,o8,b8⟩;have i:=zb (Un _ v8 _ w8 o8 (uh b).2.1 (by have:=(uh b).2.2.1;omega) (uh b).2.2.2);have q:=zb (zh HB7 b8);clear l o8 b8;go_wp2_with fail;go_call i as e w9 ⟨rfl,b9⟩;have r:=zb (zh q b9);clear i b9;go_wp2;go_ret;exact⟨by rw[YD,uh s];rfl,r⟩)
theorem zbu(m:zk):(YD m).length<=6*Oq m+200:=by
 have h:=E6 (Jn m);have l:=Q0 (ZY m.kind);have a:=Q0 m.path.data.toList;have b:=Q0 m.src.data.toList;rw[Zk]at a b;have n:=Mf m.kind;have g:=Q0 [111,112];have i:=Q0 [112,97,116,104];have j:=Q0 [102,114,111,109];have k:=Q0 [118,97,108,117,101];have f:m.val.data.toList.length=m.val.size:=Zk _;have d:sumT (Jn m)<=6*Oq m+198:=by
  unfold Jn Oq
  cases Z9 m.kind<;>cases ZC m.kind<;>simp[sumT,zo]at *<;>omega
 unfold YD;omega
def GR:List UInt8:=[111,112]
def YE:List UInt8:=[112,97,116,104]
def Yk:List UInt8:=[102,114,111,109]
def YV:List UInt8:=[118,97,108,117,101]
def JL.ofL:List JV->JL
 | []=>.nil
 | v :: r=>.cons v (JL.ofL r)
theorem JL.toL_ofL:∀ l:List JV,(JL.ofL l).toL=l
 | []=>rfl
 | v :: r=>by rw[JL.ofL,JL.toL,JL.toL_ofL r]
theorem Mg:∀ l:JL,Jf l↔∀ v∈l.toL,ZX v
 | .nil=>by rw[Jf];simp[JL.toL]
 | .cons v r=>by rw[Jf,Mg r,JL.toL];simp
theorem Mh:∀ l:JL,qf l=ζ↔∀ v∈l.toL,zF v=ζ
 | .nil=>by rw[qf];simp[JL.toL]
 | .cons v r=>by rw[qf,Bool.or_eq_false_iff,Mh r,JL.toL];simp
theorem Mi:∀ l:JL,qz l=ζ↔∀ v∈l.toL,zY v=ζ
 | .nil=>by rw[qz];simp[JL.toL]
 | .cons v r=>by rw[qz,Bool.or_eq_false_iff,Mi r,JL.toL];simp
theorem Mj{v:JV}(h:ZX v)(hb:zY v=ζ)(ht:zF v=ζ):ZP (ze (ct v))=decide (zJ v<=100/\zn v<=3000/\(ct v).length<=20000):=by
 unfold ZP;rw[zaq h hb ht];by_cases a:20000<(ct v).length
 .rw[yg a];simp;omega
 .rw[yf a];by_cases b:100<zJ v∨3000<zn v
  .rw[yg b];simp;omega
  .rw[yf b];simp only[(Kk v).ct,beq_self_eq_true];symm;rw[decide_eq_true_eq];omega
def tl(ss:List Bs):List (List UInt8):=ss.map fun s=>s.data.toList
theorem Ut(ss:List Bs):(tl ss).length=ss.length:=by simp[tl]
theorem Rt(h:j<ss.length):(tl ss)[j]'(by rw[Ut];exact h)=ss[j].data.toList:=by simp[tl]
theorem Mk(h:QK w v ss bl):OT w 0 v (tl ss):=by
 have a:=(Vv.1 h).1;have e:(tl ss).map QJ=ss.map Value.string:=by
  unfold tl;rw[List.map_map];refine List.map_congr_left fun s _=>?_;obtain⟨⟨l⟩⟩:=s;rfl
 show w.ownsRow 0 _ 1 v (tl ss).length ((tl ss).map QJ)
 rw[e,Ut];exact a
theorem zbv{l:List (List UInt8)}:Qf l=l↔Yh l:=
 ⟨fun h=>h ▸ PZ l,fun h=>LR (PZ l) h fun _=>PY⟩
def J2(ss:List Bs):Bool:=decide (ss.length<=1000) && decide (Qf (tl ss)=tl ss) && ss.all fun s=>(zH s.data.toList).isSome
def Z8(n0:Int)(i:Nat)(m:zi):Bool:=m.no ==n0+i && ZP m.doc && J2 m.touched
def Ow(n0:Int):Nat->List zi->Bool
 | _,[]=>ξ
 | i,m :: r=>Z8 n0 i m && Ow n0 (i+1) r
def qV:List zi->Bool
 | []=>ζ
 | m :: r=>decide ((m :: r).length<=8) && decide (0<=m.no) && decide (m.no<=1000000) && Ow m.no 0 (m :: r)
theorem zbw{n0:Int}:∀ (l:List zi) (b:Nat),Ow n0 b l=ξ↔∀ j (h:j<l.length),Z8 n0 (b+j) l[j]=ξ
 | [],b=>by simp[Ow]
 | m :: r,b=>by
  rw[Ow,Bool.and_eq_true,zbw r (b+1)];constructor
  .rintro⟨h1,h2⟩ j hj
   cases j with
   | zero=>exact h1
   | succ j=>
    have:=h2 j (by simpa using hj);rw[show b+1+j=b+(j+1) by omega]at this;exact this
  .intro h;refine⟨h 0 sm,fun j hj=>?_⟩;have:=h (j+1) (by simpa using hj);rw[show b+(j+1)=b+1+j by omega]at this;exact this
theorem zky(va vb:ω)(xs ys:List (List UInt8))(B C:Nat)(w:Wo)(ha:OT w B va xs)(hb:OT w C vb ys)(_hla:xs.length<=1000000)(hlb:ys.length<=1000000):
  δ prog 41 #[va,vb] w fun e w'=>e=ε (θ (decide (xs=ys)))/\Below w w w':=by
 obtain⟨a,V,c0,rfl,_,_⟩:=ha.shape;obtain⟨b,W,c1,rfl,_,_⟩:=hb.shape;obtain⟨z,O⟩:∃ z,decide (xs=ys)=z:=⟨_,rfl⟩;rw[O];have F:=zb O;have L:=zb ha;have P:=zb hb;by_cases I:xs.length=ys.length
 .rw[I]at L ⊢;have n:=zb I;go_in;go_wp2;go_loopw [5] (fun i wr=>∃ k:Nat,k<=ys.length/\i=ι κ k/\Below w w wr/\∀ j (h:j<xs.length) (h':j<ys.length),j<k->xs[j]=ys[j]) (fun i _=>ys.length - (intOf i).toNat)
  case atStart=>exact⟨0,yu _,rfl,yI _ _,fun j _ _ h=>om⟩
  case round=>
   obtain⟨k,X,rfl,v,x⟩:=hrel;by_cases d:k<ys.length
   .have y:k<xs.length:=by have:=uh n;omega
    have o:=v.drew;have f:=Zl L o;have m:=Zl P o;obtain⟨g,rfl⟩:∃ g,a=η ⟨g,0,ν⟩:=by
     rcases f.2 with ⟨_,T⟩ |⟨g,G,H,p,_⟩
     .omega
     .injection p with p _ _;exact⟨g,p⟩
    obtain⟨S,rfl⟩:∃ g,b=η ⟨g,0,ν⟩:=by
     rcases m.2 with ⟨_,T⟩ |⟨g,G,H,p,_⟩
     .omega
     .injection p with p _ _;exact⟨g,p⟩
    have r:wr.drew.ownsRow B 9 1 (ς (η ⟨g,0,ν⟩) ys.length c0) ys.length (xs.map QJ):=by
     have:=f;unfold OT at this;rw[uh n]at this;exact this
    have U:wr.drew.cell? ⟨g,k,ν⟩=η (σ (ze xs[k])):=by rw[r.cellAt k (by simpa using d),LS y]
    have M:wr.drew.cell? ⟨S,k,ν⟩=η (σ (ze ys[k])):=by rw[m.cellAt k (by simpa using d),LS d]
    have E:=zb x;have s:=zb o;have u:=zb d;have Q:=zb y;by_cases A:xs[k]=ys[k]
    .have D:Hid (∀ j (h:j<xs.length) (h':j<ys.length),j<k+1->xs[j]=ys[j]):=fun j h h' hj=>by
      by_cases e:j=k
      .subst e;exact A
      .exact uh E j h h' om
     have R:=M.trans (congrArg (fun l=>η (Value.string (ze l))) A.symm);clear M;generalize ze xs[k]=sk at *;go_wp2;go_region_law (fail)
     all_goals (
      go_wp2;go_roundw)
     all_goals first
      | exact⟨k+1,by have:=uh u;omega,by go_num,s,D⟩
      |(have:=uh u;simp[intOf];omega)
    .have q:=F.symm.trans (yk fun e=>A (by subst e;rfl));subst q;have J:((ze xs[k]).toList ==(ze ys[k]).toList)=ζ:=by
      rw[← Bool.not_eq_true,yD];intro e;rw[Ε,Ε,Zb,Zb]at e;exact A e
     generalize ze xs[k]=sk at *;generalize ze ys[k]=Y at *;go_wp2;go_region_law (fail)
     all_goals (
      go_wp2;go_ret;exact⟨rfl,s⟩)
   .have K:=F.symm.trans (yj (List.ext_getElem n fun j h1 h2=>x j h1 h2 om));subst K;go_wp2;go_ret;exact⟨rfl,v⟩
 .have J:((xs.length:Int) !=(ys.length:Int))=ξ:=by rw[bne_iff_ne];omega
  have q:=F.symm.trans (yk fun e=>I (by rw[e]));subst q;have N:¬ (xs.length:Int)=(ys.length:Int):=om;go_in;go_wp2;go_ret;exact⟨rfl,yI _ _⟩
theorem zkz(p:ω)(vs:List zi)(bl:List Nat)(i:Nat)(w:Wo)(h:zu Zi w p vs bl)(hi:i<vs.length)(hl:vs.length<=8)(n0:Int)(hn0:vs[0].no=n0)(hr0:0<=n0)(hr1:n0<=1000000)(hd:vs[i].doc.size<=1048576)(hp:∀ s∈vs[i].touched,s.size<=1048576):
  δ prog 62 #[γ #[p],ι κ (i:Int)] w fun e w'=>e=ε (θ (Z8 n0 i vs[i]))/\Below w w w':=by
 have h1:=h;obtain⟨xa,A,rfl,hxf,hxa⟩:=h.form;obtain⟨g,rfl⟩:=hxa om;obtain⟨ws0,ib0,hE0,hc0,hx0⟩:=h.at (yy (show 0<vs.length by omega));obtain⟨q0,rfl,hq0⟩:=hE0;obtain⟨ws,ib,hE,hc,hx1⟩:=h.at (yy hi);obtain⟨q,rfl,hq⟩:=hE;have hA:=zG w (χ #[ς (η ⟨g,0,ν⟩) vs.length A] 25);have Q:g<w.heap.size:=yK _ _ (hc 0 _ rfl).1;obtain⟨B,F,rfl,ht1,ht2⟩:=hq.form;have c0:=(hA.cell (p:=⟨g,i*3,ν⟩) Q).trans (hc 0 _ rfl).1;have c1:=(hA.cell (p:=⟨g,i*3+1,ν⟩) Q).trans (hc 1 _ rfl).1;have c2:=(hA.cell (p:=⟨g,i*3+2,ν⟩) Q).trans (hc 2 _ rfl).1;have hB:=zG (w.alloc (χ #[ς (η ⟨g,0,ν⟩) vs.length A] 25)) (χ #[ι κ vs[i].no,.string vs[i].doc,ς B vs[i].touched.length F] 37);have kA:=yH w (χ #[ς (η ⟨g,0,ν⟩) vs.length A] 25);have kB:=yH (w.alloc (χ #[ς (η ⟨g,0,ν⟩) vs.length A] 25)) (χ #[ι κ vs[i].no,.string vs[i].doc,ς B vs[i].touched.length F] 37);have zA:(w.alloc (χ #[ς (η ⟨g,0,ν⟩) vs.length A] 25)).heap.size=w.heap.size+1:=sm;rw[zA]at kB;have P:=zh hA hB;have G:Hid (∀ wx,Below (w.heap.size+1+1) ((w.alloc (χ #[ς (η ⟨g,0,ν⟩) vs.length A] 25)).alloc (χ #[ι κ vs[i].no,.string vs[i].doc,ς B vs[i].touched.length F] 37)) wx->wx.cell? ⟨w,0,ν⟩=η (ς (η ⟨g,0,ν⟩) vs.length A)/\wx.cell? ⟨w.heap.size+1,0,ν⟩=η (ι κ vs[i].no)/\wx.cell? ⟨w.heap.size+1,1,ν⟩=η (.string vs[i].doc)/\wx.cell? ⟨w.heap.size+1,2,ν⟩=η (ς B vs[i].touched.length F)/\wx.cell? ⟨g,0,ν⟩=η (ι κ vs[0].no)):=fun wx hx=>by
  have k1:=(hx.block w om).trans ((hB.block w (by rw[zA];omega)).trans kA);have k2:=(hx.block (w.heap.size+1) om).trans kB;exact⟨yG k1 0,yG k2 0,yG k2 1,yG k2 2,(hx.cell (p:=⟨g,0,ν⟩) (by show g<_;omega)).trans ((P.cell (p:=⟨g,0,ν⟩) Q).trans (by simpa [Zi]using (hc0 0 _ rfl).1))⟩
 have X:=zb (hq.below P);have f:=zb P;have zAB:((w.alloc (χ #[ς (η ⟨g,0,ν⟩) vs.length A] 25)).alloc (χ #[ι κ vs[i].no,.string vs[i].doc,ς B vs[i].touched.length F] 37)).heap.size=w.heap.size+1+1:=sm;have m:=zb zAB;clear hxa h h1 hc hc0 hq hq0 hx0 hx1 hxf ht1 ht2 hA hB kA kB zA P zAB;generalize vs[0].no=z0 at *;generalize vs[i]=mv at *;have hiI:(i:Int)<(vs.length:Int):=om;have h0I:(0:Int)<(vs.length:Int):=om;have hn8:(vs.length:Int)<=8:=om;have h0N:0<vs.length:=om;generalize vs.length=nv at *;obtain⟨no,d,a⟩:=mv;have M:=zb hn0;clear hn0;by_cases hlen:1000<a.length
 .have HZ:Hid (Z8 n0 i ⟨no,d,a⟩=ζ):=by
   show _=_
   have ht:decide (a.length<=1000)=ζ:=yk om;simp[Z8,J2,ht]
  have tlen:decide ((1000:Int)<(a.length:Int))=ξ:=yj om;clear hlen hd hp hr0 hr1;go_in;go_wp2_with fail;generalize ((w.alloc (χ #[ς (η ⟨g,0,ν⟩) nv A] 25)).alloc (χ #[ι κ no,.string d,ς B a.length F] 37))=y at *;obtain⟨Y,Z,f2,f3,f4⟩:=uh G y (yI _ _);clear c0 c1 c2;go_quiet (fail);have U:=zb (zh f (GQ y nq));clear Y Z f2 f3 f4 G X f m;go_wp2;go_ret;exact⟨by rw[uh HZ];rfl,U⟩
 .have tlen:decide ((1000:Int)<(a.length:Int))=ζ:=yk om;by_cases E:no=n0+i
  .have J:IntKind.i64.wrap (z0+(i:Int))=z0+(i:Int):=by have:=uh M;unfold IntKind.wrap;simp[IntKind.bits,IntKind.signed];omega
   have tno:(no !=IntKind.i64.wrap (z0+(i:Int)))=ζ:=by rw[J,uh M];simpa using E
   clear J;have HNO:=zb E;clear E;have HG:=zb fun wx=>Me d wx hd
   cases hgd:ZP d with
   | false=>
    rw[hgd]at HG;have v:Hid (Z8 n0 i ⟨no,d,a⟩=ζ):=by show _=_;simp[Z8,hgd]
    go_in;go_wp2_with fail;have K:w.heap.size+1+1=((w.alloc (χ #[ς (η ⟨g,0,ν⟩) nv A] 25)).alloc (χ #[ι κ no,.string d,ς B a.length F] 37)).heap.size:=sm;have C:=zb K;clear K;generalize ((w.alloc (χ #[ς (η ⟨g,0,ν⟩) nv A] 25)).alloc (χ #[ι κ no,.string d,ς B a.length F] 37))=y at *;obtain⟨Y,Z,f2,f3,f4⟩:=uh G y.drew ((yI _ _).drew);have I:Below y y y.drew:=(yI _ _).drew;clear c0 c1 c2
    first
     |(go_region_law (
              go_simp;go_call uh HG _ as e w2 ⟨rfl,b2⟩;have n:=zh I b2;obtain⟨e0,e1,e2,e3,e4⟩:=uh G w2 (by rw[uh C];exact n)))
     | fail
    all_goals (
     have HBX:=zb (zh f n);clear e0 e1 e2 e3 e4 n b2 Y Z f2 f3 f4 I G X f m HG;go_wp2;go_ret;exact⟨by rw[uh v];rfl,HBX⟩)
   | true=>
    rw[hgd]at HG;have HO:Hid (∀ wx,Below (w.heap.size+1+1) ((w.alloc (χ #[ς (η ⟨g,0,ν⟩) nv A] 25)).alloc (χ #[ι κ no,.string d,ς B a.length F] 37)) wx->δ prog 100 #[ς B a.length F] wx fun e w'=>∃ ra rc,e=ε (ς ra (Qf (tl a)).length rc)/\OT w' wx (ς ra (Qf (tl a)).length rc) (Qf (tl a))/\Below wx wx w'):=fun wx hx=>by
     have hqx:QK wx _ a ib:=X.below (by show Below _ _ _;rw[uh m];exact hx);go_call zaG _ _ wx (Mk hqx) (by rw[Ut];omega) as e w' ⟨r,rfl,o,b⟩;obtain⟨ra,_,rc,rfl,_,_⟩:=o.shape;exact⟨ra,rc,rfl,o,b⟩
    have D:Hid (∀ z:Bool,z=(decide (Qf (tl a)=tl a) && a.all fun s=>(zH s.data.toList).isSome)->Z8 n0 i ⟨no,d,a⟩=z):=fun z hz=>by
     have L:(no ==n0+(i:Int))=ξ:=by simpa using uh HNO
     have ht:decide (a.length<=1000)=ξ:=yj om;rw[hz];simp[Z8,J2,L,hgd,ht]
    go_in;go_wp2_with fail;have K:w.heap.size+1+1=((w.alloc (χ #[ς (η ⟨g,0,ν⟩) nv A] 25)).alloc (χ #[ι κ no,.string d,ς B a.length F] 37)).heap.size:=sm;have C:=zb K;clear K;generalize ((w.alloc (χ #[ς (η ⟨g,0,ν⟩) nv A] 25)).alloc (χ #[ι κ no,.string d,ς B a.length F] 37))=y at *;obtain⟨Y,Z,f2,f3,f4⟩:=uh G y.drew ((yI _ _).drew);have I:Below y y y.drew:=(yI _ _).drew;clear c0 c1 c2;go_region_law (first
     |(go_simp;go_call HS4 as e w4 ⟨rfl,b4⟩)
     |(
       go_simp;go_call HO3 as e w3 ⟨ra,rc,rfl,o3,b3⟩;have N:=zh n b3;obtain⟨p0,p1,p2,p3,p4⟩:=uh G w3 (by rw[uh C];exact N);have HS4:=zb (zky _ _ _ _ _ 0 w3 o3 (Mk (X.below N)) (by have:=P9 _ (tl a) rfl;rw[Ut]at this;omega) (by rw[Ut];omega)))
     |(
       go_simp;go_call uh HG _ as e w2 ⟨rfl,b2⟩;have n:=zh I b2;obtain⟨e0,e1,e2,e3,e4⟩:=uh G w2 (by rw[uh C];exact n);have HO3:=zb (uh HO w2 (by rw[uh C];exact n))))
    all_goals (
     have O:=zh N b4;have H:=zb (zh f O);have HF4:=zb fun wx (hx:Below w4 w4 wx)=>(uh G wx (by rw[uh C];exact zh O hx)).2.2.2.1;have HQ4:=zb (X.below O);clear e0 e1 e2 e3 e4 p0 p1 p2 p3 p4 Y Z f2 f3 f4 n N O b2 b3 b4 I o3 G X f m HG HO HO3 HS4;by_cases S:Qf (tl a)=tl a
     .have l:=yj S;rw[l]at D;rw[l];clear S l;have r3:=uh HF4 w4 (yI _ _);go_wp2;go_loopw [6] (fun kk wr=>∃ k:Nat,k<=a.length/\kk=ι κ k/\Below w4 w4 wr/\∀ j (h:j<a.length),j<k->(zH a[j].data.toList).isSome=ξ) (fun kk _=>a.length - (intOf kk).toNat)
      case atStart=>exact⟨0,yu _,rfl,yI _ _,fun j _ h=>om⟩
      case round=>
       obtain⟨k,hk,rfl,L,u⟩:=hrel;have r4:=uh HF4 wr L;have HALL:=zb u;have W:=zb L;by_cases R:k<a.length
       .have hltI:(k:Int)<(a.length:Int):=om;have T:=(Vv.1 (HQ4.below L)).1;obtain⟨gt,rfl⟩:∃ gt,B=η ⟨gt,0,ν⟩:=by
         rcases T.2 with ⟨_,hn⟩ |⟨gq,cap,cur,hv,_⟩
         .omega
         .injection hv with hv _ _;exact⟨gq,hv⟩
        have ck:wr.cell? ⟨gt,k,ν⟩=η (.string a[k]):=by
         rw[T.cellAt k (by simpa using R),List.getElem?_map,yy R];rfl
        have HP:=zb (RS a[k] wr (hp a[k] (yt R)))
        cases hpk:(zH a[k].data.toList).isSome with
        | true=>
         rw[hpk]at HP;have HA2:Hid (∀ j (h:j<a.length),j<k+1->(zH a[j].data.toList).isSome=ξ):=fun j h hj=>by
          by_cases e:j=k
          .subst e;exact hpk
          .exact uh HALL j h om
         clear T u L hpk;go_wp2_with fail;go_call HP as e w5 ⟨rfl,b5⟩;have V:=zb (zh W b5);clear HP b5 ck r4;go_wp2;go_roundw
         case rel=>exact⟨k+1,om,by go_num,V,HA2⟩
         case measure=>simp[intOf];omega
        | false=>
         rw[hpk]at HP;have v:Hid (Z8 n0 i ⟨no,d,a⟩=ζ):=uh D ζ (by
          symm;rw[Bool.true_and,← Bool.not_eq_true,List.all_eq_true];intro h;rw[h a[k] (yt R)]at hpk
          cases hpk)
         clear T u L hpk;go_wp2_with fail;go_call HP as e w5 ⟨rfl,b5⟩;have V:=zb (zh H (zh W b5));clear HP b5 ck r4;go_wp2;go_ret;exact⟨by rw[uh v];rfl,V⟩
       .have HZT:Hid (Z8 n0 i ⟨no,d,a⟩=ξ):=uh D ξ (by
         symm;rw[Bool.true_and,List.all_eq_true];intro x hx;obtain⟨j,hj,rfl⟩:=yY.1 hx;exact u j hj om)
        clear u L;go_wp2;go_ret;exact⟨by rw[uh HZT];rfl,zh H W⟩
     .have l:=yk S;rw[l]at D;rw[l];have v:=zb (uh D ζ rfl);clear S l D;go_wp2;go_ret;exact⟨by rw[uh v];rfl,H⟩)
  .have J:IntKind.i64.wrap (z0+(i:Int))=z0+(i:Int):=by have:=uh M;unfold IntKind.wrap;simp[IntKind.bits,IntKind.signed];omega
   have tno:(no !=IntKind.i64.wrap (z0+(i:Int)))=ξ:=by rw[J,uh M];simpa using E
   have v:Hid (Z8 n0 i ⟨no,d,a⟩=ζ):=by
    show _=_
    have L:(no ==n0+(i:Int))=ζ:=by simpa using E
    simp[Z8,L]
   clear J E hd hp;go_in;go_wp2_with fail;generalize ((w.alloc (χ #[ς (η ⟨g,0,ν⟩) nv A] 25)).alloc (χ #[ι κ no,.string d,ς B a.length F] 37))=y at *;obtain⟨Y,Z,f2,f3,f4⟩:=uh G y (yI _ _);clear c0 c1 c2;go_quiet (fail);have U:=zb (zh f (GQ y nq));clear Y Z f2 f3 f4 G X f m;go_wp2;go_ret;exact⟨by rw[uh v];rfl,U⟩
