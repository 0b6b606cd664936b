import Derived.Test.YtgoafoojaceadaaGreatDoorRows
import Derived.Lib.SplitLaws
import Derived.BigQuiet
import Derived.Handy
import Derived.Laws.AppendOwnNone
import Derived.Lib.TrimUEq
import Derived.Lib.ValidU
import Derived.Lib.RuneBytes
import Derived.Shelf.Strings.Builder1
import Derived.Shelf.Unicode.DecodeSlow
import Derived.Lib.OthersKept
import Derived.Shelf.Small.Wraps
import Derived.Room.AppendZeros
set_option maxRecDepth 100000
set_option maxHeartbeats 8000000
open Go renaming Calls->δ,Value->ω
open Go.Ending renaming returned->ε
open Go.IntKind renaming i64->κ
open Go.Lib renaming byteCells->Α,byteCells_append->Υ,hasPrefix->Ϛ,index->Ξ,splitK->ϛ,strCells->ϓ,toList_data->Ϝ,trimPrefix->ώ,wpList_append_own_string->ϒ
open Go.Obj renaming cells->χ
open Go.Value renaming agg->γ,bool->θ,int->ι,ownBlock->Ι,pointer->π,slice->ς,string->σ,tuple->τ
open Go.World renaming drewN_drewN->ό,ownsRow_lit->Τ
open _root_.Array renaming getD_eq_getD_getElem?->Δ,getElem?_eq_getElem->Η,getElem?_eq_none->Μ,getElem?_setIfInBounds->ϑ,size_setIfInBounds->ϙ
open _root_.Bool renaming false->ζ,true->ξ
open _root_.ByteArray renaming empty->Β
open _root_.List renaming drop_eq_getElem_cons->ϖ,flatMap_cons->Γ,getD->ϐ,getElem?_append_left->Χ,getElem?_eq_none->Ο,getElem?_eq_some_iff->Ε,isEmpty_eq_false_iff->Ϙ,mapM_cons->ϕ,mem_append->Ω,mem_cons->Ν,mem_flatMap->Ζ,mem_of_getElem?->Θ,mem_range->ϝ,nodup_append->ύ,range->ϔ,take_append_drop->Ϗ
open _root_.Nat renaming add_mul->ϊ,lt_or_ge->ϋ,zero_add->Φ
open _root_.Option renaming none->ν,some->η
open _root_.UInt8 renaming ofNat->Κ,ofNat_toNat->Ρ
namespace Go.Proofs.YtgoafoojaceadaaGreatDoor
open Go.RowKit
abbrev Bs:=ByteArray
abbrev Wo:=World
abbrev Bw(w w':Wo):=Below w.heap.size w w'
abbrev Rk(v:ω)(w:Wo)(e:Ending)(w':Wo):Prop:=e=ε v/\w=w'
abbrev Rb(v:ω)(w:Wo)(e:Ending)(w':Wo):Prop:=e=ε v/\Bw w w'
variable{t:TypeId}{l m acc x y:List UInt8}{B n j g k f i e xb xo size b0 b1 b2 b3 b wd cap id B' rb bytes:Nat}{v v' z:ω}{c d:UInt8}{bl bl' cb:List Nat}{a a0:Act}{ts done us:List (List UInt8)}{xs vs news:List ω}{p:Prop}{o:Oper}{ops:Array Oper}{P:Program}{r:Option Nat}{ps:List (List ω×List Nat)}{D:List Tmp}{X:Nat->Option ω}{xa:Option Addr}{rest:List Oper}
theorem yd.{u}:type_of% @beq_eq_false_iff_ne.{u}:=@beq_eq_false_iff_ne
theorem ye:type_of% @Nat.le_refl:=@Nat.le_refl
theorem yf.{u}:type_of% @if_neg.{u}:=@if_neg
theorem yg.{u}:type_of% @if_pos.{u}:=@if_pos
theorem yh.{u}:type_of% @List.length_append.{u}:=@List.length_append
theorem yi.{u,v}:type_of% @List.map_cons.{u,v}:=@List.map_cons
theorem yj:type_of% @decide_eq_true:=@decide_eq_true
theorem yk:type_of% @decide_eq_false:=@decide_eq_false
theorem yl.{u,v}:type_of% @List.length_map.{u,v}:=@List.length_map
theorem ym.{u}:type_of% @List.length_take.{u}:=@List.length_take
theorem yp.{u}:type_of% @List.length_cons.{u}:=@List.length_cons
theorem yq.{u}:type_of% @List.mem_cons_self.{u}:=@List.mem_cons_self
theorem yr.{u}:type_of% @List.take_of_length_le.{u}:=@List.take_of_length_le
theorem yt.{u}:type_of% @List.getElem_mem.{u}:=@List.getElem_mem
theorem yu:type_of% @Nat.zero_le:=@Nat.zero_le
theorem yv.{u}:type_of% @List.length_drop.{u}:=@List.length_drop
theorem yw.{u}:type_of% @List.mem_cons_of_mem.{u}:=@List.mem_cons_of_mem
theorem yx.{u,v}:type_of% @List.map_append.{u,v}:=@List.map_append
theorem yy.{u}:type_of% @List.getElem?_eq_getElem.{u}:=@List.getElem?_eq_getElem
theorem yz.{u}:type_of% @List.take_succ_eq_append_getElem.{u}:=@List.take_succ_eq_append_getElem
theorem yA.{u,v}:type_of% @Option.map_eq_some_iff.{u,v}:=@Option.map_eq_some_iff
theorem yB.{u,v}:type_of% @Option.bind_some.{u,v}:=@Option.bind_some
theorem yC.{u}:type_of% @Array.getElem?_eq_some_iff.{u}:=@Array.getElem?_eq_some_iff
theorem yD.{u}:type_of% @beq_iff_eq.{u}:=@beq_iff_eq
theorem yE.{u}:type_of% @List.length_nil.{u}:=@List.length_nil
theorem yF:type_of% @Nat.lt_of_lt_of_le:=@Nat.lt_of_lt_of_le
theorem yG:type_of% @Lib.cell_of_heap:=@Lib.cell_of_heap
theorem yH:type_of% @heap_alloc_new:=@heap_alloc_new
theorem yI:type_of% @Below.refl:=@Below.refl
theorem yJ:type_of% @Lib.frozen_of_heap:=@Lib.frozen_of_heap
theorem yK:type_of% @World.block_lt_of_cell?:=@World.block_lt_of_cell?
theorem yL:type_of% @Lib.byteCells_length:=@Lib.byteCells_length
theorem yM.{u}:type_of% @List.sum_cons.{u}:=@List.sum_cons
theorem yO.{u}:type_of% @List.eq_nil_of_length_eq_zero.{u}:=@List.eq_nil_of_length_eq_zero
theorem yP.{u,v}:type_of% @List.mem_map.{u,v}:=@List.mem_map
theorem yQ:type_of% @Nat.le_trans:=@Nat.le_trans
theorem yR:type_of% @eq_false:=@eq_false
theorem yS.{u}:type_of% @List.length_singleton.{u}:=@List.length_singleton
theorem yT.{u}:type_of% @List.append_nil.{u}:=@List.append_nil
theorem yY.{u}:type_of% @List.mem_iff_getElem.{u}:=@List.mem_iff_getElem
instance : Coe Nat Addr := ⟨fun b => ⟨b, 0, ν⟩⟩
instance : Coe Nat ω := ⟨fun b => π (η ⟨b, 0, ν⟩)⟩
instance : Coe World Nat := ⟨fun w => w.heap.size⟩
instance : Coe ByteArray ω := ⟨fun s => .string s⟩
theorem om(h:p:=by omega):p:=h
theorem kr(h:p:=by kernel_rfl):p:=h
theorem dc(h:p:=by decide):p:=h
theorem sm(h:p:=by simp):p:=h
theorem so(h:p:=by simp;omega):p:=h
theorem mo(h:p:=by unfold maxLen;omega):p:=h
theorem Mb{p q:Nat->Bool}:∀ {l:List Nat},(∀ x,q x=ξ->p x=ξ)->(∃ x∈l,p x=ξ/\q x=ζ)->l.countP q+1<=l.countP p
 | [],_,h=>by obtain⟨x,hx,_⟩:=h;cases hx
 | y :: r,hi,h=>by
  have f:r.countP q<=r.countP p:=List.countP_mono_left fun x _=>hi x;obtain⟨x,hx,b,d⟩:=h;rw[List.countP_cons,List.countP_cons];rcases Ν.1 hx with rfl | hx
  .rw[b,d];simp;omega
  .have g:=Mb (l:=r) hi ⟨x,hx,b,d⟩;by_cases a:q y=ξ
   .rw[a,hi y a];simp;omega
   .rw[Bool.not_eq_true]at a;rw[a];cases p y<;>simp<;>omega
def Of(ops:Array Oper):Bool:=(ϔ ops.size).all fun i=>match ops[i]? with | some o=>o.after.all (fun e=>!Region.binds .any e || decide (e.on<i)) | none=>ξ
def Uj(ops:Array Oper)(i j:Nat):Bool:=match ops[i]? with | some o=>o.after.any (fun e=>Region.binds .any e && e.on ==j) | none=>ζ
theorem zbE(h:Of ops=ξ)(ho:ops[i]?=η o){e:Edge}(he:e∈o.after)(hb:Region.binds .any e=ξ):e.on<i:=by
 have d:i<ops.size:=(yC.1 ho).1;have a:=List.all_eq_true.1 h i (ϝ.2 d);simp only[ho]at a;have b:=Array.all_eq_true'.1 a e he;simpa [hb]using b
theorem zbF   {Q:Exit->Act->Wo->Prop}   {w:Wo} (hm:P.follows .mixedOrders=ξ) (hB:Of ops=ξ)
  (I:(Nat->Bool)->Act->Wo->Prop) (h0:I (fun _=>ζ) a w.drew)
  (hs:∀ (L:Nat->Bool) (a:Act) (w:Wo) (i:Nat) (o:Oper),I L a w->ops[i]?=η o->L i=ζ->(∀ j,Uj ops i j=ξ->L j=ξ)->wpOp P ops Q i (I (fun j=>j ==i || L j)) a w)
  (he:∀ (L:Nat->Bool) (a:Act) (w:Wo),I L a w->(∀ i,i<ops.size->L i=ξ)->Q .normal a w):(Code.region id ops ξ).wp P Q a w:=by
 refine wp_region_any hm ?_;have v:∀ (b:Nat) (L:Array Bool) (a:Act) (w:Wo),L.size=ops.size->(ϔ ops.size).countP (fun i=>!L.getD i ξ)<=b->I (fun i=>L.getD i ζ) a w->wpAny P .any ops Q b L a w:=by
  have g:∀ (L:Array Bool),L.size=ops.size->Region.ready .any ops L=[]->∀ i,i<ops.size->L.getD i false=ξ:=by
   intro L r k i;induction i using Nat.strongRecOn with
   | _ i ih=>
    intro z
    cases hx:L.getD i ζ with
    | true=>rfl
    | false=>
     exfalso;have C:i<L.size:=om;have D:L.getD i true=ζ:=by
      rw[Δ,Η C]at hx ⊢;exact hx
     have h:i∈Region.ready .any ops L:=mem_ready.2 ⟨D,ops[i],Η z,fun e he s=>by
      have:=zbE hB (Η z) he s;exact ih e.on this om⟩
     rw[k]at h
     cases h
  intro b;induction b with
  | zero=>
   intro L a w r F y;have k:Region.ready .any ops L=[]:=by
    cases k:Region.ready .any ops L with
    | nil=>rfl
    | cons x xs=>
     exfalso;have hm:x∈Region.ready .any ops L:=by rw[k];exact yq
     obtain⟨m,o,n,-⟩:=mem_ready.1 hm;have G:0<(ϔ ops.size).countP (fun i=>!L.getD i ξ):=List.countP_pos_iff.2 ⟨x,ϝ.2 (yC.1 n).1,by rw[m];rfl⟩;omega
   exact⟨k,he _ a w y (g L r k)⟩
  | succ b ih=>
   intro L a w r F y;refine⟨fun k=>he _ a w y (g L r k),fun i z=>?_⟩;obtain⟨m,o,n,E⟩:=mem_ready.1 z;have B:i<ops.size:=(yC.1 n).1;have u:i<L.size:=om;have f:∀ (j:Nat) (d:Bool),(L.setIfInBounds i ξ).getD j d=(j ==i || L.getD j d):=fun j d=>by
    rw[Δ,Δ,ϑ];by_cases e:i=j
    .subst e;simp[u]
    .rw[yf e];simp[Ne.symm e]
   have A:L.getD i false=ζ:=by
    rw[Δ,Η u]at m ⊢;exact m
   refine wpOp_mono (fun a' w' h'=>?_) (hs _ a w i o y n A fun j hj=>?_)
   .refine ih _ a' w' (by rw[ϙ];exact r) ?_ ?_
    .have:=Mb (l:=ϔ ops.size) (p:=fun i=>!L.getD i ξ) (q:=fun j=>!(L.setIfInBounds i ξ).getD j ξ) (fun x hx=>by rw[f]at hx;simp at hx ⊢;exact hx.2) ⟨i,ϝ.2 B,by rw[m];rfl,by rw[f];simp⟩;omega
    .have:(fun j=>(L.setIfInBounds i ξ).getD j ζ)=fun j=>(j ==i || L.getD j ζ):=funext fun j=>f j ζ;rw[this];exact h'
   .unfold Uj at hj;rw[n]at hj;obtain⟨e,he,s⟩:=Array.any_eq_true'.1 hj;simp only[Bool.and_eq_true,yD]at s;rw[← s.2];exact E e he s.1
 refine v ops.size _ a _ sm ?_ ?_
 .have:=List.countP_le_length (p:=fun i=>!(Array.replicate ops.size ζ).getD i ξ) (l:=ϔ ops.size);simpa using this
 .have:(fun i=>(Array.replicate ops.size ζ).getD i ζ)=fun _=>ζ:=funext fun i=>by
   rw[Δ,Array.getElem?_replicate];split<;>rfl
  rw[this];exact h0
structure Uk(g:Nat)(o:Obj)(w w':Wo):Prop where
 here:w'.heap[g]?=η o
 other:∀ k,k≠g->w'.heap[k]?=w.heap[k]?
 size:w'.heap.size=w.heap.size
 os:w'.os=w.os
 tape:w'.tape=w.tape
 output:w'.output=w.output
theorem Uk.below{o:Obj}{w0 w w':Wo}(h:Uk g o w w')(hb:Below B w0 w)(hg:B<=g):Below B w0 w':=
 ⟨h.os.trans hb.os,h.tape.trans hb.tape,h.output.trans hb.output,h.size ▸ hb.size,fun k hk=>(h.other k om).trans (hb.block k hk)⟩
structure Jb(a0:Act)(D:List Tmp)(X:Nat->Option ω)(a:Act):Prop where
 df:a.defers=a0.defers
 sz:a.tmps.size=a0.tmps.size
 at':∀ i d v,D[i]?=η d->X i=η v->a.tmps.getD d undef=v
 no:∀ t,(∀ i,D[i]?=η t->X i=ν)->a.tmps.getD t undef=a0.tmps.getD t undef
def Gc(X:Nat->Option ω)(i:Nat)(v:ω)(j:Nat):Option ω:=if j=i then η v else X j
theorem Kg(h:j≠i):Gc X i v j=X j:=yf h
theorem Og:Gc X i v i=η v:=yg rfl
theorem zbG(h:D.Nodup){d:Tmp}(hi:D[i]?=η d)(hj:D[j]?=η d):i=j:=by
 obtain⟨g,b⟩:=Ε.1 hi;obtain⟨k,f⟩:=Ε.1 hj;have l:=List.pairwise_iff_getElem.1 h;rcases Nat.lt_trichotomy i j with a | a | a
 .exact absurd (b.trans f.symm) (l i j g k a)
 .exact a
 .exact absurd (f.trans b.symm) (l j i k g a)
theorem Mc(a:Array ω)(d t:Nat)(v:ω)(hd:d<a.size):(a.setIfInBounds d v).getD t undef=if t=d then v else a.getD t undef:=by
 rw[Δ,Δ,ϑ];by_cases e:d=t
 .subst e;simp[hd]
 .rw[yf e,yf (Ne.symm e)]
theorem Jb.init(a0:Act)(D:List Tmp):Jb a0 D (fun _=>ν) a0:=⟨rfl,rfl,fun _ _ _ _ h=>(by cases h),fun _ _=>rfl⟩
theorem Jb.put(h:Jb a0 D X a)(hn:D.Nodup)(hs:∀ d∈D,d<a0.tmps.size){d:Tmp}(hi:D[i]?=η d)(v:ω):Jb a0 D (Gc X i v) (a.put (η d) v):=by
 have g:d<a.tmps.size:=by rw[h.sz];exact hs d (Θ hi)
 refine⟨h.df,by show (a.tmps.setIfInBounds d v).size=_;rw[ϙ];exact h.sz,fun j e u hj hu=>?_,fun t ht=>?_⟩
 .show (a.tmps.setIfInBounds d v).getD e undef=u
  rw[Mc _ _ _ _ g];by_cases b:j=i
  .subst b;rw[hi]at hj;injection hj with hj;subst hj;rw[Og]at hu;injection hu with hu;rw[yg rfl,hu]
  .rw[Kg b]at hu;rw[yf (fun e2:e=d=>b (zbG hn hj (by rw[e2];exact hi))),h.at' j e u hj hu]
 .show (a.tmps.setIfInBounds d v).getD t undef=_
  rw[Mc _ _ _ _ g];have f:t≠d:=fun e=>by
   subst e;have:=ht i hi;rw[Og]at this
   cases this
  rw[yf f];exact h.no t fun j hj=>by
   have:=ht j hj;by_cases b:j=i
   .subst b;rw[hi]at hj;injection hj with hj;exact absurd hj.symm f
   .rwa [Kg b]at this
theorem Jb.uniq{a':Act}{X':Nat->Option ω}(h:Jb a0 D X a)(k:Jb a0 D X' a')(he:∀ i,i<D.length->X i=X' i):a=a':=by
 have m:∀ t,a.tmps.getD t undef=a'.tmps.getD t undef:=fun t=>by
  by_cases hx:∃ i,D[i]?=η t/\X i≠ν
  .obtain⟨i,b,hx⟩:=hx;obtain⟨v,j⟩:=Option.ne_none_iff_exists'.1 hx;rw[h.at' i t v b j,k.at' i t v b (by rw[← he i (Ε.1 b).1];exact j)]
  .have d:∀ i,D[i]?=η t->X i=ν:=fun i b=>Decidable.byContradiction fun hc=>hx ⟨i,b,hc⟩;rw[h.no t d,k.no t fun i b=>by rw[← he i (Ε.1 b).1];exact d i b]
 have n:a.tmps.size=a'.tmps.size:=h.sz.trans k.sz.symm;have g:a.tmps=a'.tmps:=by
  apply Array.ext n;intro t d l;have:=m t;rw[Δ,Δ,Η d,Η l]at this;exact this
 have f:a.defers=a'.defers:=h.df.trans k.df.symm
 cases a;cases a';simp only at g f;rw[g,f]
theorem Md{w:Wo}{h:Nat}{cs ds:Array ω}{u:TypeId}(hg:w.heap[g]?=η (χ cs t (0,0)))(hh:w.heap[h]?=η (χ ds u (0,0)))(ht:t≠u):g≠h:=fun e=>by
 subst e;rw[hg]at hh;injection hh with hh;injection hh with _ e _;exact ht e
theorem zbH{Q:Exit->Act->Wo->Prop}{K:Act->Wo->Prop}{w:Wo}(ho:ops[i]?=η o)(hg:o.guard=ν)(h:o.wp P a w K Q):wpOp P ops Q i K a w:=by
 unfold wpOp;rw[ho];have b:Region.wanted o (yielded ops a.tmps)=ξ:=by simp[Region.wanted,hg]
 simp only[b,if_true];exact .inl h
theorem GR{w w':Wo}{K:Act->Wo->Prop}{Q:Exit->Act->Wo->Prop}(hr:(execOp a.eval o).run P w= .ok (.value v) w')(h:K (a.put o.dst v) w'):o.wp P a w K Q:=by
 unfold Oper.wp;rw[hr];exact h
theorem zbI{w w':Wo}{K:Act->Wo->Prop}{Q:Exit->Act->Wo->Prop}(hd:o.dst=ν)(hr:(execOp a.eval o).run P w= .ok .skip w')(h:K a w'):o.wp P a w K Q:=by
 unfold Oper.wp;rw[hr];show K (a.put o.dst undef) w';rw[hd];exact h
theorem Oh{w w':Wo}{K:Act->Wo->Prop}{Q:Exit->Act->Wo->Prop}{f:FuncId}{args:Array ω}{R:ω->Wo->Prop}(hr:(execOp a.eval o).run P w= .ok (.enter f args) w')(hc:δ P f args w' fun e w''=>∃ v,e=ε v/\R v w'')(h:∀ v w'',R v w''->K (a.put o.dst v) w''):o.wp P a w K Q:=by
 unfold Oper.wp;rw[hr];refine hc.mono ?_;rintro e w'' ⟨v,rfl,b⟩;exact h v w'' b
structure RK(D:List Tmp)(a0:Act)(nF k G:Nat)(Tt:Nat->TypeId)(Zt:Nat->Array ω)(sr:Nat->Nat)(Ψ:(Nat->Option ω)->Wo->Prop)(L:Nat->Bool)(X:Nat->Option ω)(a:Act)(w:Wo):Prop where
 li:∀ i,i<nF+k->L i=(X i).isSome
 fl:Jb a0 D X a
 ps:Ψ X w
 bl:∀ i,i<k->∀ v,X (nF+i)=η v->∃ g cs,v=π (η ⟨g,0,ν⟩)/\G<=g/\w.heap[g]?=η (χ cs (Tt i) (0,0))/\(L (nF+k+i)=ζ->cs=Zt i)/\(L (nF+k+i)=ξ->X (sr i)=η (.agg cs))
 st:∀ i,i<k->L (nF+k+i)=ξ->L (nF+i)=ξ
theorem zbJ   {Q:Exit->Act->Wo->Prop}   {w:Wo}  {nF G:Nat} {Tt:Nat->TypeId} {Zt:Nat->Array ω} {sr:Nat->Nat} {Ψ:(Nat->Option ω)->Wo->Prop}
  (hm:P.follows .mixedOrders=ξ) (hB:Of ops=ξ) (hn:D.Nodup) (hz:∀ d∈D,d<a0.tmps.size) (hD:D.length=nF+k) (ho:ops.size=nF+k+k) (hT:∀ i j,i<k->j<k->i≠j->Tt i≠Tt j) (hsr:∀ i,i<k->sr i<nF)
  (hg:∀ (i:Nat) (o:Oper),ops[i]?=η o->o.guard=ν/\o.dst=D[i]?) (hd:∀ i,i<k->Uj ops (nF+k+i) (nF+i)=ξ/\Uj ops (nF+k+i) (sr i)=ξ)
  (h0:Ψ (fun _=>ν) w.drew) (hG:∀ X (w':Wo),Ψ X w'->G<=w'.heap.size) (s1:∀ X (w':Wo) i,i<k->Ψ X w'->Ψ X (w'.alloc (χ (Zt i) (Tt i)))) (sx:∀ X (w':Wo) i v,i<k->Ψ X w'->Ψ (Gc X (nF+i) v) w')
  (s2:∀ X (w1 w2:Wo) g cs ds i,i<k->G<=g->Ψ X w1->w1.heap[g]?=η (χ cs (Tt i) (0,0))->Uk g (χ ds (Tt i) (0,0)) w1 w2->Ψ X w2)
  (ra:∀ i (o:Oper),i<k->ops[nF+i]?=η o->∀ (b:Act) (w':Wo),(execOp b.eval o).run P w'= .ok (.value (π (η ⟨w',0,ν⟩))) (w'.alloc (χ (Zt i) (Tt i))))
  (rs:∀ i (o:Oper),i<k->ops[nF+k+i]?=η o->∀ X b (w':Wo) g v,Jb a0 D X b->Ψ X w'->X (nF+i)=η (π (η ⟨g,0,ν⟩))->X (sr i)=η v->w'.heap[g]?=η (χ (Zt i) (Tt i) (0,0))->∃ ds w2,v= .agg ds/\(execOp b.eval o).run P w'= .ok .skip w2/\Uk g (χ ds (Tt i) (0,0)) w' w2)
  (fr:∀ n (o:Oper),n<nF->ops[n]?=η o->∀ X b (w':Wo),Jb a0 D X b->Ψ X w'->X n=ν->(∀ j,j<nF->Uj ops n j=ξ->∃ v,X j=η v)->o.wp P b w' (fun b' (w2:Wo)=>∃ v,b'=b.put o.dst v/\Ψ (Gc X n v) w2/\∀ (g:Nat) cs i,i<k->w'.heap[g]?=η (Obj.cells cs (Tt i) (0,0))->w2.heap[g]?=η (Obj.cells cs (Tt i) (0,0))) Q)
  (fin:∀ X b (w':Wo),Jb a0 D X b->Ψ X w'->(∀ i,i<nF+k->∃ v,X i=η v)->(∀ i,i<k->∃ g cs,X (nF+i)=η (π (η ⟨g,0,ν⟩))/\G<=g/\w'.heap[g]?=η (χ cs (Tt i) (0,0))/\X (sr i)=η (.agg cs))->Q .normal b w'):
  (Code.region id ops ξ).wp P Q a0 w:=by
 have l:∀ {x:Option ω},x.isSome=ξ->∃ v,x=η v:=fun h=>Option.isSome_iff_exists.1 h;refine zbF hm hB (fun L a w=>∃ X,RK D a0 nF k G Tt Zt sr Ψ L X a w) ⟨fun _=>ν,fun _ _=>rfl,Jb.init _ _,h0,fun _ _ _ h=>(by cases h),fun _ _ h=>(by cases h)⟩ ?_ ?_
 .rintro L a w' n o ⟨X,h⟩ r y B;obtain⟨T,C⟩:=hg n o r;have hns:n<ops.size:=(yC.1 r).1;refine zbH r T ?_
  -- what stays of the other variables
  have up:∀ {s:Nat->Option ω} {w2:Wo} {M:Act},(∀ i,i<nF+k->(i ==n || L i)=(s i).isSome)->Jb a0 D s M->Ψ s w2->(∀ i,i<nF+k->i≠n->s i=X i)->(∀ g cs i,i<k->w'.heap[g]?=η (χ cs (Tt i) (0,0))->X (nF+i)=η (π (η ⟨g,0,ν⟩))->n≠nF+k+i->w2.heap[g]?=η (χ cs (Tt i) (0,0))) ->
    (∀ i,i<k->(n=nF+i->∃ g,s (nF+i)=η (π (η ⟨g,0,ν⟩))/\G<=g/\w2.heap[g]?=η (χ (Zt i) (Tt i) (0,0)))/\(n=nF+k+i->∃ g cs,s (nF+i)=η (π (η ⟨g,0,ν⟩))/\G<=g/\w2.heap[g]?=η (χ cs (Tt i) (0,0))/\s (sr i)=η (.agg cs)/\L (nF+i)=ξ))->RK D a0 nF k G Tt Zt sr Ψ (fun j=>j ==n || L j) s M w2:=by
   intro s w2 M E K e3 Y e5 N;refine⟨E,K,e3,fun i f v q=>?_,fun i f A=>?_⟩
   .by_cases c1:n=nF+i
    .obtain⟨g,F,p,u⟩:=(N i f).1 c1;rw[F]at q;injection q with q;have A:L (nF+k+i)=ζ:=by
      cases A:L (nF+k+i)with
      | false=>rfl
      | true=>have:=h.st i f A;rw[← c1,y]at this;cases this
     refine⟨g,_,q.symm,p,u,fun _=>rfl,fun m=>?_⟩;rw[A,yd.2 om]at m;cases m
    .by_cases c2:n=nF+k+i
     .obtain⟨g,cs,F,p,u,O,-⟩:=(N i f).2 c2;rw[F]at q;injection q with q;exact⟨g,cs,q.symm,p,u,fun m=>by rw[c2]at m;simp at m,fun _=>O⟩
     .rw[Y _ om (Ne.symm c1)]at q;obtain⟨g,cs,rfl,p,u,O,R⟩:=h.bl i f v q;have hb:(nF+k+i ==n || L (nF+k+i))=L (nF+k+i):=by rw[yd.2 (Ne.symm c2)];rfl
      rw[hb];refine⟨g,cs,rfl,p,e5 g cs i f u q c2,O,fun m=>?_⟩;have Z:=R m;rw[Y _ (by have:=hsr i f;omega) (fun e=>by have:=h.li (sr i) (by have:=hsr i f;omega);rw[e,y,← e,Z]at this;cases this)];exact Z
   .by_cases c2:n=nF+k+i
    .rw[((N i f).2 c2).choose_spec.choose_spec.2.2.2.2];simp
    .rw[yd.2 (Ne.symm c2)]at A;rw[h.st i f A];simp
  have J:∀ {v:ω} {i:Nat},n<nF+k->i<nF+k->(i ==n || L i)=(Gc X n v i).isSome:=fun {v i} _ f=>by
   by_cases e:i=n
   .rw[e,Og];simp
   .rw[Kg e,yd.2 e,← h.li i f];rfl
  have S:n<nF+k->X n=ν:=fun A=>by
   have:=h.li n A;rw[y]at this;exact Option.not_isSome_iff_eq_none.1 (by rw[← this];simp)
  rcases ϋ n nF with c | c
  .refine Oper.wp_mono ?_ (fr n o c r X a w' h.fl h.ps (S om) fun j hj hj'=>l (by rw[← h.li j om];exact B j hj'));rintro b' w2 ⟨v,rfl,F,u⟩;rw[C,yy om];exact⟨Gc X n v,up (fun i f=>J om f) (h.fl.put hn hz (yy om) v) F (fun i _ e=>Kg e) (fun g cs i f m _ _=>u g cs i f m) fun i f=>⟨fun e=>om,fun e=>om⟩⟩
  .rcases ϋ n (nF+k)with W | W
   .obtain⟨i,rfl⟩:∃ i,n=nF+i:=⟨n - nF,om⟩;have f:i<k:=om;refine GR (ra i o f r a w') ?_;rw[C,yy om];refine⟨Gc X (nF+i) _,up (fun j hj=>J W hj) (h.fl.put hn hz (yy om) _) (sx _ _ i _ f (s1 _ _ i f h.ps)) (fun j _ e=>Kg e) (fun g cs j hj m _ _=>?_) fun j hj=>⟨fun e=>?_,fun e=>om⟩⟩
    .exact (Below.heap_alloc w' _ _ (yC.1 m).1).trans m
    .obtain rfl:j=i:=by omega
     exact⟨_,Og,hG X w' h.ps,yH w' _⟩
   .obtain⟨i,rfl⟩:∃ i,n=nF+k+i:=⟨n - (nF+k),om⟩;have f:i<k:=om;obtain⟨d1,d2⟩:=hd i f;have l1:=B _ d1;have l2:=B _ d2;have hs1:=hsr i f;obtain⟨v1,E⟩:=l (x:=X (nF+i)) (by rw[← h.li _ om];exact l1);obtain⟨v2,K⟩:=l (by rw[← h.li (sr i) om];exact l2);obtain⟨g,cs,rfl,H,m,V,-⟩:=h.bl i f v1 E;obtain rfl:=V y;obtain⟨ds,w2,rfl,I,U⟩:=rs i o f r X a w' g v2 h.fl h.ps E K m;refine zbI (by rw[C,Ο om]) I ⟨X,up (fun j hj=>?_) h.fl (s2 X w' w2 g _ ds i f H h.ps m U) (fun j _ _=>rfl) (fun g' cs' j hj hc' _ hne=>?_) fun j hj=>⟨fun e=>om,fun e=>?_⟩⟩
    .rw[yd.2 om,← h.li j hj];rfl
    .exact (U.other g' (Md hc' m (hT j i hj f om))).trans hc'
    .obtain rfl:j=i:=by omega
     exact⟨g,ds,E,H,U.here,K,l1⟩
 .rintro L a w' ⟨X,h⟩ z;have hs:∀ i,i<nF+k->∃ v,X i=η v:=fun i f=>l (by rw[← h.li i f];exact z i om);refine fin X a w' h.fl h.ps hs fun i f=>?_;obtain⟨v,q⟩:=hs (nF+i) om;obtain⟨g,cs,rfl,p,u,-,R⟩:=h.bl i f v q;exact⟨g,cs,q,p,u,R (z _ om)⟩
def Ul(a0:Act)(D:List Tmp)(vs:List ω):Nat->Act
 | 0=>a0
 | n+1=>(Ul a0 D vs n).put D[n]? (vs[n]?.getD undef)
theorem Me(hn:D.Nodup)(hz:∀ d∈D,d<a0.tmps.size)(hl:vs.length=D.length):∀ n,n<=D.length->Jb a0 D (fun i=>if i<n then vs[i]? else ν) (Ul a0 D vs n)
 | 0,_=>by simpa [Ul]using Jb.init a0 D
 | n+1,h=>by
  have h1:=(Me hn hz hl n om).put hn hz (yy (show n<D.length by omega)) (vs[n]'om);have e:Gc (fun i=>if i<n then vs[i]? else ν) n (vs[n]'om)=fun i=>if i<n+1 then vs[i]? else ν:=funext fun i=>by
   unfold Gc;by_cases c:i=n
   .subst c;rw[yg rfl,yg om,yy]
   .rw[yf c];show (if i<n then vs[i]? else ν)=_
    by_cases a:i<n
    .rw[yg a,yg om]
    .rw[yf a,yf om]
  rw[e]at h1;rw[Ul,yy (show n<D.length by omega),yy (show n<vs.length by omega)];exact h1
theorem Jb.fin{b:Act}(h:Jb a0 D X b)(hn:D.Nodup)(hz:∀ d∈D,d<a0.tmps.size)(vs:List ω)(hl:vs.length=D.length)(hX:∀ i,i<D.length->X i=vs[i]?):b=Ul a0 D vs D.length:=
 h.uniq (Me hn hz hl _ (ye _)) fun i hi=>by rw[hX i hi,yg hi]
structure SS(w:Wo)(xa:Option Addr)(xb xo:Nat)(ss:List Bs):Prop where
 ad:0<ss.length->xa=η ⟨xb,xo,ν⟩
 cell:∀ j,j<ss.length->w.cell? ⟨xb,xo+j,ν⟩=η (σ (ss.getD j Β))
theorem SS.below{w w':Wo}{ss:List Bs}(h:SS w xa xb xo ss)(hb:Below w w w'):SS w' xa xb xo ss:=
 ⟨h.ad,fun j hj=>(hb.cell (p:=⟨xb,xo+j,ν⟩) (yK _ _ (h.cell j hj))).trans (h.cell j hj)⟩
theorem zh{w w1 w2:Wo}(h:Below w w w1)(k:Below w1 w1 w2):Below w w w2:=h.trans (k.mono h.size)
def qU(ss:List Bs):Nat:=(ss.map ByteArray.size).sum
theorem Oi{ss:List Bs}(hj:j<ss.length):ss.take (j+1)=ss.take j++[ss.getD j Β]:=by
 rw[List.take_add_one,yy hj];simp[ϐ,hj]
theorem zbK(ss:List Bs)(s:Bs):qU (ss++[s])=qU ss+s.size:=by simp[qU]
theorem zbL(ss:List Bs)(k:Nat):qU (ss.take k)<=qU ss:=by
 have h:qU ss=qU (ss.take k)+qU (ss.drop k):=by
  unfold qU;rw[← List.sum_append,← yx,Ϗ]
 omega
theorem zb(h:p):Hid p:=h
theorem uh(h:Hid p):p:=h
theorem Zw{w:Wo}{a:ω}{f:Nat×Nat}(h:w.heap[g]?=η (χ #[a] t f)):w.cell? g=η a:=yG h 0
theorem Oj{w:Wo}{a b:ω}{f:Nat×Nat}(h:w.heap[g]?=η (χ #[a,b] t f)):w.cell? g=η a/\w.cell? ⟨g,1,ν⟩=η b:=⟨yG h 0,yG h 1⟩
theorem JS{w:Wo}{a b c:ω}{f:Nat×Nat}(h:w.heap[g]?=η (χ #[a,b,c] t f)):w.cell? g=η a/\w.cell? ⟨g,1,ν⟩=η b/\w.cell? ⟨g,2,ν⟩=η c:=⟨yG h 0,yG h 1,yG h 2⟩
theorem YD{w:Wo}{a b c d:ω}{f:Nat×Nat}(h:w.heap[g]?=η (χ #[a,b,c,d] t f)):w.cell? g=η a/\w.cell? ⟨g,1,ν⟩=η b/\w.cell? ⟨g,2,ν⟩=η c/\w.cell? ⟨g,3,ν⟩=η d:=⟨yG h 0,yG h 1,yG h 2,yG h 3⟩
theorem Um{k:IntKind}{a b:Int}(h:a=b):Ending.returned (.int k a)=ε (.int k b):=by rw[h]
def Jp(c:UInt8):List UInt8:=if c.toNat=126 then [126,48]else if c.toNat=47 then [126,49]else [c]
def Zg(l:List UInt8):List UInt8:=l.flatMap Jp
def ZA(ss:List Bs):List UInt8:=ss.flatMap (fun s=>47 :: Zg s.data.toList)
theorem zbM(c:UInt8):(Jp c).length<=2:=by unfold Jp;split<;>(try split)<;>simp
theorem Un(l:List UInt8):(Zg l).length<=2*l.length:=by
 induction l with
 | nil=>simp[Zg]
 | cons c l ih=>have:=zbM c;simp only[Zg,Γ,yh,yp]at *;omega
theorem Mf(l:List UInt8)(c:UInt8):Zg (l++[c])=Zg l++Jp c:=by simp[Zg]
theorem Mg(ss:List Bs)(s:Bs):ZA (ss++[s])=ZA ss++47 :: Zg s.data.toList:=by simp[ZA]
theorem Zo(s:Bs):s.data.toList.length=s.size:=Array.length_toList
theorem Mh(ss:List Bs):(ZA ss).length<=ss.length+2*qU ss:=by
 induction ss with
 | nil=>simp[ZA,qU]
 | cons s ss ih=>
  have:=Un s.data.toList;have e:=Zo s;simp only[ZA,qU,Γ,yh,yp,yi,yM]at *;omega
theorem Kh(s:Bs)(k:Nat)(h:k<s.size):s.data.toList.take (k+1)=s.data.toList.take k++[s[k]]:=by
 rw[yz (by simpa using h)];rfl
theorem Ol(s:Bs):s.data.toList.take s.size=s.data.toList:=yr (Nat.le_of_eq (Zo s))
theorem XR{ss:List Bs}(hj:j<ss.length):qU (ss.take j)+(ss.getD j Β).size<=qU ss:=by
 have:=zbL ss (j+1);rw[Oi hj,zbK]at this;exact this
theorem Re(h:(c.toNat:Int)=126):Jp c=[126,48]:=by unfold Jp;rw[yg om]
theorem Rf(h:(c.toNat:Int)=47):Jp c=[126,49]:=by unfold Jp;rw[yf om,yg om]
theorem XS(h:¬ (c.toNat:Int)=126)(h':¬ (c.toNat:Int)=47):Jp c=[c]:=by unfold Jp;rw[yf om,yf om]
theorem Uo:(Tryz.prog.info? 5).map (fun i=>(i.zero,i.size,i.bytes))=η (η (.int .u8 0),1,1):=by kernel_rfl
theorem Om(hj:j<l.length):(Α l)[j]?=η (.int .u8 (l[j].toNat:Int)):=by simp[Α,hj]
theorem QU(w:Wo)(t:TypeId)(x:ω):∀ j u,[x][j]?=η u->(w.alloc (χ #[x] t)).cell? ((w:Addr).add j)=η u:=by
 intro j u a
 match j,a with
 | 0,a=>simp at a;subst a;simp[Addr.add]
theorem Vs(w:Wo)(t:TypeId)(x y:ω):∀ j u,[x,y][j]?=η u->(w.alloc (χ #[x,y] t)).cell? ((w:Addr).add j)=η u:=by
 intro j u a
 match j,a with
 | 0,a=>simp at a;subst a;simp[Addr.add]
 | 1,a=>simp at a;subst a;simp[Addr.add]
theorem Vt(k:IntKind)(a:Int):∀ u∈[Value.int k a],u.oneCell'=ξ:=by intro u b;simp at b;subst b;rfl
theorem GT(k:IntKind)(a b:Int):∀ u∈[Value.int k a,Value.int k b],u.oneCell'=ξ:=by
 intro u d;simp at d;rcases d with rfl | rfl<;>rfl
theorem Qk{w1:Wo}(h:w1.ownsRow B e 1 v' ((Α l).length+k) (Α l++news))(hn:news=Α m)(hk:k=m.length):
  w1.ownsRow B e 1 v' (Α (l++m)).length (Α (l++m)):=by
 subst hn;subst hk;rw[Υ];have:(Α l++Α m).length=(Α l).length+m.length:=by simp[Α]
 rw[this];exact h
theorem Up{w:Wo}(h:w.ownsRow B 5 1 v (Α l).length (Α l)):(convert 22 9 v).run Tryz.prog w= .ok (σ ⟨l.toArray⟩) w:=by
 have i:=yL l;rcases h.2 with ⟨b,k⟩ |⟨g,a,d,b,_⟩
 .have f:l=[]:=yO om;subst b;subst f;exact run_convert_bytes_nil (P:=Tryz.prog) w 22 5 Tryz.underlying22 Tryz.underlying5 0 0 9 Tryz.underlying9
 .subst b;rw[i]at h ⊢;exact run_convert_bytes_back (P:=Tryz.prog) w 22 9 5 g a l Tryz.underlying22 Tryz.underlying5 Tryz.underlying9 (fun j hj=>by
   rw[show ((g:Addr).add j)=⟨g,j,ν⟩from by simp[Addr.add];omega,h.cellAt j om];exact Om hj)
def zQ:List UInt8->Option (List UInt8)
 | []=>η []
 | c :: r=>
  if c.toNat=126 then
   match r with
   | []=>ν
   | d :: r'=>if d.toNat=48 then (zQ r').map (126 :: ·)else if d.toNat=49 then (zQ r').map (47 :: ·)else ν
  else (zQ r).map (c :: ·)
theorem Ki(r:List UInt8)(h:¬ (c.toNat:Int)=126):zQ (c :: r)=(zQ r).map ([c]++·):=by
 rw[zQ.eq_def];simp only;rw[yf om];rfl
theorem XT(h:(c.toNat:Int)=126):zQ [c]=ν:=by
 rw[zQ.eq_def];simp only;rw[yg om]
theorem Kj(r:List UInt8)(h:(c.toNat:Int)=126)(h':(d.toNat:Int)=48):zQ (c :: d :: r)=(zQ r).map ([126]++·):=by
 rw[zQ.eq_def];simp only;rw[yg om,yg om];rfl
theorem Kk(r:List UInt8)(h:(c.toNat:Int)=126)(h':(d.toNat:Int)=49):zQ (c :: d :: r)=(zQ r).map ([47]++·):=by
 rw[zQ.eq_def];simp only;rw[yg om,yf om,yg om];rfl
theorem XU(r:List UInt8)(h:(c.toNat:Int)=126)(h':¬ (d.toNat:Int)=48)(h'':¬ (d.toNat:Int)=49):zQ (c :: d :: r)=ν:=by
 rw[zQ.eq_def];simp only;rw[yg om,yf om,yf om]
def JT(l:List UInt8)(j:Nat)(acc:List UInt8):Prop:=zQ l=(zQ (l.drop j)).map (acc++·)
theorem JT.start(l:List UInt8):JT l 0 []:=by simp[JT]
theorem JT.step(h:JT l j acc)(hs:zQ (l.drop j)=(zQ (l.drop k)).map (m++·)):JT l k (acc++m):=by
 unfold JT at *;rw[h,hs,Option.map_map];congr 1;funext x;simp
theorem JT.bad(h:JT l j acc)(hs:zQ (l.drop j)=ν):zQ l=ν:=by
 unfold JT at h;rw[h,hs];rfl
theorem JT.fin(h:JT l j acc)(hj:l.length<=j):zQ l=η acc:=by
 unfold JT at h;rw[h,List.drop_eq_nil_of_le hj];simp[zQ]
theorem QV(s:Bs)(j:Nat)(h:j<s.size):s.data.toList.drop j=s[j] :: s.data.toList.drop (j+1):=by
 rw[ϖ (by rw[Zo];exact h)];rfl
theorem Kl(s:Bs)(j:Nat)(h:¬ j<s.size):s.data.toList.drop j=[]:=List.drop_eq_nil_of_le (by rw[Zo];omega)
def On(o:Option (List UInt8)):ω:=.tuple #[σ ⟨(o.getD []).toArray⟩,θ o.isSome]
def ZY:List UInt8->List (List UInt8)
 | []=>[[]]
 | c :: r=>if c.toNat=47 then [] :: ZY r else (match ZY r with | []=>[[c]] | p :: ps=>(c :: p) :: ps)
theorem WA(l:List UInt8):ZY l≠[]:=by
 cases l with
 | nil=>simp[ZY]
 | cons c r=>
  rw[ZY];split
  .simp
  .split<;>simp
theorem WB(r:List UInt8)(h:c.toNat=47):ZY (c :: r)=[] :: ZY r:=by rw[ZY,yg h]
theorem Gd{r p:List UInt8}{ps:List (List UInt8)}(h:¬ c.toNat=47)(hr:ZY r=p :: ps):ZY (c :: r)=(c :: p) :: ps:=by rw[ZY,yf h,hr]
theorem Mi:∀ l:List UInt8,ϛ [47] 0 (Lib.count l [47]) l=ZY l
 | []=>by rw[Lib.count_miss (by simp[Ξ])];rfl
 | c :: r=>by
  have ih:=Mi r;by_cases h:c=47
  .subst h;have a:Ξ (47 :: r) [47]=((0:Nat):Int):=by rw[Ξ];simp[List.isPrefixOf]
   rw[Lib.count_cons_eq,Nat.add_comm,ϛ,a];rw[WB r dc,← ih];simp
  .have k:([47]:List UInt8).isPrefixOf (c :: r)=ζ:=by simp[List.isPrefixOf,Ne.symm h]
   have a:Ξ (c :: r) [47]=if Ξ r [47] == -1 then -1 else Ξ r [47]+1:=by rw[Ξ,k];simp
   have g:¬ c.toNat=47:=fun e=>h (by have:=Ρ (x:=c);rw[e]at this;exact this.symm);rw[Lib.count_cons_ne c 47 r h];by_cases f:Ξ r [47]= -1
   .rw[Lib.count_miss f]at ih ⊢;rw[ϛ]at ih ⊢;rw[Gd g ih.symm]
   .have i:=Lib.index_ge r [47];obtain⟨j,d⟩:∃ j:Nat,Ξ r [47]=j:=⟨(Ξ r [47]).toNat,om⟩;have b:Ξ (c :: r) [47]=((j+1:Nat):Int):=by rw[a,yf (fun e=>f (yD.1 e)),d];omega
    rw[Lib.count_hit sm d,Nat.add_comm]at ih ⊢;rw[ϛ,d]at ih;rw[ϛ,b];rw[yf (fun e=>by have:=yD.1 e;omega)]at ih ⊢;simp only[Int.toNat_natCast,Nat.add_zero]at ih ⊢;rw[Gd g ih.symm];simp
theorem zbN(s:Bs):(Lib.splitB ⟨#[47]⟩ 0 (Lib.countB s ⟨#[47]⟩) s).map (·.data.toList)=ZY s.data.toList:=by
 rw[Lib.splitB_data];exact Mi _
def Jg(l:List UInt8):Option (List (List UInt8)):=(ZY l).mapM zQ
def zH:List UInt8->Option (List (List UInt8))
 | []=>η []
 | c :: r=>if c.toNat=47 then Jg r else ν
theorem Zh{w w1:Wo}(h:w.ownsRow B e size v n xs)(hb:Below w w w1):w1.ownsRow B e size v n xs:=by
 refine⟨h.1,?_⟩;rcases h.2 with f |⟨g,a,b,j,i,d,r⟩
 .exact .inl f
 .exact .inr ⟨g,a,b,j,i,(hb.block g (yC.1 d).1).trans d,r⟩
theorem qH{w:Wo}(h:w.ownsRow B e size v n xs)(hB:B'<=B):w.ownsRow B' e size v n xs:=by
 refine⟨h.1,?_⟩;rcases h.2 with d |⟨g,a,b,i,f,r⟩
 .exact .inl d
 .exact .inr ⟨g,a,b,i,yQ hB f,r⟩
theorem GU:(Tryz.prog.info? 9).map (fun i=>(i.zero,i.size,i.bytes))=η (η (σ Β),1,16):=by kernel_rfl
def QJ(t:List UInt8):ω:=σ ⟨t.toArray⟩
abbrev OT(w:Wo)(B:Nat)(v:ω)(ts:List (List UInt8)):Prop:=w.ownsRow B 9 1 v ts.length (ts.map QJ)
def zG(t:List UInt8):Bs:=⟨t.toArray⟩
theorem OT.shape{w:Wo}(h:OT w B v ts):∃ a g cap,v=ς a ts.length cap/\SS w a g 0 (ts.map zG)/\(0<ts.length->B<=g):=by
 rcases h.2 with ⟨b,f⟩ |⟨g,cap,d,b,i,k,_⟩
 .exact⟨ν,0,0,by rw[b,f],⟨fun h=>by rw[yl]at h;omega,fun j hj=>by rw[yl]at hj;omega⟩,fun h=>om⟩
 .refine⟨η g,g,cap,b,⟨fun _=>rfl,fun j hj=>?_⟩,fun _=>i⟩;subst b;rw[yl]at hj;rw[Φ,h.cellAt j om];simp[QJ,zG,hj]
theorem Ge(s:Bs):∀ u∈[Value.string s],u.oneCell'=ξ:=by intro u a;simp at a;subst a;rfl
theorem OT.step{w:Wo}{t:List UInt8}(h:w.ownsRow B 9 1 v (ts.length+1) (ts.map QJ++[QJ t])):OT w B v (ts++[t]):=by
 unfold OT;rw[yh,yx];exact h
theorem Rg(t:List UInt8):On (η t)= .tuple #[(zG t),θ ξ]:=rfl
theorem Rh:On none= .tuple #[σ ⟨#[]⟩,θ ζ]:=rfl
def Ju(l:List UInt8)(f k:Nat):Prop:=∀ m,f<=m->m<k->∀ c,l[m]?=η c->¬ c.toNat=47
theorem Mj{p:List UInt8}(hp:∀ c∈p,¬ c.toNat=47)(hc:c.toNat=47)(r:List UInt8):ZY (p++c :: r)=p :: ZY r:=by
 induction p with
 | nil=>exact WB r hc
 | cons a p ih=>
  have:=ih (fun c hc=>hp c (yw _ hc));exact Gd (hp a yq) this
theorem Mk{p:List UInt8}(hp:∀ c∈p,¬ c.toNat=47):ZY p=[p]:=by
 induction p with
 | nil=>rfl
 | cons a p ih=>
  have:=ih (fun c hc=>hp c (yw _ hc));exact Gd (hp a yq) this
theorem Ju.piece(h:Ju l f k):∀ c∈(l.drop f).take (k - f),¬ c.toNat=47:=by
 intro c a;obtain⟨i,b,rfl⟩:=yY.1 a;rw[ym,yv]at b;refine h (f+i) om om _ ?_;rw[List.getElem_take,List.getElem_drop,yy om]
theorem Ju.cut(h:Ju l f k)(hfk:f<=k)(hk:k<l.length)(hc:l[k].toNat=47):ZY (l.drop f)=(l.drop f).take (k - f) :: ZY (l.drop (k+1)):=by
 have e:l.drop f=(l.drop f).take (k - f)++l[k] :: l.drop (k+1):=by
  have a:=(Ϗ (k - f) (l.drop f)).symm;rw[List.drop_drop,show f+(k - f)=k from by omega,ϖ hk]at a;exact a
 have b:=Mj h.piece hc (l.drop (k+1));rw[← e]at b;exact b
theorem Ju.last(h:Ju l f l.length):ZY (l.drop f)=[l.drop f]:=by
 have a:=h.piece;rw[yr (by rw[yv];omega)]at a;exact Mk a
theorem Ju.snoc(h:Ju l f k)(hk:k<l.length)(hc:¬ l[k].toNat=47):Ju l f (k+1):=by
 intro m b d c a;by_cases e:m=k
 .subst e;rw[yy hk]at a;simp at a;subst a;exact hc
 .exact h m b om c a
theorem Ju.none(l:List UInt8)(k:Nat):Ju l k k:=fun m h1 h2=>by omega
theorem Oo{p:List UInt8}{ps:List (List UInt8)}(h:ZY l=p :: ps):Jg l=(zQ p).bind fun t=>(ps.mapM zQ).map (t :: ·):=by
 unfold Jg;rw[h,ϕ]
 cases zQ p with
 | none=>rfl
 | some t=>cases List.mapM zQ ps<;>rfl
def Yk(l:List UInt8)(f:Nat)(done:List (List UInt8)):Prop:=Jg (l.drop 1)=(Jg (l.drop f)).map (done++·)
theorem Yk.cut{t:List UInt8}(h:Yk l f done)(hn:Ju l f k)(hfk:f<=k)(hk:k<l.length)(hc:l[k].toNat=47)(hu:zQ ((l.drop f).take (k - f))=η t):Yk l (k+1) (done++[t]):=by
 unfold Yk at *;rw[h,Oo (hn.cut hfk hk hc),hu];show Option.map (done++·) (Option.map (t :: ·) (Jg (l.drop (k+1))))=_
 rw[Option.map_map];congr 1;funext x;simp
theorem Yk.cutBad(h:Yk l f done)(hn:Ju l f k)(hfk:f<=k)(hk:k<l.length)(hc:l[k].toNat=47)(hu:zQ ((l.drop f).take (k - f))=ν):Jg (l.drop 1)=ν:=by
 unfold Yk at h;rw[h,Oo (hn.cut hfk hk hc),hu];rfl
theorem Yk.last{t:List UInt8}(h:Yk l f done)(hn:Ju l f l.length)(hu:zQ ((l.drop f).take (l.length - f))=η t):Jg (l.drop 1)=η (done++[t]):=by
 rw[yr (by rw[yv];omega)]at hu;unfold Yk at h;rw[h,Oo hn.last,hu];rfl
theorem Yk.lastBad(h:Yk l f done)(hn:Ju l f l.length)(hu:zQ ((l.drop f).take (l.length - f))=ν):Jg (l.drop 1)=ν:=by
 rw[yr (by rw[yv];omega)]at hu;unfold Yk at h;rw[h,Oo hn.last,hu];rfl
theorem Ml(h0:0<l.length)(hc:l[0].toNat=47):zH l=Jg (l.drop 1):=by
 cases l with
 | nil=>simp at h0
 | cons c r=>simp only[List.getElem_cons_zero]at hc;rw[zH,yg hc];rfl
theorem Mm(h0:0<l.length)(hc:¬ l[0].toNat=47):zH l=ν:=by
 cases l with
 | nil=>simp at h0
 | cons c r=>simp only[List.getElem_cons_zero]at hc;rw[zH,yf hc]
theorem XV(s:Bs)(f k:Nat):(s.extract f k).data.toList=(s.data.toList.drop f).take (k - f):=by
 exact Lib.extract_data s f k
structure BS(w:Wo)(xa:Option Addr)(xb xo:Nat)(l:List UInt8):Prop where
 ad:0<l.length->xa=η ⟨xb,xo,ν⟩
 cell:∀ j,j<l.length->w.cell? ⟨xb,xo+j,ν⟩=η (.int .u8 (l.getD j 0).toNat)
theorem BS.grown{w w':Wo}(h:BS w xa xb xo l)(hg:w.grownBy w' r)(hne:0<l.length->η xb≠r):BS w' xa xb xo l:=
 ⟨h.ad,fun j hj=>hg.cell (h.cell j hj) (hne om)⟩
theorem BS.below{w w':Wo}(h:BS w xa xb xo l)(hb:Below w w w'):BS w' xa xb xo l:=
 ⟨h.ad,fun j hj=>(hb.cell (p:=⟨xb,xo+j,ν⟩) (yK _ _ (h.cell j hj))).trans (h.cell j hj)⟩
theorem BS.take{w:Wo}(h:BS w xa xb xo l)(n:Nat):BS w xa xb xo (l.take n):=
 ⟨fun h0=>h.ad (by rw[ym]at h0;omega),fun j hj=>by
  rw[ym]at hj;rw[h.cell j om];simp[ϐ,show j<n from by omega]⟩
def YU(w:Wo)(B rb:Nat):Prop:=∃ (a:Option Addr) (c p:Nat) (l:List UInt8) (bb bo:Nat),w.heap[rb]?=η (χ #[ς a l.length c,ι κ p] 103 (0,0))/\B<=rb/\p<=l.length+300/\l.length<=1200/\BS w a bb bo l/\(0<l.length->bb<B)
theorem YU.lt{w:Wo}(h:YU w B rb):rb<w.heap.size:=by
 obtain⟨a,c,p,l,d,f,b,_⟩:=h;exact (yC.1 b).1
theorem YU.grown{w w':Wo}(h:YU w B rb)(hg:w.grownBy w' r)(hne:η rb≠r)(hB:∀ k,r=η k->B<=k):YU w' B rb:=by
 have b:=h.lt;obtain⟨a,c,p,l,d,g,o,i,j,m,n,f⟩:=h;exact⟨a,c,p,l,d,g,(hg.block rb b hne).trans o,i,j,m,n.grown hg (fun h0 e=>by have:=hB d e.symm;have:=f h0;omega),f⟩
theorem JF{w w1 w2:Wo}(h:w.grownBy w1 r)(k:w1.grownBy w2 r):w.grownBy w2 r:=
 ⟨k.os.trans h.os,k.tape.trans h.tape,k.output.trans h.output,yQ h.size k.size,fun j hj hne=>(k.block j (yF hj h.size) hne).trans (h.block j hj hne)⟩
theorem WC{w w1 w2:Wo}{s:Option Nat}(h:w.grownBy w1 r)(k:w1.grownBy w2 s)(hs:∀ j,s=η j->w.heap.size<=j):w.grownBy w2 r:=
 ⟨k.os.trans h.os,k.tape.trans h.tape,k.output.trans h.output,yQ h.size k.size,fun j hj hne=>(k.block j (yF hj h.size) (fun e=>by have:=hs j e.symm;omega)).trans (h.block j hj hne)⟩
theorem YV{w w1:Wo}(h:Below w w w1):w.grownBy w1 r:=⟨h.os,h.tape,h.output,h.size,fun k hk _=>h.block k hk⟩
theorem XW{w w1 w2:Wo}(h:Below B w w1)(k:w1.grownBy w2 r)(hB:B<=w1.heap.size)(hr:∀ j,r=η j->B<=j):Below B w w2:=h.grown k hB hr
theorem zbO(w:Wo)(rb:Nat)(x y z:ω)(T:TypeId)(h:w.heap[rb]?=η (χ #[x,y] T (0,0))):(w.setCell ⟨rb,1,ν⟩ z).heap[rb]?=η (χ #[x,z] T (0,0)):=by
 have:=heap_setCell_same w rb 1 #[x,y] T z h;simpa using this
theorem Ri(w:Wo)(n rb i:Nat)(z:ω):w.grownBy ((w.drewN n).setCell ⟨rb,i,ν⟩ z) (η rb):=
 ⟨rfl,rfl,rfl,by simp[World.setCell],fun k _ hne=>Below.heap_setCell (w.drewN n) ⟨rb,i,ν⟩ z k (fun e=>hne (by rw[e]))⟩
theorem Oq(w:Wo)(n:Nat)(r:Option Nat):w.grownBy (w.drewN n) r:=⟨rfl,rfl,rfl,ye _,fun _ _ _=>rfl⟩
def Small(ts:List (List UInt8)):Prop:=∀ t∈ts,t.length<=3
theorem Km{w w1:Wo}(h:w.ownsRow B e size v n xs)(hg:w.grownBy w1 r)(hr:∀ k,r=η k->k<B):w1.ownsRow B e size v n xs:=by
 refine h.kept hg ?_
 cases hv:v.ownBlock with
 | none=>exact .inl rfl
 | some k=>refine .inr (fun e=>?_);have:=(h.lt k hv).1;have:=hr k e.symm;omega
theorem OT.cells{w:Wo}(h:OT w B v ts):(v=ς ν 0 0/\ts=[])∨∃ g cap,v=ς (η g) ts.length cap/\(∀ j u,(ts.map QJ)[j]?=η u->w.cell? ((g:Addr).add j)=η u):=by
 rcases h.2 with ⟨a,d⟩ |⟨g,cap,b,a,_⟩
 .exact .inl ⟨a,yO d⟩
 .refine .inr ⟨g,cap,a,fun j u hj=>?_⟩;subst a;exact World.ownsRow.cells h rfl j u hj
open Go.Lib hiding intOf
def bt(s:Bs)(i:Nat):Nat:=(s.data.toList.getD i 0).toNat
theorem qu(s:Bs)(i:Nat):bt s i<256:=UInt8.toNat_lt _
theorem Zx(s:Bs)(i:Nat)(h:i<s.size):bt s i=s[i].toNat:=by
 unfold bt;have:s.data.toList[i]?=η s[i]:=by rw[yy (by rw[Zo];exact h)];rfl
 rw[List.getD_eq_getElem?_getD,this];rfl
theorem Vc(s:Bs)(i:Nat):Utf8.decode s i=decodeN (s.size - i) (bt s i) (bt s (i+1)) (bt s (i+2)) (bt s (i+3)):=by
 rw[decode_N,Zo];rfl
def JG(n b0 b1 b2 b3:Nat):Nat:=if b0<128 then 1 else if (decodeN n b0 b1 b2 b3).2=1 then 0 else (decodeN n b0 b1 b2 b3).2
def rl(s:Bs)(i:Nat):Nat:=JG (s.size - i) (bt s i) (bt s (i+1)) (bt s (i+2)) (bt s (i+3))
theorem Ot(h:b0<128):JG n b0 b1 b2 b3=1:=by simp[JG,h]
theorem Rj(h:128<=b0)(h':b0<192):JG n b0 b1 b2 b3=0:=by
 unfold JG decodeN;rw[yf om]
 repeat' split
 all_goals first | rfl |(exfalso;omega) |(simp at *;done) |(exfalso;simp at *;omega)
theorem Kn(h:192<=b0)(h':b0<224)(hb1:b1<256):
  JG n b0 b1 b2 b3=if 2<=n/\128<=b1/\b1<192/\128<=(b0 - 192)*64+(b1 - 128)then 2 else 0:=by
 unfold JG decodeN;rw[yf om]
 repeat' split
 all_goals first | rfl | omega |(exfalso;omega) |(exfalso;simp at *;omega)
theorem Ko(h:224<=b0)(h':b0<240)(hb1:b1<256)(hb2:b2<256):
  JG n b0 b1 b2 b3=if 3<=n/\128<=b1/\b1<192/\128<=b2/\b2<192/\2048<=(b0 - 224)*4096+(b1 - 128)*64+(b2 - 128)/\((b0 - 224)*4096+(b1 - 128)*64+(b2 - 128)<55296∨57344<=(b0 - 224)*4096+(b1 - 128)*64+(b2 - 128))then 3 else 0:=by
 unfold JG decodeN;rw[yf om]
 repeat' split
 all_goals first | rfl | omega |(exfalso;omega) |(exfalso;simp at *;omega)
theorem Kq(h:240<=b0)(h':b0<256)(hb1:b1<256)(hb2:b2<256)(hb3:b3<256):
  JG n b0 b1 b2 b3=if 4<=n/\128<=b1/\b1<192/\128<=b2/\b2<192/\128<=b3/\b3<192/\65536<=(b0 - 240)*262144+(b1 - 128)*4096+(b2 - 128)*64+(b3 - 128)/\(b0 - 240)*262144+(b1 - 128)*4096+(b2 - 128)*64+(b3 - 128)<=1114111 then 4 else 0:=by
 unfold JG decodeN;rw[yf om]
 repeat' split
 all_goals first | rfl | omega |(exfalso;omega) |(exfalso;simp at *;omega)
def zS(b:Nat):Bool:=decide (48<=b) && decide (b<=57)
theorem QW:zS b=ξ↔48<=b/\b<=57:=by simp[zS]
def qN(l:List UInt8):Nat:=l.foldl (fun v c=>v*10+(c.toNat - 48)) 0
theorem Kr(l:List UInt8)(c:UInt8):qN (l++[c])=qN l*10+(c.toNat - 48):=by unfold qN;rw[List.foldl_append];rfl
theorem Mn(s:Bs)(k:Nat)(h:k<s.size):s.data.toList[k]'(by rw[Zo];exact h)=s[k]:=rfl
theorem Mo:∀ (n:Nat) (t:List UInt8),t.length=n->qN t<10 ^ n∨¬ (∀ c∈t,zS c.toNat=ξ):=by
 intro n;induction n with
 | zero=>intro t h;rw[yO h];exact .inl (by simp[qN])
 | succ n ih=>
  intro t h;rcases List.eq_nil_or_concat t with e |⟨a,c,e⟩
  .subst e;simp at h
  .rw[List.concat_eq_append]at e;subst e;by_cases b:∀ x∈a++[c],zS x.toNat=ξ
   .left;have f:=QW.1 (b c sm);rcases ih a (by simpa using h)with d | d
    .rw[Kr,Nat.pow_succ];omega
    .exact absurd (fun x hx=>b x (by simp[hx])) d
   .exact .inr b
def qw(r:Nat):List Nat:=
 if r<128 then [r]else if r<2048 then [192+r / 64,128+r % 64]
 else if r<65536 then [224+r / 4096,128+r / 64 % 64,128+r % 64]
 else [240+r / 262144,128+r / 4096 % 64,128+r / 64 % 64,128+r % 64]
def ZW(r:Nat):List UInt8:=(qw r).map Κ
def ze(l:List UInt8):Bs:=⟨l.toArray⟩
theorem Zb(l:List UInt8):(ze l).data.toList=l:=by simp[ze]
theorem zL(l:List UInt8):(ze l).size=l.length:=by rw[← Zo,Zb]
theorem Uq(w:Wo)(l:List UInt8)(cs:Array ω)(n:Nat)(hn:n=l.length)(hcs:cs.toList=Α l):
  (convert 22 9 (ς (η w) n n)).run Tryz.prog (w.alloc (χ cs 5))= .ok (ze l) (w.alloc (χ cs 5)):=by
 subst hn;exact run_convert_bytes_back (P:=Tryz.prog) _ 22 9 5 w l.length l Tryz.underlying22 Tryz.underlying5 Tryz.underlying9 (fun j hj=>by
  rw[Go.WideShapes.add_plain,cell_of_row _ w (0+j) cs 5 (0,0) (yH w _),Φ];have h:=Om hj;rw[← hcs]at h;simpa using h)
theorem Mp(r:Nat)(w:Wo)(hr:r<=1114111):
  δ Tryz.prog 207 #[ι κ r] w fun e w'=>e=ε (σ (ze (ZW r)))/\Below w w w':=by
 by_cases a:r<128
 .have d:=Uq w (ZW r) #[.int .u8 (r:Int)] 1 (by simp[ZW,qw,a]) (by simp[ZW,qw,a,Α];omega);have b:(r:Int)<128:=om;generalize ZW r=u at *;go_in;go_wp2;go_ret;exact⟨rfl,(yI _ _).alloc (ye _) _⟩
 .by_cases f:r<2048
  .have d:=Uq w (ZW r) #[.int .u8 (192+(r:Int) / 64),.int .u8 (128+(r:Int) % 64)] 2 (by simp[ZW,qw,a,f]) (by simp[ZW,qw,a,f,Α];omega);have b:¬ (r:Int)<128:=om;have g:(r:Int)<2048:=om;generalize ZW r=u at *;go_in;go_wp2;go_ret;exact⟨rfl,(yI _ _).alloc (ye _) _⟩
  .by_cases h:r<65536
   .have d:=Uq w (ZW r) #[.int .u8 (224+(r:Int) / 4096),.int .u8 (128+(r:Int) / 64 % 64),.int .u8 (128+(r:Int) % 64)] 3 (by simp[ZW,qw,a,f,h]) (by simp[ZW,qw,a,f,h,Α];omega);have b:¬ (r:Int)<128:=om;have g:¬ (r:Int)<2048:=om;have i:(r:Int)<65536:=om;generalize ZW r=u at *;go_in;go_wp2;go_ret;exact⟨rfl,(yI _ _).alloc (ye _) _⟩
   .have d:=Uq w (ZW r) #[.int .u8 (240+(r:Int) / 262144),.int .u8 (128+(r:Int) / 4096 % 64),.int .u8 (128+(r:Int) / 64 % 64),.int .u8 (128+(r:Int) % 64)] 4 (by simp[ZW,qw,a,f,h]) (by simp[ZW,qw,a,f,h,Α];omega);have b:¬ (r:Int)<128:=om;have g:¬ (r:Int)<2048:=om;have i:¬ (r:Int)<65536:=om;generalize ZW r=u at *;go_in;go_wp2;go_ret;exact⟨rfl,(yI _ _).alloc (ye _) _⟩
def J6:List UInt8:=[48,49,50,51,52,53,54,55,56,57,97,98,99,100,101,102]
def qB(c:UInt8):List UInt8:=
 if c.toNat=34∨c.toNat=92 then [92,c]else if c.toNat=8 then [92,98]else if c.toNat=9 then [92,116]else if c.toNat=10 then [92,110]
 else if c.toNat=12 then [92,102]else if c.toNat=13 then [92,114]else if c.toNat<32 then [92,117,48,48,J6.getD (c.toNat / 16) 0,J6.getD (c.toNat % 16) 0]else [c]
theorem Rl(c:UInt8):(qB c).length<=6:=by
 unfold qB
 repeat' split
 all_goals simp
def qs(l:List UInt8):List UInt8:=l.flatMap qB
def quoted(l:List UInt8):List UInt8:=34 ::(qs l++[34])
theorem zbP(l:List UInt8)(c:UInt8):qs (l++[c])=qs l++qB c:=by simp[qs]
theorem Rm(l m:List UInt8):qs (l++m)=qs l++qs m:=by simp[qs]
theorem Mq(l:List UInt8):(qs l).length<=6*l.length:=by
 induction l with
 | nil=>simp[qs]
 | cons c l ih=>have:=Rl c;simp only[qs,Γ,yh,yp]at *;omega
theorem Ks(h:(c.toNat:Int)=34∨(c.toNat:Int)=92):qB c=[92,c]:=by unfold qB;rw[yg om]
theorem Rn(h:(c.toNat:Int)=8):qB c=[92,98]:=by unfold qB;rw[yf om,yg om]
theorem Ro(h:(c.toNat:Int)=9):qB c=[92,116]:=by unfold qB;rw[yf om,yf om,yg om]
theorem Rp(h:(c.toNat:Int)=10):qB c=[92,110]:=by unfold qB;rw[yf om,yf om,yf om,yg om]
theorem Rq(h:(c.toNat:Int)=12):qB c=[92,102]:=by unfold qB;rw[yf om,yf om,yf om,yf om,yg om]
theorem Rr(h:(c.toNat:Int)=13):qB c=[92,114]:=by unfold qB;rw[yf om,yf om,yf om,yf om,yf om,yg om]
def Kt(n:Nat):Prop:=n<32/\¬ n=8/\¬ n=9/\¬ n=10/\¬ n=12/\¬ n=13
theorem Rs(h:Kt c.toNat):qB c=[92,117,48,48,J6.getD (c.toNat / 16) 0,J6.getD (c.toNat % 16) 0]:=by
 obtain⟨a,b,d,f,g,i⟩:=h;unfold qB;rw[yf om,yf b,yf d,yf f,yf g,yf i,yg a]
theorem Ou(h:¬ c.toNat=34)(h':¬ c.toNat=92)(h'':32<=c.toNat):qB c=[c]:=by
 unfold qB;rw[yf om,yf om,yf om,yf om,yf om,yf om,yf om]
theorem Ov(k:Nat)(h:k<16):(⟨J6.toArray⟩:Bs)[k]'(by show k<16;exact h)=J6.getD k 0:=by
 rcases (show k=0∨k=1∨k=2∨k=3∨k=4∨k=5∨k=6∨k=7∨k=8∨k=9∨k=10∨k=11∨k=12∨k=13∨k=14∨k=15 from by omega)with rfl | rfl | rfl | rfl | rfl | rfl | rfl | rfl | rfl | rfl | rfl | rfl | rfl | rfl | rfl | rfl<;>rfl
theorem Rt:∀ l:List UInt8,(∀ c∈l,128<=c.toNat)->qs l=l
 | [],_=>rfl
 | c :: l,h=>by
  have h1:=h c yq;have a:=Rt l (fun d hd=>h d (yw _ hd));show qB c++qs l=c :: l
  rw[Ou om om om,a];rfl
def J7(s:Bs)(k:Nat)(c:Int):Bool:=match s.data.toList[k]? with
 | some x=>(x.toNat:Int) ==c
 | none=>ζ
theorem Ru(s:Bs)(k:Nat)(h:k<s.size):s.data.toList[k]?=η s[k]:=by
 rw[yy (by rw[Zo];exact h)];rfl
theorem Gf{s:Bs}{c:Int}(h:k<s.size):J7 s k c=((s[k].toNat:Int) ==c):=by
 unfold J7;rw[Ru s k h]
theorem Ku{s:Bs}{c:Int}(h:¬ k<s.size):J7 s k c=ζ:=by
 unfold J7;rw[Ο (by rw[Zo];omega)]
theorem Mr{a b:Bool}(h:a=b):Ending.returned (θ a)=ε (θ b):=by rw[h]
theorem WD(s:Bs)(i:Int)(k:Nat)(hik:i=(k:Int))(c:Int)(w:Wo):
  δ Tryz.prog 161 #[s,ι κ i,.int .u8 c] w fun e w'=>e=ε (θ (J7 s k c))/\w=w':=by
 subst hik;by_cases h:k<s.size
 .have a:=zb (Gf (c:=c) h);have b:(k:Int)<(s.size:Int):=om;go_in;go_wp2;go_ret;exact⟨Mr (by rw[uh a]),rfl⟩
 .have a:=zb (Ku (c:=c) h);have b:decide ((k:Int)<(s.size:Int))=ζ:=so;go_in;go_wp2;go_ret;exact⟨Mr (by rw[uh a]),rfl⟩
theorem Kv(l:List UInt8):∀ u∈Α l,u.oneCell'=ξ:=by
 intro u a;simp only[Α,yP]at a;obtain⟨b,_,rfl⟩:=a;rfl
theorem Ur(w:Wo)(l:List UInt8):∃ cap W,(convert 9 22 (ze l)).run Tryz.prog w= .ok (ς (η w) l.length cap) W /\
  (∀ j u,(Α l)[j]?=η u->W.cell? ((w:Addr).add j)=η u)/\Below w w W/\(∀ (B e:Nat) v n xs,w.ownsRow B e 1 v n xs->W.ownsRow B e 1 v n xs)/\w.heap.size<=W.heap.size:=by
 have h:=run_bytes_of_string (P:=Tryz.prog) w 9 22 5 (ze l) Tryz.underlying9 Tryz.underlying22 Tryz.underlying5;have a:=zL l;refine⟨_,_,(by rw[h,a]),?_,?_,?_,?_⟩
 .intro j u b;have d:j<l.length:=by
   have:=(Ε.1 b).1
   rwa [yL]at this
  have k:(ze l).data.size=l.length:=by simp[ze]
  have f:=bytesRow_at (ze l) (grownCap w (ze l).size 0 5) j om;rw[Go.WideShapes.add_plain,show (0:Nat)+j=j from by omega];have g:(w.drew.alloc (χ (bytesRow (ze l) (grownCap w (ze l).size 0 5)) 5 ((bytesRow (ze l) (grownCap w (ze l).size 0 5)).size,(bytesRow (ze l) (grownCap w (ze l).size 0 5)).size+1))).heap[w.heap.size]?=η (χ (bytesRow (ze l) (grownCap w (ze l).size 0 5)) 5 ((bytesRow (ze l) (grownCap w (ze l).size 0 5)).size,(bytesRow (ze l) (grownCap w (ze l).size 0 5)).size+1)):=yH w.drew _;rw[a]at g f;rw[cell_of_row _ w j _ 5 _ g,f];rw[Om d]at b;rw[← b];simp[ze]
 .exact ((yI _ _).drew).alloc (ye _) _
 .intro B e v n xs i;exact World.ownsRow.alloc (w:=w.drew) i _
 .show w.heap.size<=(w.heap.push _).size
  simp
theorem Us(xa:Option Addr)(xb xo xc:Nat)(ss:List Bs)(w:Wo)(h:SS w xa xb xo ss)(hm:ss.length+qU ss<=1048576):
  δ Tryz.prog 98 #[ς xa ss.length xc] w fun e w'=>e=ε (σ ⟨(ZA ss).toArray⟩)/\Below w w w':=by
 obtain⟨M,L,A,B,C⟩:=info_parts Uo;have I:=h.ad;have HC:=zb h.cell;have hlen:ss.length<=1048576:=om;have Z:=zb hm;go_in;go_wp2;go_loopw [3,4] (fun v i wr=>∃ k:Nat,k<=ss.length/\i=ι κ k/\wr.ownsRow w 5 1 v (Α (ZA (ss.take k))).length (Α (ZA (ss.take k)))/\Below w w wr) (fun _ i _=>ss.length - (intOf i).toNat)
 case atStart=>exact⟨0,yu _,rfl,Τ w #[] 0 (ye _) mo rfl,(yI _ _).alloc (ye _) _⟩
 case round=>
  obtain⟨k,D,rfl,a,u⟩:=hrel;by_cases y:k<ss.length
  .have J:=uh HC k y;have Y:xb<w.heap.size:=yK _ _ J;obtain rfl:=I om;have W:=Oi y;have hsz:(ss.getD k Β).size<=1048576:=by have:=XR y;have:=uh Z;omega
   have hpl:(ZA (ss.take k)).length+2*(ss.getD k Β).size+1<=2097152:=by
    have h1:=Mh (ss.take k);have h2:=XR y;have h3:=uh Z;have h4:(ss.take k).length=k:=by rw[ym];omega
    omega
   generalize hs:ss.getD k Β=s at *;have Q:=zb W;have HS:=zb hs;have HP:Hid (ZA (ss.take (k+1))=ZA (ss.take k)++47 :: Zg s.data.toList):=by
    have e:=uh Q;show _=_;rw[e,Mg]
   generalize ZA (ss.take k)=p at *;have F:=zb u;have l:=u.size;have K:=yL p;have H:=zb K;clear K;go_wp2_with (at_builtin;refine wpList_append_own _ rfl (.tmp 13) (.tmp 14) 22 rfl w 5 M (.int .u8 0) 1 1 Tryz.underlying22 L A B C rfl dc _ _ _ rfl (a.alloc _) wr 1 1 [.int .u8 47] rfl rfl (QU _ _ _) (Vt _ _) (by rw[uh H];unfold maxLen;omega) (by rw[uh H];omega) so ?_);intro v1 w1 E x _;have S:=(F.alloc l _).grown x so (fun k D=>(a.lt k D).1);have z:=Qk (m:=[47]) E (by simp[Α]) rfl;go_wp2;go_loopw [3,5] (fun v i wr=>∃ j:Nat,j<=s.size/\i=ι κ j/\wr.ownsRow w 5 1 v (Α (p++47 :: Zg (s.data.toList.take j))).length (Α (p++47 :: Zg (s.data.toList.take j)))/\Below w w wr) (fun _ i _=>s.size - (intOf i).toNat)
   case atStart=>exact⟨0,yu _,rfl,by simpa [Zg]using z,S⟩
   case round=>
    obtain⟨j,hj,rfl,a,u⟩:=hrel;have hc:=(u.cell (p:=⟨xb,xo+k,ν⟩) Y).trans J;have l:=u.size;by_cases V:j<s.size
    .have hq:(Α (p++47 :: Zg (s.data.toList.take j))).length<=p.length+1+2*j:=by
      have:=Un (s.data.toList.take j);have h5:(s.data.toList.take j).length=j:=by rw[ym,Zo];omega
      rw[yL,yh,yp];omega
     have O:Hid (p++47 :: Zg (s.data.toList.take (j+1))=(p++47 :: Zg (s.data.toList.take j))++Jp s[j]):=by
      show _=_
      rw[Kh s j V,Mf];simp
     generalize p++47 :: Zg (s.data.toList.take j)=q at *;have F:=zb u;by_cases n:(s[j].toNat:Int)=126
     .have t1:((s[j].toNat:Int) ==126)=ξ:=by simpa using n
      have G:=zb (Re n);go_wp2_with (at_builtin;refine wpList_append_own _ rfl (.tmp 32) (.tmp 33) 22 rfl w 5 M (.int .u8 0) 1 1 Tryz.underlying22 L A B C rfl dc _ _ _ rfl (a.alloc _) wr 2 2 [.int .u8 126,.int .u8 48] rfl rfl (Vs _ _ _ _) (GT _ _ _) mo om so ?_);intro v2 w2 f b _;have o:=(F.alloc l _).grown b so (fun k D=>(a.lt k D).1);have d:=Qk (m:=[126,48]) f (by simp[Α]) rfl;go_wp2;go_roundw
      case rel=>exact⟨j+1,om,by go_num,by rw[uh O,uh G];exact d,o⟩
      case measure=>simp[intOf];omega
     .have t1:((s[j].toNat:Int) ==126)=ζ:=by simpa using n
      by_cases r:(s[j].toNat:Int)=47
      .have t2:((s[j].toNat:Int) ==47)=ξ:=by simpa using r
       have G:=zb (Rf r);go_wp2_with (at_builtin;refine wpList_append_own _ rfl (.tmp 42) (.tmp 43) 22 rfl w 5 M (.int .u8 0) 1 1 Tryz.underlying22 L A B C rfl dc _ _ _ rfl (a.alloc _) wr 2 2 [.int .u8 126,.int .u8 49] rfl rfl (Vs _ _ _ _) (GT _ _ _) mo om so ?_);intro v2 w2 f b _;have o:=(F.alloc l _).grown b so (fun k D=>(a.lt k D).1);have d:=Qk (m:=[126,49]) f (by simp[Α]) rfl;go_wp2;go_roundw
       case rel=>exact⟨j+1,om,by go_num,by rw[uh O,uh G];exact d,o⟩
       case measure=>simp[intOf];omega
      .have t2:((s[j].toNat:Int) ==47)=ζ:=by simpa using r
       have G:=zb (XS n r);go_wp2_with (at_builtin;refine wpList_append_own _ rfl (.tmp 45) (.tmp 52) 22 rfl w 5 M (.int .u8 0) 1 1 Tryz.underlying22 L A B C rfl dc _ _ _ rfl (a.alloc _) wr 1 1 [.int .u8 s[j].toNat] rfl rfl (QU _ _ _) (Vt _ _) mo om so ?_);intro v2 w2 f b _;have o:=(F.alloc l _).grown b so (fun k D=>(a.lt k D).1);have d:=Qk (m:=[s[j]]) f (by simp[Α]) rfl;go_wp2;go_roundw
       case rel=>exact⟨j+1,om,by go_num,by rw[uh O,uh G];exact d,o⟩
       case measure=>simp[intOf];omega
    .have U:j=s.size:=om;subst U;rw[Ol]at a;go_wp2;go_roundw
     case rel=>exact⟨k+1,om,by go_num,by rw[uh HP];exact a,u⟩
     case measure=>simp[intOf];omega
  .have e:ss.take k=ss:=yr om;rw[e]at a;have hl:=yL (ZA ss);rcases a.2 with ⟨X,h0⟩ |⟨g,R,cur,X,_⟩
   .have e0:ZA ss=[]:=yO om;subst X;have T:=run_convert_bytes_nil (P:=Tryz.prog) wr 22 5 Tryz.underlying22 Tryz.underlying5 0 0 9 Tryz.underlying9;have N:=zb e0;go_wp2;go_ret;exact⟨by rw[uh N];rfl,u⟩
   .subst X;rw[hl]at a ⊢;have T:=run_convert_bytes_back (P:=Tryz.prog) wr 22 9 5 g R (ZA ss) Tryz.underlying22 Tryz.underlying5 Tryz.underlying9 (fun j hj=>by
     rw[show ((g:Addr).add j)=⟨g,j,ν⟩from by simp[Addr.add];omega,a.cellAt j om];exact Om hj)
    go_wp2;go_ret;exact⟨rfl,u⟩
theorem SS.drewN{w:Wo}{ss:List Bs}(h:SS w xa xb xo ss)(n:Nat):SS (w.drewN n) xa xb xo ss:=⟨h.ad,h.cell⟩
def qe(ts us:List (List UInt8)):Bool:=decide (ts.length<=us.length/\∀ j,j<ts.length->ts.getD j []=us.getD j [])
theorem Ow(h:j<ts.length):(ts.map zG).getD j Β=zG (ts.getD j []):=by simp[h]
theorem zbQ{a b:List UInt8}(h:zG a=zG b):a=b:=by
 have:(zG a).data.toList=(zG b).data.toList:=by rw[h]
 simpa [zG]using this
theorem Rv{B1 B2:Nat}(v u:ω)(ts us:List (List UInt8))(w:Wo)(h:OT w B1 v ts)(k:OT w B2 u us)(hl:ts.length<=1048577)(hl2:us.length<=1048577):
  δ Tryz.prog 116 #[v,u] w fun e w'=>e=ε (θ (qe ts us))/\∃ n,w'=w.drewN n:=by
 obtain⟨a,g,M,rfl,K,_⟩:=h.shape;obtain⟨Q,R,H,rfl,B,_⟩:=k.shape;have r:=K.ad;have s:=B.ad;have F:=zb K.cell;have G:=zb B.cell;rw[yl]at r s;simp only[yl]at F G;by_cases z:ts.length<=us.length
 .have A:¬ (us.length:Int)<(ts.length:Int):=om;go_in;go_wp2;go_loopw [5] (fun i wr=>∃ m:Nat,m<=ts.length/\i=ι κ m/\(∀ j,j<m->ts.getD j []=us.getD j [])/\∃ n,wr=w.drewN n) (fun i _=>ts.length - (intOf i).toNat)
  case atStart=>exact⟨0,yu _,rfl,fun j hj=>om,0,rfl⟩
  case round=>
   obtain⟨m,S,rfl,l,n,rfl⟩:=hrel;have E:=zb l;by_cases d:m<ts.length
   .have b:m<us.length:=om;have x:=uh F m d;have y:=uh G m b;obtain rfl:=r om;obtain rfl:=s om;rw[Ow d]at x;rw[Ow b]at y;have o:Hid (ts.getD m []≠us.getD m []->qe ts us=ζ):=fun h=>by
     unfold qe;rw[decide_eq_false_iff_not];rintro⟨_,O⟩;exact h (O m d)
    have L:Hid (ts.getD m []=us.getD m []->∀ j,j<m+1->ts.getD j []=us.getD j []):=fun h j hj=>by
     by_cases e:j=m
     .subst e;exact h
     .exact uh E j om
    generalize ts.getD m []=p at *;generalize us.getD m []=q at *;have I:(m:Int)<(ts.length:Int):=om;have J:(m:Int)<(us.length:Int):=om;rw[Φ]at x y;by_cases f:p=q
    .subst f;have C:=zb (uh L rfl);go_wp2;go_quiet (fail);go_wp2;go_roundw
     case rel=>exact⟨m+1,om,by go_num,C,_,by first | rfl |(simp[ό])⟩
     case measure=>simp[intOf];omega
    .have D:=zb (uh o f);have P:((zG p).toList ==(zG q).toList)=ζ:=by
      rw[yd,Ϝ,Ϝ];intro e;exact f (by simpa [zG]using e)
     go_wp2;go_quiet (fail);go_wp2;go_ret;exact⟨by rw[uh D];rfl,_,ό ..⟩
   .have o:Hid (qe ts us=ξ):=by
     show _=_;unfold qe;rw[decide_eq_true_iff];exact⟨z,fun j hj=>uh E j om⟩
    go_wp2;go_ret;exact⟨by rw[uh o];rfl,_,rfl⟩
 .have o:Hid (qe ts us=ζ):=by
   show _=_;unfold qe;rw[decide_eq_false_iff_not];rintro⟨N,_⟩;exact z N
  have A:(us.length:Int)<(ts.length:Int):=om;go_in;go_wp2;go_ret;exact⟨by rw[uh o];rfl,0,rfl⟩
def GV(o1 o2:Option (List (List UInt8))):Int:=match o1,o2 with
 | some ts,η us=>if qe ts us=ξ/\qe us ts=ξ then 1 else if qe ts us=ξ then 2 else if qe us ts=ξ then 3 else 0
 | _,_=>-1
def Ms(n:Nat)(ts us:List (List UInt8)):Bool:=decide ((ts.map zG).take n=(us.map zG).take n)
theorem zbR(h:ts.length<=us.length):Ms ts.length ts us=qe ts us:=by
 unfold Ms qe;rw[decide_eq_decide];constructor
 .intro e;refine⟨h,fun j b=>?_⟩;have:=congrArg (fun l=>l[j]?) e;simp[b]at this;have a:j<us.length:=om;simp[a]at this;simpa [b,a]using zbQ this
 .rintro⟨_,e⟩;apply List.ext_getElem?;intro j;by_cases b:j<ts.length
  .have a:j<us.length:=om;have:=e j b;simp[b,a]at this;simp[b,a,this]
  .simp[List.getElem?_take,b]
theorem zbS(h:qe ts us=ξ):ts.length<=us.length:=by
 unfold qe at h;exact (of_decide_eq_true h).1
theorem Ox:∀ t:List UInt8,zQ (Zg t)=η t
 | []=>rfl
 | c :: t=>by
  have ih:=Ox t;have e:Zg (c :: t)=Jp c++Zg t:=by simp[Zg]
  rw[e];by_cases a:(c.toNat:Int)=126
  .rw[Re a];show zQ (126 :: 48 :: Zg t)=_
   rw[Kj _ dc dc,ih];have:c=126:=by have:=Ρ (x:=c);rw[show c.toNat=126 from by omega]at this;exact this.symm
   subst this;rfl
  .by_cases b:(c.toNat:Int)=47
   .rw[Rf b];show zQ (126 :: 49 :: Zg t)=_
    rw[Kk _ dc dc,ih];have:c=47:=by have:=Ρ (x:=c);rw[show c.toNat=47 from by omega]at this;exact this.symm
    subst this;rfl
   .rw[XS a b];show zQ (c :: Zg t)=_
    rw[Ki _ a,ih];rfl
theorem Oy(t:List UInt8):∀ c∈Zg t,¬ c.toNat=47:=by
 intro c d;unfold Zg at d;obtain⟨a,_,b⟩:=Ζ.1 d;unfold Jp at b;split at b
 .simp at b;rcases b with rfl | rfl<;>decide
 .split at b
  .simp at b;rcases b with rfl | rfl<;>decide
  .simp at b;subst b;assumption
theorem Oz(s:Bs)(ss:List Bs):ZA (s :: ss)=47 ::(Zg s.data.toList++ZA ss):=by simp[ZA]
theorem Mt:∀ (ss:List Bs) (t:List UInt8),ZY (Zg t++ZA ss)=Zg t :: ss.map (fun s=>Zg s.data.toList)
 | [],t=>by show ZY (Zg t++[])=_;rw[yT,Mk (Oy t)];rfl
 | s :: ss,t=>by rw[Oz,Mj (Oy t) dc,Mt ss];rfl
theorem Mu:∀ ts:List (List UInt8),(ts.map Zg).mapM zQ=η ts
 | []=>rfl
 | t :: ts=>by rw[yi,ϕ,Ox,Mu ts];rfl
theorem zbT(ts:List (List UInt8)):zH (ZA (ts.map zG))=η ts:=by
 cases ts with
 | nil=>rfl
 | cons t ts=>
  rw[yi,Oz,zH,yg dc];show Jg (Zg t++ZA (ts.map zG))=_
  unfold Jg;rw[Mt,List.map_map];have:(Zg t :: List.map ((fun s=>Zg s.data.toList)∘zG) ts)=(t :: ts).map Zg:=by simp[zG]
  rw[this,Mu]
theorem zbU(ts us:List (List UInt8)):qe ts (ts++us)=ξ:=by
 unfold qe;rw[decide_eq_true_iff];exact⟨sm,fun j hj=>by simp[ϐ,Χ hj]⟩
theorem Mv(s:Bs)(w:Wo)(hs:s.size<=1048576):
  δ Tryz.prog 155 #[s] w fun e w'=>e=ε (On (zQ s.data.toList))/\Below w w w':=by
 obtain⟨K,H,x,y,z⟩:=info_parts Uo;go_in;go_wp2;go_loopw [4,5] (fun v i wr=>∃ (j:Nat) (g:List UInt8),j<=s.size/\i=ι κ j/\wr.ownsRow w 5 1 v (Α g).length (Α g)/\Below w w wr/\(Α g).length<=j/\JT s.data.toList j g) (fun _ i _=>s.size - (intOf i).toNat)
 case atStart=>exact⟨0,[],yu _,rfl,Τ w #[] 0 (ye _) mo rfl,(yI _ _).alloc (ye _) _,ye _,JT.start _⟩
 case round=>
  obtain⟨j,g,Q,rfl,d,G,r,J⟩:=hrel;have o:=G.size;have A:=zb J;by_cases I:j<s.size
  .have E:=QV s j I;have B:=zb G;by_cases h:(s[j].toNat:Int)=126
   .by_cases p:j+1<s.size
    .have u:=QV s (j+1) p;by_cases l:(s[j+1].toNat:Int)=48
     .have F:J7 s (j+1) 48=ξ:=by rw[Gf p];simpa using l
      have D:Hid (zQ (s.data.toList.drop j)=(zQ (s.data.toList.drop (j+2))).map ([126]++·)):=zb (by rw[E,u,Kj _ h l]);go_wp2_with (first |(go_at_call 161;go_call WD s _ (j+1) om _ _ as e w' ⟨rfl,rfl⟩) |(at_builtin;refine wpList_append_own _ rfl (.tmp 27) (.tmp 28) 22 rfl w 5 K (.int .u8 0) 1 1 Tryz.underlying22 H x y z rfl dc _ _ _ rfl (d.alloc _) wr 1 1 [.int .u8 126] rfl rfl (QU _ _ _) (Vt _ _) mo om so ?_));intro M N f a _;have n:=(B.alloc o _).grown a so (fun k hk=>(d.lt k hk).1);have b:=Qk (m:=[126]) f (by simp[Α]) rfl;go_wp2;go_roundw
      case rel=>exact⟨j+2,g++[126],om,by go_num,b,n,by simp[Α]at r ⊢;omega,A.step D⟩
      case measure=>simp[intOf];omega
     .by_cases q:(s[j+1].toNat:Int)=49
      .have F:J7 s (j+1) 48=ζ:=by rw[Gf p];simpa using l
       have L:J7 s (j+1) 49=ξ:=by rw[Gf p];simpa using q
       have D:Hid (zQ (s.data.toList.drop j)=(zQ (s.data.toList.drop (j+2))).map ([47]++·)):=zb (by rw[E,u,Kk _ h q]);go_wp2_with (first |(go_at_call 161;go_call WD s _ (j+1) om _ _ as e w' ⟨rfl,rfl⟩) |(at_builtin;refine wpList_append_own _ rfl (.tmp 36) (.tmp 37) 22 rfl w 5 K (.int .u8 0) 1 1 Tryz.underlying22 H x y z rfl dc _ _ _ rfl (d.alloc _) wr 1 1 [.int .u8 47] rfl rfl (QU _ _ _) (Vt _ _) mo om so ?_));intro M N f a _;have n:=(B.alloc o _).grown a so (fun k hk=>(d.lt k hk).1);have b:=Qk (m:=[47]) f (by simp[Α]) rfl;go_wp2;go_roundw
       case rel=>exact⟨j+2,g++[47],om,by go_num,b,n,by simp[Α]at r ⊢;omega,A.step D⟩
       case measure=>simp[intOf];omega
      .have F:J7 s (j+1) 48=ζ:=by rw[Gf p];simpa using l
       have L:J7 s (j+1) 49=ζ:=by rw[Gf p];simpa using q
       have C:=zb (A.bad (by rw[E,u,XU _ h l q]));go_wp2_with (go_at_call 161;go_call WD s _ (j+1) om _ _ as e w' ⟨rfl,rfl⟩);go_ret2;exact⟨by rw[uh C];rfl,B⟩
    .have F:J7 s (j+1) 48=ζ:=Ku p;have L:J7 s (j+1) 49=ζ:=Ku p;have C:=zb (A.bad (by rw[E,Kl s (j+1) p,XT h]));go_wp2_with (go_at_call 161;go_call WD s _ (j+1) om _ _ as e w' ⟨rfl,rfl⟩);go_ret2;exact⟨by rw[uh C];rfl,B⟩
   .have D:Hid (zQ (s.data.toList.drop j)=(zQ (s.data.toList.drop (j+1))).map ([s[j]]++·)):=zb (by rw[E,Ki _ h]);go_wp2_with (at_builtin;refine wpList_append_own _ rfl (.tmp 17) (.tmp 21) 22 rfl w 5 K (.int .u8 0) 1 1 Tryz.underlying22 H x y z rfl dc _ _ _ rfl (d.alloc _) wr 1 1 [.int .u8 s[j].toNat] rfl rfl (QU _ _ _) (Vt _ _) mo om so ?_);intro M N f a _;have n:=(B.alloc o _).grown a so (fun k hk=>(d.lt k hk).1);have b:=Qk (m:=[s[j]]) f (by simp[Α]) rfl;go_wp2;go_roundw
    case rel=>exact⟨j+1,g++[s[j]],om,by go_num,b,n,by simp[Α]at r ⊢;omega,A.step D⟩
    case measure=>simp[intOf];omega
  .have P:=A.fin (by rw[Zo];omega);have C:=zb P;have O:=Up d;go_wp2;go_ret2;exact⟨by rw[uh C];rfl,G⟩
theorem WE(s:Bs)(w:Wo)(hs:s.size<=1048576):
  δ Tryz.prog 97 #[s] w fun e w'=>∃ v,e=ε (τ #[v,θ (zH s.data.toList).isSome])/\OT w' w v ((zH s.data.toList).getD [])/\Below w w w':=by
 obtain⟨i0,hi,P,Q,R⟩:=info_parts GU;have o:=Τ (base:=w.heap.size) (e:=9) (size:=1) w #[] 0 (ye _) mo rfl;have q:Below w w (w.alloc (χ #[] 9)):=(yI _ _).alloc (ye _) _;by_cases Z:s.size=0
 .have Y:s=⟨#[]⟩:=by
   have:s.data.toList=[]:=yO (by rw[Zo];exact Z);obtain⟨⟨l⟩⟩:=s;simp at this;subst this;rfl
  subst Y;have N:=zb o;go_in;go_wp2;go_ret2;exact⟨_,rfl,N,q⟩
 .have hne:s.toList.isEmpty=ζ:=by
   rw[Ϝ,Ϙ];intro e;exact Z (by rw[← Zo,e];rfl)
  have h0':0<s.size:=om;have hdl:=Zo s;by_cases F:(s[0].toNat:Int)=47
  .have t1:((s[0].toNat:Int) !=47)=ζ:=by simpa using F
   have E:Hid (zH s.data.toList=Jg (s.data.toList.drop 1)):=Ml om (by show s[0].toNat=47;omega);have N:=zb o;generalize hl:s.data.toList=l at *;have S:=zb hl;go_in;go_wp2;go_loopw [4,5,6] (fun v fr i wr=>∃ (k f:Nat) (a:List (List UInt8)),1<=k/\k<=s.size+1/\1<=f/\f<=k/\i=ι κ k/\fr=ι κ f/\a.length<=k/\OT wr w v a/\Below w w wr/\(k<=s.size->Ju l f k/\Yk l f a)/\(k=s.size+1->Jg (l.drop 1)=η a)) (fun _ _ i _=>s.size+1 - (intOf i).toNat)
   case atStart=>exact⟨1,1,[],om,om,om,om,rfl,rfl,sm,N,q,fun _=>⟨Ju.none _ _,by simp[Yk]⟩,fun h=>om⟩
   case round=>
    obtain⟨k,f,a,hk1,hk2,W,O,rfl,rfl,aa,d,I,x,hZ⟩:=hrel;have r:=I.size;have M:=zb x;have T:=zb hZ;by_cases J:k<=s.size
    .by_cases X:k=s.size
     .have x:=uh M J;have A:k=l.length:=om;have n:Ju l f l.length:=by rw[← A];exact x.1
      subst X;have t2:((s.size:Int) ==(s.size:Int))=ξ:=sm;have K:(s.extract f s.size).size<=1048576:=by rw[← Zo,XV,ym,yv,Zo];omega
      have m:=XV s f s.size;rw[uh S]at m;have C:=Mv (s.extract f s.size) wr K;rw[m]at C
      cases ho:zQ ((l.drop f).take (s.size - f))with
      | none=>
       rw[ho,Rh]at C;have D:=zb C;have y:Hid (Jg (l.drop 1)=ν):=by have:=x.2.lastBad n (by rw[← A];exact ho);exact this
       clear C ho m x n A M T;go_wp2_with fail;go_call D as e w1 ⟨rfl,hb1⟩;have u:=I.trans (hb1.mono r);have p:=Τ (base:=w.heap.size) (e:=9) (size:=1) w1 #[] 0 u.size mo rfl;have H:=zb p;go_wp2;go_ret2;exact⟨_,by rw[uh E,uh y];rfl,by rw[uh E,uh y];exact uh H,u.alloc u.size _⟩
      | some t=>
       rw[ho,Rg]at C;have D:=zb C;have y:Hid (Jg (l.drop 1)=η (a++[t])):=by have:=x.2.last n (by rw[← A];exact ho);exact this
       clear x n A M T C ho m;go_wp2_with fail;go_call D as e w1 ⟨rfl,hb1⟩;have u:=I.trans (hb1.mono r);have j:=Zh d hb1;have L:=u.size;clear d hb1 D;go_wp2_with (at_builtin;(refine wpList_append_own _ rfl (.tmp 44) (.tmp 46) 35 rfl w 9 i0 Β 1 16 Tryz.underlying35 hi P Q R rfl dc _ _ _ rfl (j.alloc _) w1 1 1 [(zG t)] rfl rfl (QU _ _ _) (Ge _) mo om so ?_));intro v2 w2 g b _;have U:=(u.alloc L _).grown b so (fun k hk=>(j.lt k hk).1);have B:=OT.step (t:=t) g;clear g b j;go_wp2;go_roundw
       case rel=>exact⟨s.size+1,s.size+1,a++[t],om,om,om,om,by go_num,by go_num,so,B,U,fun h=>om,fun _=>uh y⟩
       case measure=>simp[intOf]
     .have hlt:k<s.size:=om;have t2:((k:Int) ==(s.size:Int))=ζ:=so;by_cases V:(s[k].toNat:Int)=47
      .have t3:((s[k].toNat:Int) ==47)=ξ:=by simpa using V
       have x:=uh M J;have z:k<l.length:=om;have G:l[k].toNat=47:=by
                        have e:l[k].toNat=s[k].toNat:=by (have e:=uh S;subst e;rfl)
                        omega
       have K:(s.extract f k).size<=1048576:=by rw[← Zo,XV,ym,yv,Zo];omega
       have m:=XV s f k;rw[uh S]at m;have C:=Mv (s.extract f k) wr K;rw[m]at C
       cases ho:zQ ((l.drop f).take (k - f))with
       | none=>
        rw[ho,Rh]at C;have D:=zb C;have y:=zb (x.2.cutBad x.1 O z G ho);clear C ho m;go_wp2_with fail;go_call D as e w1 ⟨rfl,hb1⟩;have u:=I.trans (hb1.mono r);have p:=Τ (base:=w.heap.size) (e:=9) (size:=1) w1 #[] 0 u.size mo rfl;have H:=zb p;clear d hb1 D p;go_wp2;go_ret2;exact⟨_,by rw[uh E,uh y];rfl,by rw[uh E,uh y];exact uh H,u.alloc u.size _⟩
       | some t=>
        rw[ho,Rg]at C;have D:=zb C;have y:=zb (x.2.cut x.1 O z G ho);clear x z G V M T;clear C ho m;go_wp2_with fail;go_call D as e w1 ⟨rfl,hb1⟩;have u:=I.trans (hb1.mono r);have j:=Zh d hb1;have L:=u.size;clear d hb1 D;go_wp2_with (at_builtin;refine wpList_append_own _ rfl (.tmp 44) (.tmp 46) 35 rfl w 9 i0 Β 1 16 Tryz.underlying35 hi P Q R rfl dc _ _ _ rfl (j.alloc _) w1 1 1 [(zG t)] rfl rfl (QU _ _ _) (Ge _) mo om so ?_);intro v2 w2 g b _;have U:=(u.alloc L _).grown b so (fun k hk=>(j.lt k hk).1);have B:=OT.step (t:=t) g;clear g b j;go_wp2;go_roundw
        case rel=>exact⟨k+1,k+1,a++[t],om,om,om,om,by go_num,by go_num,so,B,U,fun _=>⟨Ju.none _ _,y⟩,fun h=>om⟩
        case measure=>simp[intOf];omega
      .have t3:((s[k].toNat:Int) ==47)=ζ:=by simpa using V
       go_wp2;go_roundw
       case rel=>
        have ⟨hn,ht⟩:=uh M J;have z:k<l.length:=om;have G:l[k].toNat=s[k].toNat:=by have e:=uh S;subst e;rfl
        exact⟨k+1,f,a,om,om,W,om,by go_num,rfl,om,d,I,fun _=>⟨hn.snoc z om,ht⟩,fun h=>om⟩
       case measure=>simp[intOf];omega
    .have y:=zb (uh T om);go_wp2;go_ret2;exact⟨_,by rw[uh E,uh y];rfl,by rw[uh E,uh y];exact d,I⟩
  .have t1:((s[0].toNat:Int) !=47)=ξ:=by simpa using F
   have E:Hid (zH s.data.toList=ν):=Mm om (fun e=>F (by show ((s[0].toNat:Int))=47;have:s.data.toList[0].toNat=s[0].toNat:=rfl;omega));have N:=zb o;clear o F;go_in;go_wp2;go_ret2;exact⟨_,by rw[uh E];rfl,by rw[uh E];exact uh N,q⟩
theorem Mw:(Tryz.prog.info? 173).map (·.size)=η 2:=by kernel_rfl
theorem zbV:liesAt Tryz.prog Tryz.prog.depth 173 (2 / Tryz.prog.cellsOf 173) 0 173 1=ξ:=by kernel_rfl
theorem infoByte:(Tryz.prog.info? 5).map (fun i=>(i.zero,i.size,i.bytes))=η (η (.int .u8 0),1,1):=by kernel_rfl
theorem Mx(b:Nat)(w:Wo)(h0:w.cell? b=η b):
  δ Tryz.prog 226 #[b] w fun e w'=>e=ε (τ #[])/\w'=w:=by
 obtain⟨j,a,_⟩:=yA.1 Mw;go_in;go_wp2;rw[Lib.run_neq_ptr_same w _ Tryz.underlying171 a];go_wp2;go_end0;exact⟨rfl,rfl⟩
theorem My(b:Nat)(w:Wo)(h0:w.cell? b=η (π ν))(hsh:w.shape? b=η (173,2))(hfz:w.frozen? b=ζ):
  δ Tryz.prog 226 #[b] w fun e w'=>e=ε (τ #[])/\w'=w.setCell b b:=by
 obtain⟨j,d,a⟩:=yA.1 Mw;go_in;go_wp2;rw[Lib.run_to_unsafe w b Tryz.underlying171 Tryz.underlying220 d (by rw[a];decide) hsh (Nat.zero_lt_succ 1)];simp only[Result.andThen];rw[Oper.upon_value];go_wp2;rw[run_callFunc_extern Tryz.func252 kr kr kr (e:=Extern.AbiNoEscape.same) kr];rw[Lib.run_noEscape];simp only[Result.andThen];rw[Oper.upon_value];go_wp2;rw[Lib.run_from_unsafe w b Tryz.underlying220 Tryz.underlying171 d hsh zbV];simp only[Result.andThen];rw[Oper.upon_value];go_wp2;go_end0;exact⟨rfl,rfl⟩
theorem Mz(B b:Nat)(bs:List ω)(w:Wo)(h:Lib.IsBuilder 173 5 B b bs w):
  δ Tryz.prog 226 #[b] w fun e w'=>e=ε (τ #[])/\(Lib.BuilderAt 173 5 B b b bs w'/\Below B w w'):=by
 rcases h with h | h
 .go_call My b w h.cell0 h.shape h.frozen0 as e w' ⟨rfl,rfl⟩;exact⟨rfl,h.used _,(yI B w).setCell (p:=b) h.1 _⟩
 .go_call Mx b w h.cell0 as e w' ⟨rfl,rfl⟩;exact⟨rfl,h,yI B _⟩
theorem XX(B b:Nat)(bs:List ω)(c:Int)(w:Wo)(h:Lib.IsBuilder 173 5 B b bs w)(hlen:bs.length+1<=140737488355328)(hBw:B<=w.heap.size):
  δ Tryz.prog 191 #[b,.int .u8 c] w fun e w'=>e= .returned .nilIface/\(Lib.BuilderAt 173 5 B b b (bs++[.int .u8 c]) w'/\Below B w w'):=by
 obtain⟨J,H,y,z,A⟩:=info_parts infoByte;go_in;go_wp2_with (go_at_call 226;refine (Mz B b bs _ h).mono ?_);rintro e o ⟨rfl,G,i⟩;obtain⟨D,v,m,n,x⟩:=G;have c0:o.cell? b=η b:=by rw[yG m];rfl
 have c1:o.cell? ⟨b,1,ν⟩=η v:=by rw[yG m];rfl
 go_wp2_with (at_builtin;refine wpList_append_own _ rfl _ _ 22 rfl B 5 J (.int .u8 0) 1 1 Tryz.underlying22 H y z A rfl dc _ _ _ rfl (n.alloc _) o 1 1 [.int .u8 c] rfl rfl ?c1 ?c2 ?c3 ?c4 ?c5 ?_)
 case c1=>
  intro j u q
  match j,q with
  | 0,q=>simp at q;subst q;simp[Addr.add]
 case c2=>intro u E;simp at E;subst E;rfl
 case c3=>unfold maxLen;omega
 case c4=>omega
 case c5=>have:=i.size;simp;omega
 intro K C d a _;have s:b<o.heap.size:=by
  rcases ϋ b o with r | r
  .exact r
  .simp[Μ r]at m
 have l:C.heap[b]?=η (χ #[b,v] 173 (0,0)):=by
  rw[a.block b so (fun e=>x e.symm),Lib.alloc_old o _ b s];exact m
 have L:C.cell? b=η b:=by rw[yG l];rfl
 have M:C.cell? ⟨b,1,ν⟩=η v:=by rw[yG l];rfl
 have N:=yJ l 1;obtain⟨g,f,rfl⟩:∃ g f,K=ς (η g) (bs.length+1) f:=by
  rcases d.2 with ⟨_,O⟩ |⟨g,f,F,I,_⟩
  .omega
  .exact⟨g,f,I⟩
 go_wp2;go_ret;refine⟨rfl,?_,?_⟩
 .exact Lib.BuilderAt.put (T:=173) (e:=5) D l (bs':=bs++[.int .u8 c]) (by simpa using d) dc
 .exact ((i.alloc (by have:=i.size;omega) _).grown a (by have:=i.size;simp;omega) (fun k hk=>(n.lt k hk).1)).setCell (p:=⟨b,1,ν⟩) D _
theorem MA(B b:Nat)(bs:List ω)(s:Bs)(w:Wo)(h:Lib.IsBuilder 173 5 B b bs w)(hlen:bs.length+s.size<=140737488355328)(hBw:B<=w.heap.size):
  δ Tryz.prog 231 #[b,s] w fun e w'=>e=ε (τ #[ι κ s.size,.nilIface])/\(Lib.BuilderAt 173 5 B b b (bs++ϓ s) w'/\Below B w w'):=by
 obtain⟨I,H,x,y,z⟩:=info_parts infoByte;go_in;go_wp2_with (go_at_call 226;refine (Mz B b bs _ h).mono ?_);rintro e n ⟨rfl,G,m⟩;obtain⟨D,v,i,j,r⟩:=G;have c0:n.cell? b=η b:=by rw[yG i];rfl
 have c1:n.cell? ⟨b,1,ν⟩=η v:=by rw[yG i];rfl
 go_wp2_with (at_builtin;refine ϒ _ rfl _ _ 22 9 rfl B 5 I Tryz.underlying22 Tryz.underlying9 H x y z _ _ _ rfl j s rfl ?c3 ?c4 ?c5 ?_)
 case c3=>unfold maxLen;omega
 case c4=>omega
 case c5=>have:=m.size;omega
 intro J A d a _;have q:b<n.heap.size:=by
  rcases ϋ b n with o | o
  .exact o
  .simp[Μ o]at i
 have f:A.heap[b]?=η (χ #[b,v] 173 (0,0)):=by
  rw[a.block b q (fun e=>r e.symm)];exact i
 have K:A.cell? b=η b:=by rw[yG f];rfl
 have L:A.cell? ⟨b,1,ν⟩=η v:=by rw[yG f];rfl
 have M:=yJ f 1;obtain⟨C,E,l,rfl⟩:∃ C E l,J=ς C E l:=by
  rcases d.2 with ⟨u,_⟩ |⟨g,l,F,u,_⟩
  .exact⟨_,_,_,u⟩
  .exact⟨_,_,_,u⟩
 go_wp2;go_ret2;refine⟨rfl,?_,?_⟩
 .exact Lib.BuilderAt.put (T:=173) (e:=5) D f (bs':=bs++ϓ s) (by simpa [Lib.strCells_length]using d) dc
 .exact (m.grown a (by have:=m.size;omega) (fun k hk=>(j.lt k hk).1)).setCell (p:=⟨b,1,ν⟩) D _
open Go.Shelf in
def MB:Go.Shelf.Ren:=⟨fun | 169=>89 | n=>n,fun | 70=>171 | 9=>9 | 0=>0 | 72=>173 | 37=>22 | 127=>233 | 3=>3 | 5=>5 | n=>n,fun | n=>n⟩
theorem zbW:Go.Proofs.Lays.n169 Tryz.prog MB:={
 mixed:=by kernel_rfl
 f169:=Tryz.func89.trans (congrArg η kr)
 t0:=Tryz.underlying0
 a0:=Tryz.isAgg0
 z0:=Tryz.sizeOf0
 v0:=Tryz.zeroValue0
 t3:=Tryz.underlying3
 a3:=Tryz.isAgg3
 z3:=Tryz.sizeOf3
 v3:=Tryz.zeroValue3
 t9:=Tryz.underlying9
 a9:=Tryz.isAgg9
 z9:=Tryz.sizeOf9
 v9:=Tryz.zeroValue9
 t37:=Tryz.underlying22
 a37:=Tryz.isAgg22
 z37:=Tryz.sizeOf22
 v37:=Tryz.zeroValue22
 t70:=Tryz.underlying171
 a70:=Tryz.isAgg171
 z70:=Tryz.sizeOf171
 v70:=Tryz.zeroValue171
 t72:=Tryz.underlying173
 a72:=Tryz.isAgg173
 z72:=Tryz.sizeOf173
 v72:=Tryz.zeroValue173
 t127:=Tryz.underlying233
 a127:=Tryz.isAgg233
 z127:=Tryz.sizeOf233
 v127:=Tryz.zeroValue233}
theorem zbX:Builder.Extra Tryz.prog MB:={
 sizeBuilder:=by kernel_rfl
 liesBuilder:=by kernel_rfl
 t5:=Tryz.underlying5
 a5:=Tryz.isAgg5
 z5:=Tryz.sizeOf5
 v5:=Tryz.zeroValue5
 infoByte:=by kernel_rfl
 cellsByte:=by kernel_rfl
 sizeByte:=by kernel_rfl
 neB5:=by decide}
theorem XY(B b:Nat)(l:List UInt8)(w:Wo)(h:Lib.IsBuilder 173 5 B b (Α l) w)(hBw:B<=w.heap.size):
  δ Tryz.prog 89 #[b] w fun e w'=>e=ε (σ ⟨l.toArray⟩)/\Below B w w':=Any.Builder_String_any zbW zbX B b l w h hBw
abbrev zZ(B b:Nat)(l:List UInt8)(w:Wo):Prop:=Lib.IsBuilder 173 5 B b (Α l) w
theorem zZ.byte{w:Wo}{n:Int}(hn:n=(c.toNat:Int))(h:Lib.BuilderAt 173 5 B b b (Α l++[.int .u8 n]) w):zZ B b (l++[c]) w:=by
 subst hn;exact Or.inr (by rw[Υ];exact h)
theorem zZ.str{s:Bs}{w:Wo}(hm:m=s.data.toList)(h:Lib.BuilderAt 173 5 B b b (Α l++ϓ s) w):zZ B b (l++m) w:=by
 subst hm;exact Or.inr (by rw[Υ];exact h)
theorem zZ.cells{w:Wo}(hx:xs=Α m)(h:Lib.BuilderAt 173 5 B b b (Α l++xs) w):zZ B b (l++m) w:=by
 subst hx;exact Or.inr (by rw[Υ];exact h)
theorem zbY(s:Bs)(w:Wo)(hs:s.size<=1048576):
  δ Tryz.prog 141 #[s] w fun e w'=>e=ε (On (zQ s.data.toList))/\Below w w w':=by
 go_in;go_wp2;go_loopw [5] (fun i wr=>∃ (j:Nat) (b:List UInt8),j<=s.size/\i=ι κ j/\zZ w w b wr/\Below w w wr/\(Α b).length<=j/\JT s.data.toList j b) (fun i _=>s.size - (intOf i).toNat)
 case atStart=>exact⟨0,[],yu _,rfl,Lib.fresh_isBuilder _ _ w,(yI _ _).alloc (ye _) _,ye _,JT.start _⟩
 case round=>
  obtain⟨j,b,E,rfl,v,n,m,y⟩:=hrel;have f:=n.size;have p:=zb y;by_cases x:j<s.size
  .have u:=QV s j x;by_cases a:(s[j].toNat:Int)=126
   .have C:((s[j].toNat:Int) !=126)=ζ:=by simpa using a
    by_cases l:j+1<s.size
    .have o:=QV s (j+1) l;have B:((j:Int)+1 ==(s.size:Int))=ζ:=so;by_cases h:(s[j+1].toNat:Int)=48
     .have A:((s[j+1].toNat:Int) ==48)=ξ:=by simpa using h
      have r:Hid (zQ (s.data.toList.drop j)=(zQ (s.data.toList.drop (j+2))).map ([126]++·)):=zb (by rw[u,o,Kj _ a h]);go_wp2_with (go_at_call 191;refine (XX w w _ _ _ v om f).mono ?_);rintro e z ⟨rfl,l,d⟩;have g:=zZ.byte (c:=126) rfl l;go_wp2;go_roundw
      case rel=>exact⟨j+2,b++[126],om,by go_num,g,n.trans d,by simp[Α]at m ⊢;omega,p.step r⟩
      case measure=>simp[intOf];omega
     .by_cases k:(s[j+1].toNat:Int)=49
      .have A:((s[j+1].toNat:Int) ==48)=ζ:=by simpa using h
       have D:((s[j+1].toNat:Int) ==49)=ξ:=by simpa using k
       have r:Hid (zQ (s.data.toList.drop j)=(zQ (s.data.toList.drop (j+2))).map ([47]++·)):=zb (by rw[u,o,Kk _ a k]);go_wp2_with (go_at_call 191;refine (XX w w _ _ _ v om f).mono ?_);rintro e z ⟨rfl,l,d⟩;have g:=zZ.byte (c:=47) rfl l;go_wp2;go_roundw
       case rel=>exact⟨j+2,b++[47],om,by go_num,g,n.trans d,by simp[Α]at m ⊢;omega,p.step r⟩
       case measure=>simp[intOf];omega
      .have A:((s[j+1].toNat:Int) ==48)=ζ:=by simpa using h
       have D:((s[j+1].toNat:Int) ==49)=ζ:=by simpa using k
       have q:=zb (p.bad (by rw[u,o,XU _ a h k]));go_wp2;go_ret2;exact⟨by rw[uh q];rfl,n⟩
    .have B:((j:Int)+1 ==(s.size:Int))=ξ:=so;have q:=zb (p.bad (by rw[u,Kl s (j+1) l,XT a]));go_wp2;go_ret2;exact⟨by rw[uh q];rfl,n⟩
   .have C:((s[j].toNat:Int) !=126)=ξ:=by simpa using a
    have r:Hid (zQ (s.data.toList.drop j)=(zQ (s.data.toList.drop (j+1))).map ([s[j]]++·)):=zb (by rw[u,Ki _ a]);go_wp2_with (go_at_call 191;refine (XX w w _ _ _ v om f).mono ?_);rintro e z ⟨rfl,l,d⟩;have g:=zZ.byte (c:=s[j]) rfl l;go_wp2;go_roundw
    case rel=>exact⟨j+1,b++[s[j]],om,by go_num,g,n.trans d,by simp[Α]at m ⊢;omega,p.step r⟩
    case measure=>simp[intOf];omega
  .have q:=zb (p.fin (by rw[Zo];omega));go_wp2_with (go_at_call 89;refine (XY w w b _ v f).mono ?_);rintro e z ⟨rfl,d⟩;go_wp2;go_ret2;exact⟨by rw[uh q];rfl,n.trans d⟩
def dgM(k:Nat):UInt8:=Κ (48+k % 10)
def MC:Nat->Nat->Bs->Bs
 | 0,_,acc=>acc
 | f+1,k,acc=>if k=0 then acc else MC f (k / 10) (⟨#[dgM k]⟩++acc)
def zb0(k:Nat):Bs:=⟨#[109]⟩++MC k k Β
def zkM(k n:Nat):List ω:=(ϔ n).map fun j=>σ (zb0 (k+j))
structure Fr(bl:List Nat)(w w':Wo):Prop where
 os:w'.os=w.os
 tape:w'.tape=w.tape
 output:w'.output=w.output
 size:w.heap.size<=w'.heap.size
 block:∀ k,k<w.heap.size->k ∉ bl->w'.heap[k]?=w.heap[k]?
theorem Fr.refl(bl:List Nat)(w:Wo):Fr bl w w:=⟨rfl,rfl,rfl,ye _,fun _ _ _=>rfl⟩
theorem Fr.trans'{a b c:Wo}(h:Fr bl a b)(k:Fr bl' b c)(hs:∀ i∈bl',i∈bl∨a.heap.size<=i):Fr bl a c:=
 ⟨k.os.trans h.os,k.tape.trans h.tape,k.output.trans h.output,yQ h.size k.size,fun i hi hn=>
  (k.block i (yF hi h.size) (fun e=>by rcases hs i e with d | d;exact hn d;omega)).trans (h.block i hi hn)⟩
theorem Fr.trans{a b c:Wo}(h:Fr bl a b)(k:Fr bl b c):Fr bl a c:=h.trans' k fun _=>.inl
theorem Fr.mono{a b:Wo}(h:Fr bl a b)(hs:∀ i∈bl,i∈bl'):Fr bl' a b:=
 ⟨h.os,h.tape,h.output,h.size,fun i hi hn=>h.block i hi fun e=>hn (hs i e)⟩
theorem Fr.of_below{w w':Wo}(h:Below w w w'):Fr bl w w':=⟨h.os,h.tape,h.output,h.size,fun k hk _=>h.block k hk⟩
theorem Fr.below{w w':Wo}(h:Fr bl w w')(hB:∀ b∈bl,B<=b)(hs:B<=w.heap.size):Below B w w':=
 ⟨h.os,h.tape,h.output,h.size,fun k hk=>h.block k om fun e=>by have:=hB k e;omega⟩
theorem Fr.set{a w:Wo}(h:Fr bl a w)(hg:g∈bl)(j:Nat)(u:ω):Fr bl a (w.setCell ⟨g,j,ν⟩ u):=
 h.trans ⟨rfl,rfl,rfl,by simp[World.setCell],fun k _ hn=>Below.heap_setCell _ _ _ _ fun e=>hn (e ▸ hg)⟩
theorem Fr.next{a w w':Wo}(h:Fr bl a w)(hb:Below w w w'):Fr bl a w':=h.trans (.of_below hb)
theorem Fr.drewN{a w:Wo}(h:Fr bl a w)(n:Nat):Fr bl a (w.drewN n):=⟨h.os,h.tape,h.output,h.size,h.block⟩
theorem Fr.drew{a w:Wo}(h:Fr bl a w):Fr bl a w.drew:=⟨h.os,h.tape,h.output,h.size,h.block⟩
def Kp(bl:List Nat)(w w':Wo):Prop:=∀ b∈bl,w'.heap[b]?=w.heap[b]?
theorem Kp.of_below{w w':Wo}(h:Below w w w')(hl:∀ b∈bl,b<w.heap.size):Kp bl w w':=fun b hb=>h.block b (hl b hb)
theorem Fr.kp{w w':Wo}(h:Fr bl w w')(hl:∀ b∈bl',b<w.heap.size)(hd:∀ b∈bl',b ∉ bl):Kp bl' w w':=fun b hb=>h.block b (hl b hb) (hd b hb)
theorem Gg{w w':Wo}(h:w.ownsRow B e size v n xs)(hb:Kp v.ownBlock.toList w w'):w'.ownsRow B e size v n xs:=by
 refine⟨h.1,?_⟩;rcases h.2 with f |⟨g,a,b,d,i,j,r⟩
 .exact .inl f
 .refine .inr ⟨g,a,b,d,i,(hb g ?_).trans j,r⟩;rw[d];simp[Ι]
structure Jq (α:Type) where
 T:TypeId
 wd:Nat
 E:Wo->List ω->α->List Nat->Prop
 len:∀ {w vs x bl},E w vs x bl->vs.length=wd
 lt:∀ {w vs x bl},E w vs x bl->∀ b∈bl,b<w.heap.size
 keep:∀ {w w' vs x bl},E w vs x bl->Kp bl w w'->E w' vs x bl
def zw{α:Type}(e:Jq α)(w:Wo)(v:ω)(xs:List α)(bl:List Nat):Prop:=
 ∃ ps:List (List ω×List Nat),ps.length=xs.length/\(∀ (j:Nat) (p:List ω×List Nat) (x:α),ps[j]?=η p->xs[j]?=η x->e.E w p.1 x p.2) /\
  w.ownsRow 0 e.T e.wd v xs.length (ps.flatMap (·.1))/\bl=v.ownBlock.toList++ps.flatMap (·.2)
theorem MD(h:∀ p∈ps,p.1.length=wd){p:List ω×List Nat}(hj:ps[j]?=η p)(m:Nat)(hm:m<wd):(ps.flatMap (·.1))[j*wd+m]?=p.1[m]?:=by
 induction ps generalizing j with
 | nil=>simp at hj
 | cons q r ih=>
  have a:=h q yq;rw[Γ]
  cases j with
  | zero=>
   simp at hj;subst hj;rw[Nat.zero_mul,Φ,Χ om]
  | succ j=>
   have:=ih (fun p hp=>h p (yw _ hp)) (by simpa using hj);rw[List.getElem?_append_right (by rw[a,ϊ];omega),a,← this];congr 1;rw[ϊ];omega
theorem Rw(h:∀ p∈ps,p.1.length=wd):(ps.flatMap (·.1)).length=ps.length*wd:=by
 induction ps with
 | nil=>simp
 | cons q r ih=>
  rw[Γ,yh,ih (fun p hp=>h p (yw _ hp)),h q yq,yp,ϊ];omega
theorem ME(h:∀ p∈ps,p.1.length=wd){p:List ω×List Nat}(hj:ps[j]?=η p)(m:Nat)(hm:m<wd)(u:ω)(bl:List Nat):
  (ps.set j (p.1.set m u,bl)).flatMap (·.1)=(ps.flatMap (·.1)).set (j*wd+m) u:=by
 induction ps generalizing j with
 | nil=>simp at hj
 | cons q r ih=>
  have a:=h q yq
  cases j with
  | zero=>
   simp at hj;subst hj;rw[List.set_cons_zero,Γ,Γ,Nat.zero_mul,Φ,List.set_append_left _ _ om]
  | succ j=>
   have:=ih (fun p hp=>h p (yw _ hp)) (by simpa using hj);rw[List.set_cons_succ,Γ,Γ,this,List.set_append_right _ _ (by rw[a,ϊ];omega),a];congr 2;rw[ϊ];omega
theorem zb1{p:List ω×List Nat}(hj:ps[j]?=η p)(vs:List ω):
  (ps.set j (vs,p.2)).flatMap (·.2)=ps.flatMap (·.2):=by
 induction ps generalizing j with
 | nil=>simp at hj
 | cons q r ih=>
  cases j with
  | zero=>simp at hj;subst hj;rw[List.set_cons_zero,Γ,Γ]
  | succ j=>rw[List.set_cons_succ,Γ,Γ,ih (by simpa using hj)]
theorem zb2(h:(ps.flatMap (·.2)).Nodup){p:List ω×List Nat}(hj:ps[j]?=η p):p.2.Nodup:=by
 induction ps generalizing j with
 | nil=>simp at hj
 | cons q r ih=>
  rw[Γ,ύ]at h
  cases j with
  | zero=>simp at hj;subst hj;exact h.1
  | succ j=>exact ih h.2.1 (by simpa using hj)
theorem zb3(h:(ps.flatMap (·.2)).Nodup){p q:List ω×List Nat}(hi:ps[i]?=η p)(hj:ps[j]?=η q)(hij:i≠j):∀ b∈p.2,b ∉ q.2:=by
 induction ps generalizing i j with
 | nil=>simp at hj
 | cons a r ih=>
  rw[Γ,ύ]at h
  cases i with
  | zero=>
   cases j with
   | zero=>omega
   | succ j=>
    simp at hi;subst hi;intro b d f;exact h.2.2 b d b (Ζ.2 ⟨q,Θ (by simpa using hj),f⟩) rfl
  | succ i=>
   cases j with
   | zero=>
    simp at hj;subst hj;intro b d f;exact h.2.2 b f b (Ζ.2 ⟨p,Θ (by simpa using hi),d⟩) rfl
   | succ j=>exact ih h.2.1 (by simpa using hi) (by simpa using hj) om
section
variable {α:Type} {e:Jq α} {w w':Wo} {v:ω} {xs:List α} {bl:List Nat}
theorem Kw(hl:ps.length=xs.length)(h:∀ (j:Nat) (p:List ω×List Nat) (x:α),ps[j]?=η p->xs[j]?=η x->e.E w p.1 x p.2):∀ p∈ps,p.1.length=e.wd:=by
 intro p b;obtain⟨j,a,rfl⟩:=yY.1 b;exact e.len (h j ps[j] (xs[j]'om) (yy a) (yy om))
theorem zw.nil(e:Jq α)(w:Wo):zw e w (ς ν 0 0) [] []:=⟨[],rfl,fun _ _ _ h=>by simp at h,w.ownsRow_nil _ _ _,rfl⟩
theorem zw.lt(h:zw e w v xs bl):∀ b∈bl,b<w.heap.size:=by
 obtain⟨k,l,d,g,rfl⟩:=h;intro b a;rw[Ω]at a;rcases a with a | a
 .exact (g.lt b (by simpa using a)).2
 .obtain⟨p,i,a⟩:=Ζ.1 a;obtain⟨j,f,rfl⟩:=yY.1 i;exact e.lt (d j k[j] (xs[j]'om) (yy f) (yy om)) b a
theorem zw.keep(h:zw e w v xs bl)(hk:Kp bl w w'):zw e w' v xs bl:=by
 obtain⟨g,d,a,f,rfl⟩:=h;refine⟨g,d,fun j p x hp hx=>e.keep (a j p x hp hx) fun b hb=>hk b ?_,Gg f fun b hb=>hk b ?_,rfl⟩
 .rw[Ω];exact .inr (Ζ.2 ⟨p,Θ hp,hb⟩)
 .rw[Ω];exact .inl hb
theorem zw.below(h:zw e w v xs bl)(hb:Below w w w'):zw e w' v xs bl:=h.keep (.of_below hb h.lt)
theorem zw.form(h:zw e w v xs bl):∃ a cap,v=ς a xs.length cap/\(∀ g,a=η g->g=g.block/\g.block∈bl)/\(0<xs.length->∃ g:Nat,a=η ⟨g,0,ν⟩):=by
 obtain⟨l,k,j,i,rfl⟩:=h;rcases i.2 with ⟨b,f⟩ |⟨g,cap,d,b,_⟩
 .exact⟨ν,0,by rw[b,f],fun g h=>(by cases h),fun h=>om⟩
 .refine⟨η g,cap,b,fun g h=>?_,fun _=>⟨g,rfl⟩⟩
  cases h;exact⟨rfl,by rw[b];simp[Ι]⟩
theorem zw.at(h:zw e w (ς (η g) n cap) xs bl){x:α}(hx:xs[j]?=η x):
  ∃ vs ib,e.E w vs x ib/\(∀ m u,vs[m]?=η u->w.cell? ⟨g,j*e.wd+m,ν⟩=η u/\w.frozen? ⟨g,j*e.wd+m,ν⟩=ζ)/\(∀ b∈ib,b∈bl)/\g∈bl/\(bl.Nodup->g ∉ ib/\ib.Nodup):=by
 obtain⟨d,A,r,l,rfl⟩:=h;have z:=(Ε.1 hx).1;have o:d[j]?=η d[j]:=yy om;have a:=Kw A r;have B:n=xs.length:=by
  rcases l.2 with ⟨p,D⟩ |⟨C,q,v,p,_⟩
  .cases p
  .injection p
 subst B;refine⟨d[j].1,d[j].2,r j _ x o hx,?_,?_,?_,?_⟩
 .intro m u s;have k:m<e.wd:=by
   have:=(Ε.1 s).1
   rwa [a _ (yt om)]at this
  have i:j*e.wd+m<xs.length*e.wd:=by
   have:(j+1)*e.wd<=xs.length*e.wd:=Nat.mul_le_mul_right _ z;rw[ϊ]at this;omega
  refine⟨?_,l.frozenAt _⟩;rw[l.cellAt _ i,MD a o m k];exact s
 .intro b y;rw[Ω];exact .inr (Ζ.2 ⟨_,yt om,y⟩)
 .simp[Ι]
 .intro f;rw[ύ]at f;refine⟨fun hg=>f.2.2 g (by simp[Ι]) g (Ζ.2 ⟨_,yt om,hg⟩) rfl,?_⟩;exact zb2 f.2.1 o
theorem zw.put  (h:zw e w (ς (η g) n cap) xs bl) (hd:bl.Nodup)  {x:α} (hx:xs[j]?=η x) (m:Nat) (hm:m<e.wd) (u:ω) (x':α)
  (hE:∀ w' vs ib,e.E w' vs x ib->e.E w' (vs.set m u) x' ib):zw e (w.setCell ⟨g,j*e.wd+m,ν⟩ u) (ς (η g) n cap) (xs.set j x') bl:=by
 obtain⟨d,z,f,A,rfl⟩:=h;have G:=(Ε.1 hx).1;have k:d[j]?=η d[j]:=yy om;have r:=Kw z f;have D:n=xs.length:=by
  rcases A.2 with ⟨q,F⟩ |⟨E,s,B,q,_⟩
  .cases q
  .injection q
 subst D;rw[ύ]at hd;have C:∀ p∈d,g ∉ p.2:=fun p k hgp=>hd.2.2 g (by simp[Ι]) g (Ζ.2 ⟨p,k,hgp⟩) rfl;have v:∀ p∈d,Kp p.2 w (w.setCell ⟨g,j*e.wd+m,ν⟩ u):=fun p k b hb=>Below.heap_setCell _ _ _ _ fun he=>C p k (by subst he;exact hb);refine⟨d.set j (d[j].1.set m u,d[j].2),by simp[z],?_,?_,?_⟩
 .intro i p y a l;by_cases o:i=j
  .subst o;rw[List.getElem?_set_self om]at a l
   cases a;cases l;exact hE _ _ _ (e.keep (f i _ x k hx) (v d[i] (yt _)))
  .rw[List.getElem?_set_ne om]at a l;exact e.keep (f i p y a l) (v _ (Θ a))
 .rw[List.length_set,ME r k m hm u];exact (A.stored (j*e.wd+m) u).1
 .rw[zb1 k]
theorem zw.snoc (h:zw e w v xs bl)  {x:α}  {ib:List Nat} (hc:bl=v.ownBlock.toList++cb) (hk:Kp cb w w')
  (ho:∀ cs,w.ownsRow 0 e.T e.wd v xs.length cs->w'.ownsRow 0 e.T e.wd v' (xs.length+1) (cs++vs)) (hE:e.E w' vs x ib):
  zw e w' v' (xs++[x]) (v'.ownBlock.toList++(cb++ib)):=by
 obtain⟨n,m,g,k,i⟩:=h;rw[i]at hc;have d:=List.append_cancel_left hc;refine⟨n++[(vs,ib)],by simp[m],?_,?_,?_⟩
 .intro j p y a f;by_cases o:j<xs.length
  .rw[Χ om]at a f;exact e.keep (g j p y a f) fun b i=>hk b (by rw[← d];exact Ζ.2 ⟨p,Θ a,i⟩)
  .have l:=(Ε.1 f).1;rw[yh,yS]at l;have:j=xs.length:=om;subst this;rw[← m]at a;simp at a f;subst a;subst f;exact hE
 .have:=ho _ k;rw[List.flatMap_append,yh];simpa using this
 .rw[List.flatMap_append,d];simp
theorem zw.split(h:zw e w v xs bl):∃ cb,bl=v.ownBlock.toList++cb:=by
 obtain⟨a,_,_,_,rfl⟩:=h;exact⟨_,rfl⟩
theorem zw.own(h:zw e w v xs bl):∃ cs,w.ownsRow 0 e.T e.wd v xs.length cs:=by
 obtain⟨b,_,_,a,_⟩:=h;exact⟨_,a⟩
end
structure Kx (α:Type) where
 wd:Nat
 R:Wo->List ω->α->Prop
 len:∀ {w vs x},R w vs x->vs.length=wd
 keep:∀ {w w' vs x},R w vs x->Bw w w'->R w' vs x
def GW{α:Type}(e:Kx α)(w:Wo)(v:ω)(xs:List α):Prop:=
 xs.length<=maxLen/\∃ a cap,v=ς a xs.length cap/\∀ (j:Nat) (x:α),xs[j]?=η x->∃ b o,a=η ⟨b,o,ν⟩/\∃ vs,e.R w vs x/\∀ (m:Nat) (u:ω),vs[m]?=η u->w.cell? ⟨b,o+(j*e.wd+m),ν⟩=η u
theorem GW.below{α:Type}{e:Kx α}{w w':Wo}{xs:List α}(h:GW e w v xs)(hb:Below w w w'):GW e w' v xs:=by
 obtain⟨k,a,d,l,h⟩:=h;refine⟨k,a,d,l,fun j x hx=>?_⟩;obtain⟨b,o,i,n,g,f⟩:=h j x hx;exact⟨b,o,i,n,e.keep g hb,fun m u hu=>(hb.cell (p:=⟨b,o+(j*e.wd+m),ν⟩) (yK _ _ (f m u hu))).trans (f m u hu)⟩
def OA:Kx Bs:={wd:=1,R:=fun _ vs s=>vs=[.string s]/\s.size<=maxLen,len:=fun h=>by rw[h.1];rfl,keep:=fun h _=>h}
def Ut:Jq Bs:={T:=9,wd:=1,E:=fun _ vs s bl=>vs=[.string s]/\bl=[],len:=fun h=>by rw[h.1];rfl,lt:=fun h b hb=>by rw[h.2]at hb;simp at hb,keep:=fun h _=>h}
abbrev QK(w:Wo)(v:ω)(ss:List Bs)(bl:List Nat):Prop:=zw Ut w v ss bl
theorem Vu{w:Wo}{ss:List Bs}:QK w v ss bl↔w.ownsRow 0 9 1 v ss.length (ss.map .string)/\bl=v.ownBlock.toList:=by
 constructor
 .rintro⟨m,k,h,b,rfl⟩;have g:m=ss.map fun s=>([.string s],[]):=by
   apply List.ext_getElem?;intro j;by_cases i:j<ss.length
   .obtain⟨g,n⟩:=h j m[j] ss[j] (yy om) (yy i);rw[yy om,List.getElem?_map,yy i];exact congrArg η (Prod.ext g n)
   .rw[Ο om,Ο (by rw[yl];omega)]
  subst g;have d:((ss.map fun s=>(([.string s],[]):List ω×List Nat)).flatMap (·.1))=ss.map .string:=by
   clear k h b;induction ss with
   | nil=>rfl
   | cons a r ih=>rw[yi,Γ,ih];rfl
  have f:((ss.map fun s=>(([.string s],[]):List ω×List Nat)).flatMap (·.2))=[]:=by
   clear k h b d;induction ss with
   | nil=>rfl
   | cons a r ih=>rw[yi,Γ,ih];rfl
  rw[d]at b;rw[f];exact⟨b,sm⟩
 .rintro⟨b,rfl⟩;refine⟨ss.map fun s=>([.string s],[]),sm,?_,?_,?_⟩
  .intro j p x l hx;rw[List.getElem?_map,hx]at l
   cases l;exact⟨rfl,rfl⟩
  .have d:((ss.map fun s=>(([.string s],[]):List ω×List Nat)).flatMap (·.1))=ss.map .string:=by
    clear b;induction ss with
    | nil=>rfl
    | cons a r ih=>rw[yi,Γ,ih];rfl
   rw[d];exact b
  .have f:((ss.map fun s=>(([.string s],[]):List ω×List Nat)).flatMap (·.2))=[]:=by
    clear b;induction ss with
    | nil=>rfl
    | cons a r ih=>rw[yi,Γ,ih];rfl
   rw[f];simp
theorem QK.ss{w:Wo}{ss:List Bs}(h:QK w v ss bl):∃ a g cap,v=ς a ss.length cap/\SS w a g 0 ss:=by
 obtain⟨d,_⟩:=Vu.1 h;rcases d.2 with ⟨b,i⟩ |⟨g,cap,f,b,k,l,_⟩
 .exact⟨ν,0,0,by rw[b,i],⟨fun h=>om,fun j hj=>om⟩⟩
 .refine⟨η g,g,cap,b,⟨fun _=>rfl,fun j hj=>?_⟩⟩;subst b;rw[Φ,d.cellAt j om];simp[hj]
theorem RStr.ss{w:Wo}{ss:List Bs}(h:GW OA w v ss):∃ a b o cap,v=ς a ss.length cap/\SS w a b o ss/\ss.length<=maxLen/\∀ j,(ss.getD j Β).size<=maxLen:=by
 obtain⟨m,a,cap,n,h⟩:=h;have g:∀ j,(ss.getD j Β).size<=maxLen:=by
  intro j;by_cases d:j<ss.length
  .obtain⟨_,_,_,_,⟨_,i⟩,_⟩:=h j ss[j] (yy d);simpa [ϐ,d]using i
  .simp[ϐ,d]
 by_cases k:0<ss.length
 .obtain⟨b,o,l,_⟩:=h 0 ss[0] (yy k);refine⟨a,b,o,cap,n,⟨fun _=>l,fun j d=>?_⟩,m,g⟩;obtain⟨q,r,f,s,⟨i,_⟩,p⟩:=h j ss[j] (yy d);rw[l]at f;cases f;have:=p 0 (.string ss[j]) (by rw[i];rfl);simp[OA]at this;simpa [ϐ,d]using this
 .exact⟨a,0,0,cap,n,⟨fun h=>absurd h k,fun j d=>om⟩,m,g⟩
structure MF where
 ver:Int
 ptrs:List Bs
 over:Bool
structure MG where
 client:Int
 ptr:Bs
 cap:Int
 since:Int
 closed:Bool
 queue:List MF
structure MH where
 ver:Int
 ptrs:List Bs
structure Hb where
 watches:List MG
 waiting:List MH
def zb4:Kx MF where
 wd:=3
 R:=fun w vs m=>∃ q,vs=[ι κ m.ver,q,θ m.over]/\GW OA w q m.ptrs
 len:=fun h=>by obtain⟨q,h,_⟩:=h;rw[h];rfl
 keep:=fun h hb=>by obtain⟨q,h1,h2⟩:=h;exact⟨q,h1,h2.below hb⟩
def zb5:Kx MH where
 wd:=2
 R:=fun w vs m=>∃ q,vs=[ι κ m.ver,q]/\GW OA w q m.ptrs
 len:=fun h=>by obtain⟨q,h,_⟩:=h;rw[h];rfl
 keep:=fun h hb=>by obtain⟨q,h1,h2⟩:=h;exact⟨q,h1,h2.below hb⟩
def zb6:Kx MG where
 wd:=6
 R:=fun w vs m=>∃ q,vs=[ι κ m.client,σ m.ptr,ι κ m.cap,ι κ m.since,θ m.closed,q]/\m.ptr.size<=maxLen/\GW zb4 w q m.queue
 len:=fun h=>by obtain⟨q,h,_⟩:=h;rw[h];rfl
 keep:=fun h hb=>by obtain⟨q,h1,h0,h2⟩:=h;exact⟨q,h1,h0,h2.below hb⟩
def Rx(w:Wo)(v:ω)(h:Hb):Prop:=∃ p q,v=γ #[p,q]/\GW zb6 w p h.watches/\GW zb5 w q h.waiting
theorem Rx.below{w w':Wo}{h:Hb}(hr:Rx w v h)(hb:Below w w w'):Rx w' v h:=by
 obtain⟨p,q,d,a,b⟩:=hr;exact⟨p,q,d,a.below hb,b.below hb⟩
def MI(ss:List Bs):Nat:=ss.length+qU ss
theorem zt(w:Wo)(o:Obj):Bw w (w.alloc o):=(yI _ _).alloc (ye _) o
theorem MJ:(Tryz.prog.info? 9).map (fun i=>(i.zero,i.size,i.bytes))=η (η (σ Β),1,16):=by kernel_rfl
theorem Ry(s:Bs)(w:Wo)(hsz:s.size<=1048576):
  δ Tryz.prog 119 #[s] w fun e w'=>e=ε (θ (zH s.data.toList).isSome)/\Bw w w':=by
 have a:=zb (WE s w hsz);obtain⟨z,b⟩:∃ z,(zH s.data.toList).isSome=z:=⟨_,rfl⟩;rw[b]at a ⊢;go_in;go_wp2_with fail;go_call a as e w1 ⟨v,rfl,o1,b1⟩
 cases z
 all_goals (
  go_wp2;go_ret;exact⟨rfl,b1⟩)
theorem Rz(b:Nat)(w:Wo)(hb:b<256):
  δ Tryz.prog 214 #[.int .u8 b] w fun e w'=>e=ε (θ (zS b))/\w=w':=by
 by_cases h:48<=b
 .have a:Hid (zS b=decide ((b:Int)<=57)):=by
   show _=_
   unfold zS;rw[yj h,Bool.true_and];apply decide_eq_decide.2;omega
  have d:(48:Int)<=(b:Int):=om;go_in;go_wp2;go_ret;exact⟨by rw[uh a];rfl,rfl⟩
 .have a:Hid (zS b=ζ):=by
   show _=_
   unfold zS;rw[yk h,Bool.false_and]
  have d:¬ (48:Int)<=(b:Int):=om;go_in;go_wp2;go_ret;exact⟨by rw[uh a];rfl,rfl⟩
def Ky(most:Nat)(t:List UInt8):Prop:=1<=t.length/\t.length<=most/\∀ c∈t,zS c.toNat=ξ
instance (most : Nat) (t : List UInt8) : Decidable (Ky most t) := by unfold Ky; infer_instance
def Vv(most:Nat)(t:List UInt8):ω:=if Ky most t then .tuple #[ι κ (qN t:Int),θ ξ]else .tuple #[ι κ 0,θ ζ]
theorem zb7(s:Bs)(most:Nat)(w:Wo)(hs:s.size<=1048576)(hm:most<=9):
  δ Tryz.prog 186 #[s,ι κ (most:Int)] w fun e w'=>e=ε (Vv most s.data.toList)/\w=w':=by
 have d:¬ Ky most s.data.toList->Vv most s.data.toList= .tuple #[ι κ 0,θ ζ]:=fun h=>by unfold Vv;rw[yf h]
 have p:=Zo s;by_cases K:s.size<1
 .have r:=zb (d (fun h=>by have:=h.1;omega));have z:s=⟨#[]⟩:=by
   have:s.data.toList=[]:=yO om;obtain⟨⟨l⟩⟩:=s;simp at this;subst this;rfl
  subst z;go_in;go_wp2;go_ret2;exact⟨by rw[uh r];rfl,rfl⟩
 .have O:s.toList.isEmpty=ζ:=by
   rw[ByteArray.toList_eq,Ϙ];intro e;rw[e]at p;simp at p;omega
  by_cases L:most<s.size
  .have r:=zb (d (fun h=>by have:=h.2.1;omega));have I:(most:Int)<(s.size:Int):=om;go_in;go_wp2;go_ret2;exact⟨by rw[uh r];rfl,rfl⟩
  .have I:¬ (most:Int)<(s.size:Int):=om;have J:0<s.size:=om;have M:(0:Int)<(s.size:Int):=om;have E:Hid (∀ (k:Nat) (n:k<s.size) (w:Wo),δ Tryz.prog 214 #[.int .u8 (s[k].toNat:Int)] w (Rk (θ (zS s[k].toNat)) w)):=fun k n w=>Rz s[k].toNat w (UInt8.toNat_lt _);have o:Hid (∀ k (n:k<s.size),zS s[k].toNat=ζ->Vv most s.data.toList= .tuple #[ι κ 0,θ ζ]):=fun k n hd=>d (fun h=>by
    have:=h.2.2 s[k] (by rw[← Mn s k n];exact yt _);rw[hd]at this;cases this)
   have i:Hid ((∀ k (n:k<s.size),zS s[k].toNat=ξ)->Vv most s.data.toList= .tuple #[ι κ (qN s.data.toList:Int),θ ξ]):=fun b=>by
    have y:Ky most s.data.toList:=⟨om,om,fun c hc=>by
     obtain⟨j,g,rfl⟩:=List.getElem_of_mem hc;exact b j om⟩
    unfold Vv;rw[yg y]
   have F:s.size<=9:=om;go_in;go_wp2;go_loopw [6,18] (fun vv iv wr=>∃ k:Nat,k<=s.size/\iv=ι κ (k:Int)/\vv=ι κ ((qN (s.data.toList.take k):Nat):Int)/\(∀ j (g:j<s.size),j<k->zS s[j].toNat=ξ)/\w=wr) (fun _ iv _=>s.size - (intOf iv).toNat)
   case atStart=>exact⟨0,yu _,rfl,rfl,fun j _ g=>om,rfl⟩
   case round=>
    obtain⟨k,n,rfl,rfl,b,rfl⟩:=hrel;have a:=zb b;by_cases m:k<s.size
    .have C:(k:Int)<(s.size:Int):=om;have f:=zb (uh E k m w);have A:=Kh s k m;have u:Hid (qN (s.data.toList.take (k+1))=qN (s.data.toList.take k)*10+(s[k].toNat - 48)):=zb (by rw[A,Kr]);have x:qN (s.data.toList.take k)<1000000000∨¬ ∀ c∈s.data.toList.take k,zS c.toNat=ξ:=by
      rcases Mo k (s.data.toList.take k) (by rw[ym];omega)with h | h
      .left;have:10 ^ k<=10 ^ 9:=Nat.pow_le_pow_right om om;omega
      .exact .inr h
     have B:qN (s.data.toList.take k)<1000000000:=x.elim id fun h=>absurd (fun c hc=>by
      obtain⟨j,g,rfl⟩:=List.getElem_of_mem hc;rw[ym]at g;rw[List.getElem_take];exact uh a j om om) h
     cases hd:zS s[k].toNat with
     | false=>
      have v:=zb (uh o k m hd);rw[hd]at f;go_wp2_with fail;go_call f as e w2 ⟨rfl,rfl⟩;go_wp2;go_ret2;exact⟨by rw[uh v];rfl,rfl⟩
     | true=>
      have N:=QW.1 hd;have q:Hid (∀ j (g:j<s.size),j<k+1->zS s[j].toNat=ξ):=fun j g hjk=>by
       by_cases e:j=k
       .subst e;exact hd
       .exact uh a j g om
      rw[hd]at f;have G:(48:Int)<=(s[k].toNat:Int):=om;have H:(s[k].toNat:Int)<=57:=om;generalize qN (s.data.toList.take k)=D at *;go_wp2_with fail;go_call f as e w2 ⟨rfl,rfl⟩;go_wp2;go_roundw
      case rel=>exact⟨k+1,om,by go_num,by rw[uh u];go_num,q,trivial⟩
      case measure=>simp[intOf];omega
    .have e:s.data.toList.take k=s.data.toList:=yr om;rw[e];have v:=zb (uh i (fun j g=>uh a j g om));generalize qN s.data.toList=D at *;go_wp2;go_ret2;exact⟨by rw[uh v];rfl,rfl⟩
theorem zb8(most:Nat)(t:List UInt8):∃ (z:Int) (b:Bool),Vv most t= .tuple #[ι κ z,θ b]:=by
 unfold Vv;split
 .exact⟨_,_,rfl⟩
 .exact⟨_,_,rfl⟩
def WF(w:Wo):Prop:=Lib.Utf8Tabs 2 3 w
theorem WF.below{w w':Wo}(h:WF w)(hb:Below w w w'):WF w':=by
 refine⟨fun c hc=>?_,fun i hi=>?_⟩
 .have:=h.1 c hc;exact (hb.cell (yK _ _ this)).trans this
 .have a:=h.2 i hi;exact⟨(hb.cell (yK _ _ a.1)).trans a.1,(hb.cell (yK _ _ a.2)).trans a.2⟩
def Qg(B:Nat)(w:Wo):Prop:=∃ w0:Wo,w0.heap.size<=B/\WF w0/\Bw w0 w
theorem Qg.of{w:Wo}(h:WF w):Qg w w:=⟨w,ye _,h,yI _ _⟩
theorem Qg.tabs{w:Wo}(h:Qg B w):WF w:=by
 obtain⟨a,_,t,b⟩:=h;exact t.below b
theorem Qg.next{w w':Wo}(h:Qg B w)(hb:Below B' w w')(hB:B<=B'):Qg B w':=by
 obtain⟨d,a,t,b⟩:=h;exact⟨d,a,t,b.trans (hb.mono om)⟩
theorem RA{w:Wo}(h:w.ownsRow B e 1 v n xs):∀ k,v.ownBlock=η k->∃ cs fz,w.heap[k]?=η (χ cs e fz):=by
 intro k a;rcases h.2 with ⟨rfl,_⟩ |⟨g,b,d,rfl,_,f,_⟩
 .simp[Ι]at a
 .simp only[Ι,Option.some.injEq]at a;subst a;exact⟨_,_,f⟩
theorem RC(B b:Nat)(bs:List ω)(w:Wo)(h:Lib.IsBuilder 173 5 B b bs w):
  δ Tryz.prog 226 #[b] w fun e w'=>e=ε (τ #[])/\(Lib.BuilderAt 173 5 B b b bs w'/\Below B w w'/\Lib.OthersKept 5 (η b) w w'):=by
 rcases h with h | h
 .go_call My b w h.cell0 h.shape h.frozen0 as e w' ⟨rfl,rfl⟩;exact⟨rfl,h.used _,(yI B w).setCell (p:=b) h.1 _,(Lib.OthersKept.refl _ _ w).setCell b rfl _⟩
 .go_call Mx b w h.cell0 as e w' ⟨rfl,rfl⟩;exact⟨rfl,h,yI B _,Lib.OthersKept.refl _ _ _⟩
theorem Kz(B b:Nat)(bs:List ω)(c:Int)(w:Wo)(h:Lib.IsBuilder 173 5 B b bs w)(hlen:bs.length+1<=140737488355328)(hBw:B<=w.heap.size):
  δ Tryz.prog 191 #[b,.int .u8 c] w fun e w'=>e= .returned .nilIface/\(Lib.BuilderAt 173 5 B b b (bs++[.int .u8 c]) w'/\Below B w w'/\Lib.OthersKept 5 (η b) w w'):=by
 obtain⟨K,I,z,A,C⟩:=info_parts infoByte;go_in;go_wp2_with (go_at_call 226;refine (RC B b bs _ h).mono ?_);rintro e o ⟨rfl,H,l,s⟩;obtain⟨E,v,n,d,y⟩:=H;have c0:o.cell? b=η b:=by rw[yG n];rfl
 have c1:o.cell? ⟨b,1,ν⟩=η v:=by rw[yG n];rfl
 go_wp2_with (at_builtin;refine wpList_append_own _ rfl _ _ 22 rfl B 5 K (.int .u8 0) 1 1 Tryz.underlying22 I z A C rfl dc _ _ _ rfl (d.alloc _) o 1 1 [.int .u8 c] rfl rfl ?c1 ?c2 ?c3 ?c4 ?c5 ?_)
 case c1=>
  intro j u q
  match j,q with
  | 0,q=>simp at q;subst q;simp[Addr.add]
 case c2=>intro u F;simp at F;subst F;rfl
 case c3=>unfold maxLen;omega
 case c4=>omega
 case c5=>have:=l.size;simp;omega
 intro L D f a _;have x:b<o.heap.size:=by
  rcases ϋ b o with r | r
  .exact r
  .simp[Μ r]at n
 have m:D.heap[b]?=η (χ #[b,v] 173 (0,0)):=by
  rw[a.block b so (fun e=>y e.symm),Lib.alloc_old o _ b x];exact n
 have M:D.cell? b=η b:=by rw[yG m];rfl
 have N:D.cell? ⟨b,1,ν⟩=η v:=by rw[yG m];rfl
 have O:=yJ m 1;obtain⟨g,i,rfl⟩:∃ g i,L=ς (η g) (bs.length+1) i:=by
  rcases f.2 with ⟨_,P⟩ |⟨g,i,G,J,_⟩
  .omega
  .exact⟨g,i,J⟩
 go_wp2;go_ret;refine⟨rfl,?_,?_,((s.alloc _).grown a (RA (d.alloc _))).setCell ⟨b,1,ν⟩ rfl _⟩
 .exact Lib.BuilderAt.put (T:=173) (e:=5) E m (bs':=bs++[.int .u8 c]) (by simpa using f) dc
 .exact ((l.alloc (by have:=l.size;omega) _).grown a (by have:=l.size;simp;omega) (fun k hk=>(d.lt k hk).1)).setCell (p:=⟨b,1,ν⟩) E _
theorem Vw(B b:Nat)(bs:List ω)(s:Bs)(w:Wo)(h:Lib.IsBuilder 173 5 B b bs w)(hlen:bs.length+s.size<=140737488355328)(hBw:B<=w.heap.size):
  δ Tryz.prog 231 #[b,s] w fun e w'=>e=ε (τ #[ι κ s.size,.nilIface])/\(Lib.BuilderAt 173 5 B b b (bs++ϓ s) w'/\Below B w w'/\Lib.OthersKept 5 (η b) w w'):=by
 obtain⟨J,I,y,z,A⟩:=info_parts infoByte;go_in;go_wp2_with (go_at_call 226;refine (RC B b bs _ h).mono ?_);rintro e n ⟨rfl,H,m,q⟩;obtain⟨E,v,j,d,u⟩:=H;have c0:n.cell? b=η b:=by rw[yG j];rfl
 have c1:n.cell? ⟨b,1,ν⟩=η v:=by rw[yG j];rfl
 go_wp2_with (at_builtin;refine ϒ _ rfl _ _ 22 9 rfl B 5 J Tryz.underlying22 Tryz.underlying9 I y z A _ _ _ rfl d s rfl ?c3 ?c4 ?c5 ?_)
 case c3=>unfold maxLen;omega
 case c4=>omega
 case c5=>have:=m.size;omega
 intro K C f a _;have r:b<n.heap.size:=by
  rcases ϋ b n with o | o
  .exact o
  .simp[Μ o]at j
 have i:C.heap[b]?=η (χ #[b,v] 173 (0,0)):=by
  rw[a.block b r (fun e=>u e.symm)];exact j
 have L:C.cell? b=η b:=by rw[yG i];rfl
 have M:C.cell? ⟨b,1,ν⟩=η v:=by rw[yG i];rfl
 have N:=yJ i 1;obtain⟨D,F,l,rfl⟩:∃ D F l,K=ς D F l:=by
  rcases f.2 with ⟨x,_⟩ |⟨g,l,G,x,_⟩
  .exact⟨_,_,_,x⟩
  .exact⟨_,_,_,x⟩
 go_wp2;go_ret2;refine⟨rfl,?_,?_,(q.grown a (RA d)).setCell ⟨b,1,ν⟩ rfl _⟩
 .exact Lib.BuilderAt.put (T:=173) (e:=5) E i (bs':=bs++ϓ s) (by simpa [Lib.strCells_length]using f) dc
 .exact (m.grown a (by have:=m.size;omega) (fun k hk=>(d.lt k hk).1)).setCell (p:=⟨b,1,ν⟩) E _
theorem Uu(h:c.toNat=n):c=Κ n:=by rw[← h,Ρ]
theorem RD{α β:Type}{o:Option α}{f:α->β}{b:β}(h:o.map f=η b):∃ a,o=η a/\f a=b:=by
 cases o with
 | none=>simp at h
 | some a=>exact⟨a,rfl,by simpa using h⟩
theorem zb9(n:Nat):∀ (p t:List UInt8),p.length<=n->zQ p=η t->(∀ c∈p,¬ c.toNat=47)->p=Zg t:=by
 induction n with
 | zero=>intro p t k h _;obtain rfl:=yO (Nat.le_zero.1 k);simp[zQ]at h;subst h;rfl
 | succ n ih=>
  intro p t k h a
  cases p with
  | nil=>simp[zQ]at h;subst h;rfl
  | cons c r=>
   by_cases f:(c.toNat:Int)=126
   .cases r with
    | nil=>rw[XT f]at h;cases h
    | cons d r=>
     by_cases l:(d.toNat:Int)=48
     .rw[Kj r f l]at h;obtain⟨g,i,j⟩:=RD h;subst j;have:=ih r g (by simp at k;omega) i (fun c b=>a c (yw _ (yw _ b)));rw[this,Uu (show c.toNat=126 by omega),Uu (show d.toNat=48 by omega)];rfl
     .by_cases m:(d.toNat:Int)=49
      .rw[Kk r f m]at h;obtain⟨g,i,j⟩:=RD h;subst j;have:=ih r g (by simp at k;omega) i (fun c b=>a c (yw _ (yw _ b)));rw[this,Uu (show c.toNat=126 by omega),Uu (show d.toNat=49 by omega)];rfl
      .rw[XU r f l m]at h;cases h
   .rw[Ki r f]at h;obtain⟨g,i,j⟩:=RD h;subst j;have:=ih r g (by simp at k;omega) i (fun c b=>a c (yw _ b));have b:¬ (c.toNat:Int)=47:=fun e=>a c yq om;show c :: r=Jp c++Zg g
    rw[XS f b,← this];rfl
theorem OB:∀ (l p:List UInt8),p∈ZY l->∀ c∈p,¬ c.toNat=47
 | [],p,h,c,hc=>by simp[ZY]at h;subst h;simp at hc
 | a :: r,p,h,c,hc=>by
  by_cases ha:a.toNat=47
  .rw[WB r ha]at h;rcases Ν.1 h with rfl | h
   .simp at hc
   .exact OB r p h c hc
  .cases hp:ZY r with
   | nil=>exact absurd hp (WA r)
   | cons q qs=>
    rw[Gd ha hp]at h;rcases Ν.1 h with rfl | h
    .rcases Ν.1 hc with rfl | hc
     .exact ha
     .exact OB r q (by rw[hp];exact yq) c hc
    .exact OB r p (by rw[hp];exact yw _ h) c hc
def Uv(ps:List (List UInt8)):List UInt8:=ps.flatMap (fun p=>47 :: p)
theorem MK:∀ l:List UInt8,Uv (ZY l)=47 :: l
 | []=>rfl
 | a :: r=>by
  have ih:=MK r;by_cases b:a.toNat=47
  .rw[WB r b,show Uv ([] :: ZY r)=47 :: Uv (ZY r)from rfl,ih,Uu b];rfl
  .cases hp:ZY r with
   | nil=>exact absurd hp (WA r)
   | cons q qs=>
    rw[Gd b hp];rw[hp]at ih;have e:q++Uv qs=r:=by simpa [Uv]using ih
    rw[← e];rfl
def ptr(ts:List (List UInt8)):List UInt8:=ts.flatMap (fun t=>47 :: Zg t)
theorem MM:∀ (ps ts:List (List UInt8)),ps.mapM zQ=η ts->(∀ p∈ps,∀ c∈p,¬ c.toNat=47)->Uv ps=ptr ts
 | [],ts,h,_=>by simp at h;subst h;rfl
 | p :: ps,ts,h,hno=>by
  rw[ϕ]at h
  cases h1:zQ p with
  | none=>rw[h1]at h;simp at h
  | some t=>
   cases h2:ps.mapM zQ with
   | none=>rw[h1,h2]at h;simp at h
   | some us=>
    rw[h1,h2]at h;simp at h;subst h;have e1:=zb9 _ p t (ye _) h1 (hno p yq);have a:=MM ps us h2 (fun q hq=>hno q (yw _ hq));show 47 ::(p++Uv ps)=47 ::(Zg t++ptr us)
    rw[a,e1]
theorem MN(h:zH l=η ts):l=ptr ts:=by
 cases l with
 | nil=>simp[zH]at h;subst h;rfl
 | cons c r=>
  rw[zH]at h;split at h
  .rename_i hc;have:=MM _ _ h (fun p hp=>OB r p hp);rw[MK]at this;rw[← this,Uu hc];rfl
  .cases h
theorem zca{a b:List UInt8}(h:Zg a=Zg b):a=b:=by
 have d:=Ox a;have f:=Ox b;rw[h,f]at d;exact (Option.some.inj d).symm
def Sl(l:List UInt8):Prop:=l=[]∨∃ r,l=47 :: r
theorem RE(ts:List (List UInt8)):Sl (ptr ts):=by cases ts with
 | nil=>exact .inl rfl
 | cons t ts=>exact .inr ⟨_,rfl⟩
theorem MO:∀ (a b x y:List UInt8),(∀ c∈a,¬ c.toNat=47)->(∀ c∈b,¬ c.toNat=47)->Sl x->Sl y->a++x=b++y->a=b/\x=y
 | [],[],x,y,_,_,_,_,h=>⟨rfl,h⟩
 | [],d :: b,x,y,_,hb,hx,_,h=>by
  rcases hx with rfl |⟨r,rfl⟩
  .simp at h
  .simp at h;exact absurd (by rw[← h.1];rfl) (hb d yq)
 | c :: a,[],x,y,ha,_,_,hy,h=>by
  rcases hy with rfl |⟨r,rfl⟩
  .simp at h
  .simp at h;exact absurd (by rw[h.1];rfl) (ha c yq)
 | c :: a,d :: b,x,y,ha,hb,hx,hy,h=>by
  simp at h;have:=MO a b x y (fun c hc=>ha c (yw _ hc)) (fun c hc=>hb c (yw _ hc)) hx hy h.2;exact⟨by rw[h.1,this.1],this.2⟩
theorem zcb(hx:Sl x)(hy:Sl y):Sl (x++y):=by
 rcases hx with rfl |⟨r,rfl⟩
 .exact hy
 .exact .inr ⟨_,rfl⟩
theorem MP:∀ (ts us:List (List UInt8)) (rest:List UInt8),Sl rest->ptr us=ptr ts++rest->∃ vs,us=ts++vs
 | [],us,_,_,_=>⟨us,rfl⟩
 | t :: ts,us,rest,hr,h=>by
  cases us with
  | nil=>simp[ptr]at h
  | cons u us=>
   have e:Zg u++ptr us=Zg t++(ptr ts++rest):=by
    have:(47:UInt8) ::(Zg u++ptr us)=47 ::(Zg t++ptr ts++rest):=h;simpa using this
   obtain⟨a,b⟩:=MO _ _ _ _ (Oy u) (Oy t) (RE us) (zcb (RE ts) hr) e;obtain⟨vs,rfl⟩:=MP ts us rest hr b;exact⟨vs,by rw[zca a];rfl⟩
theorem MQ(ts us:List (List UInt8)):qe ts us=ξ↔∃ vs,us=ts++vs:=by
 constructor
 .intro h;have b:=zbS h;rw[← zbR b]at h;have h:=of_decide_eq_true h;refine⟨us.drop ts.length,?_⟩;have e:ts=us.take ts.length:=by
   have a:(ts.map zG).map (·.data.toList)=(us.take ts.length).map (fun x=>(zG x).data.toList):=by
    rw[← List.map_take,yr sm]at h;rw[h];simp[Function.comp_def]
   simpa [zG,Function.comp_def]using a
  conv=>lhs;rw[← Ϗ ts.length us]
  rw[← e]
 .rintro⟨vs,rfl⟩;exact zbU ts vs
def Yl(x y:List UInt8):Bool:=Ϛ y x && (match ώ y x with | []=>ξ | c :: _=>c.toNat ==47)
theorem MR(hx:zH x=η ts)(hy:zH y=η us):Yl x y=qe ts us:=by
 have f:=MN hx;have g:=MN hy
 cases hp:qe ts us with
 | true=>
  obtain⟨d,rfl⟩:=(MQ ts us).1 hp;have e:y=x++ptr d:=by rw[f,g];simp[ptr]
  have a:Ϛ y x=ξ:=by rw[e];simp[Ϛ]
  unfold Yl;rw[a];have b:ώ y x=ptr d:=by unfold ώ;rw[a,yg rfl,e];simp
  rw[b];rcases RE d with h |⟨r,h⟩<;>rw[h]<;>rfl
 | false=>
  cases hl:Yl x y with
  | false=>rfl
  | true=>
   exfalso;unfold Yl at hl;simp only[Bool.and_eq_true]at hl;obtain⟨a,b⟩:=hl;have j:x<+:y:=by simpa [Ϛ]using a
   obtain⟨r,i⟩:=j;have k:ώ y x=r:=by unfold ώ;rw[a,yg rfl,← i];simp
   rw[k]at b;have l:Sl r:=by
    cases r with
    | nil=>exact .inl rfl
    | cons c r=>exact .inr ⟨r,by
                    have:c.toNat=47:=by simpa using b
                    rw[Uu this];rfl⟩
   have:=(MQ ts us).2 (MP ts us r l (by rw[← f,← g,i]));rw[hp]at this;cases this
def Vd(x y:List UInt8):Bool:=(zH x).isSome && (zH y).isSome && (Yl x y || Yl y x)
theorem zcc(x y:List UInt8):Vd x y=decide (0<GV (zH x) (zH y)):=by
 unfold Vd
 cases hx:zH x with
 | none=>simp[GV]
 | some ts=>
  cases hy:zH y with
  | none=>simp[GV]
  | some us=>
   rw[MR hx hy,MR hy hx];simp only[Option.isSome_some,Bool.true_and,GV];by_cases a:qe ts us=ξ<;>by_cases b:qe us ts=ξ<;>simp[a,b]
def WG(xs ys:List (List UInt8)):Bool:=xs.any fun x=>ys.any fun y=>Vd x y
theorem zcd(B b:Nat)(l:List UInt8)(s:Bs)(w:Wo)(h:zZ B b l w)(hB:B<=w.heap.size)(hs:s.size<=1048576)(hl:l.length<=2097152):
  δ Tryz.prog 193 #[b,s] w fun e w'=>e=ε (τ #[])/\zZ B b (l++47 :: Zg s.data.toList) w'/\Below B w w':=by
 have C:=zb (yL l);go_in;go_wp2_with (go_at_call 191;refine (XX B b _ 47 _ h (by rw[uh C];omega) hB).mono ?_);rintro e J ⟨rfl,D,x⟩;have v:=zZ.byte (c:=47) rfl D;go_wp2;go_loopw [9] (fun i wr=>∃ j:Nat,j<=s.size/\i=ι κ j/\zZ B b (l++47 :: Zg (s.data.toList.take j)) wr/\Below B w wr) (fun i _=>s.size - (intOf i).toNat)
 case atStart=>exact⟨0,yu _,rfl,by simpa [Zg]using v,x⟩
 case round=>
  obtain⟨j,H,rfl,p,r⟩:=hrel;have g:B<=wr.heap.size:=by have:=r.size;omega
  by_cases z:j<s.size
  .have I:(Α (l++47 :: Zg (s.data.toList.take j))).length<=l.length+1+2*j:=by
    have:=Un (s.data.toList.take j);have G:(s.data.toList.take j).length=j:=by rw[ym,Zo];omega
    rw[yL,yh,yp];omega
   have u:Hid (l++47 :: Zg (s.data.toList.take (j+1))=(l++47 :: Zg (s.data.toList.take j))++Jp s[j]):=by
    show _=_
    rw[Kh s j z,Mf];simp
   generalize l++47 :: Zg (s.data.toList.take j)=q at *;by_cases a:(s[j].toNat:Int)=126
   .have E:((s[j].toNat:Int) ==126)=ξ:=by simpa using a
    have n:=zb (Re a);go_wp2_with (go_at_call 231;refine (MA B b _ _ _ p (by show _+2<=_;omega) g).mono ?_);rintro e A ⟨rfl,o,f⟩;have d:=zZ.str (m:=[126,48]) rfl o;go_wp2;go_roundw
    case rel=>exact⟨j+1,om,by go_num,by rw[uh u,uh n];exact d,r.trans f⟩
    case measure=>simp[intOf];omega
   .have E:((s[j].toNat:Int) ==126)=ζ:=by simpa using a
    by_cases k:(s[j].toNat:Int)=47
    .have F:((s[j].toNat:Int) ==47)=ξ:=by simpa using k
     have n:=zb (Rf k);go_wp2_with (go_at_call 231;refine (MA B b _ _ _ p (by show _+2<=_;omega) g).mono ?_);rintro e A ⟨rfl,o,f⟩;have d:=zZ.str (m:=[126,49]) rfl o;go_wp2;go_roundw
     case rel=>exact⟨j+1,om,by go_num,by rw[uh u,uh n];exact d,r.trans f⟩
     case measure=>simp[intOf];omega
    .have F:((s[j].toNat:Int) ==47)=ζ:=by simpa using k
     have n:=zb (XS a k);go_wp2_with (go_at_call 191;refine (XX B b _ _ _ p om g).mono ?_);rintro e A ⟨rfl,o,f⟩;have d:=zZ.byte (c:=s[j]) rfl o;go_wp2;go_roundw
     case rel=>exact⟨j+1,om,by go_num,by rw[uh u,uh n];exact d,r.trans f⟩
     case measure=>simp[intOf];omega
  .have y:j=s.size:=om;subst y;rw[Ol]at p;go_wp2;go_end0;exact⟨rfl,p,r⟩
theorem MS(xa:Option Addr)(xb xo xc:Nat)(ss:List Bs)(w:Wo)(h:SS w xa xb xo ss)(hm:ss.length+qU ss<=1048576):
  δ Tryz.prog 143 #[ς xa ss.length xc] w fun e w'=>e=ε (σ ⟨(ZA ss).toArray⟩)/\Below w w w':=by
 have b:=h.ad;have u:=zb h.cell;have r:ss.length<=1048576:=om;have o:=zb hm;go_in;go_wp2;go_loopw [8] (fun i wr=>∃ k:Nat,k<=ss.length/\i=ι κ k/\zZ w w (ZA (ss.take k)) wr/\Below w w wr) (fun i _=>ss.length - (intOf i).toNat)
 case atStart=>exact⟨0,yu _,rfl,Lib.fresh_isBuilder _ _ w,(yI _ _).alloc (ye _) _⟩
 case round=>
  obtain⟨k,C,rfl,l,j⟩:=hrel;have d:=j.size;by_cases a:k<ss.length
  .have g:=uh u k a;have B:=(j.cell (p:=⟨xb,xo+k,ν⟩) (yK _ _ g)).trans g;obtain rfl:=b om;have n:(ss.getD k Β).size<=1048576:=by have:=XR a;have:=uh o;omega
   have m:(ZA (ss.take k)).length<=2097152:=by
    have y:=Mh (ss.take k);have q:=XR a;have z:=uh o;have A:(ss.take k).length=k:=by rw[ym];omega
    omega
   have v:Hid (ZA (ss.take (k+1))=ZA (ss.take k)++47 :: Zg (ss.getD k Β).data.toList):=by
    show _=_;rw[Oi a,Mg]
   clear b g;generalize ss.getD k Β=s at *;generalize ZA (ss.take k)=p at *;go_wp2_with (go_at_call 193;refine (zcd w w p s _ l d n m).mono ?_);rintro e x ⟨rfl,q,f⟩;go_wp2;go_roundw
   case rel=>exact⟨k+1,om,by go_num,by rw[uh v];exact q,j.trans f⟩
   case measure=>simp[intOf];omega
  .have e:ss.take k=ss:=yr om;rw[e]at l;have E:=zb e;go_wp2_with (go_at_call 89;refine (XY w w (ZA ss) _ l d).mono ?_);rintro e x ⟨rfl,f⟩;go_wp2;go_ret;exact⟨rfl,j.trans f⟩
theorem MT {α:Type} {e:Jq α} (hone:∀ {w vs x bl},e.E w vs x bl->∀ u∈vs,u.oneCell'=ξ)  (ht:Tryz.prog.underlying t=η (.slice e.T))  
  (hinfo:(Tryz.prog.info? e.T).map (fun i=>(i.zero,i.size,i.bytes))=η (η z,e.wd,bytes)) (hzs:z.cells.size=e.wd) (hsz:0<e.wd) (hby:bytes<=100)
  {w:Wo}     {Q:Exit->Act->Wo->Prop} (hg:o.guard=ν) (s x:Operand)
  (ho:o.op= .call {callee:=.builtin .append,args:=#[s,x],argTypes:=#[t,t]})  {xs:List α}  (hs:a.eval s=ς ν 0 0) (hx:a.eval x=v)
  (h:zw e w v xs (v.ownBlock.toList++cb)) (hl:xs.length<=40000000)
  (hK:∀ v' w',zw e w' v' xs (v'.ownBlock.toList++cb)->(∀ g,v'.ownBlock=η g->w.heap.size<=g)->Below w w w'->wpList Tryz.prog ops Q rest (a.put o.dst v') w'):wpList Tryz.prog ops Q (o :: rest) a w:=by
 obtain⟨N,M,I,J,K⟩:=info_parts hinfo;have G:=h.lt;obtain⟨r,m,A,d,E⟩:=h;have F:=List.append_cancel_left E;have l:=w.ownsRow_nil w e.T e.wd;rcases d.2 with ⟨C,U⟩ |⟨g,D,O,C,_⟩
 .subst C;refine wpList_append_own_none hg s x t ho w e.T N e.wd ht M _ _ _ hs l hx ?_;exact hK _ w ⟨r,m,A,d,E⟩ (fun g hg=>by simp[Ι]at hg) (yI _ _)
 .have S:=Kw m A;have n:∀ u∈r.flatMap (·.1),u.oneCell'=ξ:=by
   intro u q;obtain⟨p,B,q⟩:=Ζ.1 q;obtain⟨j,R,rfl⟩:=yY.1 B;exact hone (A j r[j] (xs[j]'om) (yy R) (yy om)) u q
  have H:v.ownBlock=η g:=by rw[C];rfl
  refine wpList_append_own _ hg s x t ho w e.T N z e.wd bytes ht M I J K hzs hsz _ 0 [] hs l g xs.length D (r.flatMap (·.1)) (hx.trans C) d.1 (fun j u q=>d.cells H j u q) n mo ?_ (ye _) ?_
  .have:(0+xs.length)*bytes<=(0+xs.length)*100:=Nat.mul_le_mul_left _ hby
   omega
  .intro v' w' L P _;have f:=(yI _ _).grown P (ye _) (fun k hk=>by simp[Ι]at hk);refine hK v' w' ⟨r,m,fun j p y B hy=>e.keep (A j p y B hy) fun b hb1=>f.block b (G b (by rw[E];exact Ω.2 (.inr (Ζ.2 ⟨p,Θ B,hb1⟩)))),?_,by rw[F]⟩ (fun g hg=>(L.lt g hg).1) f;have:=qH L (yu _);simpa using this
theorem XZ(h:c.toNat=n):c=Κ n:=by rw[← h,Ρ]
theorem OC:∀ (n:Nat) (l t:List UInt8),l.length<=n->zQ l=η t->(∀ c∈l,¬ c.toNat=47)->Zg t=l
 | _,[],t,_,h,_=>by rw[zQ]at h;injection h with h;subst h;rfl
 | 0,c :: r,t,hn,_,_=>by simp at hn
 | n+1,c :: r,t,hn,h,hc=>by
  by_cases h1:c.toNat=126
  .have hcI:(c.toNat:Int)=126:=om;have j:=XZ h1
   cases r with
   | nil=>rw[XT hcI]at h;cases h
   | cons d r=>
    have k:r.length<=n:=by simp at hn;omega
    have b:∀ c∈r,¬ c.toNat=47:=fun x hx=>hc x (yw _ (yw _ hx));by_cases m:d.toNat=48
    .have i:=XZ m;rw[Kj r hcI om]at h;simp only[yA]at h;obtain⟨a,f,rfl⟩:=h;have g:=OC n r a k f b;show Jp 126++Zg a=_
     rw[g,j,i];rfl
    .by_cases o:d.toNat=49
     .have i:=XZ o;rw[Kk r hcI om]at h;simp only[yA]at h;obtain⟨a,f,rfl⟩:=h;have g:=OC n r a k f b;show Jp 47++Zg a=_
      rw[g,j,i];rfl
     .rw[XU r hcI om om]at h;cases h
  .rw[Ki r om]at h;simp only[yA]at h;obtain⟨a,f,rfl⟩:=h;have g:=OC n r a (by simp at hn;omega) f (fun x hx=>hc x (yw _ hx));show Jp c++Zg a=_
   have p:=hc c yq;rw[g,XS om om];rfl
theorem MU:∀ (l p:List UInt8) (ps:List (List UInt8)),ZY l=p :: ps->l=p++ps.flatMap (47 :: ·)/\∀ q∈p :: ps,∀ c∈q,¬ c.toNat=47
 | [],p,ps,h=>by
  rw[ZY]at h;injection h with h1 h2;subst h1;subst h2;exact⟨rfl,fun q hq c hc=>by simp at hq;subst hq;simp at hc⟩
 | c :: r,p,ps,h=>by
  obtain⟨p',ps',e⟩:∃ p' ps',ZY r=p' :: ps':=by
   cases hp:ZY r with
   | nil=>exact absurd hp (WA r)
   | cons a b=>exact⟨a,b,rfl⟩
  obtain⟨h1,h2⟩:=MU r p' ps' e;by_cases hc:c.toNat=47
  .rw[WB r hc,e]at h;injection h with e1 e2;subst e1;subst e2;refine⟨?_,fun q hq x hx=>?_⟩
   .have d:=XZ hc;rw[d,h1];rfl
   .rcases Ν.1 hq with rfl | hq
    .simp at hx
    .exact h2 q hq x hx
  .rw[Gd hc e]at h;injection h with e1 e2;subst e1;subst e2;refine⟨by rw[List.cons_append,← h1],fun q hq x hx=>?_⟩;rcases Ν.1 hq with rfl | hq
   .rcases Ν.1 hx with rfl | hx
    .exact hc
    .exact h2 p' yq x hx
   .exact h2 q (yw _ hq) x hx
theorem MV:∀ (ps ts:List (List UInt8)),ps.mapM zQ=η ts->(∀ q∈ps,∀ c∈q,¬ c.toNat=47)->ts.map Zg=ps
 | [],ts,h,_=>by simp at h;subst h;rfl
 | p :: ps,ts,h,hp=>by
  rw[ϕ]at h
  cases h1:zQ p with
  | none=>rw[h1]at h;cases h
  | some t=>
   cases h2:ps.mapM zQ with
   | none=>rw[h1,h2]at h;cases h
   | some ts'=>
    rw[h1,h2]at h;injection h with h;subst h;rw[yi,OC p.length p t (ye _) h1 (hp p yq),MV ps ts' h2 (fun q hq=>hp q (yw _ hq))]
theorem zce(ts:List (List UInt8)):ZA (ts.map zG)=(ts.map Zg).flatMap (47 :: ·):=by
 unfold ZA;rw[List.flatMap_map,List.flatMap_map];rfl
theorem MW(h:zH l=η ts):ZA (ts.map zG)=l:=by
 cases l with
 | nil=>rw[zH]at h;injection h with h;subst h;rfl
 | cons c r=>
  rw[zH]at h;split at h
  .rename_i hc;obtain⟨p,d,e⟩:∃ p d,ZY r=p :: d:=by
    cases hp:ZY r with
    | nil=>exact absurd hp (WA r)
    | cons a b=>exact⟨a,b,rfl⟩
   obtain⟨g,i⟩:=MU r p d e;unfold Jg at h;rw[e]at h;rw[zce,MV _ ts h i];have f:=XZ hc;rw[f,g];rfl
  .cases h
theorem zcf  (w:Wo) {base:Nat} {ty e:TypeId} {i:TypeInfo}  (ht:P.underlying t=η (.slice e)) (hi:P.info? e=η i) (hz:i.zero=η z)
     (hown:w.ownsRow base e i.size v n xs) {a:Addr} {m c:Nat}  (hl:news.length=m*i.size) (hnews:∀ j u,news[j]?=η u->w.cell? (a.add j)=η u) (h1:∀ u∈news,u.oneCell'=ξ)
  (h0:0<m) (h63:n+m<=maxLen) (hbytes:(n+m)*i.bytes<=140737488355328)  {w':Wo} (hr:(Builtin.append_ #[t,t] ty #[v,ς (η a) m c]).run P w= .ok v' w'):
  v'.ownBlock=v.ownBlock∨v'.ownBlock=η w:=by
 unfold maxLen at h63;rcases hown.2 with ⟨k,o⟩ |⟨g,d,f,k,_,l,_,_,h,_⟩
 .subst k;subst o;have hx:=run_append_nil (P:=P) w t ty e i z ht hi hz a m c news hl hnews h0 om (by simp only[Φ]at hbytes;omega);rw[hx]at hr;injection hr with hr1 _;subst hr1;exact .inr rfl
 .subst k;by_cases b:n+m<=d
  .have hx:=run_append_room (P:=P) w t ty e i ht hi g n d f l a m c news hl hnews h1 b (by rw[hl,h,← ϊ];exact Nat.mul_le_mul_right _ b);rw[hx]at hr;injection hr with hr1 _;subst hr1;exact .inl rfl
  .have hx:=run_append_grow (P:=P) w t ty e i z ht hi hz g n d xs hown.1 (hown.cells (g:=g) rfl) a m c news hl hnews om om (growslice_fits om hbytes);rw[hx]at hr;injection hr with hr1 _;subst hr1;exact .inr rfl
theorem MX {e:TypeId} (ht:Tryz.prog.underlying t=η (.slice e))  
  (hinfo:(Tryz.prog.info? e).map (fun i=>(i.zero,i.size,i.bytes))=η (η z,1,bytes)) (hzs:z.cells.size=1) (hby:bytes<=100)
  {w:Wo}     {Q:Exit->Act->Wo->Prop} (hg:o.guard=ν) (s x:Operand)
  (ho:o.op= .call {callee:=.builtin .append,args:=#[s,x],argTypes:=#[t,t]})     (hs:a.eval s=v)
  (hown:w.ownsRow B e 1 v n xs) {y:ω} (hy:y.oneCell'=ξ)  (hx:a.eval x=ς (η g) 1 1)
  (hcell:w.cell? g=η y) (hB:B<=w.heap.size) (hl:n<=40000000)
  (hK:∀ v' w',w'.ownsRow B e 1 v' (n+1) (xs++[y])->w.grownBy w' v.ownBlock->(v'.ownBlock=v.ownBlock∨v'.ownBlock=η w.heap.size)->wpList Tryz.prog ops Q rest (a.put o.dst v') w'):
  wpList Tryz.prog ops Q (o :: rest) a w:=by
 obtain⟨C,m,d,b,f⟩:=info_parts hinfo;have k:(n+1)*bytes<=(n+1)*100:=Nat.mul_le_mul_left _ hby
 have l:∀ (j:Nat) (u:ω),[y][j]?=η u->w.cell? ((g:Addr).add j)=η u:=fun j u hu=>by
  cases j with
  | zero=>simp at hu;subst hu;simpa [Addr.add]using hcell
  | succ j=>simp at hu
 have h:∀ u∈[y],u.oneCell'=ξ:=fun u hu=>by simp at hu;subst hu;exact hy
 obtain⟨v',w',p,q,r,_⟩:=run_append_own (P:=Tryz.prog) w B t o.type e C z 1 bytes ht m d b f hzs dc v n xs hown g 1 1 [y] rfl l h mo om hB;have A:=zcf (P:=Tryz.prog) w (z:=z) ht m d (by rw[b];exact hown) (by rw[b];rfl) l h om mo (by rw[f];omega) p;exact Lib.wpList_append_run w hg s x t t ho v _ hs hx v' w' p (hK v' w' q r A)
theorem zcg{w w':Wo}(h:w.ownsRow B e size v n xs)(hk:∀ b,v.ownBlock=η b->w'.heap[b]?=w.heap[b]?):w'.ownsRow B e size v n xs:=by
 refine⟨h.1,?_⟩;rcases h.2 with i |⟨g,a,d,f,j,k,r⟩
 .exact .inl i
 .exact .inr ⟨g,a,d,f,j,(hk g (by rw[f];rfl)).trans k,r⟩
theorem OD {w:Wo}     {Q:Exit->Act->Wo->Prop} (hg:o.guard=ν) (s x:Operand)
  (ho:o.op= .call {callee:=.builtin .append,args:=#[s,x],argTypes:=#[35,35]})    (hs:a.eval s=v)
  (h:OT w B v ts) {t:List UInt8}  (hx:a.eval x=ς (η g) 1 1) (hcell:w.cell? g=η (ze t)) (hB:B<=w.heap.size) (hl:ts.length<=1000000)
  (hK:∀ v' w',OT w' B v' (ts++[t])->w.grownBy w' v.ownBlock->(v'.ownBlock=v.ownBlock∨v'.ownBlock=η w)->wpList Tryz.prog ops Q rest (a.put o.dst v') w'):wpList Tryz.prog ops Q (o :: rest) a w:=by
 refine MX Tryz.underlying35 GU rfl dc hg s x ho hs h (y:=σ (ze t)) rfl hx hcell hB om ?_;intro v' w' b d f;refine hK v' w' ?_ d f;unfold OT;rw[yh,yx];exact b
theorem zch{s t:Bs}(h:¬ s=t):(s.toList ==t.toList)=ζ:=by
 refine Bool.eq_false_iff.2 fun e=>h ?_;rw[yD,ByteArray.toList_eq,ByteArray.toList_eq]at e;exact ByteArray.ext (by simpa using e)
theorem MY(ss tt:List Bs)(xa ya:Option Addr)(xb xo xc yb yo yc:Nat)(w:Wo)(hx:SS w xa xb xo ss)(hy:SS w ya yb yo tt)(hm:ss.length<=10000000):
  δ Tryz.prog 221 #[ς xa ss.length xc,ς ya tt.length yc] w fun e w'=>e=ε (θ (decide (ss=tt)))/\∃ n,w'=w.drewN n:=by
 by_cases u:ss.length=tt.length
 .have g:=hx.ad;have a:=hy.ad;have A:=zb hx.cell;have y:=zb hy.cell;have f:Hid ((∀ j,j<ss.length->ss.getD j Β=tt.getD j Β)->decide (ss=tt)=ξ):=fun h=>yj (List.ext_getElem u fun j h1 h2=>by
   have:=h j h1;simpa [ϐ,h1,h2]using this)
  have d:Hid (∀ j,j<ss.length->¬ ss.getD j Β=tt.getD j Β->decide (ss=tt)=ζ):=fun j _ h=>yk fun e=>h (by rw[e]);rw[← u]at a y ⊢;generalize decide (ss=tt)=Q at *;go_in;go_wp2;go_loopw [13] (fun i wr=>∃ k:Nat,k<=ss.length/\i=ι κ k/\(∃ n,wr=w.drewN n)/\Hid (∀ j,j<k->ss.getD j Β=tt.getD j Β)) (fun i _=>ss.length - (intOf i).toNat)
  case atStart=>exact⟨0,yu _,rfl,⟨0,rfl⟩,fun j hj=>om⟩
  case round=>
   obtain⟨k,H,rfl,⟨n,rfl⟩,r⟩:=hrel;by_cases b:k<ss.length
   .have p:=uh A k b;have q:=uh y k b;obtain rfl:=g om;obtain rfl:=a om;have x:=zb (uh d k b);have v:Hid (ss.getD k Β=tt.getD k Β->∀ j,j<k+1->ss.getD j Β=tt.getD j Β):=fun e j hj=>by
     by_cases D:j=k
     .rw[D];exact e
     .exact uh r j om
    clear g a d r;generalize hs:ss.getD k Β=s at *;generalize ht:tt.getD k Β=t at *;have z:(k:Int)<(ss.length:Int):=om;have B:(w.drewN n).cell? ⟨xb,xo+k,ν⟩=η s:=p;have C:(w.drewN n).cell? ⟨yb,yo+k,ν⟩=η t:=q;by_cases l:s=t
    .have m:=zb (uh v l);subst l;clear v x;go_wp2;go_quiet (fail);go_wp2;go_roundw
     case rel=>exact⟨k+1,om,by go_num,⟨_,by first | rfl |(simp[ό])⟩,m⟩
     case measure=>simp[intOf];omega
    .have G:=zch l;have o:=zb (uh x l);go_wp2;go_quiet (fail);go_wp2;go_ret;exact⟨by rw[uh o];rfl,_,by rw[ό]⟩
   .have o:=zb (uh f fun j hj=>uh r j om);go_wp2;go_ret;exact⟨by rw[uh o];rfl,_,rfl⟩
 .have F:decide (ss=tt)=ζ:=yk fun e=>u (by rw[e]);rw[F];have E:¬ ((ss.length:Int)=(tt.length:Int)):=om;generalize ss.length=I at *;generalize tt.length=J at *;go_in;go_wp2;go_ret;exact⟨rfl,0,rfl⟩
open Go.ChangeShapes Go.WideShapes Go.ChangeAt
theorem zci{n:Int}(h:(Lit.int .u8 n).wf=ξ):((Κ n.toNat).toNat:Int)=n:=by
 have a:=bounds_u8 h;rw[UInt8.toNat_ofNat'];omega
theorem zcj{W:Wo}{x:Addr}{len:Nat}{zs:List Int}(hl:len<=cap)(hz:zs.length=cap)(hcell:∀ i,i<zs.length->W.cell? (x.add i)=η (.int .u8 (zs.getD i 0)))(hwz:∀ n∈zs,(Lit.int .u8 n).wf=ξ):
  ∃ bb bo l,len=List.length l/\BS W (η x) bb bo l/\l.length<=cap:=by
 obtain⟨b,off,g⟩:=x;by_cases o:len=0
 .exact⟨0,0,[],o,⟨fun h=>absurd h sm,fun j hj=>absurd hj sm⟩,yu _⟩
 .have q:=hcell 0 om;have d:g=ν:=by simpa [Addr.add]using World.cell?_spot q
  subst d;have k:((zs.take len).map (fun n=>Κ n.toNat)).length=len:=so;refine⟨b,off,(zs.take len).map (fun n=>Κ n.toNat),k.symm,⟨fun _=>rfl,fun j hj=>?_⟩,om⟩;have a:j<zs.length:=om;have f:=hcell j a;rw[Go.WideShapes.add_plain]at f;rw[f];have e:zs.getD j 0=zs[j]:=by simp[a]
  have p:=zci (hwz zs[j] (yt a));have m:((zs.take len).map (fun n=>Κ n.toNat)).getD j 0=Κ zs[j].toNat:=by
   have:j<len:=om;simp[ϐ,this,a]
  rw[e,m,p]
