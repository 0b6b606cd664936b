import Derived.Test.YtgoafoojaceadaaGreatDoorBc17
set_option maxRecDepth 100000
set_option maxHeartbeats 8000000
open Go renaming Calls->δ,Value->ω
open Go.ByteArray renaming toList_eq->Γ
open Go.Ending renaming returned->ε
open Go.IntKind renaming i64->κ
open Go.Lib renaming compact->Ε
open Go.Obj renaming cells->χ
open Go.RowKit.Below renaming heap_setCell->Α
open Go.Value renaming agg->γ,bool->θ,iface->φ,int->ι,ownBlock->Υ,pointer->π,slice->Κ,slice->ς,string->σ,tuple->τ
open _root_.Bool renaming and_eq_true->Ο,eq_iff_iff->Τ,false->ζ,noConfusion->Δ,true->ξ
open _root_.List renaming all_cons->Φ,getElem?_append_left->Ξ,getElem?_append_right->Ν,getElem?_eq_some_iff->Η,mem_append->Μ,mem_cons->Ι,mem_singleton->Ζ,reverse_append->Θ,take_length->Ρ
open _root_.Nat renaming mod_lt->Χ,reduceEqDiff->Β
open _root_.Option renaming none->ν,some->η
namespace Go.Proofs.YtgoafoojaceadaaGreatDoor
open Go.RowKit Go.Proofs.Tryz
variable{t:TypeId}{w w' wr w2 w3 w1 wA wx:Wo}{bl bl':List Nat}{vs S l:List zi}{B rb g n k x c N sb pb j tb:Nat}{sv v pv:ω}{q:List UInt8}{m:zi}{cs:Array ω}{p:ZJ}{ops:Array Oper}{Q:Exit->Act->Wo->Prop}{a:Option Addr}{ms:List zk}
theorem zeY(a b:Bs):Op.bytesLess a.toList b.toList=decide (a.data.toList<b.data.toList):=by
 rw[bytesLess_eq,Γ,Γ]
theorem zeZ(v:ω)(ss:List Bs)(bl:List Nat)(w:Wo)(h:QK w v ss bl)(hML:ML w)(hp:∀ s∈ss,s.size<=1048576):
  δ prog 69 #[v] w fun e w'=>e=ε (θ (J2 ss))/\Below w w w':=by
 have R:ss.length<=9223372036854775807:=by have:=h.len;unfold maxLen at this;omega
 obtain⟨W,X,rfl,L,K⟩:=h.form;clear L;have H:=zb h;have I:=zb K;have F:=zb hML;by_cases U:1000<ss.length
 .have u:Hid (J2 ss=ζ):=Dd (by rintro⟨h,_⟩;omega);have T:(1000:Int)<(ss.length:Int):=om;go_in;go_wp2;go_ret;exact⟨by rw[uh u];rfl,yI _ _⟩
 .have T:¬ (1000:Int)<(ss.length:Int):=om;go_in;go_wp2;go_loopw [10] (fun i wr=>∃ k:Nat,k<=ss.length/\i=ι κ k/\Below w w wr/\(∀ j (h:j+1<ss.length),j+1<k->ss[j].data.toList<ss[j+1].data.toList)/\∀ j (h:j<ss.length),j<k->(zH ss[j].data.toList).isSome=ξ) (fun i _=>ss.length - (intOf i).toNat)
  case atStart=>exact⟨0,yu _,rfl,yI _ _,fun j _ h=>om,fun j _ h=>om⟩
  case round=>
   obtain⟨k,V,rfl,D,r,b⟩:=hrel;have x:=zb b;have G:=zb r;have d:=zb D;by_cases q:k<ss.length
   .have O:(k:Int)<(ss.length:Int):=om;have A:=(Vv.1 (H.below D)).1;obtain⟨C,rfl⟩:=uh I om;have B:∀ j (hj:j<ss.length),wr.cell? ⟨C,j,ν⟩=η (.string ss[j]):=fun j hj=>by
     rw[A.cellAt j (by simpa using hj),List.getElem?_map,yy hj];rfl
    have E:=zb B;have M:C<wr.heap.size:=yK _ _ (B k q);have n:=B k q;have m:=zb fun wx (hx:Below wr wr wx)=>zba ss[k] wx (F.below (zh d hx)) (hp ss[k] (yt q));clear r b D A B
    cases hpk:(zH ss[k].data.toList).isSome with
    | false=>
     rw[hpk]at m;have u:=zb (Dd (by rintro⟨_,_,h⟩;rw[h k q]at hpk;cases hpk));generalize ss[k]=sk at *;clear hpk;go_wp2_with fail;go_call uh m _ (yI _ _) as e w2 ⟨rfl,b2⟩;have a:=zb (zh d b2);clear b2 m n;go_wp2;go_ret;exact⟨by rw[uh u];rfl,a⟩
    | true=>
     rw[hpk]at m;have g:Hid (∀ j (h:j<ss.length),j<k+1->(zH ss[j].data.toList).isSome=ξ):=fun j h hj=>by
      by_cases e:j=k
      .subst e;exact hpk
      .exact uh x j h om
     clear hpk;by_cases J:k=0
     .subst J;have l:Hid (∀ j (h:j+1<ss.length),j+1<0+1->ss[j].data.toList<ss[j+1].data.toList):=fun j _ hj=>by omega
      generalize ss[0]=sk at *;go_wp2_with fail;go_call uh m _ (yI _ _) as e w2 ⟨rfl,b2⟩;have a:=zb (zh d b2);clear b2 m n;go_wp2;go_roundw
      case rel=>exact⟨1,om,by go_num,a,l,g⟩
      case measure=>simp[intOf];omega
     .have N:(0:Int)<(k:Int):=om;have o:=uh E (k - 1) om;have z:=zeY ss[k - 1] ss[k];have P:((k - 1:Nat):Int)=(k:Int) - 1:=om;have Q:k - 1<ss.length:=om;by_cases f:ss[k - 1].data.toList<ss[k].data.toList
      .rw[yj f]at z;have l:Hid (∀ j (h:j+1<ss.length),j+1<k+1->ss[j].data.toList<ss[j+1].data.toList):=fun j h hj=>by
        by_cases e:j+1=k
        .subst e;exact f
        .exact uh G j h om
       clear f;generalize ss[k]=sk at *;generalize ss[k - 1]=S at *;go_wp2_with fail;go_call uh m _ (yI _ _) as e w2 ⟨rfl,b2⟩;have a:=zb (zh d b2);have y:=(b2.cell (p:=⟨C,k - 1,ν⟩) M).trans o;clear b2 m n o;go_wp2;go_roundw
       case rel=>exact⟨k+1,om,by go_num,a,l,g⟩
       case measure=>simp[intOf];omega
      .rw[yk f]at z;have u:Hid (J2 ss=ζ):=Dd (by
        rintro⟨_,h,_⟩;have:=h (k - 1) om;simp only[show k - 1+1=k by omega]at this;exact f this)
       clear f;generalize ss[k]=sk at *;generalize ss[k - 1]=S at *;go_wp2_with fail;go_call uh m _ (yI _ _) as e w2 ⟨rfl,b2⟩;have a:=zb (zh d b2);have y:=(b2.cell (p:=⟨C,k - 1,ν⟩) M).trans o;clear b2 m n o;go_wp2;go_ret;exact⟨by rw[uh u];rfl,a⟩
   .have u:=zb (Dc.2 ⟨om,fun j h=>r j h om,fun j h=>b j h om⟩);clear r b D;go_wp2;go_ret;exact⟨by rw[uh u];rfl,d⟩
theorem ze0(no:Int)(w:Wo):
  δ prog 68 #[π ν,ι κ no] w fun e w'=>e=ε (θ (decide (0<=no) && decide (no<=1000000)))/\Below w w w':=by
 by_cases a:0<=no
 .have b:=yj a;go_in;go_wp2;go_ret;exact⟨by simp[a],yI _ _⟩
 .have b:=yk a;go_in;go_wp2;go_ret;exact⟨sm,yI _ _⟩
theorem ze1(b:Nat)(n no:Int)(w:Wo)(hc:w.cell? b=η (ι κ n))(h0:0<=n)(h1:n<=2000000):
  δ prog 68 #[b,ι κ no] w fun e w'=>e=ε (θ (no ==n+1))/\Below w w w':=by
 go_in;go_wp2;go_ret;exact⟨rfl,yI _ _⟩
open Go.Sort Go.Shelf
def Xr(ts:List (List UInt8)):List (List UInt8):=ts.mergeSort (fun x y=>decide (x<=y))
theorem Dt(ts:List (List UInt8)):(Xr ts).length=ts.length:=List.length_mergeSort _
theorem ze2(v:ω)(ts:List (List UInt8))(w:Wo)(h:OT w B v ts)(hl:ts.length<=1000000):
  δ prog 44 #[v] w fun e w'=>e=ε (τ #[])/\OT w' B v (Xr ts)/\w.grownBy w' v.ownBlock:=by
 rcases h.2 with ⟨f,j⟩ |⟨g,a,b,f,p,d,k,l,m,i⟩
 .subst f;have:ts=[]:=yO j;subst this;go_call AnyM.slices_Sort_string_none Tryz.sortA ν 0 w as e w' ⟨rfl,rfl⟩;exact⟨rfl,by rw[show Xr []=[] by simp[Xr]];exact h,World.grownBy.refl _ _⟩
 .subst f;have o:List.take ts.length b.toList=ts.map encStr:=by rw[Nat.mul_one]at i;exact i
  refine (AnyM.slices_Sort_string Tryz.sortA g 0 a ts w (holds_of_block d o) (yC.1 d).1 om).mono ?_;rintro e w' ⟨rfl,n,os,rfl⟩;refine⟨rfl,?_,grownBy_sorted _⟩;have:=ownsRow_sorted (n:=n) (os:=os) (ts:=Xr ts) (ss:=ts) (Dt ts) p d k l m;unfold OT;rw[Dt];exact this
theorem ze3(v:ω)(ts:List (List UInt8))(w:Wo)(h:OT w B v ts)(hl:ts.length<=1000000):
  δ prog 45 #[v] w fun e w'=>∃ v',e=ε v'/\OT w' B v' (Ε ts)/\w.grownBy w' v.ownBlock:=by
 have A:=zjr ts;rcases h.2 with ⟨f,r⟩ |⟨g,b,a,f,z,p,s,u,i,j⟩
 .subst f;have:ts=[]:=yO r;subst this;go_call Tryz.slices_Compact_string_empty ν 0 w as e w' ⟨rfl,rfl⟩;exact⟨_,rfl,h,World.grownBy.refl _ _⟩
 .subst f;have x:List.take ts.length a.toList=ts.map encStr:=by rw[Nat.mul_one]at j;exact j
  go_call Tryz.slices_Compact_string g 0 b ts w (holds_of_block p x) om s as e w' ⟨rfl,q,rfl⟩;have m:(Ε ts++List.replicate (ts.length - (Ε ts).length) ([]:List UInt8)).length=ts.length:=by rw[yh,List.length_replicate];omega
  generalize hDD:Ε ts++List.replicate (ts.length - (Ε ts).length) ([]:List UInt8)=D at *;have o:=heap_sorted (n:=q) (os:=#[]) D.toArray p;rw[grow_empty]at o;have d:=grownBy_sorted (w:=w) (g:=g) (n:=q) (os:=#[]) D.toArray;rw[grow_empty]at d;refine⟨_,rfl,⟨sm,.inr ⟨g,b,putCells encStr 0 D.toArray a,rfl,z,o,om,u,by simp[putCells,i],?_⟩⟩,d⟩;have k:=take_putCells a D (by rw[m,i];omega);rw[m]at k;have l:=congrArg (List.take (Ε ts).length) k;have y:D.take (Ε ts).length=Ε ts:=by rw[← hDD,List.take_left]
  rw[List.take_take,Nat.min_eq_left A,← List.map_take,y]at l;rw[Nat.mul_one];exact l
def CM(rb:Nat)(bl:List Nat)(w:Wo)(S:List zi)(e:Ending)(w':Wo):Prop:=∃ sv bl',e=ε (γ #[sv])/\zu Zi w' sv S bl'/\Fr (rb :: bl) w w'
theorem zu.putI{α:Type}{e:Jq α}{cap:Nat}{xs:List α}(h:zu e w (ς (η g) n cap) xs bl)(hd:bl.Nodup){x:α}(hx:xs[j]?=η x):
  ∃ vs ib,e.E w vs x ib/\(∀ m u,vs[m]?=η u->w.cell? ⟨g,j*e.wd+m,ν⟩=η u/\w.frozen? ⟨g,j*e.wd+m,ν⟩=ζ)/\(∀ b∈ib,b∈bl)/\g∈bl/\g ∉ ib /\
   ∀ w1 m u x' ib',m<e.wd->(∀ b∈bl,b ∉ ib->w1.heap[b]?=w.heap[b]?)->g ∉ ib'->e.E w1 (vs.set m u) x' ib'->∃ bl',zu e (w1.setCell ⟨g,j*e.wd+m,ν⟩ u) (ς (η g) n cap) (xs.set j x') bl':=by
 obtain⟨vs,ib,Q,R,M,s,L⟩:=h.at hx;obtain⟨d,J,l,C,rfl⟩:=h;have N:=(Η.1 hx).1;have f:d[j]?=η d[j]:=yy om;have r:=KL J l;have G:n=xs.length:=by
  rcases C.2 with ⟨H,P⟩ |⟨O,I,K,H,_⟩
  .cases H
  .injection H
 subst G;have F:∀ m,m<e.wd->j*e.wd+m<xs.length*e.wd:=fun m hm=>by
  have:(j+1)*e.wd<=xs.length*e.wd:=Nat.mul_le_mul_right _ N;rw[Nat.add_mul]at this;omega
 have o:=hd;rw[List.nodup_append]at o;have k:∀ p∈d,∀ b∈p.2,b∈(Κ (η g) xs.length cap).ownBlock.toList++d.flatMap (·.2):=fun p f b hb=>by
  rw[Μ];exact .inr (List.mem_flatMap.2 ⟨p,f,hb⟩)
 have q:∀ p∈d,g ∉ p.2:=fun p f hgp=>o.2.2 g (by simp[Υ]) g (List.mem_flatMap.2 ⟨p,f,hgp⟩) rfl;refine⟨d[j].1,d[j].2,l j _ x f hx,fun m u hm=>?_,k _ (yt _),s,q _ (yt _),fun w1 m u x' ib' hm hk hgi' hE'=>⟨_,d.set j (d[j].1.set m u,ib'),by simp[J],?_,?_,rfl⟩⟩
 .have z:m<e.wd:=by
   have:=(Η.1 hm).1
   rwa [r _ (yt om)]at this
  refine⟨?_,C.frozenAt _⟩;rw[C.cellAt _ (F m z),MP r f m z];exact hm
 .have B:∀ {vs y bl'},g ∉ bl'->e.E w1 vs y bl'->e.E (w1.setCell ⟨g,j*e.wd+m,ν⟩ u) vs y bl':=fun G h=>e.keep h fun b hb=>Α _ _ _ _ fun he=>G (by subst he;exact hb);intro i p y a D;by_cases v:i=j
  .subst v;rw[List.getElem?_set_self om]at a D
   cases a;cases D;exact B hgi' hE'
  .rw[List.getElem?_set_ne om]at a D;have A:=List.mem_of_getElem? a;exact B (q p A) (e.keep (l i p y a D) fun b hb=>hk b (k p A b hb) (zbU o.2.1 a f v b hb))
 .rw[List.length_set,MQ r f m hm u];exact ((Vu C fun b hb=>by simp[Υ]at hb;rw[hb];exact hk g s (q _ (yt _))).stored (j*e.wd+m) u).1
theorem ze4(h:x % 6=0):VK x m=⟨(x:Int) / 6 - 3,m.doc,m.touched⟩:=by unfold VK;rw[yg h];simp
theorem ze5(h:x % 6=1):VK x m=⟨m.no,⟨#[32]⟩++m.doc,m.touched⟩:=by
 unfold VK;rw[yf om,yg h];rfl
theorem ze6(h:x % 6=2):VK x m=⟨m.no,m.doc,m.touched++[⟨#[47,97]⟩]⟩:=by unfold VK;rw[yf om,yf om,yg h];rfl
theorem ze7(h:x % 6=5):VK x m=⟨m.no,m.doc,[⟨#[47,126]⟩]⟩:=by unfold VK;rw[yf om,yf om,yf om];rfl
theorem ze8{q':List UInt8}(h:DX B rb w q w2)(k:DX B rb w2.drew q' w3):Fr (rb :: bl) w w3:=by
 have g:=Jp (Jp h.gr (Yn (yI _ _).drew)) k.gr;exact⟨g.os,g.tape,g.output,g.size,fun b hb hn=>g.block b hb fun e=>by injection e with e;exact hn (by rw[e];exact yq)⟩
theorem ze9{ib:List Nat}{w5:Wo}{r:Option Nat}(h:Fr (rb :: bl) w w3)(hb:Bw w3 wA)(g:wA.grownBy w5 r)(kb:∀ k,k<w3.heap.size->k ∉ ib->w5.heap[k]?=w3.heap[k]?)(hi:∀ b∈ib,b∈bl):Fr (rb :: bl) w w5:=
 h.trans ⟨g.os.trans hb.os,g.tape.trans hb.tape,g.output.trans hb.output,yQ hb.size g.size,fun b hl hn=>kb b hl fun hm=>hn (yw _ (hi b hm))⟩
def Du(rb:Nat)(bl:List Nat)(w:Wo)(S:List zi)(wx:Wo):Prop:=∃ sv bl',zu Zi wx sv S bl'/\wx.heap[w.heap.size]?=η (χ #[sv] 25 (0,0))/\wx.heap[w.heap.size+1]?=η (χ #[ς ν 0 0] 25 (0,0))/\Fr (rb :: bl) w wx
theorem zfa{u:ω}(o:zu Zi (wx.setCell ⟨g,j,ν⟩ u) sv S bl')(k0:wx.heap[w.heap.size]?=η (χ #[sv] 25 (0,0)))(k1:wx.heap[w.heap.size+1]?=η (χ #[ς ν 0 0] 25 (0,0)))(f:Fr (rb :: bl) w wx)(hg:g∈rb :: bl)(hl:g<w.heap.size):Du rb bl w S (wx.setCell ⟨g,j,ν⟩ u):=
 ⟨sv,bl',o,(Α wx ⟨g,j,ν⟩ u _ (by show _≠g;omega)).trans k0,(Α wx ⟨g,j,ν⟩ u _ (by show _≠g;omega)).trans k1,f.set hg j u⟩
theorem CN{wz:Wo}(o:zu Zi wz sv S bl')(k:wz.heap[w.heap.size+1]?=η (χ #[ς ν 0 0] 25 (0,0)))(f:Fr (rb :: bl) w wz):CM rb bl w S (ε (γ #[sv])) (wz.setCell ⟨w.heap.size+1,0,ν⟩ sv):=
 ⟨sv,bl',rfl,o.other (YM k (Yt o) (by decide)) 0 _,f.trans' ((Fr.refl [w.heap.size+1] wz).set yq 0 sv) fun i hi=>.inr (by rw[Ζ.1 hi];omega)⟩
theorem zfb   {o:Oper} {a:Act} {K:Act->Wo->Prop}  {F:Prop} (hg:o.guard=ν) (s x:Operand)
  (ho:o.op= .call {callee:=.builtin .append,args:=#[s,x],argTypes:=#[23,23]})  {xs:List zi}  (hs:a.eval s=v) (h:zu Zi w v xs bl) (hd:bl.Nodup) {no:Int} {d:Bs} 
  (hx:a.eval x=ς (η g) 1 1) (hc:w.heap[g]?=η (χ #[ι κ no,d,ς ν 0 0] 37 (0,0))) (hl:xs.length<=100)
  (hK:∀ v' w' bl',zu Zi w' v' (xs++[⟨no,d,[]⟩]) bl'->bl'.Nodup->w.grownBy w' v.ownBlock->(v'.ownBlock=v.ownBlock∨v'.ownBlock=η w.heap.size)->K (a.put o.dst v') w'):
  if Region.wanted o (yielded ops a.tmps)=ξ then Oper.wp prog o a w K Q else F:=by
 obtain⟨z,y,i,k,l⟩:=info_parts Nf;obtain⟨cs,f,b⟩:=h.app Fl dc (B:=0) ⟨hd,fun _ _=>yu _⟩ (vs:=[ι κ no,d,ς ν 0 0]) (x:=⟨no,d,[]⟩) (ib:=[]) ⟨_,rfl,zu.nil _ _⟩ (ZO.nil _) sm;refine Nq hg s x _ ho 0 Zi.T z _ Zi.wd 48 underlying23 y i k l rfl dc v _ cs hs f g 1 1 [ι κ no,d,ς ν 0 0] hx rfl (fun j u hj=>?_) (fun u hu=>by simp at hu;rcases hu with rfl | rfl | rfl<;>rfl) mo om (yu _) ?_
 .rw[Go.WideShapes.add_plain,Nat.zero_add,yG hc];simpa using hj
 .intro v' w' n m p;obtain⟨bl',q,r,A⟩:=b v' w' n m;exact hK v' w' bl' q r.1 m p
theorem zfc(h:J9 n vs):∀ m∈vs,0<=m.no:=fun m hm=>by
 obtain⟨f,-,d,-,b⟩:=YK.1 h.ok;obtain⟨j,a,rfl⟩:=List.getElem_of_mem hm;have:=b j a;simp only[Z8,Ο,yD]at this;omega
def NM(b:Nat)(w:Wo):Nat:=match w.cell? ⟨b,0,ν⟩with
 | some (ς _ n _)=>9 - n
 | _=>0
theorem zfd{b c':Nat}{a':Option Addr}(h:w.cell? b=η (ς a n c))(h':w'.cell? b=η (ς a' (n+1) c'))(hn:n<=8):NM b w'<NM b w:=by
 unfold NM;rw[h,h'];simp only;omega
theorem zfe(hk:k<vs.length)(h:vs.length=k+1):Dr vs=vs[k].no:=by
 unfold Dr;rw[List.getLast?_eq_getElem?,show vs.length - 1=k by omega,yy hk];rfl
structure SL(rb n:Nat)(bl:List Nat)(w:Wo)(S:List zi)(wr:Wo)(sv:ω)(vs:List zi)(bl':List Nat)(f:Nat):Prop where
 row:zu Zi wr sv vs bl'
 nd:bl'.Nodup
 k0:wr.heap[w.heap.size]?=η (χ #[sv] 25 (0,0))
 k1:wr.heap[w.heap.size+1]?=η (χ #[ς ν 0 0] 25 (0,0))
 fr:Fr (rb :: bl) w wr
 ow:∀ g,sv.ownBlock=η g->g∈rb :: bl∨w.heap.size<=g
 fl:Gw f vs=S
 f9:9<=f+vs.length
 p:0<vs.length
 no:∀ m∈vs,0<=m.no/\m.no<=n+vs.length
theorem SL.ap{bl7:List Nat}{w7:Wo}{v':ω}{f:Nat}(h:SL rb n bl w S wr sv vs bl' (f+1))(h8:vs.length<=8)(hk:k<vs.length)(hl:vs.length=k+1)(hb:Bw wr wA)(o:zu Zi w7 v' (vs++[⟨vs[k].no+1,⟨#[49]⟩,[]⟩]) bl7)(hd:bl7.Nodup)(g:wA.grownBy w7 sv.ownBlock)(b:v'.ownBlock=sv.ownBlock∨v'.ownBlock=η wA.heap.size):
  w7.heap[w.heap.size]?=η (χ #[sv] 25 (0,0))/\SL rb n bl w S (w7.setCell w.heap.size v') v' (vs++[⟨vs[k].no+1,⟨#[49]⟩,[]⟩]) bl7 f:=by
 obtain⟨v,p⟩:=h.row.split;have q:=Yt h.row;have l:∀ {r:Nat} {cs:Array ω},wr.heap[r]?=η (χ cs 25 (0,0))->sv.ownBlock≠η r:=fun a e=>YM a q dc (by rw[p,e];simp);have i:∀ (r:Nat) (cs:Array ω),wr.heap[r]?=η (χ cs 25 (0,0))->w7.heap[r]?=η (χ cs 25 (0,0)):=fun r cs a=>by
  have j:=(yC.1 a).1;exact (g.block r (yF j hb.size) (Ne.symm (l a))).trans ((hb.block r j).trans a)
 have s:=i _ _ h.k0;have u:=i _ _ h.k1;have x:=h.no _ (yt hk);refine⟨s,⟨o.other (YM s (Yt o) dc) 0 _,hd,heap_setCell_same _ _ 0 _ _ _ s,(Α w7 w.heap.size v' _ (by show _≠w.heap.size;omega)).trans u,?_,?_,?_,?_,sm,?_⟩⟩
 .refine h.fr.trans' (bl':=[w.heap.size]++sv.ownBlock.toList) ⟨g.os.trans hb.os,g.tape.trans hb.tape,g.output.trans hb.output,by rw[World.setCell];simp;exact yQ hb.size g.size,fun r a hn=>?_⟩ fun r a=>?_
  .rw[Μ,not_or]at hn;exact (Α w7 w.heap.size v' r (fun e=>hn.1 (by rw[e];simp))).trans ((g.block r (yF a hb.size) (fun e=>hn.2 (by rw[← e];simp))).trans (hb.block r a))
  .rcases Μ.1 a with a | a
   .exact .inr (by rw[Ζ.1 a];omega)
   .exact h.ow r (by simpa using a)
 .intro r a;rcases b with e | e
  .exact h.ow r (e ▸ a)
  .rw[e]at a;injection a with a;have:=h.fr.size;have:=hb.size;exact .inr om
 .have:=h.fl;rw[Gw,yg h8,zfe hk hl]at this;exact this
 .have:=h.f9;simp;omega
 .intro m d;rw[yh,yS];rcases Μ.1 d with d | d
  .have:=h.no m d;omega
  .rw[Ζ.1 d];simp only;omega
theorem zff(B rb n:Nat)(q:List UInt8)(sv:ω)(vs:List zi)(bl:List Nat)(w:Wo)(h:ZL w B rb q)(hs:zu Zi w sv vs bl)(hd:bl.Nodup)(hrb:rb ∉ bl)(hG:J9 n vs)(hn:n<=1000):
  δ prog 25 #[π (η ⟨rb,0,ν⟩),γ #[sv]] w (CM rb bl w (UU vs q).1):=by
 obtain⟨Q,hk0,-,hvl,hv8,-⟩:=Wl hG.ok;obtain⟨va,cp,rfl,-,hva⟩:=hs.form;obtain⟨g,rfl⟩:=hva (by omega);have hp:0<vs.length:=by omega
 have hgl:g<w.heap.size:=by obtain⟨_,_,_,_,_,A,_⟩:=hs.at (yy hk0);exact hs.lt g A
 have hlt:=h.lt;have HLT:=zb hs.lt;clear hk0 hvl hva;have hA:=YU w (χ #[ς (η ⟨g,0,ν⟩) vs.length cp] 25) (χ #[ς ν 0 0] 25);have hD:=(DX.refl h).below hA.bel;have hs1:=hs.below hA.bel;have C1:=Q5 B rb q _ hD.rd;generalize hSS:(UU vs q).1=SS;unfold UU at hSS;have HSS:=zb hSS;clear hSS;have hx1:=QQ q;generalize (nx q).1=x at *;generalize (nx q).2=q1 at *;have HS:=zb hs1;have HD:=zb hD;have HC:=zb C1;have HA:=zb hA;clear hs hs1 hD C1 hA h;go_in;go_wp2_with fail;generalize (w.alloc _).alloc _=w1 at *;go_call HC as e w2 ⟨rfl,d2⟩;have e0:=(d2.gr.block w.heap.size (by have:=HA.size;omega) (fun e=>by injection e with e;omega)).trans HA.k0;have e1:=(d2.gr.block (w.heap.size+1) (by have:=HA.size;omega) (fun e=>by injection e with e;omega)).trans HA.k1;have c0:=Zj e0;have Y:=zb (HS.keep (d2.kp HS.lt hrb));have V:=zb (HD.step d2);have C2:=zb fun wx (hr:ZL wx B rb q1)=>Q5 B rb q1 wx hr;have hx2:=QQ q1;generalize (nx q1).1=y at *;generalize (nx q1).2=q2 at *;clear HC d2 HS HD;generalize hL:vs.length=L at *;have H:=zb hL;have hz:¬ (L:Int)=0:=by omega
 have hz':¬ L=0:=by omega
 clear hL;obtain⟨i,hi⟩:∃ i,y % L=i:=⟨_,rfl⟩;have hiI:(y:Int) % (L:Int)=(i:Int):=by rw[← hi,Int.natCast_emod]
 have C:i<L:=by rw[← hi];exact Χ _ hp
 have hiT:(y:Int).tmod (L:Int)=(i:Int):=by rw[Int.tmod_eq_emod_of_nonneg (by omega)];exact hiI
 have HI:=zb hi;clear hi;have HDD:=zb (V.below (yI _ _).drew);have C2':=zb (C2 w2.drew HDD.rd);go_wp2_with fail;go_region_held3 (fun w'=>w'.cell? ⟨w.heap.size,0,ν⟩=η (ς (η ⟨g,0,ν⟩) L cp)) (first | exact c0 | exact c3) (first
  |(go_simp;go_call C2' as e w3 ⟨rfl,d3⟩;have c3:=Zj ((d3.gr.block w.heap.size (yC.1 e0).1 (fun e=>by injection e with e;omega)).trans e0)))
 have ZH:=zb ((Y.below (yI _ _).drew).keep (d3.kp Y.lt hrb));have s:Hid (Fr (rb :: bl) w w3):=ze8 V d3;have Q:=(d3.gr.block w.heap.size (yC.1 e0).1 (fun e=>by injection e with e;omega)).trans e0;have D:=(d3.gr.block (w.heap.size+1) (yC.1 e1).1 (fun e=>by injection e with e;omega)).trans e1;clear e0 e1 c0 Y V C2 HA HDD C2' d3;have ab:=uh HSS;simp only[uh HI]at ab;clear HI hiI hiT hx2 hz hz' HSS;have hgr:g≠w.heap.size+1:=by omega
 have P:g∈rb :: bl:=by obtain⟨_,_,_,_,_,A,_⟩:=ZH.at (yy (show i<vs.length by rw[H];exact C));exact yw _ A
 have HX:Hid (vs[i]?=η (vs[i]'(by rw[H];exact C))):=yy _;have J:Hid ((vs[i]'(by rw[H];exact C)).doc.size<=1048576/\(vs[i]'(by rw[H];exact C)).touched.length<=1048576):=⟨(hG.vin i (by rw[H];exact C)).1,(hG.vin i (by rw[H];exact C)).2.2⟩;generalize vs[i]'_=m at HX J;obtain⟨us,ib,hE,hc,hib,P,G,put⟩:=ZH.putI hd HX;obtain⟨tv,rfl,ht⟩:=hE;obtain⟨c0,f0⟩:=hc 0 _ rfl;obtain⟨c1,f1⟩:=hc 1 _ rfl;obtain⟨c2,f2⟩:=hc 2 _ rfl;have s0:=Zj Q;have r0:=Zj D;have rf:=yJ D 0;have K:=zb Q;have F:=zb D;have X:=zb put;have HT:=zb ht;have W:=zb hib;have HGM:=zb (yw rb P);have hi0:(0:Int)<=(i:Int):=by omega
 have hiL:(i:Int)<(L:Int):=by omega
 have ee:Zi.wd=3:=rfl;simp only[ee,Nat.add_zero]at c0 f0 c1 f1 c2 f2;clear hc put ht hib Q D ee P c3;obtain⟨E,A⟩:∃ E,x % 6=E:=⟨_,rfl⟩;have hmI:(x:Int) % 6=(E:Int):=by omega
 have v:Hid (SS=if E=3 then []else if E=4 then Gw 9 vs else vs.set i (VK x m)):=by rw[← ab];unfold Ds;rw[A,uh HX];rfl
 have HM:=zb A;have H6:Hid (E<6):=by rw[← A];exact Χ _ (by decide)
 clear A ab;have HR:=zb fun (u:ω) (j:Nat) (wx:Wo) (S:List zi) (bl':List Nat) o Q D f=>zfa (rb:=rb) (g:=g) (j:=j) (bl:=bl) (bl':=bl') (w:=w) (wx:=wx) (sv:=ς (η ⟨g,0,ν⟩) L cp) (u:=u) (S:=S) o Q D f HGM hgl;clear P hlt;go_upto_if 17 with fail;go_cut []from 15 to 83 (Du rb bl w SS)
 case first=>
  rcases (show E=0∨E=1∨E=2∨E=3∨E=4∨E=5 by have:=uh H6;omega)with rfl | rfl | rfl | rfl | rfl | rfl
  .obtain rfl:SS=vs.set i ⟨(x:Int) / 6 - 3,m.doc,m.touched⟩:=by rw[uh v,yf (by decide),yf (by decide),ze4 HM]
   obtain⟨bl',o⟩:=X w3 0 (ι κ ((x:Int) / 6 - 3)) ⟨(x:Int) / 6 - 3,m.doc,m.touched⟩ ib (by decide) (fun _ _ _=>rfl) G ⟨tv,rfl,HT⟩;have I:=zb (HR _ _ _ _ _ o K F s);clear o;go_wp2;go_meet
   case rel=>exact I
  .obtain rfl:SS=vs.set i ⟨m.no,⟨#[32]⟩++m.doc,m.touched⟩:=by rw[uh v,yf (by decide),yf (by decide),ze5 HM]
   obtain⟨bl',o⟩:=X w3.drew 1 (σ (⟨#[32]⟩++m.doc)) ⟨m.no,⟨#[32]⟩++m.doc,m.touched⟩ ib (by decide) (fun _ _ _=>rfl) G ⟨tv,rfl,HT.below (yI _ _).drew⟩;have I:=zb (HR _ _ _ _ _ o K F s.drew);clear o;have hsz:(9223372036854775807<1+m.doc.size)=False:=yR (by have:=uh J;omega);go_wp2_with fail;go_region
   all_goals
    go_wp2;go_meet
    case rel=>exact I
  .obtain rfl:SS=vs.set i ⟨m.no,m.doc,m.touched++[⟨#[47,97]⟩]⟩:=by rw[uh v,yf (by decide),yf (by decide),ze6 HM]
   obtain⟨U,T⟩:=Vv.1 HT;obtain⟨ta,tc,rfl,-,-⟩:=HT.form;have z:=(ZF w3 (χ #[σ ⟨#[47,97]⟩] 9)).drew;have HN:Hid ((w3.alloc (χ #[σ ⟨#[47,97]⟩] 9)).drew.heap[w3.heap.size]?=_):=yH w3 (χ #[σ ⟨#[47,97]⟩] 9);have HTA:=zb (Zl U z);have HB:=zb z;have HIE:=zb T;have hsl:=(uh J).2;obtain⟨i0,hi1,hz0,hz1,hz2⟩:=info_parts GV;have HI1:=zb hi1;have HZ0:=zb hz0;have HZ1:=zb hz1;have HZ2:=zb hz2;have s0':=(z.cell (yK _ _ s0)).trans s0;have c2':=(z.cell (yK _ _ c2)).trans c2;clear c0 c1 f0 f1 z U T hi1 hz0 hz1 hz2;go_wp2_with fail;go_region_law (first
    |(
      refine Nq rfl (.tmp 52) (.tmp 53) 35 rfl 0 9 i0 _ 1 16 underlying35 (uh HI1) (uh HZ0) (uh HZ1) (uh HZ2) ?_ ?_ (ς ta m.touched.length tc) m.touched.length (m.touched.map .string) rfl ?_ ⟨w3.heap.size,0,ν⟩ 1 1 [σ ⟨#[47,97]⟩] rfl rfl ?_ ?_ ?_ ?_ ?_ ?_;all_goals (try first | rfl |(exact uh HTA) |(unfold maxLen;omega) | omega | exact Fj w3 [_] _ |(intro u hu;simp at hu;subst hu;rfl))
      intro v' w5 o5 g5 b5;have kb:∀ k,k<w3.heap.size->k ∉ ib->w5.heap[k]?=w3.heap[k]?:=fun k hk hn=>(g5.block k (yF hk HB.size) (fun e=>hn (by rw[uh HIE,← e];simp))).trans (HB.block k hk);have hg3:g<w3.heap.size:=yK _ _ c2;have c5:=(World.cell?_of_block (w:=w3) (a:=⟨g,i*3+2,ν⟩) (kb g hg3 G)).trans c2;have f5:=(World.frozen?_of_block (w:=w3) (a:=⟨g,i*3+2,ν⟩) (kb g hg3 G)).trans f2;have Z:=(kb _ (yC.1 K).1 (fun h=>by have:=HLT _ (W _ h);omega)).trans K;have M:=(kb _ (yC.1 F).1 (fun h=>by have:=HLT _ (W _ h);omega)).trans F;have s5:=Zj Z;have r5:=Zj M;have rf5:=yJ M 0;have E50:=zb Z;have E51:=zb M;have KB:=zb kb;have o6:QK w5 v' (m.touched++[⟨#[47,97]⟩]) v'.ownBlock.toList:=Vv.2 ⟨by rw[yh,yx];exact o5,rfl⟩;obtain⟨va5,vc5,rfl,-,-⟩:=o6.form;have O5:=zb o6;have G5:=zb g5;have B5:=zb b5;rw[yh,yS]at O5 B5;clear o5 o6 g5 b5 kb Z M))
   all_goals
    obtain⟨bl',o⟩:=X w5 2 (ς va5 (m.touched.length+1) vc5) ⟨m.no,m.doc,m.touched++[⟨#[47,97]⟩]⟩ (Κ va5 (m.touched.length+1) vc5).ownBlock.toList (by decide) (fun b z hn=>KB b (ZH.lt b z) hn) (fun A=>by
     rcases uh B5 with e | e
     .rw[e,← uh HIE]at A;exact G A
     .rw[e]at A;simp at A;omega) ⟨_,rfl,uh O5⟩
    have I:=zb (HR _ _ _ _ _ o E50 E51 (ze9 s HB G5 KB W));clear o O5 G5 KB E50 E51 B5 X HR;go_wp2;go_meet
    case rel=>exact I
  .obtain rfl:SS=[]:=by rw[uh v];rfl
   go_wp2;refine bodyPost_ret (results_cell_row rfl _ _ _ _ _ (0,0) _ rfl (heap_setCell_same _ _ 0 _ _ _ F) underlying25 rfl (by kernel_rfl)) rfl (CN (zu.nil _ _) F s)
  .have HS9:Hid (Gw 9 vs=SS):=by rw[uh v];rfl
   have HST:Hid (SL rb n bl w SS w3 (ς (η ⟨g,0,ν⟩) L cp) vs bl 9):=⟨ZH,hd,K,F,s,fun r hr=>by injection hr with hr;rw[← hr];exact .inl HGM,HS9,by omega,by rw[H];exact hp,fun m A=>by have:=hG.no m A;have:=zfc hG m A;omega⟩;have hn':=hn;clear c0 c1 c2 f0 f1 f2 s0 r0 rf K F X HT HR ZH s v HX J HS9;go_wp2_with fail;simp only[hmI,show ((4:Nat):Int)=4 from rfl,show ((4:Int) ==0)=ζ from rfl];go_loopw [] (fun wr=>∃ (a':Option Addr) (c':Nat) (d:List zi) (bl':List Nat) (f:Nat),Hid (SL rb n bl w SS wr (ς a' d.length c') d bl' f)) (NM w.heap.size)
   case atStart=>exact⟨_,cp,vs,bl,9,by rw[H];exact HST⟩
   case round=>
    obtain⟨a',c',d,bl',f,l⟩:=hrel;clear HST H;have s0:=Zj (uh l).k0;have fs:=yJ (uh l).k0 0;obtain⟨k,hk⟩:∃ k,d.length=k+1:=⟨d.length - 1,by have:=(uh l).p;omega⟩;have aa:k<d.length:=by omega
    have HKL:=zb hk;clear hk;by_cases h8:d.length<=8
    .obtain⟨f',rfl⟩:∃ f',f=f'+1:=⟨f - 1,by have:=(uh l).f9;omega⟩;have h8':(d.length:Int)<=8:=by omega
     have hdr:=(yI wr.heap.size wr).drew;have HC:=zb (Dl (ς a' d.length c') d bl' k wr.drew (l.row.below hdr) aa HKL h8);have HAP:=zb fun (wA w7:Wo) (v':ω) (bl7:List Nat) z o hd g b=>SL.ap (wA:=wA) (w7:=w7) (v':=v') (bl7:=bl7) l h8 aa HKL z o hd g b;obtain⟨hn0,hn1⟩:=(uh l).no _ (yt aa);generalize d[k]=R at *;have hfd:∀ (w':Wo) ta tc,(Instr.field 37 (γ #[ι κ R.no,σ R.doc,ς ta R.touched.length tc]) 0).run prog w'= .ok (ι κ R.no) w':=fun _ _ _=>by kernel_rfl
     have hw1:IntKind.i64.wrap (R.no+1)=R.no+1:=by rw[IntKind.wrap_i64];omega
     go_wp2_with fail;go_region_law (first
      |(
        refine zfb rfl (.tmp 69) (.tmp 75) rfl rfl (uh O6) (uh ND) rfl (uh HN6) (by omega) ?_;intro v' w7 bl7 o7 d7 g7 b7;obtain⟨k7,S7⟩:=HAP _ _ _ _ HB6 o7 d7 g7 b7;obtain⟨a7,n7,rfl,-,-⟩:=o7.form;have s7:=Zj k7;have f7:=yJ k7 0;have H7:=zb S7;rw[yh,yS]at H7;have HM:=zb (zfd s0 (Zj H7.k0) h8);clear o7 d7 g7 b7 k7 S7)
      |(
        go_simp;go_call HC as e w5 ⟨ta,tc,rfl,b5⟩;have N:=hdr.trans b5;have O:=N.trans ((ZF w5 (χ #[ι κ (R.no+1),σ ⟨#[49]⟩,ς ν 0 0] 37)).mono N.size);have k5:=(N.block _ (yC.1 l.k0).1).trans l.k0;have k6:=(O.block _ (yC.1 l.k0).1).trans l.k0;have s5:=Zj k5;have s6:=Zj k6;have O6:=zb (l.row.below O);have ND:=zb l.nd;have HB6:=zb O;have HN6:=zb (yH w5 (χ #[ι κ (R.no+1),σ ⟨#[49]⟩,ς ν 0 0] 37));clear b5 N O k5 k6))
     all_goals
      go_roundw
      case rel=>exact⟨_,_,_,_,_,_,_,_,_,_,_,_,_,_,⟨a7,n7,d++[⟨R.no+1,⟨#[49]⟩,[]⟩],bl7,f',by rw[yh,yS];exact H7⟩,rfl⟩
      case measure=>exact HM
    .have h8':¬ (d.length:Int)<=8:=by omega
     have HE:Hid (Du rb bl w SS wr):=by
      have:=(uh l).fl
      cases f with
      | zero=>rw[Gw]at this;subst this;exact⟨_,bl',l.row,l.k0,l.k1,l.fr⟩
      | succ f=>rw[Gw,yf h8]at this;subst this;exact⟨_,bl',l.row,l.k0,l.k1,l.fr⟩
     go_wp2;go_meet
     case rel=>exact HE
  .obtain rfl:SS=vs.set i ⟨m.no,m.doc,[⟨#[47,126]⟩]⟩:=by rw[uh v,yf (by decide),yf (by decide),ze7 HM]
   have z:=ZF w3 (χ #[σ ⟨#[47,126]⟩] 9);have hn:=yH w3 (χ #[σ ⟨#[47,126]⟩] 9);have h3:=s.size;obtain⟨bl',o⟩:=X _ 2 (ς (η ⟨w3.heap.size,0,ν⟩) 1 1) ⟨m.no,m.doc,[⟨#[47,126]⟩]⟩ [w3.heap.size] (by decide) (fun b h _=>z.block b (ZH.lt b h)) (by rw[Ζ];omega) ⟨_,rfl,Vv.2 ⟨⟨rfl,.inr ⟨w3.heap.size,1,_,rfl,yu _,hn,ye _,by decide,rfl,rfl⟩⟩,rfl⟩⟩;have I:=zb (HR _ _ _ _ _ o ((z.block _ (yC.1 K).1).trans K) ((z.block _ (yC.1 F).1).trans F) (s.next z));have c2':=(z.cell (yK _ _ c2)).trans c2;have f2':=(z.frozen (yK _ _ c2)).trans f2;clear o z hn h3;go_wp2;go_meet
   case rel=>exact I
 obtain⟨sv',bl',o,Q,D,f⟩:=hcut;obtain⟨a',n',rfl,-,-⟩:=o.form;have d0:=Zj Q;have d1:=Zj D;have fd:=yJ D 0;have I:=zb (CN o D f);have HK:=zb D;clear o Q D f HR X v c0 c1 c2 f0 f1 f2 s0 r0 rf K F;go_wp2;refine bodyPost_ret (results_cell_row rfl _ _ _ _ _ (0,0) _ rfl (heap_setCell_same _ _ 0 _ _ _ HK) underlying25 rfl (by kernel_rfl)) rfl I
def NO(b:Bg):ZJ:=⟨b.ops,b.base,b.doc,0⟩
def Gx(k:Nat):Nat:=if k % 32=31∨k % 32=15 then 9 else k / 4 % 4
def JA(s:List UInt8):zk:=⟨3,⟨#[]⟩,⟨#[]⟩,ze s⟩
def Dv(k:Nat)(p:ZJ):ZJ:=if k % 8=5 then ⟨p.ops,p.base,p.doc,(k:Int) / 32 % 6⟩else if k % 32=15 then ⟨p.ops,p.base,p.doc,2+(k:Int) / 32 % 4⟩else if k % 32=10 then ⟨p.ops,(k:Int) / 32 - 2,p.doc,p.tries⟩else if k % 32=26 then ⟨p.ops,p.base,p.doc++⟨#[32]⟩,p.tries⟩else p
noncomputable def NP(k:Nat)(p:ZJ)(r:List zi×List UInt8):List zi×ZJ:=
 if k % 32=9 then (UT r.1 (ze (Ja [JA [91,50,93]] (Ja [JA [91,49,93]] r.2).2).1),⟨(Zm r.1 (ze (Ja [JA [91,49,93]] r.2).1)).ops,(Zm r.1 (ze (Ja [JA [91,49,93]] r.2).1)).base,(Zm r.1 (ze (Ja [JA [91,49,93]] r.2).1)).doc,4 - (k:Int) / 32 % 3⟩)
 else if k % 16=14 then ((UU r.1 r.2).1,p)else (r.1,Dv k p)
noncomputable def WW(q:List UInt8):List zi×ZJ:=
 NP (nx q).1 (NO (Zm (VJ 2 (nx q).2).1 (ze (Jc (VJ 2 (nx q).2).1 3 (VJ 2 (nx q).2).2).1))) (Vj 1 (Gx (nx q).1) ((VJ 2 (nx q).2).1,(Jc (VJ 2 (nx q).2).1 3 (VJ 2 (nx q).2).2).2))
theorem CO(most:Nat)(hm:most<=10)(q:List UInt8):J9 10 (VJ most q).1:=by
 obtain⟨a,b⟩:=CI q;have h:=Do 2 ((nx (JH q).2).1 % (most+1)) 0 ([⟨0,ze (ct (JH q).1),[]⟩],(nx (JH q).2).2) (CH a b) (by have:=Χ (nx (JH q).2).1 (show 0<most+1 by omega);omega);have d:=Χ (nx (JH q).2).1 (show 0<most+1 by omega);exact⟨h.ok,fun m hm=>by have:=h.no m hm;omega,h.vin⟩
theorem zfg(q:List UInt8):YL (WW q).1/\Yj (WW q).2.ops/\(WW q).2.doc.size<=1048576:=by
 unfold WW;generalize hs:VJ 2 (nx q).2=s;have h:J9 10 s.1:=by rw[← hs];exact CO 2 dc _
 have a:=Xq s.1 (ze (Jc s.1 3 s.2).1);generalize Zm s.1 (ze (Jc s.1 3 s.2).1)=b at *;have i:Gx (nx q).1<=9:=by unfold Gx;split<;>omega
 have d:=Do 1 (Gx (nx q).1) 10 (s.1,(Jc s.1 3 s.2).2) h om;generalize Vj 1 _ _=r at *;unfold NP;split
 .have f:=Xq r.1 (ze (Ja [JA [91,49,93]] r.2).1);exact⟨(d.step om _).vin,f.1,yQ f.2 dc⟩
 .split
  .exact⟨zeX d _,a.1,yQ a.2 dc⟩
  .refine⟨d.vin,?_⟩;unfold Dv;have g:(b.doc++⟨#[32]⟩).size<=1048576:=by rw[ByteArray.size_append];have:=a.2;show _+1<=_;omega
   repeat' split
   all_goals first
    | exact⟨a.1,yQ a.2 dc⟩
    | exact⟨a.1,g⟩
def QW(w:Wo)(N:Nat):List zi->ω->Prop
 | [],v=>v=π ν
 | m :: r,v=>∃ (b:Nat) (q:ω) (t:TypeId) (p v':ω) (bl:List Nat) (jv:JV),v=π (η ⟨b,0,ν⟩)/\b<N/\w.heap[b]?=η (χ #[ι κ m.no,σ m.doc,q,φ t p,v'] 127 (0,0)) /\
  QK w q m.touched bl/\Zn m.doc= .inr jv/\ze (ct jv)=m.doc/\zj w (fun k=>k<N) jv (φ t p)/\QW w N r v'
theorem QW.up{N':Nat}(hb:Below w w w')(hN:N<=w.heap.size)(hN':N<=N'):∀ {l:List zi} {v:ω},QW w N l v->QW w' N' l v
 | [],_,h=>h
 | m :: r,v,h=>by
  obtain⟨b,q,t,p,v',bl,jv,h1,h2,h3,h4,h5,h6,h7,h8⟩:=h;exact⟨b,q,t,p,v',bl,jv,h1,om,(hb.block b om).trans h3,h4.below hb,h5,h6,zj.keep (fun k hk=>hb.block k (yF hk hN)) (fun k hk=>yF hk hN') _ _ h7,QW.up hb hN hN' h8⟩
def UV:List zi->Int->Bool
 | [],no=>decide (0<=no) && decide (no<=1000000)
 | m :: _,no=>no ==m.no+1
theorem zfh(v:ω)(l:List zi)(N:Nat)(no:Int)(w:Wo)(h:QW w N l v)(hr:∀ m,l.head?=η m->0<=m.no/\m.no<=2000000):
  δ prog 68 #[v,ι κ no] w fun e w'=>e=ε (θ (UV l no))/\Below w w w':=by
 match l,h with
 | [],h=>
  rw[QW]at h;subst h;exact ze0 no w
 | m :: r,h=>
  rw[QW]at h;obtain⟨b,q,t,p,j,g,i,rfl,_,f,_⟩:=h;obtain⟨a,d⟩:=hr m rfl;exact ze1 b m.no no w (yG f 0) a d
theorem QW.ptr(h:QW w N l v):∃ a,v= .pointer a:=by
 match l,h with
 | [],h=>exact⟨_,h⟩
 | m :: r,h=>obtain⟨b,q,t,p,i,f,g,d,_⟩:=h;exact⟨_,d⟩
theorem CP(hk:0<k)(h:k<=vs.length):∃ r,(vs.take k).reverse=vs[k - 1] :: r:=by
 obtain⟨j,rfl⟩:∃ j,k=j+1:=⟨k - 1,om⟩;rw[yz om,Θ];exact⟨_,rfl⟩
theorem CQ(h0:0<vs.length)(hk:k<vs.length)(hall:∀ j (h:j<vs.length),j<k->Z8 vs[0].no j vs[j]=ξ):
  UV (vs.take k).reverse vs[k].no=ξ↔vs[k].no=vs[0].no+k/\(k=0->0<=vs[0].no/\vs[0].no<=1000000):=by
 by_cases e:k=0
 .subst e;simp[UV]
 .obtain⟨r,b⟩:=CP (k:=k) om (by omega:k<=vs.length);have a:=(Nw.1 (hall (k - 1) om om)).1;rw[b,UV,yD,a];constructor
  .intro h;exact⟨om,fun h=>absurd h e⟩
  .rintro⟨h,_⟩;omega
theorem zfi(h0:0<vs.length)(hk:k<vs.length)(hall:∀ j (h:j<vs.length),j<k->Z8 vs[0].no j vs[j]=ξ)(hbad:ZP vs[k].doc=ζ∨UV (vs.take k).reverse vs[k].no=ζ∨J2 vs[k].touched=ζ):qV vs=ζ:=by
 refine Xm ?_;rintro⟨_,_,d,f,g⟩;obtain⟨a,b,c⟩:=Nw.1 (g k hk);rcases hbad with h | h | h
 .rw[b]at h;cases h
 .rw[(CQ h0 hk hall).2 ⟨a,fun _=>⟨d,f⟩⟩]at h;cases h
 .rw[c]at h;cases h
def HdP(vs:List zi)(w:Wo)(e:Ending)(w':Wo):Prop:=Bw w w'/\(qV vs=ζ->e=ε (τ #[π ν,θ ζ])) /\
 (qV vs=ξ->∃ v,e=ε (τ #[v,θ ξ])/\QW w' w'.heap.size vs.reverse v)
theorem zfk(p:ω)(vs:List zi)(bl:List Nat)(w:Wo)(h:zu Zi w p vs bl)(hs:YL vs)(hw:qS w):
  δ prog 29 #[γ #[p]] w (HdP vs w):=by
 obtain⟨xa,xc,rfl,-,hxa⟩:=h.form;have hln:vs.length<=9223372036854775807:=by have:=h.len;unfold maxLen at this;omega
 have hA:=zG w (χ #[ς xa vs.length xc] 25);have kA:=yH w (χ #[ς xa vs.length xc] 25);have HO:=zb (h.below hA);have K:=zb hA;have HI:=zb hs;have HXA:=zb hxa;have HW:=zb (hw.up hA);by_cases hn8:8<vs.length
 .have D:Hid (qV vs=ζ):=Xm (by rintro⟨_,h,_⟩;omega);go_in;go_wp2;go_ret2;exact⟨K,fun _=>rfl,fun h=>by rw[uh D]at h;cases h⟩
 .go_in;go_wp2;generalize (w.alloc (χ #[ς xa vs.length xc] 25))=wA at *;go_loopw [4,16] (fun hd i wr=>∃ k:Nat,k<=vs.length/\i=ι κ k/\Below wA wA wr/\QW wr wr (vs.take k).reverse hd/\(∀ (s:0<vs.length),(∀ j (h:j<vs.length),j<k->Z8 vs[0].no j vs[j]=ξ)/\(0<k->0<=vs[0].no/\vs[0].no<=1000000))) (fun _ i _=>vs.length - (intOf i).toNat)
  case atStart=>exact⟨0,yu _,rfl,yI _ _,rfl,fun _=>⟨fun j _ h=>om,fun h=>om⟩⟩
  case round=>
   obtain⟨k,H,rfl,hb,X,n⟩:=hrel;have y:=zb X;have o:=zb hb;have HALL:=zb n;obtain⟨M,rfl⟩:=X.ptr;by_cases A:k<vs.length
   .have s:0<vs.length:=om;obtain⟨f,z⟩:=n s;have I:=zb (zfi s A f);have V:Hid (ZP vs[k].doc=ξ->UV (vs.take k).reverse vs[k].no=ξ->J2 vs[k].touched=ξ->∀ (s:0<vs.length),(∀ j (h:j<vs.length),j<k+1->Z8 vs[0].no j vs[j]=ξ)/\(0<k+1->0<=vs[0].no/\vs[0].no<=1000000)):=fun a1 a2 a3 _=>by
     obtain⟨b1,L⟩:=(CQ s A f).1 a2;refine⟨fun j h hj=>?_,fun _=>?_⟩
     .by_cases e:j=k
      .subst e;exact Nw.2 ⟨b1,a1,a3⟩
      .exact f j h om
     .by_cases e:k=0
      .exact L e
      .exact z om
    have hrg:∀ m,(vs.take k).reverse.head?=η m->0<=m.no/\m.no<=2000000:=fun m hm=>by
     by_cases e:k=0
     .subst e;simp at hm
     .obtain⟨r,hr⟩:=CP (vs:=vs) (k:=k) om om;rw[hr]at hm;injection hm with hm;subst hm;have h1:=(Nw.1 (f (k - 1) om om)).1;obtain⟨h2,h3⟩:=z om;omega
    have HRG:=zb hrg;have T:Hid ((vs.take (k+1)).reverse=vs[k] ::(vs.take k).reverse):=by
     show _=_
     rw[yz A,Θ];rfl
    obtain⟨g,rfl⟩:=uh HXA s;obtain⟨hd1,Z,hl1⟩:=uh HI k A;obtain⟨cs,ib,hE,v,-⟩:=(HO.below hb).at (yy A);obtain⟨q,rfl,hq⟩:=hE;obtain⟨B,C,rfl,-,-⟩:=hq.form;have c0:wr.cell? ⟨g,k*3,ν⟩=η (ι κ vs[k].no):=(v 0 _ rfl).1;have c1:wr.cell? ⟨g,k*3+1,ν⟩=η (.string vs[k].doc):=(v 1 _ rfl).1;have c2:wr.cell? ⟨g,k*3+2,ν⟩=η (ς B vs[k].touched.length C):=(v 2 _ rfl).1;have HQ:=zb hq;generalize (vs.take k).reverse=l at *;generalize vs[k]=m at *;obtain⟨no,a,d⟩:=m;simp only at c0 c1 c2 hd1 Z hl1;have hV:=zG wr (χ #[ι κ no,a,ς B d.length C] 37);have kV:=yH wr (χ #[ι κ no,a,ς B d.length C] 37);have zV:(wr.alloc (χ #[ι κ no,a,ς B d.length C] 37)).heap.size=wr.heap.size+1:=sm;have F:=HW.up (zh o hV);have HR:=zb (De a _ F.tab F.err F.pow om);have HML:=zb F.ml;have HKV:=zb kV;have W:=zb zV;have HV:=zb hV;have HP1:=zb Z;go_wp2_with fail;generalize (wr.alloc (χ #[ι κ no,a,ς B d.length C] 37))=wV at *;go_call HR as e w2 ⟨L,hno,hyes⟩;have O:=zb L;have k2:=(L.block wr (by have:=uh W;omega)).trans HKV
    cases hg:ZP a with
    | false=>
     obtain rfl:=hno hg;have D:=zb (uh I (.inl hg));go_wp2;go_ret2;exact⟨zh K (zh o (zh HV O)),fun _=>rfl,fun h=>by rw[uh D]at h;cases h⟩
    | true=>
     obtain⟨jv,t,p,hr,hct,rfl,rep⟩:=hyes hg;have HRR:=zb hr;have HCT:=zb hct;have S:=zb rep;have HG:=zb hg;have E:=zh HV L;have G:=zb (QW.up E (ye _) E.size y);have HF:=zb (zfh _ l _ no w2 G HRG);have v0:=(Yl k2).1;have N:=zb E;have HK2:=zb k2;have hsz:=E.size;have hs1:wr.heap.size<w2.heap.size:=by have:=uh W;have:=L.size;omega
     obtain⟨fo,Y⟩:∃ fo,UV l no=fo:=⟨_,rfl⟩;rw[Y]at HF;have Q:=zb Y;go_wp2_with fail;go_call HF as e w3 ⟨rfl,b3⟩;have k3:=(b3.block wr hs1).trans HK2;have v2:=(Yl k3).2.2;have x:=zb (zh N b3);have hs3:=b3.size
     cases fo with
     | false=>
      have D:=zb (uh I (.inr (.inl Q)));go_wp2;go_ret2;exact⟨zh K (zh o x),fun _=>rfl,fun h=>by rw[uh D]at h;cases h⟩
     | true=>
      have HT:=zb (zeZ _ d ib w3 (HQ.below x) (HML.below (zh O b3)) HP1);have P:=zb (QW.up b3 (ye _) b3.size G);have J:=zb (zj.keep (S':=fun k=>k<w3.heap.size) (fun k H=>b3.block k H.2) (fun k H=>yF H.2 b3.size) _ _ S);have HK3:=zb k3;obtain⟨tq,aa⟩:∃ tq,J2 d=tq:=⟨_,rfl⟩;rw[aa]at HT;have U:=zb aa;go_wp2_with fail;go_call HT as e w4 ⟨rfl,b4⟩;have HB4:=zb (zh x b4)
      cases tq with
      | false=>
       have D:=zb (uh I (.inr (.inr U)));go_wp2;go_ret2;exact⟨zh K (zh o HB4),fun _=>rfl,fun h=>by rw[uh D]at h;cases h⟩
      | true=>
       have k4:=(b4.block wr om).trans HK3;obtain⟨x0,x1,x2⟩:=Yl k4;have hR:=zG w4 (χ #[ι κ no,a,ς B d.length C,φ t p,.pointer M] 127);have kR:=yH w4 (χ #[ι κ no,a,ς B d.length C,φ t p,.pointer M] 127);have zR:(w4.alloc (χ #[ι κ no,a,ς B d.length C,φ t p,.pointer M] 127)).heap.size=w4.heap.size+1:=sm;have u:=zh b4 hR;have hs4:=b4.size;have R:Hid (QW (w4.alloc (χ #[ι κ no,a,ς B d.length C,φ t p,.pointer M] 127)) (w4.alloc (χ #[ι κ no,a,ς B d.length C,φ t p,.pointer M] 127)).heap.size (⟨no,a,d⟩ :: l) w4):=
        ⟨w4,_,t,p,_,ib,jv,rfl,om,kR,HQ.below (zh x u),HRR,HCT,zj.keep (fun k H=>u.block k H) (fun k H=>yF H u.size) _ _ J,QW.up u (ye _) u.size P⟩
       have HBN:=zb (zh o (zh x u));have HY:=zb (uh V HG Q U);go_wp2;go_roundw
       case rel=>exact⟨k+1,om,by go_num,HBN,by rw[uh T];exact uh R,HY⟩
       case measure=>simp[intOf];omega
   .have hkn:k=vs.length:=om;subst hkn;rw[Ρ]at y;by_cases s:0<vs.length
    .have D:=zb (YK.2 ⟨s,om,((n s).2 s).1,((n s).2 s).2,fun j hj=>(n s).1 j hj hj⟩);obtain⟨b,hbp⟩:∃ b,M=η b:=by
      have v:=uh y
      cases hv:vs.reverse with
      | nil=>rw[List.reverse_eq_nil_iff]at hv;rw[hv]at s;simp at s
      | cons m r=>
       rw[hv,QW]at v;obtain⟨b,q,t,p,v',bl',jv,h1,_⟩:=v;injection h1 with h1;exact⟨b,h1⟩
     subst hbp;go_wp2;go_ret2;exact⟨zh K o,fun h=>(by rw[uh D]at h;cases h),fun _=>⟨_,rfl,y⟩⟩
    .have e:vs=[]:=yO om;subst e;have v:=uh y;simp only[List.reverse_nil]at v;rw[QW]at v;injection v with v;subst v;go_wp2;go_ret2;exact⟨zh K o,fun _=>rfl,fun h=>by cases h⟩
def Zx(w:Wo)(A S:Nat->Prop):List zi->ω->Prop
 | [],v=>v=π ν
 | m :: r,v=>∃ (b:Nat) (q:ω) (t:TypeId) (p v':ω) (bl:List Nat) (jv:JV),v=π (η ⟨b,0,ν⟩)/\A b/\w.heap[b]?=η (χ #[ι κ m.no,σ m.doc,q,φ t p,v'] 127 (0,0)) /\
  QK w q m.touched bl/\(∀ x∈bl,S x)/\Zn m.doc= .inr jv/\ze (ct jv)=m.doc/\zj w S jv (φ t p)/\Zx w A S r v'
theorem QW.toG(hN:w.heap.size<=N):∀ {l:List zi} {v:ω},QW w N l v->Zx w (fun _=>True) (fun k=>k<N) l v
 | [],_,h=>h
 | m :: r,v,h=>by
  obtain⟨b,q,t,p,v',bl,jv,h1,h2,h3,h4,h5,h6,h7,h8⟩:=h;exact⟨b,q,t,p,v',bl,jv,h1,trivial,h3,h4,fun x hx=>yF (h4.lt x hx) hN,h5,h6,h7,QW.toG hN h8⟩
theorem Zx.keep{A A' S:Nat->Prop}(hA:∀ b,A b->w'.heap[b]?=w.heap[b]?/\A' b)(hS:∀ b,S b->w'.heap[b]?=w.heap[b]?):∀ {l:List zi} {v:ω},Zx w A S l v->Zx w' A' S l v
 | [],_,h=>h
 | m :: r,v,h=>by
  obtain⟨b,q,t,p,v',bl,jv,h1,h2,h3,h4,h4',h5,h6,h7,h8⟩:=h;exact⟨b,q,t,p,v',bl,jv,h1,(hA b h2).2,(hA b h2).1.trans h3,h4.keep (fun x hx=>hS x (h4' x hx)),h4',h5,h6,zj.keep (fun k hk=>hS k hk) (fun _ hk=>hk) _ _ h7,Zx.keep hA hS h8⟩
theorem Zx.ptr{A S:Nat->Prop}(h:Zx w A S l v):∃ a,v= .pointer a:=by
 match l,h with
 | [],h=>exact⟨_,h⟩
 | m :: r,h=>obtain⟨b,q,t,p,i,f,g,d,_⟩:=h;exact⟨_,d⟩
def NwP(S:Nat->Prop)(l:List zi)(w:Wo)(e:Ending)(w':Wo):Prop:=∃ v',e=ε v'/\Zx w' (fun b=>w.heap.size<=b/\b<w'.heap.size) S l v'/\Bw w w'
theorem CR{S:Nat->Prop}(hS:∀ k,S k->k<N):∀ (l:List zi) (k:Nat) (v:ω) (w:Wo),N<=w.heap.size->k<=1000->Zx w (fun _=>True) S l v ->
  δ prog 127 #[v,ι κ (k:Int)] w (NwP S (l.take k) w)
 | [],k,v,w,hN,hk,h=>by
  obtain rfl:v=π ν:=h;go_in;go_wp2;go_ret;exact⟨_,rfl,by rw[List.take_nil];rfl,yI _ _⟩
 | m :: r,0,v,w,hN,hk,h=>by
  obtain⟨a,rfl⟩:=h.ptr;have J:a≠ν:=by
   obtain⟨b,q,t,p,M,j,o,F,_⟩:=h;injection F with F;rw[F];simp
  obtain⟨ad,rfl⟩:=Option.ne_none_iff_exists'.1 J;go_in;go_wp2;go_ret;exact⟨_,rfl,by rw[List.take_zero];rfl,yI _ _⟩
 | m :: r,k+1,v,w,hN,hk,h=>by
  obtain⟨b,q,t,p,M,j,o,rfl,-,G,Q,H,h5,h6,h7,R⟩:=h;obtain⟨s,y,rfl,-,-⟩:=Q.form;obtain⟨f,rfl⟩:=R.ptr;have hb:=(yC.1 G).1;have n:=zG w (χ #[ι κ m.no,m.doc,ς s m.touched.length y,φ t p,.pointer f] 127);have kA:=yH w (χ #[ι κ m.no,m.doc,ς s m.touched.length y,φ t p,.pointer f] 127);have U:(w.alloc (χ #[ι κ m.no,m.doc,ς s m.touched.length y,φ t p,.pointer f] 127)).heap.size=w.heap.size+1:=sm;obtain⟨c0,c1,c2,c3,c4⟩:=Va G;have d4:=(Va ((n.block b hb).trans G)).2.2.2.2;have I:Zx (w.alloc (χ #[ι κ m.no,m.doc,ς s m.touched.length y,φ t p,.pointer f] 127)) (fun _=>True) S r (.pointer f):=by
   have:∀ {l:List zi} {u:ω},Zx w (fun _=>True) S l u->Zx w (fun b=>b<w.heap.size) S l u:=by
    intro l;induction l with
    | nil=>intro u h;exact h
    | cons m r ih=>
     intro u h;obtain⟨b,q,t,p,M,j,o,g1,g2,P,g4,E,g5,g6,g7,g8⟩:=h;exact⟨b,q,t,p,M,j,o,g1,(yC.1 P).1,P,g4,E,g5,g6,g7,ih g8⟩
   exact (this R).keep (fun x hx=>⟨n.block x hx,trivial⟩) (fun x hx=>n.block x (yF (hS x hx) hN))
  have HR:=zb (CR hS r k (.pointer f) _ (by rw[U];omega) om I);have kk:((k+1:Nat):Int) - 1=(k:Int):=om;have kz:(((k+1:Nat):Int) ==0)=ζ:=by rw[yd];omega
  have Z:=zb n;have B:=zb kA;have C:=zb U;have V:=zb Q;have g:=zb H;have W:=zb h5;have X:=zb h6;have Y:=zb h7;have O:=zb hS;generalize ((k+1:Nat):Int)=K at *;go_in;go_wp2_with fail;generalize w.alloc _=wA at *;go_call HR as e w1 ⟨v1,rfl,ch,b1⟩;obtain⟨D,rfl⟩:=ch.ptr;have hz:=uh C;have hz1:=b1.size;have L:=(b1.block w om).trans B;have e4:=(Va L).2.2.2.2;have f1:=yJ L;have i:=zb (zh Z b1);have A:=zb (heap_setCell_same w1 w 4 _ _ (.pointer D) L);have z:=zb ch;go_wp2;go_ret;have hN':=hN;have T:(w1.setCell ⟨w,4,ν⟩ (.pointer D)).heap.size=w1.heap.size:=by simp[World.setCell]
  have d:∀ x,S x->(w1.setCell ⟨w,4,ν⟩ (.pointer D)).heap[x]?=w.heap[x]?:=fun x hx=>by
   have:=uh O x hx;exact (Α w1 ⟨w,4,ν⟩ _ x (fun e=>by have:x=w.heap.size:=e;omega)).trans (i.block x om)
  refine⟨_,rfl,?_,i.setCell (p:=⟨w,4,ν⟩) (ye _) _⟩;rw[List.take_succ_cons];refine⟨w,_,t,p,_,j,o,rfl,⟨ye _,by rw[T];omega⟩,A,V.keep (fun x hx=>d x (uh g x hx)),g,W,X,zj.keep (fun x hx=>d x hx) (fun _ hk=>hk) _ _ Y,?_⟩;exact z.keep (fun x hx=>⟨Α w1 ⟨w,4,ν⟩ _ x (fun e=>by have:x=w.heap.size:=e;omega),om,by rw[T];exact hx.2⟩) (fun x hx=>Α w1 ⟨w,4,ν⟩ _ x (fun e=>by have:x=w.heap.size:=e;have:=uh O x hx;omega))
structure Wp where
 g:Nat
 pv:ω
 fv:ω
 vv:ω
 v:JV
structure UW(w:Wo)(S:Nat->Prop)(m:zk)(q:Wp):Prop where
 blk:w.heap[q.g]?=η (Xo m.kind q.pv q.fv q.vv)
 sg:S q.g
 path:OT w 0 q.pv (ZI m.path)
 sp:∀ b,q.pv.ownBlock=η b->S b
 src:OT w 0 q.fv (ZI m.src)
 ss:∀ b,q.fv.ownBlock=η b->S b
 val:ZC m.kind=ξ->Zn m.val= .inr q.v/\ze (ct q.v)=m.val/\∃ t p,q.vv=φ t p/\zj w S q.v q.vv
theorem CS{e size:Nat}{xs:List ω}(h:w.ownsRow 0 e size v n xs)(hk:∀ b,v.ownBlock=η b->w'.heap[b]?=w.heap[b]?):w'.ownsRow 0 e size v n xs:=by
 refine⟨h.1,?_⟩;rcases h.2 with i |⟨g,a,d,f,j,k,r⟩
 .exact .inl i
 .exact .inr ⟨g,a,d,f,j,(hk g (by rw[f];rfl)).trans k,r⟩
theorem UW.keep{S S':Nat->Prop}{m:zk}{q:Wp}(h:UW w S m q)(hk:∀ k,S k->w'.heap[k]?=w.heap[k]?)(hS:∀ k,S k->S' k):UW w' S' m q:=
 ⟨(hk _ h.sg).trans h.blk,hS _ h.sg,CS h.path fun b hb=>hk b (h.sp b hb),fun b hb=>hS b (h.sp b hb),CS h.src fun b hb=>hk b (h.ss b hb),fun b hb=>hS b (h.ss b hb),
  fun hv=>by obtain⟨a,d,t,p,f,g⟩:=h.val hv;exact⟨a,d,t,p,f,zj.keep hk hS _ _ g⟩⟩
theorem Xp.toS{m:zk}{fv vv:ω}{v:JV}(h:Xp w B m g pv fv vv v):UW w (fun k=>B<=k/\k<w.heap.size) m ⟨g,pv,fv,vv,v⟩:=
 ⟨h.blk,⟨h.ge,(yC.1 h.blk).1⟩,qN h.path (yu _),fun b hb=>h.path.lt b hb,qN h.src (yu _),fun b hb=>h.src.lt b hb,h.val⟩
def NQ(q:Wp):ω:=π (η ⟨q.g,0,ν⟩)
structure UX(w:Wo)(B:Nat)(S:Nat->Prop)(lv:ω)(ms:List zk)(qs:List Wp):Prop where
 len:qs.length=ms.length
 row:w.ownsRow B 92 1 lv qs.length (qs.map NQ)
 ops:∀ (j:Nat) m q,ms[j]?=η m->qs[j]?=η q->UW w S m q
 off:∀ k,S k->lv.ownBlock≠η k
def Xs(w0:Nat)(w:Wo)(lv:ω)(k:Nat):Prop:=w0<=k/\k<w.heap.size/\lv.ownBlock≠η k
theorem UX.snoc {w4:Wo} {Wb:Nat} {lv lv':ω}  {qs:List Wp} {m:zk} {q:Wp} (hL:UX wr B (Xs B wr lv) lv ms qs) (hb2:Bw wr w2) (hat:Xp w2 Wb m q.g q.pv q.fv q.vv q.v) (hW:wr.heap.size<=Wb) (hB:B<=wr.heap.size)
  (hb3:Bw w2 w3) (hrow:w4.ownsRow B 92 1 lv' (qs.length+1) (qs.map NQ++[NQ q])) (hg:w3.grownBy w4 lv.ownBlock) (hwh:lv'.ownBlock=lv.ownBlock∨lv'.ownBlock=η w3.heap.size):
  UX w4 B (Xs B w4 lv') lv' (ms++[m]) (qs++[q]):=by
 have i:=hb2.size;have l:=hb3.size;have n:=hg.size;have a:=fun k (h1:k<w3.heap.size) (h2:lv.ownBlock≠η k)=>hg.block k h1 (fun e=>h2 e.symm);have d:∀ k,B<=k->k<w3.heap.size->lv.ownBlock≠η k->Xs B w4 lv' k:=fun k h1 h2 h3=>⟨h1,om,fun e=>by
  rcases hwh with h | h
  .exact h3 (h ▸ e)
  .rw[h]at e;injection e with e;omega⟩
 refine⟨by simp[hL.len],by simpa using hrow,fun j m' q' hm hq=>?_,fun k hk=>hk.2.2⟩;by_cases g:j<ms.length
 .rw[Ξ g]at hm;rw[Ξ (by rw[hL.len];exact g)]at hq;refine (hL.ops j m' q' hm hq).keep (fun k hk=>?_) (fun k hk=>d k hk.1 (by have:=hk.2.1;omega) hk.2.2);have:=hk.2.1;rw[a k om hk.2.2,hb3.block k om,hb2.block k om]
 .have f:=(Η.1 hm).1;rw[yh,yS]at f;obtain rfl:j=ms.length:=by omega
  rw[Ν (ye _)]at hm;rw[Ν (by rw[hL.len];exact ye _),hL.len]at hq;simp at hm hq;subst hm;subst hq;have b:∀ k,Wb<=k->lv.ownBlock≠η k:=fun k h1 e=>by
   have:=(hL.row.lt k e).2;omega
  refine hat.toS.keep (fun k hk=>?_) (fun k hk=>d k om om (b k hk.1));rw[a k om (b k hk.1),hb3.block k hk.2]
theorem CT:(prog.info? 92).map (fun i=>(i.zero,i.size,i.bytes))=η (η (π ν),1,8):=by kernel_rfl
def Xt(w:Wo)(c:Int)(ev:ω):Prop:=∃ fb,ev=φ 162 (π (η ⟨fb,0,ν⟩))/\w.heap[fb]?=η (χ #[ι κ c] 164 (0,0))
theorem Xt.next{c:Int}{ev:ω}(h:Xt w c ev)(hb:Bw w w'):Xt w' c ev:=by
 obtain⟨fb,b,a⟩:=h;exact⟨fb,b,(hb.block fb (yC.1 a).1).trans a⟩
def FI(w:Wo)(i c:Int)(ev:ω):Prop:=∃ eb fv,ev=φ 165 (π (η ⟨eb,0,ν⟩))/\w.heap[eb]?=η (χ #[ι κ i,fv] 167 (0,0))/\Xt w c fv
theorem Dw(w:Wo)(i c:Int):FI ((w.alloc (χ #[ι κ c] 164)).alloc (χ #[ι κ i,φ 162 (π (η ⟨w.heap.size,0,ν⟩))] 167)) i c (φ 165 (π (η ⟨w.heap.size+1,0,ν⟩))):=by
 have z:(w.alloc (χ #[ι κ c] 164)).heap.size=w.heap.size+1:=sm;refine⟨w.heap.size+1,_,rfl,?_,w.heap.size,rfl,?_⟩
 .have:=yH (w.alloc (χ #[ι κ c] 164)) (χ #[ι κ i,φ 162 w.heap.size] 167)
  rwa [z]at this
 .exact ((zG _ _).block w.heap.size om).trans (yH w _)
def zfm(ms:List zk)(w:Wo)(e:Ending)(w':Wo):Prop:=Bw w w' /\
 (0<=qk ms->∃ t p,e=ε (τ #[ς ν 0 0,φ t p])/\FI w' (qk ms) 2 (φ t p)) /\
 (qk ms<0->∃ lv qs,e=ε (τ #[lv,.nilIface])/\UX w' w.heap.size (Xs w.heap.size w' lv) lv ms qs)
theorem CU(v:ω)(ms:List zk)(bl:List Nat)(w:Wo)(h:zu Qc w v ms bl)(hs:Yj ms)(hw:qS w):
  δ prog 72 #[v] w (zfm ms w):=by
 have W:=hs.1;obtain⟨xa,xc,rfl,h1,Z⟩:=h.form;have H:=zb h;have HXA:=zb Z;have HIN:=zb W;have hln:=hs.2;clear h h1 Z hs W;by_cases T:100<ms.length
 .have s:qk ms=100:=by unfold qk;rw[yg T]
  have HB:=zb s;clear s;go_in;go_wp2;go_ret2;exact⟨zh (zG w _) (zG _ _),fun _=>⟨_,_,rfl,by rw[uh HB];exact Dw w 100 2⟩,fun h=>by rw[uh HB]at h;omega⟩
 .have t100:¬ (100:Int)<(ms.length:Int):=om;obtain⟨i0,hi,hz0,hz1,hz2⟩:=info_parts CT;go_in;go_wp2_with (at_make;refine wpList_make_own _ rfl _ _ 130 rfl w.heap.size 92 i0 (π ν) 1 underlying130 hi hz0 hz1 .i64 .i64 _ ms.length rfl rfl rfl (by rw[hz2];omega) mo (ye _) ?_);intro w1 p l;have U:=(yI _ _).grown l (ye _) (by intro k hk;cases hk);have HB1:=zb U;have HO1:=zb p;clear U p l;go_wp2;go_loopw [4,23] (fun lv i wr=>∃ (k:Nat) (qs:List Wp),k<=ms.length/\i=ι κ k/\Bw w wr/\UX wr w.heap.size (Xs w.heap.size wr lv) lv (ms.take k) qs/\∀ j (h:j<ms.length),j<k->ZD ms[j]=ξ) (fun _ i _=>ms.length - (intOf i).toNat)
  case atStart=>exact⟨0,[],yu _,rfl,HB1,⟨sm,HO1,fun j m q hm _=>by simp at hm,fun k hk=>hk.2.2⟩,fun j h hj=>om⟩
  case round=>
   obtain⟨k,qs,hk,rfl,s,G,z⟩:=hrel;have n:qs.length=k:=by rw[G.len,ym];omega
   obtain⟨la,lc,rfl,X⟩:∃ la lc,u4=ς la k lc/\True:=by
    rcases G.row.2 with ⟨Y,hn⟩ |⟨g,S,cur,Y,_⟩
    .exact⟨ν,0,by rw[Y,← n,hn],trivial⟩
    .exact⟨η ⟨g,0,ν⟩,S,by rw[Y,n],trivial⟩
   by_cases A:k<ms.length
   .obtain⟨g,rfl⟩:=uh HXA om;obtain⟨vs,ib,hE,V,_⟩:=((uh H).below s).at (yy A);obtain⟨rfl,_⟩:=hE;have c0:wr.cell? ⟨g,k*4,ν⟩=η (ι κ ms[k].kind):=(V 0 _ rfl).1;have c1:wr.cell? ⟨g,k*4+1,ν⟩=η (.string ms[k].path):=(V 1 _ rfl).1;have c2:wr.cell? ⟨g,k*4+2,ν⟩=η (.string ms[k].src):=(V 2 _ rfl).1;have c3:wr.cell? ⟨g,k*4+3,ν⟩=η (.string ms[k].val):=(V 3 _ rfl).1;have K:=zb G;have N:=zb z;have a:=zb s;clear V G z s X;have hA:=zG wr (χ #[ι κ ms[k].kind,.string ms[k].path,.string ms[k].src,.string ms[k].val] 82);have zA:(wr.alloc (χ #[ι κ ms[k].kind,.string ms[k].path,.string ms[k].src,.string ms[k].val] 82)).heap.size=wr.heap.size+1:=sm;obtain⟨i1,i2,i3⟩:=uh HIN ms[k] (yt A);have C:=hw.up (zh a hA);have HA:=zb hA;have R:=zb zA
    cases hok:ZD ms[k]with
    | false=>
     have P:=zb (Ck ms[k] _ hok C i1 i2 i3);have f:=zb (zbq om A hok N);clear hok C hA zA i1 i2 i3;go_wp2_with fail;generalize (wr.alloc (χ #[ι κ ms[k].kind,.string ms[k].path,.string ms[k].src,.string ms[k].val] 82))=wA at *;go_call P as e w2 ⟨rfl,b2⟩;have HB2:=zb (zh (zh a HA) b2);clear P b2;go_wp2;go_ret2;exact⟨zh (zh HB2 (zG _ _)) (zG _ _),fun _=>⟨_,_,rfl,by rw[uh f];exact Dw _ _ 2⟩,fun h=>by rw[uh f]at h;omega⟩
    | true=>
     have P:=zb (Cj ms[k] _ hok C i1 i2 i3);have O:Hid (∀ j (h:j<ms.length),j<k+1->ZD ms[j]=ξ):=fun j h hj=>by
      by_cases e:j=k
      .subst e;exact hok
      .exact uh N j h om
     clear hok C hA zA i1 i2 i3;go_wp2_with fail;generalize (wr.alloc (χ #[ι κ ms[k].kind,.string ms[k].path,.string ms[k].src,.string ms[k].val] 82))=wA at *;go_call P as e w2 ⟨gq,pv,fv,vv,v,rfl,hat,b2⟩;have x:=zh HA b2;have F:=zG w2 (χ #[π (η ⟨gq,0,ν⟩)] 92);have k3:=yH w2 (χ #[π (η ⟨gq,0,ν⟩)] 92);have z02:=x.size;have z3:(w2.alloc (χ #[π (η ⟨gq,0,ν⟩)] 92)).heap.size=w2.heap.size+1:=sm;have hwr:=(uh a).size;have r:=Zl (Zl (uh K).row x) F;rw[n]at r;have L:=zb hat;have o:=zb x;have E:=zb F;have u:=zb z3;have cx:=Zj k3;have Q:=zb r;have M:=zb cx;clear P hat b2 x F k3 z3 r cx;go_wp2_with (at_builtin;refine Tc underlying130 CT rfl dc rfl (.tmp 42) (.tmp 44) rfl (B:=w.heap.size) rfl Q (y:=π (η ⟨gq,0,ν⟩)) rfl rfl M (by have:=uh u;omega) om ?_);intro lv' w4 d J D;obtain⟨la',lc',rfl⟩:∃ la lc,lv'=ς la (k+1) lc:=by
      rcases d.2 with ⟨_,hn⟩ |⟨g,S,cur,Y,_⟩
      .omega
      .exact⟨_,_,Y⟩
     have I:=UX.snoc (q:=⟨gq,pv,fv,vv,v⟩) K o L (by have:=uh R;omega) hwr E (by rw[n];exact d) J (by rw[uh u];exact D);rw[← yz A]at I;have HL4:=zb I;have HB4:=zb ((zh (zh a o) E).grown J (by have:=uh u;omega) (fun b s=>((uh K).row.lt b s).1));clear I d J D K L o E u Q M a HA R c0 c1 c2 c3;go_wp2;go_roundw
     case rel=>exact⟨k+1,_,om,by go_num,HB4,HL4,O⟩
     case measure=>simp[intOf];omega
   .have hk':k=ms.length:=om;subst hk';rw[Ρ]at G;have f:=zb (zbr om (fun j h=>z j h h));have K:=zb G;have a:=zb s;clear G s z X;go_wp2;go_ret2;exact⟨a,fun h=>(by rw[uh f]at h;omega),fun _=>⟨_,qs,rfl,K⟩⟩
def zX(w:Wo)(v:JV)(x:ω):Prop:=zj w (fun k=>k<w.heap.size) v x
theorem zX.next{v:JV}{x:ω}(h:zX w v x)(hb:Below w w w'):zX w' v x:=
 zj.keep (fun k hk=>hb.block k hk) (fun _ hk=>yF hk hb.size) _ _ h
def Zq(w:Wo)(o:Nat⊕JV)(e:Ending)(w':Wo):Prop:=Bw w w' /\
 ((∃ c ev,o= .inl c/\e=ε (τ #[.nilIface,ev])/\Xt w' (c:Int) ev)∨∃ u t p,o= .inr u/\e=ε (τ #[φ t p,.nilIface])/\zX w' u (φ t p))
theorem Dx(v:JV)(hv:zw v)(ts:List (List UInt8))(a:Option Addr)(g off cap:Nat)(w:Wo)(ty:TypeId)(p:ω)(hr:zX w v (φ ty p))(hs:SS w a g off (ts.map zz))(hn:ts.length<=1048577)(ht:∀ t∈ts,t.length<=1048576):
  δ prog 220 #[φ ty p,ς a ts.length cap] w (Zq w (Z6 3 (zM v ts))):=by
 have r:=zb hr;have q:=zb hv;have d:=hs.ad;have h:=zb hs.cell;simp only[yl]at d h;go_in;go_wp2_with fail;go_loopw [6,7,13] (fun vv bv iv wr=>∃ (k:Nat) (u:JV) (ty:TypeId) (p:ω),k<=ts.length/\iv=ι κ (k:Int)/\bv=θ ξ/\vv=φ ty p/\zM v (ts.take k)=η u/\zw u/\zX w u (φ ty p)/\w=wr) (fun _ _ iv _=>ts.length - (intOf iv).toNat)
 case atStart=>exact⟨0,v,ty,p,yu _,rfl,rfl,rfl,rfl,q,r,rfl⟩
 case round=>
  obtain⟨k,u,ty,p,F,rfl,rfl,rfl,l,j,f,rfl⟩:=hrel;by_cases b:k<ts.length
  .have A:(k:Int)<(ts.length:Int):=om;obtain rfl:=d om;have i:=uh h k b;rw[Rl b]at i;have s:zz (ts.getD k [])=ze ts[k]:=by simp[List.getD,b,zz,ze]
   rw[s]at i;have B:=zb (Db u j.tw ts[k] (by have:=ht _ (yt b);omega) ty p w _ f);have o:=zb fun (hc:zL u ts[k]=ν)=>Hq b l hc;have m:Hid (∀ u',zL u ts[k]=η u'->zM v (ts.take (k+1))=η u'/\zw u'):=fun u' hc=>⟨by rw[LH b l];exact hc,j.child hc⟩;generalize ze ts[k]=G at *;go_wp2_with fail;go_call B as e w3 ⟨rfl,⟨x,rfl,hcn⟩ |⟨x,u',rfl,hcs,hru⟩⟩
   .have D:=zb (uh o hcn);go_wp2;go_ret2;exact⟨zG _ _,.inl ⟨3,_,by rw[uh D];rfl,rfl,_,rfl,yH _ _⟩⟩
   .have z:=zb (uh m u' hcs);obtain⟨y,E,rfl⟩:=Gs hru;have n:=zb hru;go_wp2;go_roundw
    case rel=>exact⟨k+1,u',y,E,om,by go_num,rfl,rfl,(uh z).1,(uh z).2,n,trivial⟩
    case measure=>simp[intOf];omega
  .have e:ts.take k=ts:=yr om;rw[e]at l;have C:=zb l;have HR:=zb f;go_wp2;go_ret2;exact⟨yI _ _,.inr ⟨u,ty,p,by rw[uh C];rfl,rfl,HR⟩⟩
theorem zfn{v:JV}(h:ZX v):zn v<=(ct v).length/\zJ v<=zn v:=by
 have a:=(F1 (zap h)).2.1;rw[zK,(Kk v).cnt]at a;exact⟨a,(YR v).1⟩
theorem zfo(v:JV)(hr:ZX v)(htw:zF v=ζ)(w:Wo)(S:Nat->Prop)(t:TypeId)(p:ω)(rep:zj w S v (φ t p))(hS:∀ k,S k->k<w.heap.size)(hP:JI w w)(hl:(ct v).length<=10000000):
  δ prog 87 #[φ t p] w fun e w'=>e=ε (θ (decide (zJ v<=100/\zn v<=3000/\(ct v).length<=20000)))/\Below w w w':=by
 obtain⟨s,u⟩:=zfn hr;have m:=zb (Nu v (Uk v hr) htw w S t p rep hS hP hl om om);generalize zJ v=d at *;generalize zn v=c at *;generalize (ct v).length=n at *;obtain⟨z,l⟩:∃ z,decide (d<=100/\c<=3000/\n<=20000)=z:=⟨_,rfl⟩;rw[l];have f:=zb l;go_in;go_wp2_with fail;go_call m as e w1 ⟨rfl,b1⟩;have b:=zb (b1.alloc b1.size (qD d c n));simp only[YI];by_cases i:d<=100
 .have q:(d:Int)<=100:=om;by_cases g:c<=3000
  .have o:(c:Int)<=3000:=om;by_cases j:n<=20000
   .have r:(n:Int)<=20000:=om;have a:=zb (f.symm.trans (yj ⟨i,g,j⟩));go_wp2;go_ret;exact⟨by rw[uh a];rfl,b⟩
   .have r:¬ (n:Int)<=20000:=om;have a:=zb (f.symm.trans (yk (fun h=>j h.2.2)));go_wp2;go_ret;exact⟨by rw[uh a];rfl,b⟩
  .have o:¬ (c:Int)<=3000:=om;have a:=zb (f.symm.trans (yk (fun h=>g h.2.1)));go_wp2;go_ret;exact⟨by rw[uh a];rfl,b⟩
 .have q:¬ (d:Int)<=100:=om;have a:=zb (f.symm.trans (yk (fun h=>i h.1)));go_wp2;go_ret;exact⟨by rw[uh a];rfl,b⟩
def NR:Bs:=⟨#[48,49,50,51,52,53,54,55,56,57]⟩
theorem zfp(c:UInt8):(NR.data.toList.contains c)=zS c.toNat:=by
 rw[Τ,QU];show ([48,49,50,51,52,53,54,55,56,57]:List UInt8).contains c=ξ↔_
 rw[List.contains_iff_mem];constructor
 .intro h;simp only[Ι,List.not_mem_nil,or_false]at h;rcases h with rfl | rfl | rfl | rfl | rfl | rfl | rfl | rfl | rfl | rfl<;>decide
 .rintro⟨a,b⟩;have e:c=UInt8.ofNat c.toNat:=by rw[UInt8.ofNat_toNat]
  have:c.toNat=48∨c.toNat=49∨c.toNat=50∨c.toNat=51∨c.toNat=52∨c.toNat=53∨c.toNat=54∨c.toNat=55∨c.toNat=56∨c.toNat=57:=om;rcases this with h | h | h | h | h | h | h | h | h | h<;>(rw[h]at e;subst e;decide)
theorem zfq(t:List UInt8):Lib.trimLeftS t NR.data.toList=t.dropWhile fun c=>zS c.toNat:=by
 unfold Lib.trimLeftS;congr 1;funext c;exact zfp c
theorem CW:∀ (t:List UInt8),(t.dropWhile fun c=>zS c.toNat)=[]↔t.all (fun c=>zS c.toNat)=ξ
 | []=>by simp
 | c :: r=>by
  rw[List.dropWhile_cons,Φ]
  cases h:zS c.toNat with
  | true=>simpa using CW r
  | false=>simp
theorem zfr(s:Bs)(w:Wo):
  δ prog 192 #[s,NR] w fun e w'=>e=ε (σ (ze (s.data.toList.dropWhile fun c=>zS c.toNat)))/\Below w w w':=by
 have:=Any.strings_TrimLeft_laid Tryz.laysTrim kr s NR w dc (ascii_of_all dc);rw[zfq]at this;exact this
theorem zfs(v:ω)(ts:List (List UInt8))(w:Wo)(h:OT w B v ts)(hm:ts.length+JP ts<=1048576):
  δ prog 143 #[v] w fun e w'=>e=ε (σ (ze (qj ts)))/\Below w w w':=by
 obtain⟨a,g,b,rfl,d,_⟩:=h.shape;have e:ts.length=(ts.map zz).length:=sm;have:=M4 a g 0 b (ts.map zz) w d (by rw[On,← e];exact hm);rw[← e,Uq]at this;exact this
theorem zft(xa:Option Addr)(xb xc:Nat)(r:List (List UInt8))(t:List UInt8)(w:Wo)(h:SS w xa xb 0 ((r++[t]).map zz))(hm:r.length+1+JP (r++[t])<=1048576):
  δ prog 143 #[ς xa r.length xc] w fun e w'=>e=ε (σ (ze (qj r)))/\Below w w w':=by
 rw[Om]at hm;have a:=CE (n:=r.length) h;rw[← List.map_take,List.take_left]at a;have:=M4 xa xb 0 xc (r.map zz) w a (by rw[On,yl];omega);rw[yl,Uq]at this;exact this
theorem zfu(s:Bs)(w:Wo):
  δ prog 142 #[s] w fun e w'=>e=ε (θ (Y0 s.data.toList))/\Below w w w':=by
 have g:(s.toList ==[45])=(s.data.toList ==[45]):=by rw[Γ]
 have h:s.toList.isEmpty=(s.data.toList ==[]):=by rw[Γ];cases s.data.toList<;>rfl
 have d:=zb (zfr s w);have i:(ze (s.data.toList.dropWhile fun c=>zS c.toNat)).toList.isEmpty=s.data.toList.all fun c=>zS c.toNat:=by
  rw[Γ,Τ,List.isEmpty_iff];exact CW s.data.toList
 have a:Y0 s.data.toList=((!(s.data.toList ==[]) && s.data.toList.all fun c=>zS c.toNat) || s.data.toList ==[45]):=rfl;rw[a];generalize ze (s.data.toList.dropWhile fun c=>zS c.toNat)=l at *;generalize (s.data.toList.all fun c=>zS c.toNat)=k at *;generalize (s.data.toList ==[])=f at *;generalize (s.data.toList ==[45])=j at *
 cases j with
 | true=>
  go_in;go_wp2;go_ret;exact⟨sm,yI _ _⟩
 | false=>
  cases f with
  | true=>
   go_in;go_wp2;go_ret;exact⟨sm,yI _ _⟩
  | false=>
   go_in;go_wp2_with fail;go_call d as e w2 ⟨rfl,b2⟩;have b:=zb b2;go_wp2;go_ret;exact⟨sm,b⟩
theorem CY(b:Bool)(v:ω)(ts:List (List UInt8))(w:Wo)(h:OT w B v ts)(hm:ts.length+JP ts<=1048576):
  δ prog 92 #[v,θ b] w fun e w'=>e=ε (σ (ze (qj (if b then QC ts else ts))))/\Below w w w':=by
 have d:=zb fun wx (hx:Below w w wx)=>zfs v ts wx (Zl h hx) hm
 cases b with
 | false=>
  obtain⟨a,g,f,rfl,-,-⟩:=h.shape;have p:ts.length<=1048576:=om;rw[yf sm];have k:=zb (uh d w (yI _ _));go_in;go_wp2_with fail;go_call k as e w2 ⟨rfl,b2⟩;have i:=zb b2;go_wp2;go_ret;exact⟨rfl,i⟩
 | true=>
  rw[yg rfl];obtain⟨a,g,f,rfl,q,-⟩:=h.shape;rcases List.eq_nil_or_concat ts with rfl |⟨r,t,rfl⟩
  .have k:=zb (uh d w (yI _ _));go_in;go_wp2_with fail;go_call k as e w2 ⟨rfl,b2⟩;have i:=zb b2;go_wp2;go_ret;exact⟨rfl,i⟩
  .rw[List.concat_eq_append]at *;obtain⟨s,rfl⟩:∃ s:Bs,t=s.data.toList:=⟨ze t,by simp[ze]⟩;rw[yh,yS]at hm;have z:Hid (∀ wx,Below w w wx->_):=fun wx hx=>zft a g f r s.data.toList wx (q.below hx) hm;obtain rfl:=q.ad sm;have c0:=q.cell r.length sm;rw[show ((r++[s.data.toList]).map zz).getD r.length ByteArray.empty=s by simp[List.getD_eq_getElem?_getD,zz],Nat.zero_add]at c0;have p:(r++[s.data.toList]).length=r.length+1:=sm;have E:r.length<=f:=by
    rcases h.2 with ⟨l,C⟩ |⟨H,x,A,l,_,_,D,_⟩
    .simp at C
    .injection l with _ _ l;rw[l];rw[p]at D;omega
   have y:(r.length:Int)<=(f:Int):=om;rw[p]at d ⊢;have F:r.length<=1048576:=om;have o:Hid (Y0 s.data.toList=ξ->QC (r++[s.data.toList])=r):=Ny;have m:Hid (Y0 s.data.toList=ζ->QC (r++[s.data.toList])=r++[s.data.toList]):=Nz;have u:=zb (zfu s w);generalize hR:r.length=n at *;generalize QC (r++[s.data.toList])=I at *;generalize Y0 s.data.toList=G at *
   cases G with
   | true=>
    obtain rfl:=uh o rfl;go_in;go_wp2_with fail;go_call u as e w2 ⟨rfl,b2⟩;have k:=zb (uh z w2 b2);have j:=zb b2;go_wp2_with fail;go_call k as e w3 ⟨rfl,b3⟩;have i:=zb (zh j b3);go_wp2;go_ret;exact⟨rfl,i⟩
   | false=>
    obtain rfl:=uh m rfl;go_in;go_wp2_with fail;go_call u as e w2 ⟨rfl,b2⟩;have k:=zb (uh d w2 b2);have j:=zb b2;go_wp2_with fail;go_call k as e w3 ⟨rfl,b3⟩;have i:=zb (zh j b3);go_wp2;go_ret;exact⟨rfl,i⟩
theorem zfv(w:Wo)(x:List UInt8):OT (w.alloc (χ #[(ze x)] 9)) w (ς (η w) 1 1) [x]:=
 World.ownsRow_lit w #[(ze x)] 1 (ye _) mo rfl
theorem zfw(m:zk)(B g:Nat)(pv fv vv:ω)(v:JV)(w:Wo)(h:Xp w B m g pv fv vv v)(hok:ZD m=ξ)(h1:m.path.size<=1048576)(h2:m.src.size<=1048576):
  δ prog 43 #[g] w fun e w'=>∃ r,e=ε r/\OT w' w r (VH m)/\Below w w w':=by
 obtain⟨i0,Z,M,N,O⟩:=info_parts GV;obtain⟨-,-,qp,qs,-,-,-⟩:=Dj hok;have lp:=NA qp;have ls:=NA qs;have kb:=h.blk;have L:=(yC.1 kb).1;have f:=zb fun wx (hx:Below w w wx)=>(hx.block g L).trans kb;have T:Hid (∀ wx,Below w w wx->δ prog 92 #[pv,θ (Wd m.kind)] wx fun e w'=>e=ε (σ (ze (qj (FC m))))/\Below wx wx w'):=fun wx hx=>CY _ pv _ wx (Zl h.path hx) om;have S:Hid (∀ wx,Below w w wx->δ prog 92 #[fv,θ (Wc m.kind)] wx fun e w'=>e=ε (σ (ze (qj (FD m))))/\Below wx wx w'):=fun wx hx=>CY _ fv _ wx (Zl h.src hx) om;have i:Hid (VH m=qj (FC m) ::(if Z9 m.kind then [qj (FD m)]else [])):=rfl;have s:Below w w w.drew:=(yI _ _).drew;have kd:=uh f w.drew s;unfold Xo at kd f;generalize qj (FC m)=l at *;generalize qj (FD m)=y at *;generalize Wd m.kind=sp at *;generalize Wc m.kind=sf at *;generalize VH m=Q at *;have d7:w.drew.cell? ⟨g,7,ν⟩=η pv:=yG kd 7;have d5:w.drew.cell? ⟨g,5,ν⟩=η (θ sp):=yG kd 5;have I:=zb (uh T w.drew s);go_in;go_wp2_with fail;go_region_law (go_simp;go_call I as e w2 ⟨rfl,b2⟩)
 all_goals (
  have D:=zh s b2;have Y:=zG w2 (χ #[(ze l)] 9);have P:=zh D Y;have kA:=uh f _ P;have F:=D.size;have zA:(w2.alloc (χ #[(ze l)] 9)).heap.size=w2.heap.size+1:=sm;have o:=zb (qN (zfv w2 l) F);have a:=zb P;have q:(w2.alloc (χ #[(ze l)] 9)).cell? ⟨g,2,ν⟩=η (θ (Z9 m.kind)):=yG kA 2;have V:Hid (w.heap.size<(w2.alloc (χ #[(ze l)] 9)).heap.size):=by show _<_;omega
  have U:=zb F
  cases hf:Z9 m.kind with
  | false=>
   rw[hf]at i q;have J:Hid (Q=[l]):=uh i;go_wp2;go_ret;exact⟨_,rfl,by rw[uh J];exact uh o,a⟩
  | true=>
   rw[hf]at i q;have J:Hid (Q=[l]++[y]):=uh i;generalize hwA:w2.alloc (χ #[(ze l)] 9)=x at *;have k:Below x x x.drew:=(yI _ _).drew;have kd:=uh f x.drew (zh a k);have X:x.drew.cell? ⟨g,8,ν⟩=η fv:=yG kd 8;have W:x.drew.cell? ⟨g,4,ν⟩=η (θ sf):=yG kd 4;have A:=zb (uh S x.drew (zh a k));go_wp2_with fail;go_region_law (first
    |(
      go_simp;go_call A as e w4 ⟨rfl,b4⟩;have p:=zh k b4;have K:=zG w4 (χ #[(ze y)] 9);have C:=zb (Zl (Zl o p) K);have z:Hid (∀ j u,[Value.string (ze y)][j]?=η u->(w4.alloc (χ #[(ze y)] 9)).cell? ((w4:Addr).add j)=η u):=QS _ _ _;have d:=zb (zh a (zh p K));clear K)
    |(
      refine Og rfl (.tmp 20) (.tmp 31) 35 rfl w 9 i0 ByteArray.empty 1 16 underlying35 Z M N O rfl dc _ _ _ rfl (by exact C) w4 1 1 [(ze y)] rfl rfl (by exact z) (Ge _) (by rw[yS];unfold maxLen;decide) (by rw[yS];decide) (by exact d.size) ?_;intro R w5 n E))
   all_goals (
    have G:=zb (d.grown E d.size (fun b hb=>(o.lt b hb).1));have H:Hid (OT w5 w R ([l]++[y])):=n;clear n E C z d b4 p k X W A q;go_wp2;go_ret;exact⟨R,rfl,by rw[uh J];exact uh H,G⟩))
theorem CZ(v:ω)(ms:List zk)(bl:List Nat)(w:Wo)(h:zu Qc w v ms bl)(hs:Yj ms)(hw:qS w):
  δ prog 13 #[v] w fun e w'=>∃ r,e=ε r/\OT w' w r (ZW ms)/\Below w w w':=by
 have W:=hs.1;obtain⟨xa,xc,rfl,-,Y⟩:=h.form;have hln:=hs.2;have H:=zb h;have S:=zb Y;have L:=zb W;have HW:=zb hw;have s:Hid (OT w w (ς ν 0 0) []):=⟨rfl,.inl ⟨rfl,rfl⟩⟩;by_cases n:100<ms.length
 .have C:(100:Int)<(ms.length:Int):=om;have T:Hid (ZW ms=[]):=by show _=_;unfold ZW;rw[yg n]
  go_in;go_wp2;go_ret;exact⟨_,rfl,by rw[uh T];exact uh s,yI _ _⟩
 .have C:¬ (100:Int)<(ms.length:Int):=om;have T:Hid (ZW ms=Qf (Jz ms)):=by show _=_;unfold ZW;rw[yf n]
  go_in;go_wp2;go_loopw [3,13] (fun lv i wr=>∃ k:Nat,k<=ms.length/\i=ι κ k/\OT wr w lv (Jz (ms.take k))/\Below w w wr) (fun _ i _=>ms.length - (intOf i).toNat)
  case atStart=>exact⟨0,yu _,rfl,s,yI _ _⟩
  case round=>
   obtain⟨k,hk,rfl,ho,l⟩:=hrel;have U:(Jz (ms.take k)).length<=1000:=by
    have:=FE (ms.take k);rw[ym]at this;omega
   have d:=zb ho;have j:=zb l;have V:=l.size;by_cases p:k<ms.length
   .have u:=zb (Cp p);obtain⟨g,rfl⟩:=uh S om;obtain⟨cs,ib,hE,E,-⟩:=(H.below l).at (yy p);obtain⟨rfl,-⟩:=hE;obtain⟨i1,i2,i3⟩:=uh L ms[k] (yt p);have c0:wr.cell? ⟨g,k*4,ν⟩=η (ι κ ms[k].kind):=(E 0 _ rfl).1;have c1:wr.cell? ⟨g,k*4+1,ν⟩=η (.string ms[k].path):=(E 1 _ rfl).1;have c2:wr.cell? ⟨g,k*4+2,ν⟩=η (.string ms[k].src):=(E 2 _ rfl).1;have c3:wr.cell? ⟨g,k*4+3,ν⟩=η (.string ms[k].val):=(E 3 _ rfl).1;generalize ms[k]=m at *;generalize Jz (ms.take k)=A at *;have hA:=zG wr (χ #[ι κ m.kind,m.path,m.src,m.val] 82);have y:=HW.up (zh j hA);have HA:=zb hA
    cases hok:ZD m with
    | false=>
     have M:=zb (Ck m _ hok y i1 i2 i3);have D:Hid (Js m=[]):=by show _=_;unfold Js;rw[hok];rfl
     go_wp2_with fail;generalize (wr.alloc (χ #[ι κ m.kind,m.path,m.src,m.val] 82))=wA at *;go_call M as e w2 ⟨rfl,b2⟩;have a:=zb (zh HA b2);have G:=zb (zh j a);have P:=zb (Zl d a);go_wp2;go_roundw
     case rel=>exact⟨k+1,om,by go_num,by rw[uh u,uh D,yT];exact uh P,G⟩
     case measure=>simp[intOf];omega
    | true=>
     have M:=zb (Cj m _ hok y i1 i2 i3);have D:Hid (Js m=VH m):=by show _=_;unfold Js;rw[hok];rfl
     have Q:Hid ((VH m).length<=2):=by show _<=_;rw[← uh D];exact Co m
     have R:=zb fun (B gq:Nat) (pv fv vv:ω) (jv:JV) (wx:Wo) (hx:Xp wx B m gq pv fv vv jv)=>zfw m B gq pv fv vv jv wx hx hok i1 i2;go_wp2_with fail;generalize (wr.alloc (χ #[ι κ m.kind,m.path,m.src,m.val] 82))=wA at *;go_call M as e w2 ⟨gq,pv,fv,vv,jv,rfl,hat,b2⟩;have I:=zb (uh R _ gq pv fv vv jv w2 hat);have a:=zb (zh HA b2);generalize VH m=tp at *;go_wp2_with fail;go_call I as e w3 ⟨rv,rfl,o3,b3⟩;have x:=zh a b3;have o:=zb o3;have f:=zb (zh j x);have q:=zb (Zl d x);have z:=f.size;have htl:=uh Q;go_wp2_with (at_builtin;refine zkq rfl (.tmp 23) (.tmp 25) rfl rfl rfl q o z om ?_);intro l4 w4 o4 g4;have F:=zb (f.grown g4 z (fun b l=>(q.lt b l).1));have O:=zb o4;go_wp2;go_roundw
     case rel=>exact⟨k+1,om,by go_num,by rw[uh u,uh D];exact uh O,F⟩
     case measure=>simp[intOf];omega
   .have X:k=ms.length:=om;subst X;rw[Ρ]at d U;have I:=zb (ze2 _ _ wr d om);have K:Hid (ZW ms=Ε (Xr (Jz ms))):=by show _=_;rw[uh T];exact (zjq _).symm
    go_wp2_with fail;go_call I as e w2 ⟨rfl,o2,g2⟩;have a:=zb (j.grown g2 V (fun b l=>(d.lt b l).1));have J:=zb (ze3 _ _ w2 o2 (by rw[Dt];omega));have N:=zb o2;have Z:=a.size;go_wp2_with fail;go_call J as e w3 ⟨r3,rfl,o3,g3⟩;have f:=zb (a.grown g3 Z (fun b l=>(N.lt b l).1));have o:=zb o3;go_wp2;go_ret;exact⟨r3,rfl,by rw[uh K];exact uh o,f⟩
structure DA(B rb sb pb:Nat)(w w1 wr:Wo)(q:List UInt8)(sv:ω)(vs:List zi)(bl:List Nat)(pv:ω)(p:ZJ):Prop where
 lw:LW B rb sb w1 wr q sv vs bl
 kp:wr.heap[pb]?=η (χ #[pv,ι κ p.base,σ p.doc,ι κ p.tries] 30 (0,0))
 op:zT wr w1.heap.size pv p.ops
 k2:wr.heap[w.heap.size]?=η (χ #[ς ν 0 0] 25 (0,0))
 k3:wr.heap[w.heap.size+1]?=η (χ #[ς ν 0 0,ι κ 0,σ ⟨#[]⟩,ι κ 0] 30 (0,0))
 ge:w1.heap.size<=pb
 r2:w.heap.size+1<rb
section
variable {B rb sb pb:Nat} {w w1 wr w2:Wo} {q q':List UInt8} {sv v pv:ω} {vs vs':List zi} {bl bl':List Nat} {p:ZJ}
theorem Dy(h:zT wr B pv ms)(hk:wr.heap[g]?=η (χ cs t (0,0)))(ht:t≠82):g ∉ pv.ownBlock.toList:=fun hm=>by
 have b:pv.ownBlock=η g:=by simpa using hm
 rcases h with ⟨_,⟨rfl,_⟩ |⟨j,f,i,rfl,_,a,_⟩⟩
 .cases b
 .have d:j=g:=by injection b
  rw[d,hk]at a;injection a with a;injection a with _ e;exact ht e
theorem DA.grown(h:DA B rb sb pb w w1 wr q sv vs bl pv p)(hl:LW B rb sb w1 w2 q' sv vs bl)(g:wr.grownBy w2 (η rb)):DA B rb sb pb w w1 w2 q' sv vs bl pv p:=by
 have d:∀ k,k≠rb->k<wr.heap.size->w2.heap[k]?=wr.heap[k]?:=fun k hn hl=>g.block k hl fun e=>by injection e with e;omega
 have j:=h.lw.lt;have f:=h.r2;have i:=h.ge;have a:∀ {k:Nat} {o:Obj},wr.heap[k]?=η o->k<wr.heap.size:=fun e=>(yC.1 e).1;exact⟨hl,(d _ om (a h.kp)).trans h.kp,Vu h.op fun b hb=>d b (by have:=h.op.orow.2.2 b hb;omega) (h.op.orow.1.lt b hb),(d _ om (a h.k2)).trans h.k2,(d _ om (a h.k3)).trans h.k3,h.ge,h.r2⟩
theorem DA.below(h:DA B rb sb pb w w1 wr q sv vs bl pv p)(hb:Below wr wr w2):DA B rb sb pb w w1 w2 q sv vs bl pv p:=h.grown (h.lw.below hb) (Yn hb)
theorem DA.next(h:DA B rb sb pb w w1 wr q sv vs bl pv p)(hb:Below wr wr w2)(ho:zu Zi w2 v vs' bl')(hf:ZO wr bl'):DA B rb sb pb w w1 (w2.setCell sb v) q v vs' bl' pv p:=by
 have a:=h.below hb;have i:=h.lw.ge;have g:=h.lw.lt;have f:=h.r2;have d:∀ k,k≠sb->(w2.setCell sb v).heap[k]?=w2.heap[k]?:=fun k hn=>Α w2 sb v k hn;exact⟨h.lw.next hb ho hf,(d pb fun e=>by have:=a.kp;rw[e,a.lw.k]at this;injection this with e;injection e with _ e;exact absurd e dc).trans a.kp,Vu a.op fun b hb=>d b fun e=>Dy a.op a.lw.k dc (e ▸ hb),(d _ om).trans a.k2,(d _ om).trans a.k3,h.ge,h.r2⟩
theorem DA.setP(h:DA B rb sb pb w w1 wr q sv vs bl pv p){p':ZJ}{pv':ω}(ho:zT wr w1 pv' p'.ops)(hp:Y9 pb (χ #[pv',ι κ p'.base,p'.doc,ι κ p'.tries] 30 (0,0)) wr w2):DA B rb sb pb w w1 w2 q sv vs bl pv' p':=by
 have d:=h.lw.lt;have b:=h.r2;have a:=h.ge;exact⟨h.lw.put a h.kp dc hp,hp.here,NK ho h.kp dc hp,(hp.other _ om).trans h.k2,(hp.other _ om).trans h.k3,h.ge,h.r2⟩
theorem DA.setO{G:Nat}{ds:Array ω}(h:DA B rb sb pb w w1 wr q sv vs bl pv p)(ho:zT wr G pv p.ops)(hG:tb<G)(hg:w1.heap.size<=tb)(hk:wr.heap[tb]?=η (χ cs 82 (0,0)))(hp:Y9 tb (χ ds 82 (0,0)) wr w2):DA B rb sb pb w w1 w2 q sv vs bl pv p:=by
 have f:=h.lw.lt;have d:=h.r2;have a:=h.ge;exact⟨h.lw.put hg hk dc hp,(hp.other _ (Kr h.kp hk dc)).trans h.kp,Vu h.op fun b hb=>hp.other b fun e=>by have:=ho.orow.2.2 b hb;omega,(hp.other _ om).trans h.k2,(hp.other _ om).trans h.k3,h.ge,h.r2⟩
end
def DF(sb pb:Nat)(w wx:Wo)(d:List zi×ZJ):Prop:=∃ pa pc pv bl cl,wx.heap[sb]?=η (χ #[ς pa d.1.length pc] 25 (0,0))/\wx.heap[pb]?=η (χ #[pv,ι κ d.2.base,.string d.2.doc,ι κ d.2.tries] 30 (0,0)) /\
 wx.heap[w.heap.size]?=η (χ #[ς ν 0 0] 25 (0,0))/\wx.heap[w.heap.size+1]?=η (χ #[ς ν 0 0,ι κ 0,σ ⟨#[]⟩,ι κ 0] 30 (0,0))/\zu Zi wx (ς pa d.1.length pc) d.1 bl/\zu Qc wx pv d.2.ops cl/\(∀ b∈cl,w.heap.size+1<b)/\Bw w wx
theorem DA.fin{pa:Option Addr}{pc:Nat}(h:DA B rb sb pb w w1 wr q (ς pa vs.length pc) vs bl pv p)(hB:Below w w w1):DF sb pb w wr (vs,p):=by
 have d:=h.lw.lt;have a:=h.r2;exact⟨pa,pc,pv,bl,_,h.lw.k,h.kp,h.k2,h.k3,h.lw.row,h.op.orow.1,fun b hb=>by have:=h.op.orow.2.2 b hb;omega,Ry hB h.lw.ds.gr om fun j e=>by injection e with e;omega⟩
theorem DA.spo(h:DA rb rb sb pb w w1 wr q sv vs bl pv p)(hB:Below w w w1)(o:zu Zi w2 (ς a S.length c) S bl')(f:Fr (rb :: bl) wr w2):DF sb pb w (w2.setCell sb (ς a S.length c)) (S,p):=by
 have D:=h.lw.lt;have B:=h.r2;have E:=h.lw.ge;have F:=h.lw.ds.size;have x:=hB.size;have l:∀ b∈bl,w1.heap.size<=b:=h.lw.fs.2;have g:∀ {k:Nat} {o:Obj},wr.heap[k]?=η o->k≠rb->k ∉ bl->w2.heap[k]?=η o:=fun e n1 n2=>(f.block _ (yC.1 e).1 fun hm=>(Ι.1 hm).elim n1 n2).trans e;have m:=g h.lw.k om h.lw.ne;have d:∀ {k:Nat} {o:Obj},w2.heap[k]?=η o->k≠sb->(w2.setCell sb (ς a S.length c)).heap[k]?=η o:=fun e n=>(Α w2 sb _ _ n).trans e;have C:=h.ge;have r:∀ k,k<w1.heap.size->k ∉ bl:=fun k g hm=>by have:=l k hm;omega
 have z:zT (w2.setCell sb (ς a S.length c)) w1 pv p.ops:=Vu h.op fun b hb=>by
  have A:=h.op.orow.2.2 b hb;have v:=h.op.orow.1.lt b hb;have y:b≠sb:=fun e=>Dy h.op h.lw.k dc (e ▸ hb);refine (Α w2 sb _ b y).trans (f.block _ v fun hm=>(Ι.1 hm).elim om fun hm=>?_);obtain⟨s,t,u,i⟩:=Yt h.lw.row b hm;exact Dy h.op u (fun e=>by rw[e]at i;exact absurd i dc) hb
 exact⟨a,c,pv,bl',_,heap_setCell_same _ _ 0 _ _ _ m,d (g h.kp om (YM h.kp (Yt h.lw.row) dc)) (Kr h.kp h.lw.k dc),d (g h.k2 om (r _ om)) om,d (g h.k3 om (r _ om)) om,o.other (YM m (Yt o) dc) 0 _,z.orow.1,fun b hb=>by have:=h.op.orow.2.2 b hb;omega,ZA ((Ry hB h.lw.ds.gr om fun j e=>by injection e with e;omega).trans (f.below (fun b hb=>(Ι.1 hb).elim om fun hm=>by have:=l b hm;omega) om)) om [_] 0⟩
def Gy(i c:Nat)(rb sb pb:Nat)(w w1 wx:Wo)(q:List UInt8)(sv:ω)(vs:List zi)(bl:List Nat)(pv:ω)(p:ZJ)(d:List zi×ZJ):Prop:=
 (1<=c/\c<=i->DF sb pb w wx d)/\(¬ (1<=c/\c<=i)->DA rb rb sb pb w w1 wx q sv vs bl pv p)
theorem Gy.skip{i:Nat}{d:List zi×ZJ}(h:Gy i c rb sb pb w w1 wx q sv vs bl pv p d)(hc:c≠i+1):Gy (i+1) c rb sb pb w w1 wx q sv vs bl pv p d:=
 ⟨fun h'=>h.1 om,fun h'=>h.2 om⟩
theorem Xu{x y:Int}{d:Nat}(h:x=y↔c=d):∃ b,(x ==y)=b/\Hid (b=ξ↔c=d):=⟨_,rfl,yD.trans h⟩
theorem zfx(k:Nat):∃ c,c<7/\(k % 8=5↔c=1)/\(k % 32=15↔c=2)/\(k % 32=9↔c=3)/\(k % 16=14↔c=4)/\(k % 32=10↔c=5)/\(k % 32=26↔c=6):=by
 rcases (by omega:k % 8=5∨k % 32=15∨k % 32=9∨k % 16=14∨k % 32=10∨k % 32=26∨(k % 8≠5/\k % 32≠15/\k % 32≠9/\k % 16≠14/\k % 32≠10/\k % 32≠26))with h | h | h | h | h | h | h
 .exact⟨1,om⟩
 .exact⟨2,om⟩
 .exact⟨3,om⟩
 .exact⟨4,om⟩
 .exact⟨5,om⟩
 .exact⟨6,om⟩
 .exact⟨0,om⟩
theorem UY(hk:w.heap[g]?=η (χ cs t (0,0)))(i:Nat)(x:ω):Y9 g (χ (cs.setIfInBounds i x) t (0,0)) w (w.setCell ⟨g,i,ν⟩ x):=by
 have a:Below 0 w (w.setCell ⟨g,i,ν⟩ x):=ZA ⟨rfl,rfl,rfl,ye _,fun _ _=>rfl⟩ (yu g) [x] i;exact⟨heap_setCell_same w g i cs t x hk,fun k hn=>Α w ⟨g,i,ν⟩ x k hn,Nat.le_antisymm sm a.size,a.os,a.tape,a.output⟩
def C0(B:Nat)(w:Wo)(d:List zi×ZJ)(e:Ending)(w':Wo):Prop:=∃ sv pv bl cl,e=ε (τ #[γ #[sv],γ #[pv,ι κ d.2.base,.string d.2.doc,ι κ d.2.tries]])/\zu Zi w' sv d.1 bl/\zu Qc w' pv d.2.ops cl/\Below B w w'
structure Gz(B rb sb tb:Nat)(w0 ws:Wo)(sv:ω)(rv:Bs)(vs:List zi)(bl:List Nat)(q:List UInt8)(tx:List UInt8×List UInt8)(b:Bg)(X:Nat->Option ω)(w:Wo):Prop where
 v0:∀ v,X 0=η v->v=γ #[sv]
 v1:∀ v,X 1=η v->v=π (η ⟨rb,0,ν⟩)
 v2:∀ v,X 2=η v->v=γ #[ι κ 3,σ ⟨#[]⟩,σ ⟨#[]⟩,.string rv]
 v3:∀ v,X 3=η v->X 4=ν->zT w w0.heap.size v [⟨3,⟨#[]⟩,⟨#[]⟩,rv⟩]
 v4:∀ v,X 4=η v->v=σ (ze tx.1)
 v5:∀ v,X 5=η v->∃ y,v=JK b y/\zT w w0.heap.size y b.ops
 v6:∀ v,X 6=η v->X 5=η v
 v7:∀ v,X 7=η v->∃ y,X 5=η (JK b y)/\v=γ #[y,ι κ b.base,σ b.doc,ι κ 0]
 v8:∀ v,X 8=η v->v=γ #[ι κ b.kind,ι κ b.code,ι κ b.pos,ι κ 0]
 c4:∀ v,X 4=η v->X 3≠ν
 c5:∀ v,X 5=η v->X 4≠ν
 kt:w.heap[tb]?=η (χ #[ι κ 3,σ ⟨#[]⟩,σ ⟨#[]⟩,.string rv] 82 (0,0))
 gr:ws.grownBy w (η rb)
 lw:LW B rb sb w0 w (if (X 4).isSome then tx.2 else q) sv vs bl
section
variable {B rb sb tb:Nat} {w0 ws w w2:Wo} {sv:ω} {rv:Bs} {vs:List zi} {bl:List Nat} {q:List UInt8} {tx:List UInt8×List UInt8} {b:Bg} {X:Nat->Option ω}
theorem Gz.to(h:Gz B rb sb tb w0 ws sv rv vs bl q tx b X w)(hl:LW B rb sb w0 w2 (if (X 4).isSome then tx.2 else q) sv vs bl)(hg:ws.grownBy w2 (η rb))(ht:w2.heap[tb]?=w.heap[tb]?)(ho:∀ v ms,zT w w0 v ms->zT w2 w0 v ms):Gz B rb sb tb w0 ws sv rv vs bl q tx b X w2:=
 {h with v3:=fun v h1 h2=>ho _ _ (h.v3 v h1 h2),v5:=fun v h1=>by obtain⟨y,e,r⟩:=h.v5 v h1;exact⟨y,e,ho _ _ r⟩,kt:=ht.trans h.kt,gr:=hg,lw:=hl}
theorem Gz.bel(h:Gz B rb sb tb w0 ws sv rv vs bl q tx b X w)(hb:Below w w w2):Gz B rb sb tb w0 ws sv rv vs bl q tx b X w2:=
 h.to (h.lw.below hb) (Jp h.gr (Yn hb)) (hb.block tb (yC.1 h.kt).1) fun _ _ ho=>Zl ho hb
theorem Gz.cg{X':Nat->Option ω}(h:Gz B rb sb tb w0 ws sv rv vs bl q tx b X w)(e:∀ j,j<9->X' j=X j):Gz B rb sb tb w0 ws sv rv vs bl q tx b X' w:=by
 have E:=fun j hj v (hv:X' j=η v)=>(e j hj).symm.trans hv;exact⟨fun v k=>h.v0 v (E 0 dc v k),fun v k=>h.v1 v (E 1 dc v k),fun v k=>h.v2 v (E 2 dc v k),fun v k l=>h.v3 v (E 3 dc v k) ((e 4 dc).symm.trans l),fun v k=>h.v4 v (E 4 dc v k),fun v k=>h.v5 v (E 5 dc v k),fun v k=>(e 5 dc).trans (h.v6 v (E 6 dc v k)),fun v k=>by rw[e 5 dc];exact h.v7 v (E 7 dc v k),fun v k=>h.v8 v (E 8 dc v k),fun v k=>by rw[e 3 dc];exact h.c4 v (E 4 dc v k),fun v k=>by rw[e 4 dc];exact h.c5 v (E 5 dc v k),h.kt,h.gr,by rw[e 4 dc];exact h.lw⟩
end
theorem zfy  {id:Nat} {a0:Act} {w0:Wo}  {y0 y1 y2 y3 y4 y5 y6 y7 y8 y9 y10 y11 y12:TypeId} {p0:String} {e0 e1 e2 e3 e4 e5 e6 e7 e8 e9 e10 e11 e12:Array Edge} {i4 i5:Array TypeId}
    {rv:Bs}    {tx:List UInt8×List UInt8} {b:Bg}
  (ho:ops=#[⟨η 102,.load 25 (.tmp 6),y0,p0,e0,ν⟩,⟨η 103,.move (.tmp 4),y1,p0,e1,ν⟩,⟨η 104,.load 82 (.tmp 13),y2,p0,e2,ν⟩,⟨η 105,.buildSlice 28 1 #[(0,.tmp 104)],y3,p0,e3,ν⟩,⟨η 106,.call {callee:=.value (.func 21),args:=#[.tmp 103,.tmp 105],argTypes:=i4},y4,p0,e4,ν⟩,⟨η 107,.call {callee:=.value (.func 6),args:=#[.tmp 102,.tmp 106],argTypes:=i5},y5,p0,e5,ν⟩,⟨η 101,.move (.tmp 107),y6,p0,e6,ν⟩,
   ⟨η 108,.extract (.tmp 101) 0,y7,p0,e7,ν⟩,⟨η 109,.extract (.tmp 101) 1,y8,p0,e8,ν⟩,⟨η 14,.alloc 30,y9,p0,e9,ν⟩,⟨η 15,.alloc 32,y10,p0,e10,ν⟩,⟨ν,.store 30 (.tmp 14) (.tmp 108),y11,p0,e11,ν⟩,⟨ν,.store 32 (.tmp 15) (.tmp 109),y12,p0,e12,ν⟩])
  (hB:X0 ops=ξ) (hdp:([(3,2),(4,1),(4,3),(5,0),(5,4),(6,5),(7,6),(8,6),(11,9),(11,7),(12,10),(12,8)].all fun p=>GT ops p.1 p.2)=ξ) (hz:∀ d∈[102,103,104,105,106,107,101,108,109,14,15],d<a0.tmps.size)
  (eS:a0.tmps[6]?.getD undef=π (η sb)) (eR:a0.tmps[4]?.getD undef=π (η rb)) (eO:a0.tmps[13]?.getD undef=π (η tb)) (L:LW B rb sb w0 w q sv vs bl) (kt:w.heap[tb]?=η (χ #[ι κ 3,σ ⟨#[]⟩,σ ⟨#[]⟩,rv] 82 (0,0)))
  (C3:∀ wx r,LW B rb sb w0 wx q sv vs bl->zT wx w0 r [⟨3,⟨#[]⟩,⟨#[]⟩,rv⟩]->δ prog 21 #[rb,r] wx (DT B rb wx tx.1 tx.2))
  (C4:∀ wx,LW B rb sb w0 wx tx.2 sv vs bl->δ prog 6 #[γ #[sv],(ze tx.1)] wx (FA b wx))
  (hK:∀ (w':Wo) y (g h:Nat) u0 u1 u2 u3 u4 u5 u6 u7 u8,LW B rb sb w0 w' tx.2 sv vs bl->w.grownBy w' (η rb)->zT w' w0 y b.ops->w'.heap[g]?=η (χ #[y,ι κ b.base,b.doc,ι κ 0] 30 (0,0))->w'.heap[h]?=η (χ #[ι κ b.kind,ι κ b.code,ι κ b.pos,ι κ 0] 32 (0,0)) ->
   Q .normal (Vr a0 [102,103,104,105,106,107,101,108,109,14,15] [u0,u1,u2,u3,u4,u5,u6,u7,u8,g,h] 11) w'):(Code.region id ops ξ).wp prog Q a0 w:=by
 have C:[102,103,104,105,106,107,101,108,109,14,15].Nodup:=dc;refine Mn (nF:=9) (k:=2) (D:=[102,103,104,105,106,107,101,108,109,14,15]) (Tt:=fun i=>if i=0 then 30 else 32) (Zt:=fun i=>if i=0 then #[ς ν 0 0,ι κ 0,σ ⟨#[]⟩,ι κ 0]else #[ι κ 0,ι κ 0,ι κ 0,ι κ 0]) (sr:=fun i=>7+i) (G:=w.heap.size) (Ψ:=Gz B rb sb tb w0 w sv rv vs bl q tx b)
  kr hB C hz rfl (by rw[ho];rfl) ?_ (fun i H=>om) ?_ ?_ ?_ (fun X w' h=>h.gr.size) ?_ ?_ ?_ ?_ ?_ ?_ ?_
 .intro i j H hj S;rcases (show i=0/\j=1∨i=1/\j=0 by omega)with ⟨rfl,rfl⟩ |⟨rfl,rfl⟩<;>decide
 .subst ho;intro i o h
  iterate 13
   rcases i with _ | i
   .cases h;exact⟨rfl,rfl⟩
  cases h
 .simp only[Φ,List.all_nil,Ο]at hdp;intro i H;rcases (show i=0∨i=1 by omega)with rfl | rfl<;>simp[hdp]
 .have n:∀ {p:ω->Prop},∀ v,(ν:Option ω)=η v->p v:=fun _ h=>by cases h
  exact⟨n,n,n,n,n,n,n,n,n,n,n,kt,Yn (yI _ _).drew,L.below (yI _ _).drew⟩
 .exact fun X w' i H h=>h.bel (ZF w' _)
 .exact fun X w' i v H h=>h.cg fun j hj=>Uu om
 .intro X w1 F g cs ds i H aa h x J;have ht:(if i=0 then 30 else 32) ∉ [37,9,25]/\(if i=0 then 30 else 32)≠82:=by split<;>decide
  exact h.to (h.lw.put (yQ L.ds.size aa) x ht.1 J) (GW h.gr ⟨J.os,J.tape,J.output,Nat.le_of_eq J.size.symm,fun k _ S=>J.other k fun e=>S (congrArg η e)⟩ fun j e=>by injection e with e;omega) (J.other tb (Kr h.kt x (Ne.symm ht.2))) fun v ms ho=>NK ho x ht.2 J
 .subst ho;intro i o H s Y w';rcases (show i=0∨i=1 by omega)with rfl | rfl<;>cases s<;>go_simp
 .subst ho;intro i o H s X Y w' g v l h U N x;rcases (show i=0∨i=1 by omega)with rfl | rfl
  .cases s;obtain⟨y,h3,rfl⟩:=h.v7 v N;obtain⟨W,h4,h5⟩:=h.v5 _ h3;have ea:=l.ev U rfl;have eb:=l.ev N rfl;obtain⟨c0,c1,c2,c3⟩:=Z3 x;have f:=yJ x;have e:JK b y=JK b W:=h4;unfold JK at e;obtain rfl:y=W:=by injection e with e;injection e with e;injection e with e;injection e with e;injection e with e;injection e with e
   obtain⟨a,Z,rfl⟩:=JU h5;refine⟨_,putN w' g 0 [ς a b.ops.length Z,ι κ b.base,b.doc,ι κ 0],rfl,?_,FH x [_,_,_,_] rfl⟩;clear l h U N x h3 h4 h5 C3 C4 hK L C hz hB hdp;go_simp;rfl
  .cases s;obtain rfl:=h.v8 v N;have ea:=l.ev U rfl;have eb:=l.ev N rfl;obtain⟨c0,c1,c2,c3⟩:=Z3 x;have f:=yJ x;refine⟨_,putN w' g 0 [ι κ b.kind,ι κ b.code,ι κ b.pos,ι κ 0],rfl,?_,FH x [_,_,_,_] rfl⟩;clear l h U N x C3 C4 hK L C hz hB hdp;go_simp;rfl
 .subst ho;simp only[Φ,List.all_nil,Ο]at hdp;intro n o hn' s X Y w' l h hx P;have z:=fun j hj (hd:GT _ n j=ξ)=>P j hj hd;clear P;have kp:∀ {F:Wo},Below w' w' F->∀ (g:Nat) cs i,i<2->w'.heap[g]?=η (Obj.cells cs (if i=0 then 30 else 32) (0,0))->F.heap[g]?=η (Obj.cells cs (if i=0 then 30 else 32) (0,0)):=fun O g cs i _ x=>(O.block g (yC.1 x).1).trans x;have m:∀ (g:Nat) cs i,i<2->w'.heap[g]?=η (Obj.cells cs (if i=0 then 30 else 32) (0,0))->w'.heap[g]?=η (Obj.cells cs (if i=0 then 30 else 32) (0,0)):=fun _ _ _ _ h=>h
  match n,hn' with
  | 0,_=>
   cases s;have cS:=Zj h.lw.k;have e:=l.nv eS dc;exact J3 (v:=γ #[sv]) (w':=w') (by clear l h z C3 C4 hK L C hz hB hdp kp m hx;go_simp) ⟨_,rfl,{h with v0:=fun u hu=>(Option.some.inj hu).symm},m⟩
  | 1,_=>
   cases s;have e:=l.nv eR dc;exact J3 (v:=π (η rb)) (w':=w') (by clear l h z C3 C4 hK L C hz hB hdp kp m hx;go_simp) ⟨_,rfl,{h with v1:=fun u hu=>(Option.some.inj hu).symm},m⟩
  | 2,_=>
   cases s;obtain⟨c0,c1,c2,c3⟩:=Z3 h.kt;have e:=l.nv eO dc;exact J3 (v:=γ #[ι κ 3,σ ⟨#[]⟩,σ ⟨#[]⟩,rv]) (w':=w') (by clear l h z C3 C4 hK L C hz hB hdp kp m hx;go_simp) ⟨_,rfl,{h with v2:=fun u hu=>(Option.some.inj hu).symm},m⟩
  | 3,_=>
   cases s;obtain⟨u2,x2⟩:=z 2 dc hdp.1;obtain rfl:=h.v2 u2 x2;have e2:=l.ev x2 rfl;have K:X 4=ν:=by
    cases hx4:X 4 with
    | none=>rfl
    | some v=>exact absurd hx (h.c4 v hx4)
   have O:=ZF w' (χ #[ι κ 3,σ ⟨#[]⟩,σ ⟨#[]⟩,rv] 82);have E:=yQ L.ds.size h.gr.size;refine J3 (v:=ς (η w') 1 1) (w':=w'.alloc (χ #[ι κ 3,σ ⟨#[]⟩,σ ⟨#[]⟩,rv] 82)) (by clear x2 K O E;clear l h z C3 C4 hK L C hz hB hdp kp m hx;go_simp) ?_;have hnw:=yH w' (χ #[ι κ 3,σ ⟨#[]⟩,σ ⟨#[]⟩,rv] 82);have h:=h.bel O;exact⟨_,rfl,{h with v3:=fun u hu _=>by obtain rfl:=Option.some.inj hu;exact⟨rfl,.inr ⟨_,1,_,rfl,E,hnw,ye _,dc,rfl,rfl⟩⟩,c4:=fun u hu=>absurd (show X 4=η u from hu) (by rw[K];simp)},kp O⟩
  | 4,_=>
   cases s;obtain⟨u1,x1⟩:=z 1 dc hdp.2.1;obtain rfl:=h.v1 u1 x1;have e1:=l.ev x1 rfl;obtain⟨u3,V⟩:=z 3 dc hdp.2.2.1;have e3:=l.ev V rfl;have A:=h.lw;simp only[hx,Option.isSome_none,Bool.false_eq_true,if_false]at A;have x:=C3 w' u3 A (h.v3 u3 V hx);refine Ks (R:=fun v F=>v=σ (ze tx.1)/\DX B rb w' tx.2 F) (f:=21) (args:=#[rb,u3]) (w':=w') (by clear x A x1 V;clear l h z C3 C4 hK L C hz hB hdp kp m hx;go_simp) (x.mono fun e F k=>⟨_,k.1,rfl,k.2⟩) ?_;rintro v F ⟨rfl,T⟩;exact⟨_,rfl,{h with v3:=(fun u hu k=>by cases k),v4:=fun u hu=>(Option.some.inj hu).symm,v5:=fun u hu=>absurd hx (h.c5 u hu),c4:=(fun u hu k=>by have k:X 3=ν:=k;rw[V]at k;cases k),c5:=(fun u hu k=>by cases k),kt:=T.kv A.ds.rd dc h.kt,gr:=Jp h.gr T.gr,lw:=A.step T},fun g cs i _ x=>T.kv A.ds.rd (by split<;>decide) x⟩
  | 5,_=>
   cases s;obtain⟨u0,x0⟩:=z 0 dc hdp.2.2.2.1;obtain rfl:=h.v0 u0 x0;have e0:=l.ev x0 rfl;obtain⟨u4,K⟩:=z 4 dc hdp.2.2.2.2.1;obtain rfl:=h.v4 u4 K;have e4:=l.ev K rfl;have A:=h.lw;simp only[K,Option.isSome_some,if_true]at A;have x:=C4 w' A;have n6:∀ u,X 6≠η u:=fun u hu=>by have:=h.v6 u hu;rw[hx]at this;cases this
   refine Ks (R:=fun v F=>∃ y,v=JK b y/\zT F w' y b.ops/\Below w' w' F) (f:=6) (args:=#[γ #[sv],(ze tx.1)]) (w':=w') (by clear x A x0 K n6;clear l h z C3 C4 hK L C hz hB hdp kp m hx;go_simp) (x.mono fun e F k=>by obtain⟨y,rfl,k⟩:=k;exact⟨_,rfl,y,rfl,k⟩) ?_;rintro v F ⟨y,rfl,o2,b2⟩;have sz:=A.ds.size;have h:=h.bel b2;exact⟨_,rfl,{h with v5:=fun u hu=>⟨y,(Option.some.inj hu).symm,qN o2 sz⟩,v6:=fun u hu=>absurd hu (n6 u),v7:=(fun u hu=>by obtain⟨_,k,_⟩:=h.v7 u hu;rw[hx]at k;cases k),c5:=(fun u hu k=>by have k:X 4=ν:=k;rw[K]at k;cases k)},kp b2⟩
  | 6,_=>
   cases s;obtain⟨u5,I⟩:=z 5 dc hdp.2.2.2.2.2.1;have e5:=l.ev I rfl;exact J3 (v:=u5) (w':=w') (by clear I;clear l h z C3 C4 hK L C hz hB hdp kp m hx;go_simp) ⟨_,rfl,{h with v6:=fun u hu=>by obtain rfl:=Option.some.inj hu;exact I},m⟩
  | 7,_=>
   cases s;obtain⟨u6,M⟩:=z 6 dc hdp.2.2.2.2.2.2.1;have e6:=l.ev M rfl;have I:=h.v6 u6 M;obtain⟨y,rfl,-⟩:=h.v5 u6 I;unfold JK at e6;exact J3 (v:=γ #[y,ι κ b.base,b.doc,ι κ 0]) (w':=w') (by clear I M;clear l h z C3 C4 hK L C hz hB hdp kp m hx;go_simp) ⟨_,rfl,{h with v7:=fun u hu=>⟨y,I,(Option.some.inj hu).symm⟩},m⟩
  | 8,_=>
   cases s;obtain⟨u6,M⟩:=z 6 dc hdp.2.2.2.2.2.2.2.1;have e6:=l.ev M rfl;obtain⟨y,rfl,-⟩:=h.v5 u6 (h.v6 u6 M);unfold JK at e6;exact J3 (v:=γ #[ι κ b.kind,ι κ b.code,ι κ b.pos,ι κ 0]) (w':=w') (by clear M;clear l h z C3 C4 hK L C hz hB hdp kp m hx;go_simp) ⟨_,rfl,{h with v8:=fun u hu=>(Option.some.inj hu).symm},m⟩
  | n+9,h=>exact absurd h om
 .intro X Y w' l h E hv;obtain⟨g,cs,x9,-,k1,x7⟩:=hv 0 dc;obtain⟨g',cs',x10,-,k2,x8⟩:=hv 1 dc;obtain⟨y,I,e7⟩:=h.v7 _ x7;injection e7 with e7;subst e7;have e8:=h.v8 _ x8;injection e8 with e8;subst e8;obtain⟨W,e5,o5⟩:=h.v5 _ I;obtain rfl:y=W:=by unfold JK at e5;injection e5 with e;injection e with e;injection e with e;injection e with e;injection e with e;injection e with e
  obtain⟨u0,z0⟩:=E 0 dc;obtain⟨u1,z1⟩:=E 1 dc;obtain⟨u2,z2⟩:=E 2 dc;obtain⟨u3,z3⟩:=E 3 dc;obtain⟨u4,z4⟩:=E 4 dc;obtain⟨u5,z5⟩:=E 5 dc;obtain⟨u6,z6⟩:=E 6 dc;obtain⟨u7,z7⟩:=E 7 dc;obtain⟨u8,z8⟩:=E 8 dc;have A:=h.lw;simp only[z4,Option.isSome_some,if_true]at A;rw[l.fin C hz [u0,u1,u2,u3,u4,u5,u6,u7,u8,g,g'] rfl ?_]
  .exact hK w' y g g' _ _ _ _ _ _ _ _ _ A h.gr o5 k1 k2
  .intro i H
   iterate 11
    rcases i with _ | i
    .assumption
   exact absurd H sm
theorem C5(hG:J9 n vs)(rb sb:Nat)(w0:Wo)(sv:ω)(bl:List Nat)(q s:List UInt8)(hs:s.length<=20000):
  (∀ wx r,LW rb rb sb w0 wx q sv vs bl->zT wx w0 r [JA s]->δ prog 21 #[rb,r] wx (DT rb rb wx (Ja [JA s] q).1 (Ja [JA s] q).2)) /\
  (∀ wx,LW rb rb sb w0 wx (Ja [JA s] q).2 sv vs bl->δ prog 6 #[γ #[sv],(ze (Ja [JA s] q).1)] wx (FA (Zm vs (ze (Ja [JA s] q).1)) wx)):=by
 have a:∀ m∈[JA s],Fq m:=fun m hm=>by
  rw[Ζ]at hm;subst hm;exact⟨yu _,yu _,by show (ze s).size<=20000;rw[zK];exact hs⟩
 exact⟨fun wx r hx ho=>Be rb rb r _ _ _ wx hx.ds.rd ho.orow.1 a (show 1<=4 by decide) (fun hb=>by have:=ho.orow.2.2 rb hb;have:=hx.lt;omega),fun wx hx=>CF _ vs bl _ wx hx.row hG.vin (by rw[zK];exact yQ (CG a (show 1<=4 by decide) _) dc)⟩
theorem zfz(xa:Option Addr)(xb xo xc:Nat)(l:List UInt8)(w:Wo)(h:BS w xa xb xo l)(hl:l.length<=1048576)(hc:l.length<=xc):
  δ prog 15 #[ς xa l.length xc] w (C0 w.heap.size w (WW (l.take 1200))):=by
 have hA:=YU w (χ #[ς ν 0 0] 25) (χ #[ς ν 0 0,ι κ 0,σ ⟨#[]⟩,ι κ 0] 30);have HO:=zb (zjx xa xb xo xc l _ (h.below hA.bel) hl hc);generalize hD:WW (l.take 1200)=D;unfold WW at hD;have u:=zb hD;have HSW:=zb fun w1 q B f (h:ZL w1 B f q)=>zeW B f 2 q w1 h dc;have U:=zb fun q=>CO 2 dc q;have HA:=zb hA;have hx:=QQ (l.take 1200);clear h hl hc hD hA;generalize l.take 1200=q0 at *;have HX:=zb fun w1 B f (h:ZL w1 B f q0)=>Q5 B f q0 w1 h;generalize (nx q0).1=k at *;generalize (nx q0).2=q1 at *;go_in;go_wp2_with fail;generalize (w.alloc _).alloc _=w0 at *;go_call HO as e w1 ⟨rfl,r1,I,z1⟩;have hz0:=HA.size;have hz1:w1.heap.size=w.heap.size+3:=om;have K2:=zb ((I.block w.heap.size om).trans HA.k0);have K3:=zb ((I.block (w.heap.size+1) om).trans HA.k1);have HB1:=zb (zh HA.bel I);have HR1:=zb r1;have hrb:w.heap.size+1<w0.heap.size:=om;generalize w0.heap.size=f at *;clear HO I r1 z1 hz0 HA;have R:=zb (HX w1 f f HR1);go_wp2_with fail;go_call R as e w2 ⟨rfl,d2⟩;have hlt2:=d2.rd.lt;have K2':=zb ((d2.gr.block w.heap.size om fun e=>by injection e with e;omega).trans K2);have K3':=zb ((d2.gr.block (w.heap.size+1) om fun e=>by injection e with e;omega).trans K3);have H:=zb (Ry HB1 d2.gr om fun j e=>by injection e with e;omega);have S:=zb (HSW w2 q1 f f d2.rd);have HG1:=zb (U q1);have hz2:w.heap.size+1<w2.heap.size:=by have:=d2.size;omega
 generalize VJ 2 q1=s at *;clear HX R HSW U HR1 K2 K3 HB1 hz1 d2;go_wp2_with fail;go_call S as e w3 ⟨sv,E,rfl,o3,f3,d3⟩;obtain⟨pa,pc,rfl,-,-⟩:=o3.form;have hA3:=ZF w3 (χ #[ς pa s.1.length pc] 25);have hs3:=d3.size;have b:Hid (LW f f w3.heap.size w2 (w3.alloc (χ #[ς pa s.1.length pc] 25)) s.2 (ς pa s.1.length pc) s.1 E):=⟨d3.below hA3,yH w3 _,o3.below hA3,f3,hs3,fun hb=>by have:=o3.lt _ hb;omega,hlt2⟩;have ab:∀ k,k≠f->k<w2.heap.size->(w3.alloc (χ #[ς pa s.1.length pc] 25)).heap[k]?=w2.heap[k]?:=fun k hk hl=>(hA3.block k om).trans (d3.gr.block k hl fun e=>by injection e with e;omega);have E2:=zb ((ab _ om om).trans K2');have E3:=zb ((ab _ om hz2).trans K3');clear S o3 f3 d3 hA3 hs3 ab K2' K3';go_wp2_with fail;generalize w3.alloc _=w4 at *;generalize w3.heap.size=J at *;obtain⟨nn,tn,C1,C2,C3,C4⟩:=Dq HG1 (show 3<=4 by decide) f f J w2 (ς pa s.1.length pc) E s.2;refine Dp rfl kr kr dc dc dc (by show ∀ d∈_,d<147;decide) rfl rfl b C1 C2 C3 C4 ?_;intro w5 y N vb z0 z1 z2 z3 z4 z5 z6 z7 z8 z9 z10 z11 G P hgh o5 k5 k6;have hge:=G.ge;have aa:∀ {j:Nat} {o:Obj},w4.heap[j]?=η o->j<w4.heap.size:=fun e=>(yC.1 e).1;have hs4:=b.ds.size;have HDA:Hid (DA f f J N w w2 w5 (Jc s.1 3 s.2).2 (ς pa s.1.length pc) s.1 E y (NO (Zm s.1 (ze (Jc s.1 3 s.2).1)))):=⟨G,k5,o5,(P.block _ (aa E2) fun e=>by injection e with e;omega).trans E2,(P.block _ (aa E3) fun e=>by injection e with e;omega).trans E3,om,hrb⟩;clear G P hgh o5 k5 k6 C1 C2 C3 C4 b E2 E3 hge aa hs4;simp only[Vr];go_simp;have hpd:(NO (Zm s.1 (ze (Jc s.1 3 s.2).1))).doc.size<=20000:=(Xq _ _).2;generalize NO _=z at *;generalize (Jc s.1 3 s.2).2=q3 at *;obtain⟨a,q2⟩:=s;simp only at *;go_upto_region 6 with fail;go_cut [44]from 37 to 44 (fun v wx=>v=θ (decide (k % 32=31∨k % 32=15))/\w5=wx)
 case first=>
  by_cases h31:k % 32=31
  .have e31:((k:Int) % 32 ==31)=ξ:=by rw[yD];omega
   have HE:Hid (decide (k % 32=31∨k % 32=15)=ξ):=yj (.inl h31);clear h31;go_wp2;go_meet
   case rel=>exact⟨by rw[uh HE],rfl⟩
  .have e31:((k:Int) % 32 ==31)=ζ:=by rw[yd];omega
   have HE:Hid (decide (k % 32=31∨k % 32=15)=((k:Int) % 32 ==15)):=by show _=_;rw[Τ,decide_eq_true_eq,yD];omega
   clear h31;go_wp2;go_meet
   case rel=>exact⟨by rw[uh HE],rfl⟩
 obtain⟨rfl,rfl⟩:=hcut;generalize hbk:decide (k % 32=31∨k % 32=15)=bk;have HN:Hid ((Gx k:Int)=if bk then 9 else (k:Int) / 4 % 4):=by
  show _=_
  rw[← hbk];unfold Gx;by_cases h:k % 32=31∨k % 32=15
  .rw[yg h,yj h];rfl
  .rw[yf h,yk h];simp
 clear hbk;go_upto_if 44 with fail;go_cut [9]from 9 to 9 (fun v wx=>v=ι κ (Gx k:Int)/\w5=wx)
 case first=>
  cases bk
  all_goals
   go_wp2;go_meet
   case rel=>exact⟨by rw[uh HN];rfl,rfl⟩
 obtain⟨rfl,rfl⟩:=hcut;have hn9:Gx k<=9:=by unfold Gx;split<;>omega
 clear HN;generalize Gx k=n at *;go_wp2_with fail;go_loopw [10] (fun i wr=>∃ (j:Nat) (q:List UInt8) (sv:ω) (a:List zi) (E:List Nat),i=ι κ (j:Int)/\j<=n/\Hid (J9 (10+j) a)/\Hid (DA f f J N w w2 wr q sv a E y z)/\Hid (NP k z (Vj 1 (n - j) (a,q))=D)) (fun i _=>n - (intOf i).toNat)
 case atStart=>exact⟨0,q3,_,_,E,rfl,yu _,HG1,HDA,u⟩
 case round=>
  clear HDA u HG1;obtain⟨j,q,sv,a,E,rfl,hj,U,b,HR⟩:=hrel;obtain⟨pa,pc,rfl,-,-⟩:=b.lw.row.form;by_cases hlt:j<n
  .have hltI:(j:Int)<(n:Int):=om;have hr:=uh HR;rw[show n - j=(n - (j+1))+1 by omega,Vj]at hr;unfold NJ at hr;simp only at hr;have HG2:=zb (U.step om (ze (Jc a 1 q).1));have HR2:=zb hr;clear hr HR;go_wp2_with fail;obtain⟨nn,tn,C1,C2,C3,C4⟩:=Dq U (show 1<=4 by decide) f f J w2 (ς pa a.length pc) E q;refine Dp rfl kr kr dc dc dc (by show ∀ d∈_,d<147;decide) rfl rfl b.lw C1 C2 C3 C4 ?_;intro w6 y6 g h z0 z1 z2 z3 z4 z5 z6 z7 z8 z9 z10 z11 G P hgh o5 k5 k6;have V:=zb (b.grown G P);obtain⟨c0,c1,c2,c3⟩:=Z3 k5;obtain⟨v0,-,-,-⟩:=Z3 k6;have s0:=Zj G.k;have fS:=yJ G.k 0;obtain⟨oa,oc,rfl⟩:=JU o5;generalize (Jc a 1 q).2=q5 at *;generalize ze (Jc a 1 q).1=T at *;have hbi:=Xq a T;have L:=zb (NI _ _ a ⟨(Zm a T).ops,(Zm a T).base,(Zm a T).doc,0⟩ E _ w6 G.row o5.orow.1 U.vin hbi.1 (by have:=hbi.2;simp only;omega));have F:Hid (UT a T=if (Zm a T).kind=1 then (Qm a ⟨(Zm a T).ops,(Zm a T).base,(Zm a T).doc,0⟩).vs else a):=rfl;clear G P hgh o5 k5 k6 C1 C2 C3 C4 b U hbi;simp only[Vr];go_simp;by_cases r:(Zm a T).kind=1
   .have m:=uh F;rw[yg r]at m;have X:=zb HR2;rw[m]at X HG2;have hk2:((Zm a T).kind ==1)=ξ:=by rw[yD];exact r
    clear m F HR2;generalize Zm a T=bb at *;generalize Qm a _=A at *;clear r;go_wp2_with fail;go_call L as e w7 ⟨v7,vo,bl7,rfl,o7,f7,-,b7⟩;obtain⟨a7,n7,rfl,-,-⟩:=o7.form;have M:=zb (V.next b7 o7 f7);have s7:=Zj (V.lw.below b7).k;have f7':=yJ (V.lw.below b7).k 0;clear L o7 f7 b7 V c0 c1 c2 c3 v0 s0 fS;go_wp2;go_roundw
    all_goals first
     | exact⟨j+1,q5,_,_,bl7,by go_num,om,HG2,M,X⟩
     |(simp[intOf];omega)
   .have m:=uh F;rw[yf r]at m;have X:=zb HR2;rw[m]at X HG2;have hk2:((Zm a T).kind ==1)=ζ:=by rw[yd];exact r
    clear m F HR2 r L;go_wp2;go_roundw
    all_goals first
     | exact⟨j+1,q5,_,_,E,by go_num,om,HG2,V,X⟩
     |(simp[intOf];omega)
  .have hltI:¬ (j:Int)<(n:Int):=om;obtain rfl:j=n:=by omega
   have hr:=uh HR;rw[Nat.sub_self,Vj]at hr;have u:=zb hr;clear hr HR;obtain⟨c,hc,i5,i15,i9,i14,i10,i26⟩:=zfx k;obtain⟨t1,e1,E5⟩:=Xu (show (k:Int) % 8=5↔c=1 by omega);obtain⟨t2,e2,E15⟩:=Xu (show (k:Int) % 32=15↔c=2 by omega);obtain⟨t3,e3,E9⟩:=Xu (show (k:Int) % 32=9↔c=3 by omega);obtain⟨t4,e4,E14⟩:=Xu (show (k:Int) % 16=14↔c=4 by omega);obtain⟨t5,e5,E10⟩:=Xu (show (k:Int) % 32=10↔c=5 by omega);obtain⟨t6,e6,E26⟩:=Xu (show (k:Int) % 32=26↔c=6 by omega);unfold NP Dv at u;simp only[i5,i15,i9,i14,i10,i26]at u;clear i5 i15 i9 i14 i10 i26;have S0:Hid (Gy 0 c f J N w w2 wr q (ς pa a.length pc) a E y z D):=⟨fun h=>om,fun _=>b⟩;clear b;go_upto_if 74 with fail;clear e1;go_cut []from 75 to 78 (fun wx=>Hid (Gy 1 c f J N w w2 wx q (ς pa a.length pc) a E y z D))
   case first=>
    cases t1;rotate_left
    .obtain x:=E5.1 rfl;have b:=zb (S0.2 om);obtain⟨-,c1,c2,c3⟩:=Z3 b.kp;have fz:=yJ b.kp;subst x;simp only[Β,if_true,if_false]at u;go_wp2;go_meet
     case rel=>exact⟨fun _=>uh u ▸ (b.setP (p':=⟨z.ops,z.base,z.doc,(k:Int) / 32 % 6⟩) b.op (UY b.kp 3 _)).fin H,fun h=>absurd om h⟩
    .have x:c≠1:=fun h=>Δ (E5.2 h);go_wp2;go_meet
     case rel=>exact S0.skip x
   clear S0 E5;have S1:=zb hcut;clear hcut;go_upto_if 81 with fail;clear e2;go_cut []from 82 to 86 (fun wx=>Hid (Gy 2 c f J N w w2 wx q (ς pa a.length pc) a E y z D))
   case first=>
    cases t2;rotate_left
    .obtain x:=E15.1 rfl;have b:=zb (S1.2 om);obtain⟨-,c1,c2,c3⟩:=Z3 b.kp;have fz:=yJ b.kp;subst x;simp only[Β,if_true,if_false]at u;go_wp2;go_meet
     case rel=>exact⟨fun _=>uh u ▸ (b.setP (p':=⟨z.ops,z.base,z.doc,2+(k:Int) / 32 % 4⟩) b.op (UY b.kp 3 _)).fin H,fun h=>absurd om h⟩
    .have x:c≠2:=fun h=>Δ (E15.2 h);go_wp2;go_meet
     case rel=>exact S1.skip x
   clear S1 E15;have S2:=zb hcut;clear hcut;go_upto_if 89 with fail;clear e3;go_cut []from 13 to 124 (fun wx=>Hid (Gy 3 c f J N w w2 wx q (ς pa a.length pc) a E y z D))
   case first=>
    cases t3;rotate_left
    .obtain x:=E9.1 rfl;have b:=zb (S2.2 om);subst x;simp only[Β,if_true,if_false]at u;obtain⟨C1,C2⟩:=C5 U f J w2 (ς pa a.length pc) E q [91,49,93] dc;obtain⟨C3,C4⟩:=C5 U f J w2 (ς pa a.length pc) E (Ja [JA [91,49,93]] q).2 [91,50,93] dc;have HBI:=zb (Xq a (ze (Ja [JA [91,50,93]] (Ja [JA [91,49,93]] q).2).1));generalize Ja [JA [91,49,93]] q=T1 at *;generalize Ja [JA [91,50,93]] T1.2=T2 at *;generalize Zm a (ze T1.1)=I at *;have R:=zb C1;have S:=zb C2;have HC3:=zb C3;have HC4:=zb C4;clear C1 C2 C3 C4;have HLA:=zb (b.below (ZF _ (χ #[ι κ 3,σ ⟨#[]⟩,σ ⟨#[]⟩,σ ⟨#[91,49,93]⟩] 82)));have KT:=zb (yH wc (χ #[ι κ 3,σ ⟨#[]⟩,σ ⟨#[]⟩,σ ⟨#[91,49,93]⟩] 82));have hge:=b.lw.ds.size;have hzA:(wc.alloc (χ #[ι κ 3,σ ⟨#[]⟩,σ ⟨#[]⟩,σ ⟨#[91,49,93]⟩] 82)).heap.size=wc.heap.size+1:=sm;have HZA:=zb hzA;clear b hzA;go_wp2_with fail;generalize wc.alloc _=wA at *;generalize wc.heap.size=tb at *;have hB0:=(zG wA (χ #[ι κ 3,σ ⟨#[]⟩,σ ⟨#[]⟩,σ ⟨#[91,49,93]⟩] 82)).drew;have hBs:Bw wA (wA.alloc (χ #[ι κ 3,σ ⟨#[]⟩,σ ⟨#[]⟩,σ ⟨#[91,49,93]⟩] 82)).drew:=hB0;have O:=zb (HLA.below hBs);have KTB:=zb ((hBs.block tb (yC.1 KT).1).trans KT);have OB:Hid (zT (wA.alloc (χ #[ι κ 3,σ ⟨#[]⟩,σ ⟨#[]⟩,σ ⟨#[91,49,93]⟩] 82)).drew w2.heap.size (ς (η wA.heap.size) 1 1) [JA [91,49,93]]):=⟨rfl,.inr ⟨wA.heap.size,1,_,rfl,by have:=uh HZA;omega,yH wA (χ #[ι κ 3,σ ⟨#[]⟩,σ ⟨#[]⟩,σ ⟨#[91,49,93]⟩] 82),ye _,dc,rfl,rfl⟩⟩;have s0:=Zj HLA.lw.k;obtain⟨r0,r1,r2,r3⟩:=Z3 KT;have t0:=Zj O.lw.k;obtain⟨q0',q1',q2',q3'⟩:=Z3 KTB;clear hB0 hBs;have HHH:Hid (2=2):=rfl;go_region_held3 (fun w'=>w'.cell? J=η (ς pa a.length pc)/\w'.cell? tb=η (ι κ 3)/\w'.cell? ⟨tb,1,ν⟩=η (σ ⟨#[]⟩)/\w'.cell? ⟨tb,2,ν⟩=η (σ ⟨#[]⟩)/\w'.cell? ⟨tb,3,ν⟩=η (σ ⟨#[91,49,93]⟩)) (first | exact⟨s0,r0,r1,r2,r3⟩ | exact⟨t0,q0',q1',q2',q3'⟩ | exact⟨s8,x0,x1,x2,x3⟩ | exact⟨s9,y0,y1,y2,y3⟩ |(simp only[QD n1,QD n2];exact⟨s9,y0,y1,y2,y3⟩)) (first
      |(
        go_simp;go_call S w8 W.lw as e w9 ⟨y9,rfl,o9,b9⟩;obtain⟨oa9,oc9,rfl⟩:=JU o9;have C:=zb (W.below b9);have KT9:=zb ((b9.block tb (yC.1 Y).1).trans Y);have O9:=zb o9;have s9:=Zj C.lw.k;obtain⟨y0,y1,y2,y3⟩:=Z3 KT9;have HZ9:Hid (tb<w8.heap.size):=(yC.1 Y).1;have f9:=yJ C.kp;obtain⟨g0,g1,g2,g3⟩:=Z3 C.kp;have n1:¬ N=J:=Kr C.kp C.lw.k dc;have n2:¬ N=tb:=Kr C.kp KT9 dc;clear o9 b9 W Y s8 x0 x1 x2 x3)
      |(
        go_simp;go_call R _ _ O.lw OB as e w8 ⟨rfl,d8⟩;have W:=zb (O.grown (O.lw.step d8) d8.gr);have HZ8:=zb W.lw.ds.size;have Y:=zb (d8.kv O.lw.ds.rd dc KTB);have s8:=Zj W.lw.k;obtain⟨x0,x1,x2,x3⟩:=Z3 Y;clear d8 R O KTB OB t0 q0' q1' q2' q3'))
     generalize hW:World.setCell _ ⟨N,3,ν⟩ _=wP at *;have hP:Y9 N (χ #[ς oa9 I.ops.length oc9,ι κ I.base,I.doc,ι κ 0] 30 (0,0)) w9 wP:=by rw[← hW];exact FH C.kp [_,_,_,_] rfl
     have OP:=zb (NK O9 C.kp dc hP);have HLP:=zb (C.setP (p':=⟨I.ops,I.base,I.doc,0⟩) (qN O9 HZ8) hP);have Z:=zb ((hP.other tb (Ne.symm n2)).trans KT9);obtain⟨-,-,-,r3'⟩:=Z3 Z;have fr:=yJ Z 3;clear hW hP O9 C KT9 s9 y0 y1 y2 y3 g0 g1 g2 g3 f9 n1 s0 r0 r1 r2 r3 S HLA KT HZA HHH;go_wp2_with fail;generalize hW:wP.setCell _ _=wR at *;have hR:Y9 tb (χ #[ι κ 3,σ ⟨#[]⟩,σ ⟨#[]⟩,σ ⟨#[91,50,93]⟩] 82 (0,0)) wP wR:=by rw[← hW];exact UY Z 3 _
     have HLR:=zb (HLP.setO OP HZ9 om Z hR);have hK:=hR.here;clear hW hR OP HLP Z r3' fr;refine zfy (rv:=⟨#[91,50,93]⟩) rfl kr kr (by show ∀ d∈_,d<147;decide) rfl rfl rfl HLR.lw hK HC3 HC4 ?_;intro w10 y10 gq hv u0 u1 u2 u3 u4 u5 u6 u7 u8 ad gr10 o10 k10 kv10;have p:=zb (HLR.grown ad gr10);obtain⟨c0,c1,c2,c3⟩:=Z3 k10;obtain⟨v0,-,-,-⟩:=Z3 kv10;have s0:=Zj ad.k;have fS:=yJ ad.k 0;obtain⟨oa,oc,rfl⟩:=JU o10;generalize ze T2.1=Q at *;have L:=zb (NI _ _ a ⟨(Zm a Q).ops,(Zm a Q).base,(Zm a Q).doc,0⟩ E _ w10 ad.row o10.orow.1 U.vin HBI.1 (by have:=HBI.2;simp only;omega));have F:Hid (UT a Q=if (Zm a Q).kind=1 then (Qm a ⟨(Zm a Q).ops,(Zm a Q).base,(Zm a Q).doc,0⟩).vs else a):=rfl;clear HLR hK HC3 HC4 ad gr10 o10 k10 kv10 HBI;simp only[Vr];go_simp;by_cases r:(Zm a Q).kind=1
     .have m:=uh F;rw[yg r]at m;rw[m]at u;have hk2:((Zm a Q).kind ==1)=ξ:=by rw[yD];exact r
      clear m F;generalize Zm a Q=b2 at *;generalize Qm a _=A at *;clear r;go_wp2_with fail;go_call L as e w7 ⟨v7,vo,bl7,rfl,o7,f7,-,b7⟩;obtain⟨a7,n7,rfl,-,-⟩:=o7.form;have M:=zb (p.next b7 o7 f7);have s7:=Zj (p.lw.below b7).k;have f7':=yJ (p.lw.below b7).k 0;obtain⟨-,-,-,p3⟩:=Z3 M.kp;have fp:=yJ M.kp 3;clear L o7 f7 b7 p c0 c1 c2 c3 v0 s0 fS;go_wp2;go_meet
      case rel=>exact⟨fun _=>uh u ▸ (M.setP (p':=⟨I.ops,I.base,I.doc,4 - (k:Int) / 32 % 3⟩) M.op (UY M.kp 3 _)).fin H,fun h=>absurd om h⟩
     .have m:=uh F;rw[yf r]at m;rw[m]at u;have hk2:((Zm a Q).kind ==1)=ζ:=by rw[yd];exact r
      obtain⟨-,-,-,p3⟩:=Z3 p.kp;have fp:=yJ p.kp 3;clear m F r L c0 c1 c2 c3 s0 fS;go_wp2;go_meet
      case rel=>exact⟨fun _=>uh u ▸ (p.setP (p':=⟨I.ops,I.base,I.doc,4 - (k:Int) / 32 % 3⟩) p.op (UY p.kp 3 _)).fin H,fun h=>absurd om h⟩
    .have x:c≠3:=fun h=>Δ (E9.2 h);go_wp2;go_meet
     case rel=>exact S2.skip x
   clear S2 E9;have S3:=zb hcut;clear hcut;go_upto_if 127 with fail;clear e4;go_cut []from 128 to 130 (fun wx=>Hid (Gy 4 c f J N w w2 wx q (ς pa a.length pc) a E y z D))
   case first=>
    cases t4;rotate_left
    .obtain x:=E14.1 rfl;have b:=zb (S3.2 om);have hr:=b.lw.lt;have s0:=Zj b.lw.k;have HSP:=zb (zff f f _ q _ a E _ b.lw.ds.rd b.lw.row b.lw.fs.1 (fun hm=>by have:=b.lw.fs.2 f hm;omega) U om);subst x;simp only[Β,if_true,if_false]at u;generalize (UU a q).1=SS at *;go_wp2_with fail;go_call HSP as e w8 ⟨v8,bl8,rfl,o8,f8⟩;obtain⟨a8,c8,rfl,-,-⟩:=o8.form;have HF:=zb (b.spo H o8 f8);have k8:=(f8.block _ (yC.1 b.lw.k).1 fun hm=>(Ι.1 hm).elim (by have:=b.lw.ge;omega) b.lw.ne).trans b.lw.k;have s8:=Zj k8;have g8:=yJ k8 0;clear o8 f8 HSP s0 k8 b;go_wp2;go_meet
     case rel=>exact⟨fun _=>uh u ▸ HF,fun h=>absurd om h⟩
    .have x:c≠4:=fun h=>Δ (E14.2 h);go_wp2;go_meet
     case rel=>exact S3.skip x
   clear S3 E14;have S4:=zb hcut;clear hcut;go_upto_if 133 with fail;clear e5;go_cut []from 134 to 137 (fun wx=>Hid (Gy 5 c f J N w w2 wx q (ς pa a.length pc) a E y z D))
   case first=>
    cases t5;rotate_left
    .obtain x:=E10.1 rfl;have b:=zb (S4.2 om);obtain⟨-,c1,c2,c3⟩:=Z3 b.kp;have fz:=yJ b.kp;subst x;simp only[Β,if_true,if_false]at u;go_wp2;go_meet
     case rel=>exact⟨fun _=>uh u ▸ (b.setP (p':=⟨z.ops,(k:Int) / 32 - 2,z.doc,z.tries⟩) b.op (UY b.kp 1 _)).fin H,fun h=>absurd om h⟩
    .have x:c≠5:=fun h=>Δ (E10.2 h);go_wp2;go_meet
     case rel=>exact S4.skip x
   clear S4 E10;have S5:=zb hcut;clear hcut;go_upto_if 140 with fail;clear e6;go_cut []from 141 to 144 (fun wx=>Hid (Gy 6 c f J N w w2 wx q (ς pa a.length pc) a E y z D))
   case first=>
    cases t6;rotate_left
    .obtain x:=E26.1 rfl;have b:=zb (S5.2 om);obtain⟨-,c1,c2,c3⟩:=Z3 b.kp;have fz:=yJ b.kp;subst x;simp only[Β,if_true,if_false]at u;have hsz:(9223372036854775807<z.doc.size+1)=False:=yR om;go_wp2;go_meet
     case rel=>exact⟨fun _=>uh u ▸ (b.setP (p':=⟨z.ops,z.base,z.doc++(⟨#[32]⟩:Bs),z.tries⟩) b.op (UY b.kp 2 _)).fin H,fun h=>absurd om h⟩
    .have x:c≠6:=fun h=>Δ (E26.2 h);go_wp2;go_meet
     case rel=>exact S5.skip x
   clear S5 E26;have S6:=zb hcut;clear hcut;have HF:Hid (DF J N w wc D):=by
    by_cases h0:c=0
    .subst h0;simp only[Β,if_false]at u;exact uh u ▸ (S6.2 om).fin H
    .exact S6.1 om
   clear S6 u;obtain⟨qa,qc,pv,cl,dl,hs,hp,h2,h3,o1,o2,hd,hb⟩:=uh HF;clear HF;obtain⟨ra,rc,rfl,-,-⟩:=o2.form;have s0:=Zj hs;obtain⟨c0,c1,c2,c3⟩:=Z3 hp;have r0:=Zj h2;obtain⟨d0,d1,d2,d3⟩:=Z3 h3;have f2:=yJ h2;have f3:=yJ h3;have ab:N≠w.heap.size:=fun e=>by rw[e,h2]at hp;injection hp with hp;injection hp with _ e;exact absurd e dc
   have hN1:=YM h2 (Yt o1) dc;have hN2:=YM h3 (Yt o1) dc;have HR:Hid (C0 w.heap.size w D (ε (τ #[γ #[ς qa D.1.length qc],γ #[ς ra D.2.ops.length rc,ι κ D.2.base,D.2.doc,ι κ D.2.tries]])) (putN (putN wc.drew w.heap.size 0 [ς qa D.1.length qc]) (w.heap.size+1) 0 [ς ra D.2.ops.length rc,ι κ D.2.base,D.2.doc,ι κ D.2.tries])):=⟨_,_,cl,dl,rfl,((o1.below (yI _ _).drew).putN hN1 _ _).putN hN2 _ _,((o2.below (yI _ _).drew).putN (fun h=>by have:=hd _ h;omega) _ _).putN (fun h=>by have:=hd _ h;omega) _ _,ZA (ZA hb.drew (ye _) _ _) (Nat.le_succ _) _ _⟩;have H2:Hid (wc.drew.heap[w.heap.size]?=_):=h2;have H3:Hid (wc.drew.heap[w.heap.size+1]?=_):=h3;clear o1 o2 hb hd h2 h3 hs hp hN1 hN2;go_upto_region 32 with fail;go_region;clear c0 c1 c2 c3 d0 d1 d2 d3 f2 f3 r0 s0 ab;rename_i K hK;refine hK _ _ (wp_ret ?_);try refine then_ret ?_
   show bodyPost _ _ _ Exit.ret _ _
   exact bodyPost_ret (WT (w:=wc.drew) rfl _ [_] [_,_,_,_] rfl rfl H2 H3 om rfl rfl rfl underlying25 rfl kr underlying30 rfl kr) rfl HR
theorem zfA{α:Type}{M:List α}(h:2<=M.length):∃ x M' y,M=x ::(M'++[y]):=by
 cases M with
 | nil=>simp at h
 | cons x r=>
  rcases List.eq_nil_or_concat r with rfl |⟨M',y,rfl⟩
  .simp at h
  .exact⟨x,M',y,by rw[List.concat_eq_append]⟩
theorem zfB(v:ω)(xs:List zi)(bl:List Nat)(w:Wo)(h:zu Zi w v xs bl)(hd:bl.Nodup)(hl:xs.length<=1000):
  δ prog 76 #[v] w fun e w'=>e=ε (τ #[])/\∃ bl',zu Zi w' v xs.reverse bl'/\bl'.Perm bl/\Fr v.ownBlock.toList w w':=by
 obtain⟨a,c,rfl,-,I⟩:=h.form;have H:=zb h;have U:=zb hd;go_in;go_wp2;go_loopw [2,3] (fun i j wr=>∃ (A M C:List zi) (n:List Nat),xs=A++(M++C)/\A.length=C.length/\i=ι κ (A.length:Int)/\j=ι κ ((xs.length:Int) - 1 - A.length)/\zu Zi wr (ς a xs.length c) (C.reverse++(M++A.reverse)) n/\n.Perm bl/\Fr (Κ a xs.length c).ownBlock.toList w wr) (fun i _ _=>xs.length - (intOf i).toNat)
 case atStart=>exact⟨[],xs,[],bl,sm,rfl,rfl,sm,by simpa using uh H,List.Perm.refl _,Fr.refl _ _⟩
 case round=>
  obtain⟨A,M,C,n,hx,d,rfl,rfl,r,p,z⟩:=hrel;have b:xs.length=A.length+M.length+C.length:=by rw[hx];simp;omega
  by_cases G:2<=M.length
  .obtain⟨x,f,y,rfl⟩:=zfA G;obtain⟨g,rfl⟩:=I om;have s:zu Zi wr (ς (η g) xs.length c) (C.reverse++x ::(f++y :: A.reverse)) n:=by simpa using r
   obtain⟨us,vs,lu,lv,k,l,fz,⟨ix,S⟩,⟨iy,T⟩,o,B,q⟩:=s.swap (p.nodup_iff.2 U);simp only[yh,yp,yE]at b;rw[List.length_reverse]at k l fz B;have N:(xs.length:Int) - 1 - (C.length:Int)=((C.length+1+f.length:Nat):Int):=om;obtain⟨q0,rfl,K⟩:=S;obtain⟨q1,rfl,L⟩:=T;obtain⟨O,P,rfl,-,-⟩:=K.form;obtain⟨Q,R,rfl,-,-⟩:=L.form;rw[show Zi.wd=3 from rfl]at k l fz B;have ab:C.length+1+f.length<xs.length:=om;rw[d,N];generalize hJ:C.length+1+f.length=J at *;have u0:wr.cell? ⟨g,C.length*3,ν⟩=_:=k 0 _ rfl;have u1:wr.cell? ⟨g,C.length*3+1,ν⟩=_:=k 1 _ rfl;have u2:wr.cell? ⟨g,C.length*3+2,ν⟩=_:=k 2 _ rfl;have v0:wr.cell? ⟨g,J*3,ν⟩=_:=l 0 _ rfl;have v1:wr.cell? ⟨g,J*3+1,ν⟩=_:=l 1 _ rfl;have v2:wr.cell? ⟨g,J*3+2,ν⟩=_:=l 2 _ rfl;have g0:=fz (C.length*3) om;have g1:=fz (C.length*3+1) om;have g2:=fz (C.length*3+2) om;have z0:=fz (J*3) om;have z1:=fz (J*3+1) om;have z2:=fz (J*3+2) om;have i1:(C.length:Int)<(J:Int):=om;have i2:(C.length:Int)<(xs.length:Int):=om;have i3:(J:Int)<(xs.length:Int):=om;have n1:¬ C.length=J:=om;have n2:¬ J=C.length:=om;have X:=zb B;have F:=zb (q.trans p);have D:=zb z;have Y:=zb hx;have V:=zb b;have Z:C.length<=1000:=om;have aa:J<=1000:=om;clear B p q z hx r s k l fz K L lu lv b G N;go_wp2;go_region;have W:Hid (zu Zi ((((((wr.setCell ⟨g,C.length*3,ν⟩ (ι κ y.no)).setCell ⟨g,C.length*3+1,ν⟩ y.doc).setCell ⟨g,C.length*3+2,ν⟩ (ς Q y.touched.length R)).setCell ⟨g,J*3,ν⟩ (ι κ x.no)).setCell ⟨g,J*3+1,ν⟩ x.doc).setCell ⟨g,J*3+2,ν⟩ (ς O x.touched.length P)).drew (ς (η g) xs.length c) (C.reverse++y ::(f++x :: A.reverse)) o):=X.below ((yI _ _).drew);have E:Hid (Fr (Κ (η g) xs.length c).ownBlock.toList w ((((((wr.setCell ⟨g,C.length*3,ν⟩ (ι κ y.no)).setCell ⟨g,C.length*3+1,ν⟩ y.doc).setCell ⟨g,C.length*3+2,ν⟩ (ς Q y.touched.length R)).setCell ⟨g,J*3,ν⟩ (ι κ x.no)).setCell ⟨g,J*3+1,ν⟩ x.doc).setCell ⟨g,J*3+2,ν⟩ (ς O x.touched.length P)).drew):=by
    have m:g∈(Κ (η g) xs.length c).ownBlock.toList:=by simp[Υ]
    exact (((((((D.set m _ _).set m _ _).set m _ _).set m _ _).set m _ _).set m _ _)).drew
   generalize World.drew _=wN at *;go_wp2;go_roundw
   case rel=>
    have b:=uh V;refine⟨A++[x],f,y :: C,o,?_,by simp[d],?_,?_,by simpa using uh W,F,E⟩
    .rw[uh Y];simp
    .rw[yh,d];go_num
    .rw[yh,d,yS];congr 1;omega
   case measure=>simp[intOf];omega
  .have u:C.reverse++(M++A.reverse)=xs.reverse:=by
    rw[hx,Θ,Θ,List.append_assoc];congr 2;rcases (show M.length=0∨M.length=1 by omega)with h | h
    .rw[yO h];rfl
    .obtain⟨x,rfl⟩:=List.length_eq_one_iff.1 h;rfl
   rw[u]at r;have tI:¬ (A.length:Int)<(xs.length:Int) - 1 - A.length:=om;have HR:=zb r;have F:=zb p;have D:=zb z;clear r p z hx u d b G;go_wp2;go_end0;exact⟨rfl,n,HR,F,D⟩
structure TV(w:Wo)(wr:Wo)(p:ω)(ws:List zi)(b1:List Nat):Prop where
 bel:Bw w wr
 k1:wr.heap[w.heap.size]?=η (χ #[ς ν 0 0] 25 (0,0))
 o1:zu Zi wr p ws b1
 fs:ZO (w.heap.size+1) b1
section
variable {w wr w3:Wo} {p p':ω} {ws:List zi} {b1 b1':List Nat}
theorem TV.below(h:TV w wr p ws b1)(hb:Below wr wr w3):TV w w3 p ws b1:=
 ⟨zh h.bel hb,(hb.block _ (yC.1 h.k1).1).trans h.k1,h.o1.below hb,h.fs⟩
theorem TV.snoc(h:TV w wr p ws b1)(hg:wr.grownBy w3 p.ownBlock){x:zi}(ho:zu Zi w3 p' (ws++[x]) b1')(hF:ZO (w.heap.size+1) b1'):TV w w3 p' (ws++[x]) b1':=by
 have a:=fun g (hg:p.ownBlock=η g)=>h.fs.2 g (h.o1.head hg);refine⟨h.bel.grown hg h.bel.size fun k hk=>by have:=a k hk;omega,?_,ho,hF⟩;exact (hg.block _ (yC.1 h.k1).1 fun e=>by have:=a _ e.symm;omega).trans h.k1
end
def C6:ω->Nat
 | .slice _ n _=>n
 | _=>0
theorem zfC(S:Nat->Prop)(l:List zi)(v:ω)(w:Wo)(h:Zx w (fun _=>True) S l v)(hl:l.length<=1000)(ht:∀ m∈l,m.touched.length<=2097152):
  δ prog 34 #[v] w (zc1 l.reverse w):=by
 obtain⟨a,rfl⟩:=h.ptr;have HH:=zb h;have HT:=zb ht;go_in;go_wp2;have hA:=zG w (χ #[ς ν 0 0] 25);have kA:=yH w (χ #[ς ν 0 0] 25);generalize w.alloc _=wA at *;have HS:Hid (TV w wA (ς ν 0 0) [] []):=⟨hA,kA,zu.nil _ _,ZO.nil _⟩;go_loopw [3,4] (fun lv at' wr=>∃ (r d:List zi) (K:List Nat),l=d++r/\Zx w (fun _=>True) S r at'/\TV w wr lv d K) (fun lv _ _=>l.length - C6 lv)
 case atStart=>exact⟨l,[],[],rfl,HH,HS⟩
 case round=>
  obtain⟨r,d,K,n,I,i⟩:=hrel;obtain⟨la,lc,rfl,-,-⟩:=i.o1.form
  cases r with
  | nil=>
   obtain rfl:_=Value.pointer ν:=I;rw[yT]at n;subst n;have f:=zb i;have HR:=zb (zfB _ l K wr i.o1 i.fs.1 hl);go_wp2_with fail;go_call HR as e s ⟨rfl,b2,o2,p2,f2⟩;have k:∀ b∈(Κ la l.length lc).ownBlock.toList,w.heap.size+1<=b:=fun b k=>f.fs.2 b (f.o1.head (by simpa using k));have y:=(f2.block w (yC.1 f.k1).1 (fun hm=>by have:=k _ hm;omega)).trans f.k1;have c0:=Zj y;have fr:=yJ y;have O:=zb (f.bel.trans (f2.below (fun b hb'=>by have:=k b hb';omega) f.bel.size));have W:=zb o2;have B:Hid (ZO (w.heap.size+1) b2):=⟨p2.nodup_iff.2 f.fs.1,fun b k=>f.fs.2 b (p2.mem_iff.1 k)⟩;have T:=zb y;go_wp2;refine bodyPost_ret (results_cell_row rfl _ _ w 25 #[_] (0,0) _ rfl (qG T [_] rfl) underlying25 rfl kr) rfl ?_;exact⟨_,b2,rfl,W.putN (g:=w.heap.size) (fun hm=>by have:=(uh B).2 _ hm;omega) [_] 0,B.mono om,ZA (g:=w.heap.size) O (ye _) [_] 0⟩
  | cons m r'=>
   obtain⟨b,q,t,p,v',bl,jv,rfl,-,Y,h4,-,-,-,-,h8⟩:=I;obtain⟨xa,xc,rfl,-,-⟩:=h4.form;obtain⟨a',rfl⟩:=h8.ptr;have k:=(yC.1 Y).1;have kr:=(i.bel.block b k).trans Y;have J:Below wr wr wr.drew:=(yI _ _).drew;obtain⟨c0,c1,c2,-,-⟩:=Va kr;have hmt:=uh HT m (by rw[n];simp);have HM:=zb (zcZ _ m.touched bl wr.drew (h4.below (zh i.bel J)) om);have x:=zb (i.below J);have C:=zb fun wx (hx:Below w w wx)=>(hx.block b k).trans Y;have H8:=zb h8;have Z:d.length+r'.length+1=l.length:=by rw[n];simp;omega
   have U:=zb n;have P:=zb Z;have hd1:d.length<=1000:=om;go_wp2;go_region_law (first
    |(
      refine Sr (e:=Zi) Fl dc underlying23 Nf rfl dc dc rfl (.tmp 12) (.tmp 30) rfl rfl O3 Q E3 R N rfl (by exact Fj s [_,_,_] _) D (by have:=(yC.1 A.k1).1;omega) om ?_;intro v' w3 bl' o4 f4 m4 aa;obtain⟨va,vc,rfl,-,-⟩:=o4.form)
    |(
      go_simp;refine HM.mono ?_;rintro e s ⟨z,ib,rfl,F,G,X⟩;obtain⟨L,M,rfl,-,-⟩:=F.form;have o:=x.below X;have H:Below s s (s.alloc (χ #[ι κ m.no,m.doc,ς L m.touched.length M] 37)):=zG _ _;have j:=o.below H;have O3:=zb j.o1;have Q:=zb j.fs;have E3:Hid (Zi.E (s.alloc (χ #[ι κ m.no,m.doc,ς L m.touched.length M] 37)) [ι κ m.no,m.doc,ς L m.touched.length M] m ib):=⟨_,rfl,F.below H⟩;have hcw:w.heap.size<wr.heap.size:=(yC.1 x.k1).1;have R:=zb (G.mono (B':=w.heap.size+1) (by show _<=wr.heap.size;omega));have N:Hid (∀ b∈ib,b ∉ K):=fun b k hbl=>by have h1:wr.heap.size<=b:=G.2 b k;have h2:b<wr.heap.size:=x.o1.lt b hbl;omega
      have D:Hid (∀ u∈[Value.int .i64 m.no,m.doc,ς L m.touched.length M],u.oneCell'=ξ):=fun u hu=>by simp at hu;rcases hu with rfl | rfl | rfl<;>rfl
      have A:=zb j;have y:=uh C s o.bel;have d0:=(Va y).1;have d1:s.cell? ⟨b,1,ν⟩=η m.doc:=yG y 1))
   all_goals (
    have V:=zb (A.snoc aa o4 f4);have e4:w3.cell? ⟨b,4,ν⟩=η (.pointer a'):=yG (uh C w3 V.bel) 4;rw[yh,yS]at V;go_wp2;go_roundw)
   all_goals first
    | exact⟨r',d++[m],_,by rw[uh U];simp,H8,V⟩
    |(have:=uh P;simp[C6];omega)
