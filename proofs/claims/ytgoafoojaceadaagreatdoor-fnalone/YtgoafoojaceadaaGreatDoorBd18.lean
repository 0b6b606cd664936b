import Derived.Test.YtgoafoojaceadaaGreatDoorBd17
set_option maxRecDepth 100000
set_option maxHeartbeats 8000000
open Go renaming Calls->δ,Value->ω
open Go.ByteArray renaming toList_eq->Γ
open Go.Ending renaming returned->ε
open Go.IntKind renaming i64->κ
open Go.Lib renaming compact->Δ
open Go.Obj renaming cells->χ
open Go.RowKit.Below renaming heap_setCell->Α
open Go.Value renaming agg->γ,bool->θ,iface->φ,int->ι,ownBlock->Ο,pointer->π,slice->Κ,slice->ς,string->σ,tuple->τ
open _root_.Bool renaming false->ζ,true->ξ
open _root_.ByteArray renaming empty->Β
open _root_.List renaming getElem?_append_left->Ξ,getElem?_append_right->Ν,getElem?_eq_some_iff->Ζ,mem_append->Μ,mem_cons->Ε,mem_singleton->Θ,reverse_append->Η,take_length->Ι
open _root_.Option renaming none->ν,some->η
namespace Go.Proofs.YtgoafoojaceadaaGreatDoor
open Go.RowKit Go.Proofs.Tryz
variable{w wr w' w1 w2 w3 wA wx:Wo}{bl bl':List Nat}{vs S l:List zj}{rb B sb n c g k x N pb j:Nat}{q q':List UInt8}{sv v pv:ω}{m:zj}{a:Option Addr}{p:qa}{ms:List zk}
theorem cl5{w:World}{g:Nat}{a b c d e:Value}{t:TypeId}{f:Nat×Nat}(h:w.heap[g]?=some (.cells #[a,b,c,d,e] t f)):w.cell? g=some a∧w.cell? ⟨g,1,none⟩=some b∧w.cell? ⟨g,2,none⟩=some c∧w.cell? ⟨g,3,none⟩=some d∧w.cell? ⟨g,4,none⟩=some e:=⟨_root_.Go.Lib.cell_of_heap h 0,_root_.Go.Lib.cell_of_heap h 1,_root_.Go.Lib.cell_of_heap h 2,_root_.Go.Lib.cell_of_heap h 3,_root_.Go.Lib.cell_of_heap h 4⟩
theorem zfc(a b:Bs):Op.bytesLess a.toList b.toList=decide (a.data.toList<b.data.toList):=by
 rw[bytesLess_eq,Γ,Γ]
theorem zfd(v:ω)(ss:List Bs)(bl:List Nat)(w:Wo)(h:QK w v ss bl)(hML:ML w)(hp:∀ s∈ss,s.size<=1048576):
  δ prog 69 #[v] w fun e w'=>e=ε (θ (J5 ss))/\Below w w w':=by
 have R:ss.length<=9223372036854775807:=by have:=h.len;unfold maxLen at this;omega
 obtain⟨W,X,rfl,L,K⟩:=h.form;clear L;have H:=zb h;have I:=zb K;have F:=zb hML;by_cases U:1000<ss.length
 .have u:Hid (J5 ss=ζ):=SQ (by rintro⟨h,_⟩;omega);have T:(1000:Int)<(ss.length:Int):=om;go_in;go_wp2;go_ret;exact⟨by rw[uh u];rfl,yI _ _⟩
 .have T:¬ (1000:Int)<(ss.length:Int):=om;go_in;go_wp2;go_loopw [10] (fun i wr=>∃ k:Nat,k<=ss.length/\i=ι κ k/\Below w w wr/\(∀ j (h:j+1<ss.length),j+1<k->ss[j].data.toList<ss[j+1].data.toList)/\∀ j (h:j<ss.length),j<k->(zH ss[j].data.toList).isSome=ξ) (fun i _=>ss.length - (intOf i).toNat)
  case atStart=>exact⟨0,yu _,rfl,yI _ _,fun j _ h=>om,fun j _ h=>om⟩
  case round=>
   obtain⟨k,V,rfl,D,r,b⟩:=hrel;have x:=zb b;have G:=zb r;have d:=zb D;by_cases q:k<ss.length
   .have O:(k:Int)<(ss.length:Int):=om;have A:=(Vu.1 (H.below D)).1;obtain⟨C,rfl⟩:=uh I om;have B:∀ j (hj:j<ss.length),wr.cell? ⟨C,j,ν⟩=η (.string ss[j]):=fun j hj=>by
     rw[A.cellAt j (by simpa using hj),List.getElem?_map,yy hj];rfl
    have E:=zb B;have M:C<wr.heap.size:=yK _ _ (B k q);have n:=B k q;have m:=zb fun wx (hx:Below wr wr wx)=>LS ss[k] wx (F.below (zh d hx)) (hp ss[k] (yt q));clear r b D A B
    cases hpk:(zH ss[k].data.toList).isSome with
    | false=>
     rw[hpk]at m;have u:=zb (SQ (by rintro⟨_,_,h⟩;rw[h k q]at hpk;cases hpk));generalize ss[k]=sk at *;clear hpk;go_wp2_with fail;go_call uh m _ (yI _ _) as e w2 ⟨rfl,b2⟩;have a:=zb (zh d b2);clear b2 m n;go_wp2;go_ret;exact⟨by rw[uh u];rfl,a⟩
    | true=>
     rw[hpk]at m;have g:Hid (∀ j (h:j<ss.length),j<k+1->(zH ss[j].data.toList).isSome=ξ):=fun j h hj=>by
      by_cases e:j=k
      .subst e;exact hpk
      .exact uh x j h om
     clear hpk;by_cases J:k=0
     .subst J;have l:Hid (∀ j (h:j+1<ss.length),j+1<0+1->ss[j].data.toList<ss[j+1].data.toList):=fun j _ hj=>by omega
      generalize ss[0]=sk at *;go_wp2_with fail;go_call uh m _ (yI _ _) as e w2 ⟨rfl,b2⟩;have a:=zb (zh d b2);clear b2 m n;go_wp2;go_roundw
      case rel=>exact⟨1,om,by go_num,a,l,g⟩
      case measure=>simp[intOf];omega
     .have N:(0:Int)<(k:Int):=om;have o:=uh E (k - 1) om;have z:=zfc ss[k - 1] ss[k];have P:((k - 1:Nat):Int)=(k:Int) - 1:=om;have Q:k - 1<ss.length:=om;by_cases f:ss[k - 1].data.toList<ss[k].data.toList
      .rw[yj f]at z;have l:Hid (∀ j (h:j+1<ss.length),j+1<k+1->ss[j].data.toList<ss[j+1].data.toList):=fun j h hj=>by
        by_cases e:j+1=k
        .subst e;exact f
        .exact uh G j h om
       clear f;generalize ss[k]=sk at *;generalize ss[k - 1]=S at *;go_wp2_with fail;go_call uh m _ (yI _ _) as e w2 ⟨rfl,b2⟩;have a:=zb (zh d b2);have y:=(b2.cell (p:=⟨C,k - 1,ν⟩) M).trans o;clear b2 m n o;go_wp2;go_roundw
       case rel=>exact⟨k+1,om,by go_num,a,l,g⟩
       case measure=>simp[intOf];omega
      .rw[yk f]at z;have u:Hid (J5 ss=ζ):=SQ (by
        rintro⟨_,h,_⟩;have:=h (k - 1) om;simp only[show k - 1+1=k by omega]at this;exact f this)
       clear f;generalize ss[k]=sk at *;generalize ss[k - 1]=S at *;go_wp2_with fail;go_call uh m _ (yI _ _) as e w2 ⟨rfl,b2⟩;have a:=zb (zh d b2);have y:=(b2.cell (p:=⟨C,k - 1,ν⟩) M).trans o;clear b2 m n o;go_wp2;go_ret;exact⟨by rw[uh u];rfl,a⟩
   .have u:=zb (SP.2 ⟨om,fun j h=>r j h om,fun j h=>b j h om⟩);clear r b D;go_wp2;go_ret;exact⟨by rw[uh u];rfl,d⟩
theorem zfe(no:Int)(w:Wo):
  δ prog 68 #[π ν,ι κ no] w fun e w'=>e=ε (θ (decide (0<=no) && decide (no<=1000000)))/\Below w w w':=by
 by_cases a:0<=no
 .have b:=yj a;go_in;go_wp2;go_ret;exact⟨by simp[a],yI _ _⟩
 .have b:=yk a;go_in;go_wp2;go_ret;exact⟨sm,yI _ _⟩
theorem zff(b:Nat)(n no:Int)(w:Wo)(hc:w.cell? b=η (ι κ n))(h0:0<=n)(h1:n<=2000000):
  δ prog 68 #[b,ι κ no] w fun e w'=>e=ε (θ (no ==n+1))/\Below w w w':=by
 go_in;go_wp2;go_ret;exact⟨rfl,yI _ _⟩
open Go.Sort Go.Shelf
def Xg(ts:List (List UInt8)):List (List UInt8):=ts.mergeSort (fun x y=>decide (x<=y))
theorem Df(ts:List (List UInt8)):(Xg ts).length=ts.length:=List.length_mergeSort _
theorem zfg(v:ω)(ts:List (List UInt8))(w:Wo)(h:OT w B v ts)(hl:ts.length<=1000000):
  δ prog 44 #[v] w fun e w'=>e=ε (τ #[])/\OT w' B v (Xg ts)/\w.grownBy w' v.ownBlock:=by
 rcases h.2 with ⟨f,j⟩ |⟨g,a,b,f,p,d,k,l,m,i⟩
 .subst f;have:ts=[]:=yO j;subst this;go_call AnyM.slices_Sort_string_none Tryz.sortA ν 0 w as e w' ⟨rfl,rfl⟩;exact⟨rfl,by rw[show Xg []=[] by simp[Xg]];exact h,World.grownBy.refl _ _⟩
 .subst f;have o:List.take ts.length b.toList=ts.map encStr:=by rw[Nat.mul_one]at i;exact i
  refine (AnyM.slices_Sort_string Tryz.sortA g 0 a ts w (holds_of_block d o) (yC.1 d).1 om).mono ?_;rintro e w' ⟨rfl,n,os,rfl⟩;refine⟨rfl,?_,grownBy_sorted _⟩;have:=ownsRow_sorted (n:=n) (os:=os) (ts:=Xg ts) (ss:=ts) (Df ts) p d k l m;unfold OT;rw[Df];exact this
theorem zfh(v:ω)(ts:List (List UInt8))(w:Wo)(h:OT w B v ts)(hl:ts.length<=1000000):
  δ prog 45 #[v] w fun e w'=>∃ v',e=ε v'/\OT w' B v' (Δ ts)/\w.grownBy w' v.ownBlock:=by
 have A:=zjD ts;rcases h.2 with ⟨f,r⟩ |⟨g,b,a,f,z,p,s,u,i,j⟩
 .subst f;have:ts=[]:=yO r;subst this;go_call Tryz.slices_Compact_string_empty ν 0 w as e w' ⟨rfl,rfl⟩;exact⟨_,rfl,h,World.grownBy.refl _ _⟩
 .subst f;have x:List.take ts.length a.toList=ts.map encStr:=by rw[Nat.mul_one]at j;exact j
  go_call Tryz.slices_Compact_string g 0 b ts w (holds_of_block p x) om s as e w' ⟨rfl,q,rfl⟩;have m:(Δ ts++List.replicate (ts.length - (Δ ts).length) ([]:List UInt8)).length=ts.length:=by rw[yh,List.length_replicate];omega
  generalize hDD:Δ ts++List.replicate (ts.length - (Δ ts).length) ([]:List UInt8)=D at *;have o:=heap_sorted (n:=q) (os:=#[]) D.toArray p;rw[grow_empty]at o;have d:=grownBy_sorted (w:=w) (g:=g) (n:=q) (os:=#[]) D.toArray;rw[grow_empty]at d;refine⟨_,rfl,⟨sm,.inr ⟨g,b,putCells encStr 0 D.toArray a,rfl,z,o,om,u,by simp[putCells,i],?_⟩⟩,d⟩;have k:=take_putCells a D (by rw[m,i];omega);rw[m]at k;have l:=congrArg (List.take (Δ ts).length) k;have y:D.take (Δ ts).length=Δ ts:=by rw[← hDD,List.take_left]
  rw[List.take_take,Nat.min_eq_left A,← List.map_take,y]at l;rw[Nat.mul_one];exact l
def CF(rb:Nat)(bl:List Nat)(w:Wo)(S:List zj)(e:Ending)(w':Wo):Prop:=∃ sv bl',e=ε (γ #[sv])/\zw Zf w' sv S bl'/\Fr (rb :: bl) w w'
theorem zw.putI{α:Type}{e:Jq α}{cap:Nat}{xs:List α}(h:zw e w (ς (η g) n cap) xs bl)(hd:bl.Nodup){x:α}(hx:xs[j]?=η x):
  ∃ vs ib,e.E w vs x ib/\(∀ m u,vs[m]?=η u->w.cell? ⟨g,j*e.wd+m,ν⟩=η u/\w.frozen? ⟨g,j*e.wd+m,ν⟩=ζ)/\(∀ b∈ib,b∈bl)/\g∈bl/\g ∉ ib /\
   ∀ w1 m u x' ib',m<e.wd->(∀ b∈bl,b ∉ ib->w1.heap[b]?=w.heap[b]?)->g ∉ ib'->e.E w1 (vs.set m u) x' ib'->∃ bl',zw e (w1.setCell ⟨g,j*e.wd+m,ν⟩ u) (ς (η g) n cap) (xs.set j x') bl':=by
 obtain⟨vs,ib,Q,R,M,s,L⟩:=h.at hx;obtain⟨d,J,l,C,rfl⟩:=h;have N:=(Ζ.1 hx).1;have f:d[j]?=η d[j]:=yy om;have r:=Kw J l;have G:n=xs.length:=by
  rcases C.2 with ⟨H,P⟩ |⟨O,I,K,H,_⟩
  .cases H
  .injection H
 subst G;have F:∀ m,m<e.wd->j*e.wd+m<xs.length*e.wd:=fun m hm=>by
  have:(j+1)*e.wd<=xs.length*e.wd:=Nat.mul_le_mul_right _ N;rw[Nat.add_mul]at this;omega
 have o:=hd;rw[List.nodup_append]at o;have k:∀ p∈d,∀ b∈p.2,b∈(Κ (η g) xs.length cap).ownBlock.toList++d.flatMap (·.2):=fun p f b hb=>by
  rw[Μ];exact .inr (List.mem_flatMap.2 ⟨p,f,hb⟩)
 have q:∀ p∈d,g ∉ p.2:=fun p f hgp=>o.2.2 g (by simp[Ο]) g (List.mem_flatMap.2 ⟨p,f,hgp⟩) rfl;refine⟨d[j].1,d[j].2,l j _ x f hx,fun m u hm=>?_,k _ (yt _),s,q _ (yt _),fun w1 m u x' ib' hm hk hgi' hE'=>⟨_,d.set j (d[j].1.set m u,ib'),by simp[J],?_,?_,rfl⟩⟩
 .have z:m<e.wd:=by
   have:=(Ζ.1 hm).1
   rwa [r _ (yt om)]at this
  refine⟨?_,C.frozenAt _⟩;rw[C.cellAt _ (F m z),MD r f m z];exact hm
 .have B:∀ {vs y bl'},g ∉ bl'->e.E w1 vs y bl'->e.E (w1.setCell ⟨g,j*e.wd+m,ν⟩ u) vs y bl':=fun G h=>e.keep h fun b hb=>Α _ _ _ _ fun he=>G (by subst he;exact hb);intro i p y a D;by_cases v:i=j
  .subst v;rw[List.getElem?_set_self om]at a D
   cases a;cases D;exact B hgi' hE'
  .rw[List.getElem?_set_ne om]at a D;have A:=List.mem_of_getElem? a;exact B (q p A) (e.keep (l i p y a D) fun b hb=>hk b (k p A b hb) (zb3 o.2.1 a f v b hb))
 .rw[List.length_set,ME r f m hm u];exact ((Gg C fun b hb=>by simp[Ο]at hb;rw[hb];exact hk g s (q _ (yt _))).stored (j*e.wd+m) u).1
theorem zfi(h:x % 6=0):VK x m=⟨(x:Int) / 6 - 3,m.doc,m.touched⟩:=by unfold VK;rw[yg h];simp
theorem zfj(h:x % 6=1):VK x m=⟨m.no,⟨#[32]⟩++m.doc,m.touched⟩:=by
 unfold VK;rw[yf om,yg h];rfl
theorem zfk(h:x % 6=2):VK x m=⟨m.no,m.doc,m.touched++[⟨#[47,97]⟩]⟩:=by unfold VK;rw[yf om,yf om,yg h];rfl
theorem zfl(h:x % 6=5):VK x m=⟨m.no,m.doc,[⟨#[47,126]⟩]⟩:=by unfold VK;rw[yf om,yf om,yf om];rfl
theorem zfm(h:DX B rb w q w2)(k:DX B rb w2.drew q' w3):Fr (rb :: bl) w w3:=by
 have g:=JF (JF h.gr (YV (yI _ _).drew)) k.gr;exact⟨g.os,g.tape,g.output,g.size,fun b hb hn=>g.block b hb fun e=>by injection e with e;exact hn (by rw[e];exact yq)⟩
theorem zfn{ib:List Nat}{w5:Wo}{r:Option Nat}(h:Fr (rb :: bl) w w3)(hb:Bw w3 wA)(g:wA.grownBy w5 r)(kb:∀ k,k<w3.heap.size->k ∉ ib->w5.heap[k]?=w3.heap[k]?)(hi:∀ b∈ib,b∈bl):Fr (rb :: bl) w w5:=
 h.trans ⟨g.os.trans hb.os,g.tape.trans hb.tape,g.output.trans hb.output,yQ hb.size g.size,fun b hl hn=>kb b hl fun hm=>hn (yw _ (hi b hm))⟩
def Dh(rb:Nat)(bl:List Nat)(w:Wo)(S:List zj)(wx:Wo):Prop:=∃ sv bl',zw Zf wx sv S bl'/\wx.heap[w.heap.size]?=η (χ #[sv] 25 (0,0))/\wx.heap[w.heap.size+1]?=η (χ #[ς ν 0 0] 25 (0,0))/\Fr (rb :: bl) w wx
theorem zfo{u:ω}(o:zw Zf (wx.setCell ⟨g,j,ν⟩ u) sv S bl')(k0:wx.heap[w.heap.size]?=η (χ #[sv] 25 (0,0)))(k1:wx.heap[w.heap.size+1]?=η (χ #[ς ν 0 0] 25 (0,0)))(f:Fr (rb :: bl) w wx)(hg:g∈rb :: bl)(hl:g<w.heap.size):Dh rb bl w S (wx.setCell ⟨g,j,ν⟩ u):=
 ⟨sv,bl',o,(Α wx ⟨g,j,ν⟩ u _ (by show _≠g;omega)).trans k0,(Α wx ⟨g,j,ν⟩ u _ (by show _≠g;omega)).trans k1,f.set hg j u⟩
theorem CG{wz:Wo}(o:zw Zf wz sv S bl')(k:wz.heap[w.heap.size+1]?=η (χ #[ς ν 0 0] 25 (0,0)))(f:Fr (rb :: bl) w wz):CF rb bl w S (ε (γ #[sv])) (wz.setCell ⟨w.heap.size+1,0,ν⟩ sv):=
 ⟨sv,bl',rfl,o.other (YL k (Yr o) (by decide)) 0 _,f.trans' ((Fr.refl [w.heap.size+1] wz).set yq 0 sv) fun i hi=>.inr (by rw[Θ.1 hi];omega)⟩
theorem zfp  {ops:Array Oper} {o:Oper} {a:Act} {K:Act->Wo->Prop} {Q:Exit->Act->Wo->Prop} {F:Prop} (hg:o.guard=ν) (s x:Operand)
  (ho:o.op= .call {callee:=.builtin .append,args:=#[s,x],argTypes:=#[23,23]})  {xs:List zj}  (hs:a.eval s=v) (h:zw Zf w v xs bl) (hd:bl.Nodup) {no:Int} {d:Bs} 
  (hx:a.eval x=ς (η g) 1 1) (hc:w.heap[g]?=η (χ #[ι κ no,d,ς ν 0 0] 37 (0,0))) (hl:xs.length<=100)
  (hK:∀ v' w' bl',zw Zf w' v' (xs++[⟨no,d,[]⟩]) bl'->bl'.Nodup->w.grownBy w' v.ownBlock->(v'.ownBlock=v.ownBlock∨v'.ownBlock=η w.heap.size)->K (a.put o.dst v') w'):
  if Region.wanted o (yielded ops a.tmps)=ξ then Oper.wp prog o a w K Q else F:=by
 obtain⟨z,y,i,k,l⟩:=info_parts ON;obtain⟨cs,f,b⟩:=h.app Fc dc (B:=0) ⟨hd,fun _ _=>yu _⟩ (vs:=[ι κ no,d,ς ν 0 0]) (x:=⟨no,d,[]⟩) (ib:=[]) ⟨_,rfl,zw.nil _ _⟩ (ZQ.nil _) sm;refine Na hg s x _ ho 0 Zf.T z _ Zf.wd 48 underlying23 y i k l rfl dc v _ cs hs f g 1 1 [ι κ no,d,ς ν 0 0] hx rfl (fun j u hj=>?_) (fun u hu=>by simp at hu;rcases hu with rfl | rfl | rfl<;>rfl) mo om (yu _) ?_
 .rw[Go.WideShapes.add_plain,Nat.zero_add,yG hc];simpa using hj
 .intro v' w' n m p;obtain⟨bl',q,r,A⟩:=b v' w' n m;exact hK v' w' bl' q r.1 m p
theorem zfq(h:YK n vs):∀ m∈vs,0<=m.no:=fun m hm=>by
 obtain⟨f,-,d,-,b⟩:=YJ.1 h.ok;obtain⟨j,a,rfl⟩:=List.getElem_of_mem hm;have:=b j a;simp only[qc,Bool.and_eq_true,yD]at this;omega
def Nu(b:Nat)(w:Wo):Nat:=match w.cell? ⟨b,0,ν⟩with
 | some (ς _ n _)=>9 - n
 | _=>0
theorem zfr{b c':Nat}{a':Option Addr}(h:w.cell? b=η (ς a n c))(h':w'.cell? b=η (ς a' (n+1) c'))(hn:n<=8):Nu b w'<Nu b w:=by
 unfold Nu;rw[h,h'];simp only;omega
theorem zfs(hk:k<vs.length)(h:vs.length=k+1):Dd vs=vs[k].no:=by
 unfold Dd;rw[List.getLast?_eq_getElem?,show vs.length - 1=k by omega,yy hk];rfl
structure SL(rb n:Nat)(bl:List Nat)(w:Wo)(S:List zj)(wr:Wo)(sv:ω)(vs:List zj)(bl':List Nat)(f:Nat):Prop where
 row:zw Zf wr sv vs bl'
 nd:bl'.Nodup
 k0:wr.heap[w.heap.size]?=η (χ #[sv] 25 (0,0))
 k1:wr.heap[w.heap.size+1]?=η (χ #[ς ν 0 0] 25 (0,0))
 fr:Fr (rb :: bl) w wr
 ow:∀ g,sv.ownBlock=η g->g∈rb :: bl∨w.heap.size<=g
 fl:Gy f vs=S
 f9:9<=f+vs.length
 p:0<vs.length
 no:∀ m∈vs,0<=m.no/\m.no<=n+vs.length
theorem SL.ap{bl7:List Nat}{w7:Wo}{v':ω}{f:Nat}(h:SL rb n bl w S wr sv vs bl' (f+1))(h8:vs.length<=8)(hk:k<vs.length)(hl:vs.length=k+1)(hb:Bw wr wA)(o:zw Zf w7 v' (vs++[⟨vs[k].no+1,⟨#[49]⟩,[]⟩]) bl7)(hd:bl7.Nodup)(g:wA.grownBy w7 sv.ownBlock)(b:v'.ownBlock=sv.ownBlock∨v'.ownBlock=η wA.heap.size):
  w7.heap[w.heap.size]?=η (χ #[sv] 25 (0,0))/\SL rb n bl w S (w7.setCell w.heap.size v') v' (vs++[⟨vs[k].no+1,⟨#[49]⟩,[]⟩]) bl7 f:=by
 obtain⟨v,p⟩:=h.row.split;have q:=Yr h.row;have l:∀ {r:Nat} {cs:Array ω},wr.heap[r]?=η (χ cs 25 (0,0))->sv.ownBlock≠η r:=fun a e=>YL a q dc (by rw[p,e];simp);have i:∀ (r:Nat) (cs:Array ω),wr.heap[r]?=η (χ cs 25 (0,0))->w7.heap[r]?=η (χ cs 25 (0,0)):=fun r cs a=>by
  have j:=(yC.1 a).1;exact (g.block r (yF j hb.size) (Ne.symm (l a))).trans ((hb.block r j).trans a)
 have s:=i _ _ h.k0;have u:=i _ _ h.k1;have x:=h.no _ (yt hk);refine⟨s,⟨o.other (YL s (Yr o) dc) 0 _,hd,heap_setCell_same _ _ 0 _ _ _ s,(Α w7 w.heap.size v' _ (by show _≠w.heap.size;omega)).trans u,?_,?_,?_,?_,sm,?_⟩⟩
 .refine h.fr.trans' (bl':=[w.heap.size]++sv.ownBlock.toList) ⟨g.os.trans hb.os,g.tape.trans hb.tape,g.output.trans hb.output,by rw[World.setCell];simp;exact yQ hb.size g.size,fun r a hn=>?_⟩ fun r a=>?_
  .rw[Μ,not_or]at hn;exact (Α w7 w.heap.size v' r (fun e=>hn.1 (by rw[e];simp))).trans ((g.block r (yF a hb.size) (fun e=>hn.2 (by rw[← e];simp))).trans (hb.block r a))
  .rcases Μ.1 a with a | a
   .exact .inr (by rw[Θ.1 a];omega)
   .exact h.ow r (by simpa using a)
 .intro r a;rcases b with e | e
  .exact h.ow r (e ▸ a)
  .rw[e]at a;injection a with a;have:=h.fr.size;have:=hb.size;exact .inr om
 .have:=h.fl;rw[Gy,yg h8,zfs hk hl]at this;exact this
 .have:=h.f9;simp;omega
 .intro m d;rw[yh,yS];rcases Μ.1 d with d | d
  .have:=h.no m d;omega
  .rw[Θ.1 d];simp only;omega
theorem zft(B rb n:Nat)(q:List UInt8)(sv:ω)(vs:List zj)(bl:List Nat)(w:Wo)(h:ZJ w B rb q)(hs:zw Zf w sv vs bl)(hd:bl.Nodup)(hrb:rb ∉ bl)(hG:YK n vs)(hn:n<=1000):
  δ prog 25 #[π (η ⟨rb,0,ν⟩),γ #[sv]] w (CF rb bl w (UJ vs q).1):=by
 obtain⟨Q,hk0,-,hvl,hv8,-⟩:=Gu hG.ok;obtain⟨va,cp,rfl,-,hva⟩:=hs.form;obtain⟨g,rfl⟩:=hva (by omega);have hp:0<vs.length:=by omega
 have hgl:g<w.heap.size:=by obtain⟨_,_,_,_,_,A,_⟩:=hs.at (yy hk0);exact hs.lt g A
 have hlt:=h.lt;have HLT:=zb hs.lt;clear hk0 hvl hva;have hA:=YB w (χ #[ς (η ⟨g,0,ν⟩) vs.length cp] 25) (χ #[ς ν 0 0] 25);have hD:=(DX.refl h).below hA.bel;have hs1:=hs.below hA.bel;have C1:=Q6 B rb q _ hD.rd;generalize hSS:(UJ vs q).1=SS;unfold UJ at hSS;have HSS:=zb hSS;clear hSS;have hx1:=QS q;generalize (nx q).1=x at *;generalize (nx q).2=q1 at *;have HS:=zb hs1;have HD:=zb hD;have HC:=zb C1;have HA:=zb hA;clear hs hs1 hD C1 hA h;go_in;go_wp2_with fail;generalize (w.alloc _).alloc _=w1 at *;go_call HC as e w2 ⟨rfl,d2⟩;have e0:=(d2.gr.block w.heap.size (by have:=HA.size;omega) (fun e=>by injection e with e;omega)).trans HA.k0;have e1:=(d2.gr.block (w.heap.size+1) (by have:=HA.size;omega) (fun e=>by injection e with e;omega)).trans HA.k1;have c0:=Zw e0;have Y:=zb (HS.keep (d2.kp HS.lt hrb));have V:=zb (HD.step d2);have C2:=zb fun wx (hr:ZJ wx B rb q1)=>Q6 B rb q1 wx hr;have hx2:=QS q1;generalize (nx q1).1=y at *;generalize (nx q1).2=q2 at *;clear HC d2 HS HD;generalize hL:vs.length=L at *;have H:=zb hL;have hz:¬ (L:Int)=0:=by omega
 have hz':¬ L=0:=by omega
 clear hL;obtain⟨i,hi⟩:∃ i,y % L=i:=⟨_,rfl⟩;have hiI:(y:Int) % (L:Int)=(i:Int):=by rw[← hi,Int.natCast_emod]
 have C:i<L:=by rw[← hi];exact Nat.mod_lt _ hp
 have hiT:(y:Int).tmod (L:Int)=(i:Int):=by rw[Int.tmod_eq_emod_of_nonneg (by omega)];exact hiI
 have HI:=zb hi;clear hi;have HDD:=zb (V.below (yI _ _).drew);have C2':=zb (C2 w2.drew HDD.rd);go_wp2_with fail;go_region_held3 (fun w'=>w'.cell? ⟨w.heap.size,0,ν⟩=η (ς (η ⟨g,0,ν⟩) L cp)) (first | exact c0 | exact c3) (first
  |(go_simp;go_call C2' as e w3 ⟨rfl,d3⟩;have c3:=Zw ((d3.gr.block w.heap.size (yC.1 e0).1 (fun e=>by injection e with e;omega)).trans e0)))
 have ZG:=zb ((Y.below (yI _ _).drew).keep (d3.kp Y.lt hrb));have s:Hid (Fr (rb :: bl) w w3):=zfm V d3;have Q:=(d3.gr.block w.heap.size (yC.1 e0).1 (fun e=>by injection e with e;omega)).trans e0;have D:=(d3.gr.block (w.heap.size+1) (yC.1 e1).1 (fun e=>by injection e with e;omega)).trans e1;clear e0 e1 c0 Y V C2 HA HDD C2' d3;have ab:=uh HSS;simp only[uh HI]at ab;clear HI hiI hiT hx2 hz hz' HSS;have hgr:g≠w.heap.size+1:=by omega
 have P:g∈rb :: bl:=by obtain⟨_,_,_,_,_,A,_⟩:=ZG.at (yy (show i<vs.length by rw[H];exact C));exact yw _ A
 have HX:Hid (vs[i]?=η (vs[i]'(by rw[H];exact C))):=yy _;have J:Hid ((vs[i]'(by rw[H];exact C)).doc.size<=1048576/\(vs[i]'(by rw[H];exact C)).touched.length<=1048576):=⟨(hG.vin i (by rw[H];exact C)).1,(hG.vin i (by rw[H];exact C)).2.2⟩;generalize vs[i]'_=m at HX J;obtain⟨us,ib,hE,hc,hib,P,G,put⟩:=ZG.putI hd HX;obtain⟨tv,rfl,ht⟩:=hE;obtain⟨c0,f0⟩:=hc 0 _ rfl;obtain⟨c1,f1⟩:=hc 1 _ rfl;obtain⟨c2,f2⟩:=hc 2 _ rfl;have s0:=Zw Q;have r0:=Zw D;have rf:=yJ D 0;have K:=zb Q;have F:=zb D;have X:=zb put;have HT:=zb ht;have W:=zb hib;have HGM:=zb (yw rb P);have hi0:(0:Int)<=(i:Int):=by omega
 have hiL:(i:Int)<(L:Int):=by omega
 have ee:Zf.wd=3:=rfl;simp only[ee,Nat.add_zero]at c0 f0 c1 f1 c2 f2;clear hc put ht hib Q D ee P c3;obtain⟨E,A⟩:∃ E,x % 6=E:=⟨_,rfl⟩;have hmI:(x:Int) % 6=(E:Int):=by omega
 have v:Hid (SS=if E=3 then []else if E=4 then Gy 9 vs else vs.set i (VK x m)):=by rw[← ab];unfold De;rw[A,uh HX];rfl
 have HM:=zb A;have H6:Hid (E<6):=by rw[← A];exact Nat.mod_lt _ (by decide)
 clear A ab;have HR:=zb fun (u:ω) (j:Nat) (wx:Wo) (S:List zj) (bl':List Nat) o Q D f=>zfo (rb:=rb) (g:=g) (j:=j) (bl:=bl) (bl':=bl') (w:=w) (wx:=wx) (sv:=ς (η ⟨g,0,ν⟩) L cp) (u:=u) (S:=S) o Q D f HGM hgl;clear P hlt;go_upto_if 17 with fail;go_cut []from 15 to 83 (Dh rb bl w SS)
 case first=>
  rcases (show E=0∨E=1∨E=2∨E=3∨E=4∨E=5 by have:=uh H6;omega)with rfl | rfl | rfl | rfl | rfl | rfl
  .obtain rfl:SS=vs.set i ⟨(x:Int) / 6 - 3,m.doc,m.touched⟩:=by rw[uh v,yf (by decide),yf (by decide),zfi HM]
   obtain⟨bl',o⟩:=X w3 0 (ι κ ((x:Int) / 6 - 3)) ⟨(x:Int) / 6 - 3,m.doc,m.touched⟩ ib (by decide) (fun _ _ _=>rfl) G ⟨tv,rfl,HT⟩;have I:=zb (HR _ _ _ _ _ o K F s);clear o;go_wp2;go_meet
   case rel=>exact I
  .obtain rfl:SS=vs.set i ⟨m.no,⟨#[32]⟩++m.doc,m.touched⟩:=by rw[uh v,yf (by decide),yf (by decide),zfj HM]
   obtain⟨bl',o⟩:=X w3.drew 1 (σ (⟨#[32]⟩++m.doc)) ⟨m.no,⟨#[32]⟩++m.doc,m.touched⟩ ib (by decide) (fun _ _ _=>rfl) G ⟨tv,rfl,HT.below (yI _ _).drew⟩;have I:=zb (HR _ _ _ _ _ o K F s.drew);clear o;have hsz:(9223372036854775807<1+m.doc.size)=False:=yR (by have:=uh J;omega);go_wp2_with fail;go_region
   all_goals
    go_wp2;go_meet
    case rel=>exact I
  .obtain rfl:SS=vs.set i ⟨m.no,m.doc,m.touched++[⟨#[47,97]⟩]⟩:=by rw[uh v,yf (by decide),yf (by decide),zfk HM]
   obtain⟨U,T⟩:=Vu.1 HT;obtain⟨ta,tc,rfl,-,-⟩:=HT.form;have z:=(ZO w3 (χ #[σ ⟨#[47,97]⟩] 9)).drew;have HN:Hid ((w3.alloc (χ #[σ ⟨#[47,97]⟩] 9)).drew.heap[w3.heap.size]?=_):=yH w3 (χ #[σ ⟨#[47,97]⟩] 9);have HTA:=zb (Zh U z);have HB:=zb z;have HIE:=zb T;have hsl:=(uh J).2;obtain⟨i0,hi1,hz0,hz1,hz2⟩:=info_parts GU;have HI1:=zb hi1;have HZ0:=zb hz0;have HZ1:=zb hz1;have HZ2:=zb hz2;have s0':=(z.cell (yK _ _ s0)).trans s0;have c2':=(z.cell (yK _ _ c2)).trans c2;clear c0 c1 f0 f1 z U T hi1 hz0 hz1 hz2;go_wp2_with fail;go_region_law (first
    |(
      refine Na rfl (.tmp 52) (.tmp 53) 35 rfl 0 9 i0 _ 1 16 underlying35 (uh HI1) (uh HZ0) (uh HZ1) (uh HZ2) ?_ ?_ (ς ta m.touched.length tc) m.touched.length (m.touched.map .string) rfl ?_ ⟨w3.heap.size,0,ν⟩ 1 1 [σ ⟨#[47,97]⟩] rfl rfl ?_ ?_ ?_ ?_ ?_ ?_;all_goals (try first | rfl |(exact uh HTA) |(unfold maxLen;omega) | omega | exact Fa w3 [_] _ |(intro u hu;simp at hu;subst hu;rfl))
      intro v' w5 o5 g5 b5;have kb:∀ k,k<w3.heap.size->k ∉ ib->w5.heap[k]?=w3.heap[k]?:=fun k hk hn=>(g5.block k (yF hk HB.size) (fun e=>hn (by rw[uh HIE,← e];simp))).trans (HB.block k hk);have hg3:g<w3.heap.size:=yK _ _ c2;have c5:=(World.cell?_of_block (w:=w3) (a:=⟨g,i*3+2,ν⟩) (kb g hg3 G)).trans c2;have f5:=(World.frozen?_of_block (w:=w3) (a:=⟨g,i*3+2,ν⟩) (kb g hg3 G)).trans f2;have Z:=(kb _ (yC.1 K).1 (fun h=>by have:=HLT _ (W _ h);omega)).trans K;have M:=(kb _ (yC.1 F).1 (fun h=>by have:=HLT _ (W _ h);omega)).trans F;have s5:=Zw Z;have r5:=Zw M;have rf5:=yJ M 0;have E50:=zb Z;have E51:=zb M;have KB:=zb kb;have o6:QK w5 v' (m.touched++[⟨#[47,97]⟩]) v'.ownBlock.toList:=Vu.2 ⟨by rw[yh,yx];exact o5,rfl⟩;obtain⟨va5,vc5,rfl,-,-⟩:=o6.form;have O5:=zb o6;have G5:=zb g5;have B5:=zb b5;rw[yh,yS]at O5 B5;clear o5 o6 g5 b5 kb Z M))
   all_goals
    obtain⟨bl',o⟩:=X w5 2 (ς va5 (m.touched.length+1) vc5) ⟨m.no,m.doc,m.touched++[⟨#[47,97]⟩]⟩ (Κ va5 (m.touched.length+1) vc5).ownBlock.toList (by decide) (fun b z hn=>KB b (ZG.lt b z) hn) (fun A=>by
     rcases uh B5 with e | e
     .rw[e,← uh HIE]at A;exact G A
     .rw[e]at A;simp at A;omega) ⟨_,rfl,uh O5⟩
    have I:=zb (HR _ _ _ _ _ o E50 E51 (zfn s HB G5 KB W));clear o O5 G5 KB E50 E51 B5 X HR;go_wp2;go_meet
    case rel=>exact I
  .obtain rfl:SS=[]:=by rw[uh v];rfl
   go_wp2;refine bodyPost_ret (results_cell_row rfl _ _ _ _ _ (0,0) _ rfl (heap_setCell_same _ _ 0 _ _ _ F) underlying25 rfl (by kernel_rfl)) rfl (CG (zw.nil _ _) F s)
  .have HS9:Hid (Gy 9 vs=SS):=by rw[uh v];rfl
   have HST:Hid (SL rb n bl w SS w3 (ς (η ⟨g,0,ν⟩) L cp) vs bl 9):=⟨ZG,hd,K,F,s,fun r hr=>by injection hr with hr;rw[← hr];exact .inl HGM,HS9,by omega,by rw[H];exact hp,fun m A=>by have:=hG.no m A;have:=zfq hG m A;omega⟩;have hn':=hn;clear c0 c1 c2 f0 f1 f2 s0 r0 rf K F X HT HR ZG s v HX J HS9;go_wp2_with fail;simp only[hmI,show ((4:Nat):Int)=4 from rfl,show ((4:Int) ==0)=ζ from rfl];go_loopw [] (fun wr=>∃ (a':Option Addr) (c':Nat) (d:List zj) (bl':List Nat) (f:Nat),Hid (SL rb n bl w SS wr (ς a' d.length c') d bl' f)) (Nu w.heap.size)
   case atStart=>exact⟨_,cp,vs,bl,9,by rw[H];exact HST⟩
   case round=>
    obtain⟨a',c',d,bl',f,l⟩:=hrel;clear HST H;have s0:=Zw (uh l).k0;have fs:=yJ (uh l).k0 0;obtain⟨k,hk⟩:∃ k,d.length=k+1:=⟨d.length - 1,by have:=(uh l).p;omega⟩;have aa:k<d.length:=by omega
    have HKL:=zb hk;clear hk;by_cases h8:d.length<=8
    .obtain⟨f',rfl⟩:∃ f',f=f'+1:=⟨f - 1,by have:=(uh l).f9;omega⟩;have h8':(d.length:Int)<=8:=by omega
     have hdr:=(yI wr.heap.size wr).drew;have HC:=zb (S5 (ς a' d.length c') d bl' k wr.drew (l.row.below hdr) aa HKL h8);have HAP:=zb fun (wA w7:Wo) (v':ω) (bl7:List Nat) z o hd g b=>SL.ap (wA:=wA) (w7:=w7) (v':=v') (bl7:=bl7) l h8 aa HKL z o hd g b;obtain⟨hn0,hn1⟩:=(uh l).no _ (yt aa);generalize d[k]=R at *;have hfd:∀ (w':Wo) ta tc,(Instr.field 37 (γ #[ι κ R.no,σ R.doc,ς ta R.touched.length tc]) 0).run prog w'= .ok (ι κ R.no) w':=fun _ _ _=>by kernel_rfl
     have hw1:IntKind.i64.wrap (R.no+1)=R.no+1:=by rw[IntKind.wrap_i64];omega
     go_wp2_with fail;go_region_law (first
      |(
        refine zfp rfl (.tmp 69) (.tmp 75) rfl rfl (uh O6) (uh ND) rfl (uh HN6) (by omega) ?_;intro v' w7 bl7 o7 d7 g7 b7;obtain⟨k7,S7⟩:=HAP _ _ _ _ HB6 o7 d7 g7 b7;obtain⟨a7,n7,rfl,-,-⟩:=o7.form;have s7:=Zw k7;have f7:=yJ k7 0;have H7:=zb S7;rw[yh,yS]at H7;have HM:=zb (zfr s0 (Zw H7.k0) h8);clear o7 d7 g7 b7 k7 S7)
      |(
        go_simp;go_call HC as e w5 ⟨ta,tc,rfl,b5⟩;have N:=hdr.trans b5;have O:=N.trans ((ZO w5 (χ #[ι κ (R.no+1),σ ⟨#[49]⟩,ς ν 0 0] 37)).mono N.size);have k5:=(N.block _ (yC.1 l.k0).1).trans l.k0;have k6:=(O.block _ (yC.1 l.k0).1).trans l.k0;have s5:=Zw k5;have s6:=Zw k6;have O6:=zb (l.row.below O);have ND:=zb l.nd;have HB6:=zb O;have HN6:=zb (yH w5 (χ #[ι κ (R.no+1),σ ⟨#[49]⟩,ς ν 0 0] 37));clear b5 N O k5 k6))
     all_goals
      go_roundw
      case rel=>exact⟨_,_,_,_,_,_,_,_,_,_,_,_,_,_,⟨a7,n7,d++[⟨R.no+1,⟨#[49]⟩,[]⟩],bl7,f',by rw[yh,yS];exact H7⟩,rfl⟩
      case measure=>exact HM
    .have h8':¬ (d.length:Int)<=8:=by omega
     have HE:Hid (Dh rb bl w SS wr):=by
      have:=(uh l).fl
      cases f with
      | zero=>rw[Gy]at this;subst this;exact⟨_,bl',l.row,l.k0,l.k1,l.fr⟩
      | succ f=>rw[Gy,yf h8]at this;subst this;exact⟨_,bl',l.row,l.k0,l.k1,l.fr⟩
     go_wp2;go_meet
     case rel=>exact HE
  .obtain rfl:SS=vs.set i ⟨m.no,m.doc,[⟨#[47,126]⟩]⟩:=by rw[uh v,yf (by decide),yf (by decide),zfl HM]
   have z:=ZO w3 (χ #[σ ⟨#[47,126]⟩] 9);have hn:=yH w3 (χ #[σ ⟨#[47,126]⟩] 9);have h3:=s.size;obtain⟨bl',o⟩:=X _ 2 (ς (η ⟨w3.heap.size,0,ν⟩) 1 1) ⟨m.no,m.doc,[⟨#[47,126]⟩]⟩ [w3.heap.size] (by decide) (fun b h _=>z.block b (ZG.lt b h)) (by rw[Θ];omega) ⟨_,rfl,Vu.2 ⟨⟨rfl,.inr ⟨w3.heap.size,1,_,rfl,yu _,hn,ye _,by decide,rfl,rfl⟩⟩,rfl⟩⟩;have I:=zb (HR _ _ _ _ _ o ((z.block _ (yC.1 K).1).trans K) ((z.block _ (yC.1 F).1).trans F) (s.next z));have c2':=(z.cell (yK _ _ c2)).trans c2;have f2':=(z.frozen (yK _ _ c2)).trans f2;clear o z hn h3;go_wp2;go_meet
   case rel=>exact I
 obtain⟨sv',bl',o,Q,D,f⟩:=hcut;obtain⟨a',n',rfl,-,-⟩:=o.form;have d0:=Zw Q;have d1:=Zw D;have fd:=yJ D 0;have I:=zb (CG o D f);have HK:=zb D;clear o Q D f HR X v c0 c1 c2 f0 f1 f2 s0 r0 rf K F;go_wp2;refine bodyPost_ret (results_cell_row rfl _ _ _ _ _ (0,0) _ rfl (heap_setCell_same _ _ 0 _ _ _ HK) underlying25 rfl (by kernel_rfl)) rfl I
theorem CH(most:Nat)(hm:most<=10)(q:List UInt8):YK 10 (Vj most q).1:=by
 obtain⟨a,b⟩:=Cz q;have h:=Cx 2 ((nx (JH q).2).1 % (most+1)) 0 ([⟨0,ze (ct (JH q).1),[]⟩],(nx (JH q).2).2) (Cy a b) (by have:=Nat.mod_lt (nx (JH q).2).1 (show 0<most+1 by omega);omega);have d:=Nat.mod_lt (nx (JH q).2).1 (show 0<most+1 by omega);exact⟨h.ok,fun m hm=>by have:=h.no m hm;omega,h.vin⟩
def QO(w:Wo)(N:Nat):List zj->ω->Prop
 | [],v=>v=π ν
 | m :: r,v=>∃ (b:Nat) (q:ω) (t:TypeId) (p v':ω) (bl:List Nat) (jv:JV),v=π (η ⟨b,0,ν⟩)/\b<N/\w.heap[b]?=η (χ #[ι κ m.no,σ m.doc,q,φ t p,v'] 127 (0,0)) /\
  QK w q m.touched bl/\Zn m.doc= .inr jv/\ze (ct jv)=m.doc/\zi w (fun k=>k<N) jv (φ t p)/\QO w N r v'
theorem QO.up{N':Nat}(hb:Below w w w')(hN:N<=w.heap.size)(hN':N<=N'):∀ {l:List zj} {v:ω},QO w N l v->QO w' N' l v
 | [],_,h=>h
 | m :: r,v,h=>by
  obtain⟨b,q,t,p,v',bl,jv,h1,h2,h3,h4,h5,h6,h7,h8⟩:=h;exact⟨b,q,t,p,v',bl,jv,h1,om,(hb.block b om).trans h3,h4.below hb,h5,h6,zi.keep (fun k hk=>hb.block k (yF hk hN)) (fun k hk=>yF hk hN') _ _ h7,QO.up hb hN hN' h8⟩
def UK:List zj->Int->Bool
 | [],no=>decide (0<=no) && decide (no<=1000000)
 | m :: _,no=>no ==m.no+1
theorem zfu(v:ω)(l:List zj)(N:Nat)(no:Int)(w:Wo)(h:QO w N l v)(hr:∀ m,l.head?=η m->0<=m.no/\m.no<=2000000):
  δ prog 68 #[v,ι κ no] w fun e w'=>e=ε (θ (UK l no))/\Below w w w':=by
 match l,h with
 | [],h=>
  rw[QO]at h;subst h;exact zfe no w
 | m :: r,h=>
  rw[QO]at h;obtain⟨b,q,t,p,j,g,i,rfl,_,f,_⟩:=h;obtain⟨a,d⟩:=hr m rfl;exact zff b m.no no w (yG f 0) a d
theorem QO.ptr(h:QO w N l v):∃ a,v= .pointer a:=by
 match l,h with
 | [],h=>exact⟨_,h⟩
 | m :: r,h=>obtain⟨b,q,t,p,i,f,g,d,_⟩:=h;exact⟨_,d⟩
theorem CI(hk:0<k)(h:k<=vs.length):∃ r,(vs.take k).reverse=vs[k - 1] :: r:=by
 obtain⟨j,rfl⟩:∃ j,k=j+1:=⟨k - 1,om⟩;rw[yz om,Η];exact⟨_,rfl⟩
theorem CJ(h0:0<vs.length)(hk:k<vs.length)(hall:∀ j (h:j<vs.length),j<k->qc vs[0].no j vs[j]=ξ):
  UK (vs.take k).reverse vs[k].no=ξ↔vs[k].no=vs[0].no+k/\(k=0->0<=vs[0].no/\vs[0].no<=1000000):=by
 by_cases e:k=0
 .subst e;simp[UK]
 .obtain⟨r,b⟩:=CI (k:=k) om (by omega:k<=vs.length);have a:=(Nh.1 (hall (k - 1) om om)).1;rw[b,UK,yD,a];constructor
  .intro h;exact⟨om,fun h=>absurd h e⟩
  .rintro⟨h,_⟩;omega
theorem zfv(h0:0<vs.length)(hk:k<vs.length)(hall:∀ j (h:j<vs.length),j<k->qc vs[0].no j vs[j]=ξ)(hbad:ZR vs[k].doc=ζ∨UK (vs.take k).reverse vs[k].no=ζ∨J5 vs[k].touched=ζ):qM vs=ζ:=by
 refine Xa ?_;rintro⟨_,_,d,f,g⟩;obtain⟨a,b,c⟩:=Nh.1 (g k hk);rcases hbad with h | h | h
 .rw[b]at h;cases h
 .rw[(CJ h0 hk hall).2 ⟨a,fun _=>⟨d,f⟩⟩]at h;cases h
 .rw[c]at h;cases h
def HdP(vs:List zj)(w:Wo)(e:Ending)(w':Wo):Prop:=Bw w w'/\(qM vs=ζ->e=ε (τ #[π ν,θ ζ])) /\
 (qM vs=ξ->∃ v,e=ε (τ #[v,θ ξ])/\QO w' w'.heap.size vs.reverse v)
theorem Di(p:ω)(vs:List zj)(bl:List Nat)(w:Wo)(h:zw Zf w p vs bl)(hs:JN vs)(hw:qC w):
  δ prog 29 #[γ #[p]] w (HdP vs w):=by
 obtain⟨xa,xc,rfl,-,hxa⟩:=h.form;have hln:vs.length<=9223372036854775807:=by have:=h.len;unfold maxLen at this;omega
 have hA:=zt w (χ #[ς xa vs.length xc] 25);have kA:=yH w (χ #[ς xa vs.length xc] 25);have HO:=zb (h.below hA);have K:=zb hA;have HI:=zb hs;have HXA:=zb hxa;have HW:=zb (hw.up hA);by_cases hn8:8<vs.length
 .have D:Hid (qM vs=ζ):=Xa (by rintro⟨_,h,_⟩;omega);go_in;go_wp2;go_ret2;exact⟨K,fun _=>rfl,fun h=>by rw[uh D]at h;cases h⟩
 .go_in;go_wp2;generalize (w.alloc (χ #[ς xa vs.length xc] 25))=wA at *;go_loopw [4,16] (fun hd i wr=>∃ k:Nat,k<=vs.length/\i=ι κ k/\Below wA wA wr/\QO wr wr (vs.take k).reverse hd/\(∀ (s:0<vs.length),(∀ j (h:j<vs.length),j<k->qc vs[0].no j vs[j]=ξ)/\(0<k->0<=vs[0].no/\vs[0].no<=1000000))) (fun _ i _=>vs.length - (intOf i).toNat)
  case atStart=>exact⟨0,yu _,rfl,yI _ _,rfl,fun _=>⟨fun j _ h=>om,fun h=>om⟩⟩
  case round=>
   obtain⟨k,H,rfl,hb,X,n⟩:=hrel;have y:=zb X;have o:=zb hb;have HALL:=zb n;obtain⟨M,rfl⟩:=X.ptr;by_cases A:k<vs.length
   .have s:0<vs.length:=om;obtain⟨f,z⟩:=n s;have I:=zb (zfv s A f);have V:Hid (ZR vs[k].doc=ξ->UK (vs.take k).reverse vs[k].no=ξ->J5 vs[k].touched=ξ->∀ (s:0<vs.length),(∀ j (h:j<vs.length),j<k+1->qc vs[0].no j vs[j]=ξ)/\(0<k+1->0<=vs[0].no/\vs[0].no<=1000000)):=fun a1 a2 a3 _=>by
     obtain⟨b1,L⟩:=(CJ s A f).1 a2;refine⟨fun j h hj=>?_,fun _=>?_⟩
     .by_cases e:j=k
      .subst e;exact Nh.2 ⟨b1,a1,a3⟩
      .exact f j h om
     .by_cases e:k=0
      .exact L e
      .exact z om
    have hrg:∀ m,(vs.take k).reverse.head?=η m->0<=m.no/\m.no<=2000000:=fun m hm=>by
     by_cases e:k=0
     .subst e;simp at hm
     .obtain⟨r,hr⟩:=CI (vs:=vs) (k:=k) om om;rw[hr]at hm;injection hm with hm;subst hm;have h1:=(Nh.1 (f (k - 1) om om)).1;obtain⟨h2,h3⟩:=z om;omega
    have HRG:=zb hrg;have T:Hid ((vs.take (k+1)).reverse=vs[k] ::(vs.take k).reverse):=by
     show _=_
     rw[yz A,Η];rfl
    obtain⟨g,rfl⟩:=uh HXA s;obtain⟨hd1,Z,hl1⟩:=uh HI k A;obtain⟨cs,ib,hE,v,-⟩:=(HO.below hb).at (yy A);obtain⟨q,rfl,hq⟩:=hE;obtain⟨B,C,rfl,-,-⟩:=hq.form;have c0:wr.cell? ⟨g,k*3,ν⟩=η (ι κ vs[k].no):=(v 0 _ rfl).1;have c1:wr.cell? ⟨g,k*3+1,ν⟩=η (.string vs[k].doc):=(v 1 _ rfl).1;have c2:wr.cell? ⟨g,k*3+2,ν⟩=η (ς B vs[k].touched.length C):=(v 2 _ rfl).1;have HQ:=zb hq;generalize (vs.take k).reverse=l at *;generalize vs[k]=m at *;obtain⟨no,a,d⟩:=m;simp only at c0 c1 c2 hd1 Z hl1;have hV:=zt wr (χ #[ι κ no,a,ς B d.length C] 37);have kV:=yH wr (χ #[ι κ no,a,ς B d.length C] 37);have zV:(wr.alloc (χ #[ι κ no,a,ς B d.length C] 37)).heap.size=wr.heap.size+1:=sm;have F:=HW.up (zh o hV);have HR:=zb (ST a _ F.tab F.err F.pow om);have HML:=zb F.ml;have HKV:=zb kV;have W:=zb zV;have HV:=zb hV;have HP1:=zb Z;go_wp2_with fail;generalize (wr.alloc (χ #[ι κ no,a,ς B d.length C] 37))=wV at *;go_call HR as e w2 ⟨L,hno,hyes⟩;have O:=zb L;have k2:=(L.block wr (by have:=uh W;omega)).trans HKV
    cases hg:ZR a with
    | false=>
     obtain rfl:=hno hg;have D:=zb (uh I (.inl hg));go_wp2;go_ret2;exact⟨zh K (zh o (zh HV O)),fun _=>rfl,fun h=>by rw[uh D]at h;cases h⟩
    | true=>
     obtain⟨jv,t,p,hr,hct,rfl,rep⟩:=hyes hg;have HRR:=zb hr;have HCT:=zb hct;have S:=zb rep;have HG:=zb hg;have E:=zh HV L;have G:=zb (QO.up E (ye _) E.size y);have HF:=zb (zfu _ l _ no w2 G HRG);have v0:=(JS k2).1;have N:=zb E;have HK2:=zb k2;have hsz:=E.size;have hs1:wr.heap.size<w2.heap.size:=by have:=uh W;have:=L.size;omega
     obtain⟨fo,Y⟩:∃ fo,UK l no=fo:=⟨_,rfl⟩;rw[Y]at HF;have Q:=zb Y;go_wp2_with fail;go_call HF as e w3 ⟨rfl,b3⟩;have k3:=(b3.block wr hs1).trans HK2;have v2:=(JS k3).2.2;have x:=zb (zh N b3);have hs3:=b3.size
     cases fo with
     | false=>
      have D:=zb (uh I (.inr (.inl Q)));go_wp2;go_ret2;exact⟨zh K (zh o x),fun _=>rfl,fun h=>by rw[uh D]at h;cases h⟩
     | true=>
      have HT:=zb (zfd _ d ib w3 (HQ.below x) (HML.below (zh O b3)) HP1);have P:=zb (QO.up b3 (ye _) b3.size G);have J:=zb (zi.keep (S':=fun k=>k<w3.heap.size) (fun k H=>b3.block k H.2) (fun k H=>yF H.2 b3.size) _ _ S);have HK3:=zb k3;obtain⟨tq,aa⟩:∃ tq,J5 d=tq:=⟨_,rfl⟩;rw[aa]at HT;have U:=zb aa;go_wp2_with fail;go_call HT as e w4 ⟨rfl,b4⟩;have HB4:=zb (zh x b4)
      cases tq with
      | false=>
       have D:=zb (uh I (.inr (.inr U)));go_wp2;go_ret2;exact⟨zh K (zh o HB4),fun _=>rfl,fun h=>by rw[uh D]at h;cases h⟩
      | true=>
       have k4:=(b4.block wr om).trans HK3;obtain⟨x0,x1,x2⟩:=JS k4;have hR:=zt w4 (χ #[ι κ no,a,ς B d.length C,φ t p,.pointer M] 127);have kR:=yH w4 (χ #[ι κ no,a,ς B d.length C,φ t p,.pointer M] 127);have zR:(w4.alloc (χ #[ι κ no,a,ς B d.length C,φ t p,.pointer M] 127)).heap.size=w4.heap.size+1:=sm;have u:=zh b4 hR;have hs4:=b4.size;have R:Hid (QO (w4.alloc (χ #[ι κ no,a,ς B d.length C,φ t p,.pointer M] 127)) (w4.alloc (χ #[ι κ no,a,ς B d.length C,φ t p,.pointer M] 127)).heap.size (⟨no,a,d⟩ :: l) w4):=
        ⟨w4,_,t,p,_,ib,jv,rfl,om,kR,HQ.below (zh x u),HRR,HCT,zi.keep (fun k H=>u.block k H) (fun k H=>yF H u.size) _ _ J,QO.up u (ye _) u.size P⟩
       have HBN:=zb (zh o (zh x u));have HY:=zb (uh V HG Q U);go_wp2;go_roundw
       case rel=>exact⟨k+1,om,by go_num,HBN,by rw[uh T];exact uh R,HY⟩
       case measure=>simp[intOf];omega
   .have hkn:k=vs.length:=om;subst hkn;rw[Ι]at y;by_cases s:0<vs.length
    .have D:=zb (YJ.2 ⟨s,om,((n s).2 s).1,((n s).2 s).2,fun j hj=>(n s).1 j hj hj⟩);obtain⟨b,hbp⟩:∃ b,M=η b:=by
      have v:=uh y
      cases hv:vs.reverse with
      | nil=>rw[List.reverse_eq_nil_iff]at hv;rw[hv]at s;simp at s
      | cons m r=>
       rw[hv,QO]at v;obtain⟨b,q,t,p,v',bl',jv,h1,_⟩:=v;injection h1 with h1;exact⟨b,h1⟩
     subst hbp;go_wp2;go_ret2;exact⟨zh K o,fun h=>(by rw[uh D]at h;cases h),fun _=>⟨_,rfl,y⟩⟩
    .have e:vs=[]:=yO om;subst e;have v:=uh y;simp only[List.reverse_nil]at v;rw[QO]at v;injection v with v;subst v;go_wp2;go_ret2;exact⟨zh K o,fun _=>rfl,fun h=>by cases h⟩
theorem zfx(p:ω)(vs:List zj)(bl:List Nat)(w:Wo)(h:zw Zf w p vs bl)(hs:JN vs)(hw:qC w):
  δ prog 14 #[γ #[p]] w fun e w'=>e=ε (θ (qM vs))/\Below w w w':=by
 obtain⟨i,j,rfl,-,-⟩:=h.form;have b:=zt w (χ #[ς i vs.length j] 25);have g:=zb (Di _ vs bl _ (h.below b) hs (hw.up b));have f:=zb b;go_in;go_wp2_with fail;go_call g as e w2 ⟨b2,hno,hyes⟩;have d:=zb (zh f b2)
 cases hz:qM vs with
 | false=>
  obtain rfl:=hno hz;have a:=zb hz;go_wp2;go_ret;exact⟨by rw[uh a];rfl,d⟩
 | true=>
  obtain⟨v,rfl,_⟩:=hyes hz;have a:=zb hz;go_wp2;go_ret;exact⟨by rw[uh a];rfl,d⟩
def Zy(w:Wo)(A S:Nat->Prop):List zj->ω->Prop
 | [],v=>v=π ν
 | m :: r,v=>∃ (b:Nat) (q:ω) (t:TypeId) (p v':ω) (bl:List Nat) (jv:JV),v=π (η ⟨b,0,ν⟩)/\A b/\w.heap[b]?=η (χ #[ι κ m.no,σ m.doc,q,φ t p,v'] 127 (0,0)) /\
  QK w q m.touched bl/\(∀ x∈bl,S x)/\Zn m.doc= .inr jv/\ze (ct jv)=m.doc/\zi w S jv (φ t p)/\Zy w A S r v'
theorem QO.toG(hN:w.heap.size<=N):∀ {l:List zj} {v:ω},QO w N l v->Zy w (fun _=>True) (fun k=>k<N) l v
 | [],_,h=>h
 | m :: r,v,h=>by
  obtain⟨b,q,t,p,v',bl,jv,h1,h2,h3,h4,h5,h6,h7,h8⟩:=h;exact⟨b,q,t,p,v',bl,jv,h1,trivial,h3,h4,fun x hx=>yF (h4.lt x hx) hN,h5,h6,h7,QO.toG hN h8⟩
theorem Zy.keep{A A' S:Nat->Prop}(hA:∀ b,A b->w'.heap[b]?=w.heap[b]?/\A' b)(hS:∀ b,S b->w'.heap[b]?=w.heap[b]?):∀ {l:List zj} {v:ω},Zy w A S l v->Zy w' A' S l v
 | [],_,h=>h
 | m :: r,v,h=>by
  obtain⟨b,q,t,p,v',bl,jv,h1,h2,h3,h4,h4',h5,h6,h7,h8⟩:=h;exact⟨b,q,t,p,v',bl,jv,h1,(hA b h2).2,(hA b h2).1.trans h3,h4.keep (fun x hx=>hS x (h4' x hx)),h4',h5,h6,zi.keep (fun k hk=>hS k hk) (fun _ hk=>hk) _ _ h7,Zy.keep hA hS h8⟩
theorem Zy.ptr{A S:Nat->Prop}(h:Zy w A S l v):∃ a,v= .pointer a:=by
 match l,h with
 | [],h=>exact⟨_,h⟩
 | m :: r,h=>obtain⟨b,q,t,p,i,f,g,d,_⟩:=h;exact⟨_,d⟩
def NwP(S:Nat->Prop)(l:List zj)(w:Wo)(e:Ending)(w':Wo):Prop:=∃ v',e=ε v'/\Zy w' (fun b=>w.heap.size<=b/\b<w'.heap.size) S l v'/\Bw w w'
theorem CK{S:Nat->Prop}(hS:∀ k,S k->k<N):∀ (l:List zj) (k:Nat) (v:ω) (w:Wo),N<=w.heap.size->k<=1000->Zy w (fun _=>True) S l v ->
  δ prog 127 #[v,ι κ (k:Int)] w (NwP S (l.take k) w)
 | [],k,v,w,hN,hk,h=>by
  obtain rfl:v=π ν:=h;go_in;go_wp2;go_ret;exact⟨_,rfl,by rw[List.take_nil];rfl,yI _ _⟩
 | m :: r,0,v,w,hN,hk,h=>by
  obtain⟨a,rfl⟩:=h.ptr;have J:a≠ν:=by
   obtain⟨b,q,t,p,M,j,o,F,_⟩:=h;injection F with F;rw[F];simp
  obtain⟨ad,rfl⟩:=Option.ne_none_iff_exists'.1 J;go_in;go_wp2;go_ret;exact⟨_,rfl,by rw[List.take_zero];rfl,yI _ _⟩
 | m :: r,k+1,v,w,hN,hk,h=>by
  obtain⟨b,q,t,p,M,j,o,rfl,-,G,Q,H,h5,h6,h7,R⟩:=h;obtain⟨s,y,rfl,-,-⟩:=Q.form;obtain⟨f,rfl⟩:=R.ptr;have hb:=(yC.1 G).1;have n:=zt w (χ #[ι κ m.no,m.doc,ς s m.touched.length y,φ t p,.pointer f] 127);have kA:=yH w (χ #[ι κ m.no,m.doc,ς s m.touched.length y,φ t p,.pointer f] 127);have U:(w.alloc (χ #[ι κ m.no,m.doc,ς s m.touched.length y,φ t p,.pointer f] 127)).heap.size=w.heap.size+1:=sm;obtain⟨c0,c1,c2,c3,c4⟩:=cl5 G;have d4:=(cl5 ((n.block b hb).trans G)).2.2.2.2;have I:Zy (w.alloc (χ #[ι κ m.no,m.doc,ς s m.touched.length y,φ t p,.pointer f] 127)) (fun _=>True) S r (.pointer f):=by
   have:∀ {l:List zj} {u:ω},Zy w (fun _=>True) S l u->Zy w (fun b=>b<w.heap.size) S l u:=by
    intro l;induction l with
    | nil=>intro u h;exact h
    | cons m r ih=>
     intro u h;obtain⟨b,q,t,p,M,j,o,g1,g2,P,g4,E,g5,g6,g7,g8⟩:=h;exact⟨b,q,t,p,M,j,o,g1,(yC.1 P).1,P,g4,E,g5,g6,g7,ih g8⟩
   exact (this R).keep (fun x hx=>⟨n.block x hx,trivial⟩) (fun x hx=>n.block x (yF (hS x hx) hN))
  have HR:=zb (CK hS r k (.pointer f) _ (by rw[U];omega) om I);have kk:((k+1:Nat):Int) - 1=(k:Int):=om;have kz:(((k+1:Nat):Int) ==0)=ζ:=by rw[yd];omega
  have Z:=zb n;have B:=zb kA;have C:=zb U;have V:=zb Q;have g:=zb H;have W:=zb h5;have X:=zb h6;have Y:=zb h7;have O:=zb hS;generalize ((k+1:Nat):Int)=K at *;go_in;go_wp2_with fail;generalize w.alloc _=wA at *;go_call HR as e w1 ⟨v1,rfl,ch,b1⟩;obtain⟨D,rfl⟩:=ch.ptr;have hz:=uh C;have hz1:=b1.size;have L:=(b1.block w om).trans B;have e4:=(cl5 L).2.2.2.2;have f1:=yJ L;have i:=zb (zh Z b1);have A:=zb (heap_setCell_same w1 w 4 _ _ (.pointer D) L);have z:=zb ch;go_wp2;go_ret;have hN':=hN;have T:(w1.setCell ⟨w,4,ν⟩ (.pointer D)).heap.size=w1.heap.size:=by simp[World.setCell]
  have d:∀ x,S x->(w1.setCell ⟨w,4,ν⟩ (.pointer D)).heap[x]?=w.heap[x]?:=fun x hx=>by
   have:=uh O x hx;exact (Α w1 ⟨w,4,ν⟩ _ x (fun e=>by have:x=w.heap.size:=e;omega)).trans (i.block x om)
  refine⟨_,rfl,?_,i.setCell (p:=⟨w,4,ν⟩) (ye _) _⟩;rw[List.take_succ_cons];refine⟨w,_,t,p,_,j,o,rfl,⟨ye _,by rw[T];omega⟩,A,V.keep (fun x hx=>d x (uh g x hx)),g,W,X,zi.keep (fun x hx=>d x hx) (fun _ hk=>hk) _ _ Y,?_⟩;exact z.keep (fun x hx=>⟨Α w1 ⟨w,4,ν⟩ _ x (fun e=>by have:x=w.heap.size:=e;omega),om,by rw[T];exact hx.2⟩) (fun x hx=>Α w1 ⟨w,4,ν⟩ _ x (fun e=>by have:x=w.heap.size:=e;have:=uh O x hx;omega))
structure Wi where
 g:Nat
 pv:ω
 fv:ω
 vv:ω
 v:JV
structure UL(w:Wo)(S:Nat->Prop)(m:zk)(q:Wi):Prop where
 blk:w.heap[q.g]?=η (Xd m.kind q.pv q.fv q.vv)
 sg:S q.g
 path:OT w 0 q.pv (ZH m.path)
 sp:∀ b,q.pv.ownBlock=η b->S b
 src:OT w 0 q.fv (ZH m.src)
 ss:∀ b,q.fv.ownBlock=η b->S b
 val:Zz m.kind=ξ->Zn m.val= .inr q.v/\ze (ct q.v)=m.val/\∃ t p,q.vv=φ t p/\zi w S q.v q.vv
theorem CM{e size:Nat}{xs:List ω}(h:w.ownsRow 0 e size v n xs)(hk:∀ b,v.ownBlock=η b->w'.heap[b]?=w.heap[b]?):w'.ownsRow 0 e size v n xs:=by
 refine⟨h.1,?_⟩;rcases h.2 with i |⟨g,a,d,f,j,k,r⟩
 .exact .inl i
 .exact .inr ⟨g,a,d,f,j,(hk g (by rw[f];rfl)).trans k,r⟩
theorem UL.keep{S S':Nat->Prop}{m:zk}{q:Wi}(h:UL w S m q)(hk:∀ k,S k->w'.heap[k]?=w.heap[k]?)(hS:∀ k,S k->S' k):UL w' S' m q:=
 ⟨(hk _ h.sg).trans h.blk,hS _ h.sg,CM h.path fun b hb=>hk b (h.sp b hb),fun b hb=>hS b (h.sp b hb),CM h.src fun b hb=>hk b (h.ss b hb),fun b hb=>hS b (h.ss b hb),
  fun hv=>by obtain⟨a,d,t,p,f,g⟩:=h.val hv;exact⟨a,d,t,p,f,zi.keep hk hS _ _ g⟩⟩
theorem Xe.toS{m:zk}{fv vv:ω}{v:JV}(h:Xe w B m g pv fv vv v):UL w (fun k=>B<=k/\k<w.heap.size) m ⟨g,pv,fv,vv,v⟩:=
 ⟨h.blk,⟨h.ge,(yC.1 h.blk).1⟩,qH h.path (yu _),fun b hb=>h.path.lt b hb,qH h.src (yu _),fun b hb=>h.src.lt b hb,h.val⟩
def Nv(q:Wi):ω:=π (η ⟨q.g,0,ν⟩)
structure UM(w:Wo)(B:Nat)(S:Nat->Prop)(lv:ω)(ms:List zk)(qs:List Wi):Prop where
 len:qs.length=ms.length
 row:w.ownsRow B 92 1 lv qs.length (qs.map Nv)
 ops:∀ (j:Nat) m q,ms[j]?=η m->qs[j]?=η q->UL w S m q
 off:∀ k,S k->lv.ownBlock≠η k
def Xh(w0:Nat)(w:Wo)(lv:ω)(k:Nat):Prop:=w0<=k/\k<w.heap.size/\lv.ownBlock≠η k
theorem UM.snoc {w4:Wo} {Wb:Nat} {lv lv':ω}  {qs:List Wi} {m:zk} {q:Wi} (hL:UM wr B (Xh B wr lv) lv ms qs) (hb2:Bw wr w2) (hat:Xe w2 Wb m q.g q.pv q.fv q.vv q.v) (hW:wr.heap.size<=Wb) (hB:B<=wr.heap.size)
  (hb3:Bw w2 w3) (hrow:w4.ownsRow B 92 1 lv' (qs.length+1) (qs.map Nv++[Nv q])) (hg:w3.grownBy w4 lv.ownBlock) (hwh:lv'.ownBlock=lv.ownBlock∨lv'.ownBlock=η w3.heap.size):
  UM w4 B (Xh B w4 lv') lv' (ms++[m]) (qs++[q]):=by
 have i:=hb2.size;have l:=hb3.size;have n:=hg.size;have a:=fun k (h1:k<w3.heap.size) (h2:lv.ownBlock≠η k)=>hg.block k h1 (fun e=>h2 e.symm);have d:∀ k,B<=k->k<w3.heap.size->lv.ownBlock≠η k->Xh B w4 lv' k:=fun k h1 h2 h3=>⟨h1,om,fun e=>by
  rcases hwh with h | h
  .exact h3 (h ▸ e)
  .rw[h]at e;injection e with e;omega⟩
 refine⟨by simp[hL.len],by simpa using hrow,fun j m' q' hm hq=>?_,fun k hk=>hk.2.2⟩;by_cases g:j<ms.length
 .rw[Ξ g]at hm;rw[Ξ (by rw[hL.len];exact g)]at hq;refine (hL.ops j m' q' hm hq).keep (fun k hk=>?_) (fun k hk=>d k hk.1 (by have:=hk.2.1;omega) hk.2.2);have:=hk.2.1;rw[a k om hk.2.2,hb3.block k om,hb2.block k om]
 .have f:=(Ζ.1 hm).1;rw[yh,yS]at f;obtain rfl:j=ms.length:=by omega
  rw[Ν (ye _)]at hm;rw[Ν (by rw[hL.len];exact ye _),hL.len]at hq;simp at hm hq;subst hm;subst hq;have b:∀ k,Wb<=k->lv.ownBlock≠η k:=fun k h1 e=>by
   have:=(hL.row.lt k e).2;omega
  refine hat.toS.keep (fun k hk=>?_) (fun k hk=>d k om om (b k hk.1));rw[a k om (b k hk.1),hb3.block k hk.2]
theorem CN:(prog.info? 92).map (fun i=>(i.zero,i.size,i.bytes))=η (η (π ν),1,8):=by kernel_rfl
def Xi(w:Wo)(c:Int)(ev:ω):Prop:=∃ fb,ev=φ 162 (π (η ⟨fb,0,ν⟩))/\w.heap[fb]?=η (χ #[ι κ c] 164 (0,0))
theorem Xi.next{c:Int}{ev:ω}(h:Xi w c ev)(hb:Bw w w'):Xi w' c ev:=by
 obtain⟨fb,b,a⟩:=h;exact⟨fb,b,(hb.block fb (yC.1 a).1).trans a⟩
def Fx(w:Wo)(i c:Int)(ev:ω):Prop:=∃ eb fv,ev=φ 165 (π (η ⟨eb,0,ν⟩))/\w.heap[eb]?=η (χ #[ι κ i,fv] 167 (0,0))/\Xi w c fv
theorem Dj(w:Wo)(i c:Int):Fx ((w.alloc (χ #[ι κ c] 164)).alloc (χ #[ι κ i,φ 162 (π (η ⟨w.heap.size,0,ν⟩))] 167)) i c (φ 165 (π (η ⟨w.heap.size+1,0,ν⟩))):=by
 have z:(w.alloc (χ #[ι κ c] 164)).heap.size=w.heap.size+1:=sm;refine⟨w.heap.size+1,_,rfl,?_,w.heap.size,rfl,?_⟩
 .have:=yH (w.alloc (χ #[ι κ c] 164)) (χ #[ι κ i,φ 162 w.heap.size] 167)
  rwa [z]at this
 .exact ((zt _ _).block w.heap.size om).trans (yH w _)
def zfz(ms:List zk)(w:Wo)(e:Ending)(w':Wo):Prop:=Bw w w' /\
 (0<=qn ms->∃ t p,e=ε (τ #[ς ν 0 0,φ t p])/\Fx w' (qn ms) 2 (φ t p)) /\
 (qn ms<0->∃ lv qs,e=ε (τ #[lv,.nilIface])/\UM w' w.heap.size (Xh w.heap.size w' lv) lv ms qs)
theorem CO(v:ω)(ms:List zk)(bl:List Nat)(w:Wo)(h:zw Qq w v ms bl)(hs:YT ms)(hw:qC w):
  δ prog 72 #[v] w (zfz ms w):=by
 have W:=hs.1;obtain⟨xa,xc,rfl,h1,Z⟩:=h.form;have H:=zb h;have HXA:=zb Z;have HIN:=zb W;have hln:=hs.2;clear h h1 Z hs W;by_cases T:100<ms.length
 .have s:qn ms=100:=by unfold qn;rw[yg T]
  have HB:=zb s;clear s;go_in;go_wp2;go_ret2;exact⟨zh (zt w _) (zt _ _),fun _=>⟨_,_,rfl,by rw[uh HB];exact Dj w 100 2⟩,fun h=>by rw[uh HB]at h;omega⟩
 .have t100:¬ (100:Int)<(ms.length:Int):=om;obtain⟨i0,hi,hz0,hz1,hz2⟩:=info_parts CN;go_in;go_wp2_with (at_make;refine wpList_make_own _ rfl _ _ 130 rfl w.heap.size 92 i0 (π ν) 1 underlying130 hi hz0 hz1 .i64 .i64 _ ms.length rfl rfl rfl (by rw[hz2];omega) mo (ye _) ?_);intro w1 p l;have U:=(yI _ _).grown l (ye _) (by intro k hk;cases hk);have HB1:=zb U;have HO1:=zb p;clear U p l;go_wp2;go_loopw [4,23] (fun lv i wr=>∃ (k:Nat) (qs:List Wi),k<=ms.length/\i=ι κ k/\Bw w wr/\UM wr w.heap.size (Xh w.heap.size wr lv) lv (ms.take k) qs/\∀ j (h:j<ms.length),j<k->ZD ms[j]=ξ) (fun _ i _=>ms.length - (intOf i).toNat)
  case atStart=>exact⟨0,[],yu _,rfl,HB1,⟨sm,HO1,fun j m q hm _=>by simp at hm,fun k hk=>hk.2.2⟩,fun j h hj=>om⟩
  case round=>
   obtain⟨k,qs,hk,rfl,s,G,z⟩:=hrel;have n:qs.length=k:=by rw[G.len,ym];omega
   obtain⟨la,lc,rfl,X⟩:∃ la lc,u4=ς la k lc/\True:=by
    rcases G.row.2 with ⟨Y,hn⟩ |⟨g,S,cur,Y,_⟩
    .exact⟨ν,0,by rw[Y,← n,hn],trivial⟩
    .exact⟨η ⟨g,0,ν⟩,S,by rw[Y,n],trivial⟩
   by_cases A:k<ms.length
   .obtain⟨g,rfl⟩:=uh HXA om;obtain⟨vs,ib,hE,V,_⟩:=((uh H).below s).at (yy A);obtain⟨rfl,_⟩:=hE;have c0:wr.cell? ⟨g,k*4,ν⟩=η (ι κ ms[k].kind):=(V 0 _ rfl).1;have c1:wr.cell? ⟨g,k*4+1,ν⟩=η (.string ms[k].path):=(V 1 _ rfl).1;have c2:wr.cell? ⟨g,k*4+2,ν⟩=η (.string ms[k].src):=(V 2 _ rfl).1;have c3:wr.cell? ⟨g,k*4+3,ν⟩=η (.string ms[k].val):=(V 3 _ rfl).1;have K:=zb G;have N:=zb z;have a:=zb s;clear V G z s X;have hA:=zt wr (χ #[ι κ ms[k].kind,.string ms[k].path,.string ms[k].src,.string ms[k].val] 82);have zA:(wr.alloc (χ #[ι κ ms[k].kind,.string ms[k].path,.string ms[k].src,.string ms[k].val] 82)).heap.size=wr.heap.size+1:=sm;obtain⟨i1,i2,i3⟩:=uh HIN ms[k] (yt A);have C:=hw.up (zh a hA);have HA:=zb hA;have R:=zb zA
    cases hok:ZD ms[k]with
    | false=>
     have P:=zb (BV ms[k] _ hok C i1 i2 i3);have f:=zb (zbl om A hok N);clear hok C hA zA i1 i2 i3;go_wp2_with fail;generalize (wr.alloc (χ #[ι κ ms[k].kind,.string ms[k].path,.string ms[k].src,.string ms[k].val] 82))=wA at *;go_call P as e w2 ⟨rfl,b2⟩;have HB2:=zb (zh (zh a HA) b2);clear P b2;go_wp2;go_ret2;exact⟨zh (zh HB2 (zt _ _)) (zt _ _),fun _=>⟨_,_,rfl,by rw[uh f];exact Dj _ _ 2⟩,fun h=>by rw[uh f]at h;omega⟩
    | true=>
     have P:=zb (BU ms[k] _ hok C i1 i2 i3);have O:Hid (∀ j (h:j<ms.length),j<k+1->ZD ms[j]=ξ):=fun j h hj=>by
      by_cases e:j=k
      .subst e;exact hok
      .exact uh N j h om
     clear hok C hA zA i1 i2 i3;go_wp2_with fail;generalize (wr.alloc (χ #[ι κ ms[k].kind,.string ms[k].path,.string ms[k].src,.string ms[k].val] 82))=wA at *;go_call P as e w2 ⟨gq,pv,fv,vv,v,rfl,hat,b2⟩;have x:=zh HA b2;have F:=zt w2 (χ #[π (η ⟨gq,0,ν⟩)] 92);have k3:=yH w2 (χ #[π (η ⟨gq,0,ν⟩)] 92);have z02:=x.size;have z3:(w2.alloc (χ #[π (η ⟨gq,0,ν⟩)] 92)).heap.size=w2.heap.size+1:=sm;have hwr:=(uh a).size;have r:=Zh (Zh (uh K).row x) F;rw[n]at r;have L:=zb hat;have o:=zb x;have E:=zb F;have u:=zb z3;have cx:=Zw k3;have Q:=zb r;have M:=zb cx;clear P hat b2 x F k3 z3 r cx;go_wp2_with (at_builtin;refine MX underlying130 CN rfl dc rfl (.tmp 42) (.tmp 44) rfl (B:=w.heap.size) rfl Q (y:=π (η ⟨gq,0,ν⟩)) rfl rfl M (by have:=uh u;omega) om ?_);intro lv' w4 d J D;obtain⟨la',lc',rfl⟩:∃ la lc,lv'=ς la (k+1) lc:=by
      rcases d.2 with ⟨_,hn⟩ |⟨g,S,cur,Y,_⟩
      .omega
      .exact⟨_,_,Y⟩
     have I:=UM.snoc (q:=⟨gq,pv,fv,vv,v⟩) K o L (by have:=uh R;omega) hwr E (by rw[n];exact d) J (by rw[uh u];exact D);rw[← yz A]at I;have HL4:=zb I;have HB4:=zb ((zh (zh a o) E).grown J (by have:=uh u;omega) (fun b s=>((uh K).row.lt b s).1));clear I d J D K L o E u Q M a HA R c0 c1 c2 c3;go_wp2;go_roundw
     case rel=>exact⟨k+1,_,om,by go_num,HB4,HL4,O⟩
     case measure=>simp[intOf];omega
   .have hk':k=ms.length:=om;subst hk';rw[Ι]at G;have f:=zb (zbm om (fun j h=>z j h h));have K:=zb G;have a:=zb s;clear G s z X;go_wp2;go_ret2;exact⟨a,fun h=>(by rw[uh f]at h;omega),fun _=>⟨_,qs,rfl,K⟩⟩
def zT(w:Wo)(v:JV)(x:ω):Prop:=zi w (fun k=>k<w.heap.size) v x
theorem zT.next{v:JV}{x:ω}(h:zT w v x)(hb:Below w w w'):zT w' v x:=
 zi.keep (fun k hk=>hb.block k hk) (fun _ hk=>yF hk hb.size) _ _ h
def Zq(w:Wo)(o:Nat⊕JV)(e:Ending)(w':Wo):Prop:=Bw w w' /\
 ((∃ c ev,o= .inl c/\e=ε (τ #[.nilIface,ev])/\Xi w' (c:Int) ev)∨∃ u t p,o= .inr u/\e=ε (τ #[φ t p,.nilIface])/\zT w' u (φ t p))
theorem Dk(v:JV)(hv:zx v)(ts:List (List UInt8))(a:Option Addr)(g off cap:Nat)(w:Wo)(ty:TypeId)(p:ω)(hr:zT w v (φ ty p))(hs:SS w a g off (ts.map zG))(hn:ts.length<=1048577)(ht:∀ t∈ts,t.length<=1048576):
  δ prog 220 #[φ ty p,ς a ts.length cap] w (Zq w (Z9 3 (zM v ts))):=by
 have r:=zb hr;have q:=zb hv;have d:=hs.ad;have h:=zb hs.cell;simp only[yl]at d h;go_in;go_wp2_with fail;go_loopw [6,7,13] (fun vv bv iv wr=>∃ (k:Nat) (u:JV) (ty:TypeId) (p:ω),k<=ts.length/\iv=ι κ (k:Int)/\bv=θ ξ/\vv=φ ty p/\zM v (ts.take k)=η u/\zx u/\zT w u (φ ty p)/\w=wr) (fun _ _ iv _=>ts.length - (intOf iv).toNat)
 case atStart=>exact⟨0,v,ty,p,yu _,rfl,rfl,rfl,rfl,q,r,rfl⟩
 case round=>
  obtain⟨k,u,ty,p,F,rfl,rfl,rfl,l,j,f,rfl⟩:=hrel;by_cases b:k<ts.length
  .have A:(k:Int)<(ts.length:Int):=om;obtain rfl:=d om;have i:=uh h k b;rw[PT b]at i;have s:zG (ts.getD k [])=ze ts[k]:=by simp[List.getD,b,zG,ze]
   rw[s]at i;have B:=zb (Fp u j.tw ts[k] (by have:=ht _ (yt b);omega) ty p w _ f);have o:=zb fun (hc:zK u ts[k]=ν)=>Ho b l hc;have m:Hid (∀ u',zK u ts[k]=η u'->zM v (ts.take (k+1))=η u'/\zx u'):=fun u' hc=>⟨by rw[Lv b l];exact hc,j.child hc⟩;generalize ze ts[k]=G at *;go_wp2_with fail;go_call B as e w3 ⟨rfl,⟨x,rfl,hcn⟩ |⟨x,u',rfl,hcs,hru⟩⟩
   .have D:=zb (uh o hcn);go_wp2;go_ret2;exact⟨zt _ _,.inl ⟨3,_,by rw[uh D];rfl,rfl,_,rfl,yH _ _⟩⟩
   .have z:=zb (uh m u' hcs);obtain⟨y,E,rfl⟩:=Y1 hru;have n:=zb hru;go_wp2;go_roundw
    case rel=>exact⟨k+1,u',y,E,om,by go_num,rfl,rfl,(uh z).1,(uh z).2,n,trivial⟩
    case measure=>simp[intOf];omega
  .have e:ts.take k=ts:=yr om;rw[e]at l;have C:=zb l;have HR:=zb f;go_wp2;go_ret2;exact⟨yI _ _,.inr ⟨u,ty,p,by rw[uh C];rfl,rfl,HR⟩⟩
theorem zfA{v:JV}(h:Z0 v):zn v<=(ct v).length/\zJ v<=zn v:=by
 have a:=(FP (zan h)).2.1;rw[zL,(U9 v).cnt]at a;exact⟨a,(YP v).1⟩
theorem zfB(v:JV)(hr:Z0 v)(htw:zF v=ζ)(w:Wo)(S:Nat->Prop)(t:TypeId)(p:ω)(rep:zi w S v (φ t p))(hS:∀ k,S k->k<w.heap.size)(hP:JJ w w)(hl:(ct v).length<=10000000):
  δ prog 87 #[φ t p] w fun e w'=>e=ε (θ (decide (zJ v<=100/\zn v<=3000/\(ct v).length<=20000)))/\Below w w w':=by
 obtain⟨s,u⟩:=zfA hr;have m:=zb (Nf v (Ub v hr) htw w S t p rep hS hP hl om om);generalize zJ v=d at *;generalize zn v=c at *;generalize (ct v).length=n at *;obtain⟨z,l⟩:∃ z,decide (d<=100/\c<=3000/\n<=20000)=z:=⟨_,rfl⟩;rw[l];have f:=zb l;go_in;go_wp2_with fail;go_call m as e w1 ⟨rfl,b1⟩;have b:=zb (b1.alloc b1.size (qK d c n));simp only[YH];by_cases i:d<=100
 .have q:(d:Int)<=100:=om;by_cases g:c<=3000
  .have o:(c:Int)<=3000:=om;by_cases j:n<=20000
   .have r:(n:Int)<=20000:=om;have a:=zb (f.symm.trans (yj ⟨i,g,j⟩));go_wp2;go_ret;exact⟨by rw[uh a];rfl,b⟩
   .have r:¬ (n:Int)<=20000:=om;have a:=zb (f.symm.trans (yk (fun h=>j h.2.2)));go_wp2;go_ret;exact⟨by rw[uh a];rfl,b⟩
  .have o:¬ (c:Int)<=3000:=om;have a:=zb (f.symm.trans (yk (fun h=>g h.2.1)));go_wp2;go_ret;exact⟨by rw[uh a];rfl,b⟩
 .have q:¬ (d:Int)<=100:=om;have a:=zb (f.symm.trans (yk (fun h=>i h.1)));go_wp2;go_ret;exact⟨by rw[uh a];rfl,b⟩
theorem CP{a b c:Wo}(hB:B<=a.heap.size)(h:Below B a b)(k:Bw b c):Below B a c:=h.trans (k.mono (yQ hB h.size))
theorem zfC(v:JV)(hok:zz v)(htw:zF v=ζ)(hl:(ct v).length<=1000000)(ty:TypeId)(p:ω)(w:Wo)(S:Nat->Prop)(h:zi w S v (φ ty p))(hS:∀ k,S k->k<w.heap.size)(hw:qC w):
  δ prog 37 #[φ ty p] w (OO v w):=by
 have D:=zb fun wx (hx:Bw w wx)=>zi.keep (fun k hk=>hx.block k (hS k hk)) (fun _ h=>h) _ _ h;have HSM:=zb fun (t:List UInt8) (wx:Wo) (ht:t.length<=100) (hx:Bw w wx)=>BM v htw t om ty p wx S (uh D wx hx);have HPM:=zb fun (t:List UInt8) (wx:Wo) (ht:t.length<=100) (hx:Bw w wx)=>zey v hok htw hl t om ty p wx S (uh D wx hx) (hw.up hx).ml;have kR:=yH w (χ #[ι κ 0,σ ⟨#[]⟩,σ ⟨#[]⟩,σ ⟨#[]⟩] 82);have hR:=zt w (χ #[ι κ 0,σ ⟨#[]⟩,σ ⟨#[]⟩,σ ⟨#[]⟩] 82);have zR:(w.alloc (χ #[ι κ 0,σ ⟨#[]⟩,σ ⟨#[]⟩,σ ⟨#[]⟩] 82)).heap.size=w.heap.size+1:=sm;have n:=zb (uh HSM Vr _ dc hR);have HRR:=zb hR;have HKR:Hid (qd (w.alloc (χ #[ι κ 0,σ ⟨#[]⟩,σ ⟨#[]⟩,σ ⟨#[]⟩] 82)) w.heap.size YF):=kR;have HZR:=zb zR;have HSL:=zb hS;clear kR hR zR h hS
 cases hsm:Zk v Vr with
 | none=>
  have g:Hid (ZX v=ζ):=by
   show _=_
   have e:qO v=0:=by unfold qO;rw[hsm]
   unfold ZX;rw[e];rfl
  rw[hsm]at n;clear hsm;go_in;go_wp2_with fail;generalize (w.alloc (χ #[ι κ 0,σ ⟨#[]⟩,σ ⟨#[]⟩,σ ⟨#[]⟩] 82))=I at *;go_call n as e wR' ⟨rfl,rfl⟩;have U:=zt I (χ #[σ (ze ([]:List UInt8))] 9);have a:=(uh HKR).below U;have f:=zb a;have d:=zb (zh HRR U);have r0:=a.c;have rz:=a.fz;clear U a n;go_wp2;refine bodyPost_ret (Qh rfl _ _ w.heap.size 82 #[_,_,_,_] (0,0) _ _ rfl rfl (Z3 f [_,_,_,_] rfl) underlying82 rfl kr) rfl ?_;exact⟨Zd d (ye _) [_,_,_,_] 0,YF,by rw[uh g];rfl,fun h=>by rw[uh g]at h;cases h⟩
 | some t=>
  have O:Hid (qO v=qy t):=by show _=_;unfold qO;rw[hsm]
  rw[hsm]at n;have hKr:=RF t;clear hsm;have ht0:(η t).getD []=t:=rfl;rw[ht0]at n;clear ht0;go_in;go_wp2_with fail;generalize (w.alloc (χ #[ι κ 0,σ ⟨#[]⟩,σ ⟨#[]⟩,σ ⟨#[]⟩] 82))=I at *;go_call n as e wR' ⟨rfl,rfl⟩;have U:=zt I (χ #[(ze t)] 9);have kN:=yH I (χ #[(ze t)] 9);have E:Hid (∀ wx,Below (I.alloc (χ #[(ze t)] 9)).heap.size (I.alloc (χ #[(ze t)] 9)) wx->qd wx w.heap.size YF/\Bw w wx):=fun wx hx=>⟨((uh HKR).below U).below hx,zh (zh HRR U) hx⟩;by_cases hK:qy t=0
  .have g:Hid (ZX v=ζ):=by
    show _=_
    unfold ZX;rw[uh O,hK];rfl
   have N:=zb (zdx I.heap.size t _ kN om);unfold QL at N;clear n U kN hK hKr;go_wp2_with fail;generalize (I.alloc (χ #[(ze t)] 9))=wN at *;go_call N as e w3 ⟨rfl,b3⟩;have b3v:=zh b3 (zt w3 (χ #[σ ⟨#[]⟩,ι κ 0,θ ζ,θ ζ,θ ζ,θ ζ,.nilFunc] 154));clear N b3;obtain⟨a,b⟩:=uh E _ (b3v);have r0:=a.c;have rz:=a.fz;have f:=zb a;have d:=zb b;clear a b;go_wp2;refine bodyPost_ret (Qh rfl _ _ w.heap.size 82 #[_,_,_,_] (0,0) _ _ rfl rfl (Z3 f [_,_,_,_] rfl) underlying82 rfl kr) rfl ?_;exact⟨Zd d (ye _) [_,_,_,_] 0,YF,by rw[uh g];rfl,fun h=>by rw[uh g]at h;cases h⟩
  .have N:=zb (zdw I.heap.size t _ kN om om);obtain⟨j,V⟩:∃ j,JU (qy t)= .func (Fn.func j) #[] #[]:=by
    unfold JU
    repeat' split
    all_goals exact⟨_,rfl⟩
   unfold KJ at N;rw[V]at N;have HKZ:=zb hK;clear n U kN V;generalize qy t=K at *;obtain⟨l,ag⟩:∃ l,Z1 K=l:=⟨_,rfl⟩;obtain⟨m,ah⟩:∃ m,Zz K=m:=⟨_,rfl⟩;rw[ag,ah]at N;have X:=zb ag;have Y:=zb ah;clear ag ah hK hKr;generalize G1 K=J at *;generalize YW K=G at *;generalize YX K=H at *;go_wp2_with fail;generalize (I.alloc (χ #[(ze t)] 9))=wN at *;go_call N as e w3 ⟨rfl,b3⟩;have HZ3:=zb (uh E w3 b3).2.size;have hV:=zt w3 (χ #[J,ι κ K,θ l,θ m,θ G,θ H,.func (Fn.func j) #[] #[]] 154);have kV:=yH w3 (χ #[J,ι κ K,θ l,θ m,θ G,θ H,.func (Fn.func j) #[] #[]] 154);have zV:(w3.alloc (χ #[J,ι κ K,θ l,θ m,θ G,θ H,.func (Fn.func j) #[] #[]] 154)).heap.size=w3.heap.size+1:=sm;have bV:=zh b3 hV;have hO:=zt (w3.alloc (χ #[J,ι κ K,θ l,θ m,θ G,θ H,.func (Fn.func j) #[] #[]] 154)) (χ #[ι κ K,σ ⟨#[]⟩,σ ⟨#[]⟩,σ ⟨#[]⟩] 82);have kO:=yH (w3.alloc (χ #[J,ι κ K,θ l,θ m,θ G,θ H,.func (Fn.func j) #[] #[]] 154)) (χ #[ι κ K,σ ⟨#[]⟩,σ ⟨#[]⟩,σ ⟨#[]⟩] 82);rw[zV]at kO;have bO:=zh bV hO;have HBO:=zb bO;have Z:=zb (uh HPM Q9 _ dc (uh E _ bO).2);have HVC:Hid (∀ wx,Below (w3.heap.size+1) (w3.alloc (χ #[J,ι κ K,θ l,θ m,θ G,θ H,.func (Fn.func j) #[] #[]] 154)) wx->wx.cell? ⟨w3.heap.size,2,ν⟩=η (θ l)/\wx.cell? ⟨w3.heap.size,3,ν⟩=η (θ m)):=fun wx hx=>by
    have k:=(hx.block w3.heap.size om).trans kV;exact⟨yG k 2,yG k 3⟩
   have HKO:Hid (qd ((w3.alloc (χ #[J,ι κ K,θ l,θ m,θ G,θ H,.func (Fn.func j) #[] #[]] 154)).alloc (χ #[ι κ K,σ ⟨#[]⟩,σ ⟨#[]⟩,σ ⟨#[]⟩] 82)) (w3.heap.size+1) ⟨K,⟨#[]⟩,⟨#[]⟩,⟨#[]⟩⟩):=kO;have HHO:=zb hO;have HZV:=zb zV;clear N b3 hV kV zV bV hO kO bO;go_wp2_with fail;have bO:=uh HBO;obtain⟨hr1,hr2⟩:=uh E _ bO;have i:Hid (∀ wx,Below (w3.heap.size+1) ((w3.alloc (χ #[J,ι κ K,θ l,θ m,θ G,θ H,.func (Fn.func j) #[] #[]] 154)).alloc (χ #[ι κ K,σ ⟨#[]⟩,σ ⟨#[]⟩,σ ⟨#[]⟩] 82)) wx->(wx.cell? ⟨w3.heap.size,2,ν⟩=η (θ l)/\wx.cell? ⟨w3.heap.size,3,ν⟩=η (θ m))/\qd wx w.heap.size YF/\Bw w wx):=fun wx hx=>by
    have hzv:=uh HZV;have hho:Below _ _ _:=uh HHO;rw[hzv]at hho;have hz1:=uh HZ3;exact⟨uh HVC wx (hho.trans hx),(hx.block w.heap.size om).trans hr1,hr2.trans (hx.mono om)⟩
   have hzO:((w3.alloc (χ #[J,ι κ K,θ l,θ m,θ G,θ H,.func (Fn.func j) #[] #[]] 154)).alloc (χ #[ι κ K,σ ⟨#[]⟩,σ ⟨#[]⟩,σ ⟨#[]⟩] 82)).heap.size=w3.heap.size+1+1:=sm;have ad:=zb hzO;clear bO hr1 hr2 hzO HBO HVC HHO HZV E;generalize ((w3.alloc (χ #[J,ι κ K,θ l,θ m,θ G,θ H,.func (Fn.func j) #[] #[]] 154)).alloc (χ #[ι κ K,σ ⟨#[]⟩,σ ⟨#[]⟩,σ ⟨#[]⟩] 82))=wO at *;have HDP:Hid (((Zk v Q9).isSome && (zH ((Zk v Q9).getD [])).isSome)=ζ->ZX v=ζ):=fun h=>by
    unfold ZX;rw[Bool.and_eq_false_iff]at h;rcases h with h | h<;>rw[h]<;>simp
   have HPT:=zb fun (h:((Zk v Q9).isSome && (zH ((Zk v Q9).getD [])).isSome)=ξ)=>by rwa [Bool.and_eq_true]at h
   obtain⟨y,aj⟩:∃ y,ze ((Zk v Q9).getD [])=y:=⟨_,rfl⟩;obtain⟨op,ai⟩:∃ op,((Zk v Q9).isSome && (zH ((Zk v Q9).getD [])).isSome)=op:=⟨_,rfl⟩;rw[aj,ai]at Z;rw[ai]at HDP HPT;have HPP:=zb aj;clear aj ai;go_call Z as e w5 ⟨rfl,b5⟩;have hzo:=uh ad;have o5:=(uh HKO).below b5;have k5:=o5.c;have f5:=o5.fz 1;have Q:=zb (o5.s1 y);have b5m:Below (w3.heap.size+1) wO w5:=b5.mono om;have r:=zb (b5m.setCell (p:=⟨w3.heap.size+1,1,ν⟩) (ye _) y);clear Z HKO o5 b5 hzo b5m;simp only at k5
   cases op with
   | false=>
    have g:=zb (uh HDP rfl);obtain⟨-,a,b⟩:=uh i _ r;have r0:=a.c;have rz:=a.fz;have f:=zb a;have d:=zb b;clear a b;go_wp2;refine bodyPost_ret (Qh rfl _ _ w.heap.size 82 #[_,_,_,_] (0,0) _ _ rfl rfl (Z3 f [_,_,_,_] rfl) underlying82 rfl kr) rfl ?_;exact⟨Zd d (ye _) [_,_,_,_] 0,YF,by rw[uh g];rfl,fun h=>by rw[uh g]at h;cases h⟩
   | true=>
    obtain⟨hp1,hp2⟩:=uh HPT rfl;have HP1:=zb hp1;have HP2:=zb hp2;obtain⟨⟨v2,v3⟩,_,o⟩:=uh i _ r;have HZK:=zb (show qO v≠0 by rw[uh O];exact HKZ);have P:=zb (uh HPM Ja _ dc o);have A:=zb (Fp v htw JR dc ty p _ S (uh D _ o));have HPW:=zb fun wx (hx:Bw w wx)=>(hw.up hx).pow;have s:Hid (qD v=⟨K,y,if l then ze ((Zk v Ja).getD [])else ⟨#[]⟩,if m then ze (((zK v JR).map ct).getD [])else ⟨#[]⟩⟩):=by
     show _=_
     unfold qD;rw[uh O,uh X,uh Y,uh HPP]
    have q:Hid (ZX v=((!l ||(Zk v Ja).isSome) && (!m ||(zK v JR).isSome) && (!l ||(zH ((Zk v Ja).getD [])).isSome))):=by
     show _=_
     unfold ZX;rw[yj (uh HZK),uh HP1,uh HP2,uh O,uh X,uh Y];simp
    have ab:Hid (l=ξ->m=ζ):=fun h=>by
     have e:=uh X;rw[h]at e;rw[← uh Y];unfold Z1 at e;unfold Zz;simp only[Bool.or_eq_true,yD]at e;rcases e with e | e<;>rw[e]<;>rfl
    have L:Hid (∀ u,zK v JR=η u->zz u/\zF u=ζ/\(ct u).length<=1000000):=fun u hu=>by
     obtain⟨a1,a2,a3,_⟩:=GJ hu hok htw;exact⟨a1,a2,om⟩
    have hz6:=o.size;have HB6W:=zb o;clear hp1 hp2 o hw htw hok hl;generalize hw6:w5.setCell ⟨w3.heap.size+1,1,ν⟩ y=w6 at *;have k6:=(uh Q).c;simp only at k6
    cases l with
    | true=>
     obtain rfl:=uh ab rfl;obtain⟨ff,af⟩:∃ ff,ze ((Zk v Ja).getD [])=ff:=⟨_,rfl⟩;obtain⟨T,F⟩:∃ T,((Zk v Ja).isSome && (zH ((Zk v Ja).getD [])).isSome)=T:=⟨_,rfl⟩;have M:Hid (ZX v=T):=by
      show _=_
      rw[uh q,← F];simp
     rw[af,F]at P;have W:Hid (qD v=⟨K,y,ff,⟨#[]⟩⟩):=by show _=_;rw[uh s,af];rfl
     clear af F s q ab A;go_wp2_with fail;go_call P as e w7 ⟨rfl,b7⟩;have R:=(uh Q).below b7;have k7:=R.c;have f7:=R.fz 2;simp only at k7;have aa:=zb (R.s2 ff);have z:=zb ((CP (by have:=uh ad;omega) r b7).setCell (p:=⟨w3.heap.size+1,2,ν⟩) (ye _) ff);clear P b7 R
     cases T with
     | false=>
      have g:=zb M;obtain⟨-,a,b⟩:=uh i _ z;have r0:=a.c;have rz:=a.fz;have f:=zb a;have d:=zb b;clear a b;go_wp2;refine bodyPost_ret (Qh rfl _ _ w.heap.size 82 #[_,_,_,_] (0,0) _ _ rfl rfl (Z3 f [_,_,_,_] rfl) underlying82 rfl kr) rfl ?_;exact⟨Zd d (ye _) [_,_,_,_] 0,YF,by rw[uh g];rfl,fun h=>by rw[uh g]at h;cases h⟩
     | true=>
      obtain⟨⟨y2,y3⟩,_,_⟩:=uh i _ z;obtain⟨-,a,b⟩:=uh i _ z;have r0:=a.c;have rz:=a.fz;obtain⟨x0,x1,x2,x3⟩:=(uh aa).c;simp only at x0 x1 x2 x3;have f:=zb a;have d:=zb b;have B:=zb M;have C:=zb ((uh W).symm);clear a b;go_wp2;refine bodyPost_ret (Qh rfl _ _ w.heap.size 82 #[_,_,_,_] (0,0) _ _ rfl rfl (Z3 f [_,_,_,_] rfl) underlying82 rfl kr) rfl ?_;exact⟨Zd d (ye _) [_,_,_,_] 0,(⟨K,y,ff,⟨#[]⟩⟩:zk),by rw[uh B];rfl,fun _=>uh C⟩
    | false=>
     clear P ab
     cases m with
     | false=>
      clear A L;obtain⟨-,a,b⟩:=uh i _ r;have r0:=a.c;have rz:=a.fz;obtain⟨x0,x1,x2,x3⟩:=(uh Q).c;simp only at x0 x1 x2 x3;have f:=zb a;have d:=zb b;have B:Hid (ZX v=ξ):=by show _=_;rw[uh q];rfl
      have C:Hid ((⟨K,y,⟨#[]⟩,⟨#[]⟩⟩:zk)=qD v):=by show _=_;rw[uh s];rfl
      clear a b;go_wp2;refine bodyPost_ret (Qh rfl _ _ w.heap.size 82 #[_,_,_,_] (0,0) _ _ rfl rfl (Z3 f [_,_,_,_] rfl) underlying82 rfl kr) rfl ?_;exact⟨Zd d (ye _) [_,_,_,_] 0,(⟨K,y,⟨#[]⟩,⟨#[]⟩⟩:zk),by rw[uh B];rfl,fun _=>uh C⟩
     | true=>
      go_wp2_with fail;go_call A as e w6' ⟨rfl,⟨x,rfl,hn⟩ |⟨x,u,rfl,hu,hr⟩⟩
      .have g:Hid (ZX v=ζ):=by show _=_;rw[uh q,hn];rfl
       clear A L hn s q;obtain⟨-,a,b⟩:=uh i _ r;have r0:=a.c;have rz:=a.fz;have f:=zb a;have d:=zb b;clear a b;go_wp2;refine bodyPost_ret (Qh rfl _ _ w.heap.size 82 #[_,_,_,_] (0,0) _ _ rfl rfl (Z3 f [_,_,_,_] rfl) underlying82 rfl kr) rfl ?_;exact⟨Zd d (ye _) [_,_,_,_] 0,YF,by rw[uh g];rfl,fun h=>by rw[uh g]at h;cases h⟩
      .obtain⟨u1,u2,u3⟩:=uh L u hu;obtain⟨ty3,q3,rfl⟩:=Y1 hr;have HCT:=zb (Fg u u1 u2 ty3 q3 w6 S hr (fun k hk=>yF (uh HSL k hk) hz6) (uh HPW w6 HB6W) om);have M:Hid (ZX v=ξ):=by show _=_;rw[uh q,hu];rfl
       have W:Hid (qD v=⟨K,y,⟨#[]⟩,ze (ct u)⟩):=by show _=_;rw[uh s,hu];rfl
       clear A L hu hr s q u1 u2 u3;generalize ze (ct u)=vv at *;go_wp2_with fail;go_call HCT as e w7 ⟨rfl,b7⟩;have R:=(uh Q).below b7;have k7:=R.c;have f7:=R.fz 3;simp only at k7;have aa:=zb (R.s3 vv);have z:=zb ((CP (by have:=uh ad;omega) r b7).setCell (p:=⟨w3.heap.size+1,3,ν⟩) (ye _) vv);clear HCT b7 R;obtain⟨-,a,b⟩:=uh i _ z;have r0:=a.c;have rz:=a.fz;obtain⟨x0,x1,x2,x3⟩:=(uh aa).c;simp only at x0 x1 x2 x3;have f:=zb a;have d:=zb b;have B:=zb M;have C:=zb ((uh W).symm);clear a b;go_wp2;refine bodyPost_ret (Qh rfl _ _ w.heap.size 82 #[_,_,_,_] (0,0) _ _ rfl rfl (Z3 f [_,_,_,_] rfl) underlying82 rfl kr) rfl ?_;exact⟨Zd d (ye _) [_,_,_,_] 0,(⟨K,y,⟨#[]⟩,vv⟩:zk),by rw[uh B];rfl,fun _=>uh C⟩
theorem CQ(s:Bs)(w:Wo)(hw:qC w)(hs:s.size<=34000000):
  δ prog 10 #[.string s] w fun e w'=>∃ v,e=ε (τ #[v,ι κ (ZL s).2.1,ι κ (ZL s).2.2])/\zX w' w.heap.size v (ZL s).1/\Bw w w':=by
 obtain⟨i0,U,W,X,Y⟩:=info_parts Sf;have S:=zb (SO s w hw.tab hw.err hw.pow (by omega));have g:Hid (∀ wx:Wo,zX wx w.heap.size (ς ν 0 0) []):=fun wx=>World.ownsRow_nil wx w.heap.size 82 4;have HW:=zb hw
 cases hr:Zn s with
 | inl c=>
  have hc:=XD hr;have HR:Hid (ZL s=([],1,0)):=by show _=_;unfold ZL;rw[hr]
  rw[hr]at S;have t2:((c:Int) !=0)=ξ:=by simp;omega
  have t3:¬ (c:Int)=0:=by omega
  have t4:¬ c=0:=by omega
  go_in;go_wp2_with fail;refine (uh S).mono ?_;rintro e o ⟨N,rfl⟩;have f:=zb N;go_wp2;go_ret3;exact⟨_,by rw[uh HR];rfl,by rw[uh HR];exact uh g _,uh f⟩
 | inr a=>
  have hgd:=Z7.of hr;rw[hr]at S;by_cases h5:kd a=5
  .obtain⟨l,rfl⟩:∃ l,a= .arr l:=by cases a<;>first | exact⟨_,rfl⟩ |(simp[kd]at h5)
   have HR0:Hid (100<l.toL.length->ZL s=([],3,100)):=fun h=>by unfold ZL;rw[hr];simp only;rw[yg h]
   have HR1:Hid (¬ 100<l.toL.length->∀ i (U:i<l.toL.length),ZX l.toL[i]=ζ->(∀ j (h:j<l.toL.length),j<i->ZX l.toL[j]=ξ)->ZL s=([],4,(i:Int))):=fun h i U P hg=>by
    have hf:l.toL.findIdx? (fun v=>!ZX v)=η i:=by
     rw[List.findIdx?_eq_some_iff_getElem];exact⟨U,by simp[P],fun j F=>by simp[hg j (by omega) F]⟩
    unfold ZL;rw[hr];simp only;rw[yf h,hf]
   have HR2:Hid (¬ 100<l.toL.length->(∀ j (h:j<l.toL.length),ZX l.toL[j]=ξ)->ZL s=(l.toL.map qD,0,0)):=fun h hg=>by
    have hf:l.toL.findIdx? (fun v=>!ZX v)=ν:=by
     rw[List.findIdx?_eq_none_iff];intro x hx;obtain⟨j,F,rfl⟩:=yY.1 hx;simp[hg j F]
    unfold ZL;rw[hr];simp only;rw[yf h,hf]
   have ag:=zb hgd;go_in;go_wp2_with fail;refine (uh S).mono ?_;rintro e o ⟨N,ty,q,rfl,C⟩;have G:=C;rw[zi]at G;obtain⟨ab,sv,xs,e1,s1,g1,r1,aa⟩:=G;injection e1 with e0 e1;subst e0;subst e1;obtain⟨x1,O,c1,rfl,u,m⟩:=Gt r1;obtain⟨n1,z⟩:=Yo l xs aa;have L:=zb (zeA ab _ o g1);have f:=zb N;have Z:=N.size;have HD:Hid (∀ k (Q:k<xs.length) (hk':k<l.toL.length),∃ t q,x1=η ⟨O,0,ν⟩/\(∀ wx,Bw o wx->wx.cell? ⟨O,k,ν⟩=η (φ t q)/\δ prog 37 #[φ t q] wx (OO l.toL[k] wx))):=fun k Q hk'=>by
    obtain⟨t,q,he⟩:=Y1 (z k Q hk');have hu:=(uh ag).item (yt hk');obtain⟨ha,hag⟩:=u (by omega);refine⟨t,q,ha,fun wx hx=>⟨?_,?_⟩⟩
    .rw[← he];exact (hx.cell (p:=⟨O,k,ν⟩) hag.2).trans (m k Q)
    .have V:=z k Q hk';rw[he]at V;exact zfC _ hu.ok hu.tw (by have:=hu.len;omega) t q wx _ (zi.keep (fun j F=>hx.block j F.2) (fun _ h=>h) _ _ V) (fun j F=>yF F.2 hx.size) ((uh HW).up (zh (uh f) hx))
   clear S C s1 g1 r1 aa u m z N;generalize l.toL=d at *;generalize xs.length=n at *;subst n1;go_wp2_with fail;refine (uh L).mono ?_;rintro e w2' ⟨rfl,rfl⟩;by_cases h100:100<d.length
   .have t1:(100:Int)<(d.length:Int):=by omega
    have HR:=zb (uh HR0 (by omega));go_wp2;go_ret3;exact⟨_,by rw[uh HR];rfl,by rw[uh HR];exact uh g _,uh f⟩
   .have t1:¬ (100:Int)<(d.length:Int):=by omega
    have hx100:d.length<=100:=by omega
    go_wp2_with (at_make;refine wpList_make_own _ rfl _ _ 28 rfl o.heap.size 82 i0 (γ #[ι κ 0,σ Β,σ Β,σ Β]) 4 underlying28 U W X .i64 .i64 _ d.length rfl rfl rfl (by rw[Y];omega) (by unfold maxLen;omega) (ye _) ?_);intro w3 R B;have ad:=zb ((yI _ _).grown B (ye _) (by intro k Q;cases Q));have HO3:Hid (zX w3 o.heap.size _ []):=R;go_wp2;go_loopw [9,36] (fun lv i wr=>∃ k:Nat,k<=d.length/\i=ι κ k/\zX wr o.heap.size lv ((d.take k).map qD)/\Bw o wr/\∀ j (h:j<d.length),j<k->ZX d[j]=ξ) (fun _ i _=>d.length - (intOf i).toNat)
    case atStart=>exact⟨0,yu _,rfl,uh HO3,uh ad,fun j _ h=>by omega⟩
    case round=>
     obtain⟨k,Q,rfl,ho,P,E⟩:=hrel;have HO:=zb ho;have K:=zb P;have D:=zb E;have hbz:=P.size;by_cases hlt:k<d.length
     .have hltI:(k:Int)<(d.length:Int):=by omega
      have y:k<d.length:=by omega
      obtain⟨t,q,rfl,hdx⟩:=uh HD k hlt y;obtain⟨hc,hd⟩:=hdx wr P;have af:=zb hd;have HST:Hid ((d.take (k+1)).map qD=(d.take k).map qD++[qD d[k]]):=by
       show _=_
       rw[yz y,yx];rfl
      have hal:((d.take k).map qD).length<=100:=by rw[yl,ym];omega
      go_wp2_with fail;refine (uh af).mono ?_;rintro e H ⟨b5,mo,rfl,hmo⟩;have b35:=zh (uh K) b5
      cases hok:ZX d[k]with
      | false=>
       have HR:=zb (uh HR1 (by omega) k y hok (uh D));have hN:=zt H (χ (qz mo) 82);have r:=zb (zh (uh f) (zh b35 hN));go_wp2;go_ret3;exact⟨_,by rw[uh HR];rfl,by rw[uh HR];exact uh g _,uh r⟩
      | true=>
       obtain rfl:=hmo hok;have I:Hid (∀ j (h:j<d.length),j<k+1->ZX d[j]=ξ):=fun j h F=>by
        by_cases e:j=k
        .subst e;exact hok
        .exact uh D j h (by omega)
       generalize qD d[k]=mo at *;generalize (d.take k).map qD=A at *;have hN:=zt H (χ (qz mo) 82);have hM:=zt (H.alloc (χ (qz mo) 82)) (χ (qz mo) 82);have zN:(H.alloc (χ (qz mo) 82)).heap.size=H.heap.size+1:=by simp
       have lM:=Sg (H.alloc (χ (qz mo) 82)) mo;rw[zN]at lM;have bN:=zh b5 (zh hN hM);have T:Hid (zX _ o.heap.size u9 A):=Zh (uh HO) bN;have J:=zb (zh (uh K) bN);have ah:=zb lM;go_wp2_with (at_builtin;refine wpList_append_own _ rfl (.tmp 49) (.tmp 51) 28 rfl o.heap.size 82 i0 (γ #[ι κ 0,σ Β,σ Β,σ Β]) 4 56 underlying28 U W X Y rfl (by decide) _ _ _ rfl (uh T) ⟨H.heap.size+1,0,ν⟩ 1 1 (Jn mo) rfl rfl (uh ah) (Sh mo) (by unfold maxLen;omega) (by omega) (uh J).size ?_);generalize ((H.alloc (χ (qz mo) 82)).alloc (χ (qz mo) 82))=wM at *;intro l6 w6 o6 g6 gx6;have M:=zb (zX.step o6);have r:=zb ((uh J).grown g6 (uh J).size (fun b P=>((uh T).lt b P).1));go_wp2;go_roundw
       case rel=>exact⟨k+1,by omega,by go_num,by rw[uh HST];exact uh M,uh r,uh I⟩
       case measure=>simp[intOf];omega
     .have hkn:k=d.length:=by omega
      subst hkn;rw[Ι]at HO;have HR:=zb (uh HR2 (by omega) (fun j h=>E j h h));have M:Hid (zX wr w.heap.size u9 (d.map qD)):=qH (uh HO) Z;have r:=zb (zh (uh f) (uh K));go_wp2;go_ret3;exact⟨_,by rw[uh HR];rfl,by rw[uh HR];exact uh M,uh r⟩
  .have HR:Hid (ZL s=([],2,0)):=by show _=_;unfold ZL;rw[hr];cases a<;>first | rfl | exact absurd rfl h5
   go_in;go_wp2_with fail;refine (uh S).mono ?_;rintro e o ⟨N,ty,q,rfl,C⟩;have L:=zb (zez a ty q o _ C h5);have f:=zb N;go_wp2_with fail;refine (uh L).mono ?_;rintro e w2' ⟨rfl,rfl⟩;go_wp2;go_ret3;exact⟨_,by rw[uh HR];rfl,by rw[uh HR];exact uh g _,uh f⟩
def Nw:Bs:=⟨#[48,49,50,51,52,53,54,55,56,57]⟩
theorem zfD(c:UInt8):(Nw.data.toList.contains c)=zS c.toNat:=by
 rw[Bool.eq_iff_iff,QW];show ([48,49,50,51,52,53,54,55,56,57]:List UInt8).contains c=ξ↔_
 rw[List.contains_iff_mem];constructor
 .intro h;simp only[Ε,List.not_mem_nil,or_false]at h;rcases h with rfl | rfl | rfl | rfl | rfl | rfl | rfl | rfl | rfl | rfl<;>decide
 .rintro⟨a,b⟩;have e:c=UInt8.ofNat c.toNat:=by rw[UInt8.ofNat_toNat]
  have:c.toNat=48∨c.toNat=49∨c.toNat=50∨c.toNat=51∨c.toNat=52∨c.toNat=53∨c.toNat=54∨c.toNat=55∨c.toNat=56∨c.toNat=57:=om;rcases this with h | h | h | h | h | h | h | h | h | h<;>(rw[h]at e;subst e;decide)
theorem zfE(t:List UInt8):Lib.trimLeftS t Nw.data.toList=t.dropWhile fun c=>zS c.toNat:=by
 unfold Lib.trimLeftS;congr 1;funext c;exact zfD c
theorem CR:∀ (t:List UInt8),(t.dropWhile fun c=>zS c.toNat)=[]↔t.all (fun c=>zS c.toNat)=ξ
 | []=>by simp
 | c :: r=>by
  rw[List.dropWhile_cons,List.all_cons]
  cases h:zS c.toNat with
  | true=>simpa using CR r
  | false=>simp
theorem zfF(s:Bs)(w:Wo):
  δ prog 192 #[s,Nw] w fun e w'=>e=ε (σ (ze (s.data.toList.dropWhile fun c=>zS c.toNat)))/\Below w w w':=by
 have:=Any.strings_TrimLeft_laid Tryz.laysTrim kr s Nw w dc (ascii_of_all dc);rw[zfE]at this;exact this
theorem zfG(v:ω)(ts:List (List UInt8))(w:Wo)(h:OT w B v ts)(hm:ts.length+JQ ts<=1048576):
  δ prog 143 #[v] w fun e w'=>e=ε (σ (ze (qm ts)))/\Below w w w':=by
 obtain⟨a,g,b,rfl,d,_⟩:=h.shape;have e:ts.length=(ts.map zG).length:=sm;have:=MS a g 0 b (ts.map zG) w d (by rw[F8,← e];exact hm);rw[← e,Ug]at this;exact this
theorem zfH(xa:Option Addr)(xb xc:Nat)(r:List (List UInt8))(t:List UInt8)(w:Wo)(h:SS w xa xb 0 ((r++[t]).map zG))(hm:r.length+1+JQ (r++[t])<=1048576):
  δ prog 143 #[ς xa r.length xc] w fun e w'=>e=ε (σ (ze (qm r)))/\Below w w w':=by
 rw[F7]at hm;have a:=Cs (n:=r.length) h;rw[← List.map_take,List.take_left]at a;have:=MS xa xb 0 xc (r.map zG) w a (by rw[F8,yl];omega);rw[yl,Ug]at this;exact this
theorem zfI(s:Bs)(w:Wo):
  δ prog 142 #[s] w fun e w'=>e=ε (θ (Y3 s.data.toList))/\Below w w w':=by
 have g:(s.toList ==[45])=(s.data.toList ==[45]):=by rw[Γ]
 have h:s.toList.isEmpty=(s.data.toList ==[]):=by rw[Γ];cases s.data.toList<;>rfl
 have d:=zb (zfF s w);have i:(ze (s.data.toList.dropWhile fun c=>zS c.toNat)).toList.isEmpty=s.data.toList.all fun c=>zS c.toNat:=by
  rw[Γ,Bool.eq_iff_iff,List.isEmpty_iff];exact CR s.data.toList
 have a:Y3 s.data.toList=((!(s.data.toList ==[]) && s.data.toList.all fun c=>zS c.toNat) || s.data.toList ==[45]):=rfl;rw[a];generalize ze (s.data.toList.dropWhile fun c=>zS c.toNat)=l at *;generalize (s.data.toList.all fun c=>zS c.toNat)=k at *;generalize (s.data.toList ==[])=f at *;generalize (s.data.toList ==[45])=j at *
 cases j with
 | true=>
  go_in;go_wp2;go_ret;exact⟨sm,yI _ _⟩
 | false=>
  cases f with
  | true=>
   go_in;go_wp2;go_ret;exact⟨sm,yI _ _⟩
  | false=>
   go_in;go_wp2_with fail;go_call d as e w2 ⟨rfl,b2⟩;have b:=zb b2;go_wp2;go_ret;exact⟨sm,b⟩
theorem CS(b:Bool)(v:ω)(ts:List (List UInt8))(w:Wo)(h:OT w B v ts)(hm:ts.length+JQ ts<=1048576):
  δ prog 92 #[v,θ b] w fun e w'=>e=ε (σ (ze (qm (if b then QC ts else ts))))/\Below w w w':=by
 have d:=zb fun wx (hx:Below w w wx)=>zfG v ts wx (Zh h hx) hm
 cases b with
 | false=>
  obtain⟨a,g,f,rfl,-,-⟩:=h.shape;have p:ts.length<=1048576:=om;rw[yf sm];have k:=zb (uh d w (yI _ _));go_in;go_wp2_with fail;go_call k as e w2 ⟨rfl,b2⟩;have i:=zb b2;go_wp2;go_ret;exact⟨rfl,i⟩
 | true=>
  rw[yg rfl];obtain⟨a,g,f,rfl,q,-⟩:=h.shape;rcases List.eq_nil_or_concat ts with rfl |⟨r,t,rfl⟩
  .have k:=zb (uh d w (yI _ _));go_in;go_wp2_with fail;go_call k as e w2 ⟨rfl,b2⟩;have i:=zb b2;go_wp2;go_ret;exact⟨rfl,i⟩
  .rw[List.concat_eq_append]at *;obtain⟨s,rfl⟩:∃ s:Bs,t=s.data.toList:=⟨ze t,by simp[ze]⟩;rw[yh,yS]at hm;have z:Hid (∀ wx,Below w w wx->_):=fun wx hx=>zfH a g f r s.data.toList wx (q.below hx) hm;obtain rfl:=q.ad sm;have c0:=q.cell r.length sm;rw[show ((r++[s.data.toList]).map zG).getD r.length Β=s by simp[List.getD_eq_getElem?_getD,zG],Nat.zero_add]at c0;have p:(r++[s.data.toList]).length=r.length+1:=sm;have E:r.length<=f:=by
    rcases h.2 with ⟨l,C⟩ |⟨H,x,A,l,_,_,D,_⟩
    .simp at C
    .injection l with _ _ l;rw[l];rw[p]at D;omega
   have y:(r.length:Int)<=(f:Int):=om;rw[p]at d ⊢;have F:r.length<=1048576:=om;have o:Hid (Y3 s.data.toList=ξ->QC (r++[s.data.toList])=r):=Nk;have m:Hid (Y3 s.data.toList=ζ->QC (r++[s.data.toList])=r++[s.data.toList]):=Nl;have u:=zb (zfI s w);generalize hR:r.length=n at *;generalize QC (r++[s.data.toList])=I at *;generalize Y3 s.data.toList=G at *
   cases G with
   | true=>
    obtain rfl:=uh o rfl;go_in;go_wp2_with fail;go_call u as e w2 ⟨rfl,b2⟩;have k:=zb (uh z w2 b2);have j:=zb b2;go_wp2_with fail;go_call k as e w3 ⟨rfl,b3⟩;have i:=zb (zh j b3);go_wp2;go_ret;exact⟨rfl,i⟩
   | false=>
    obtain rfl:=uh m rfl;go_in;go_wp2_with fail;go_call u as e w2 ⟨rfl,b2⟩;have k:=zb (uh d w2 b2);have j:=zb b2;go_wp2_with fail;go_call k as e w3 ⟨rfl,b3⟩;have i:=zb (zh j b3);go_wp2;go_ret;exact⟨rfl,i⟩
theorem zfJ(w:Wo)(x:List UInt8):OT (w.alloc (χ #[(ze x)] 9)) w (ς (η w) 1 1) [x]:=
 World.ownsRow_lit w #[(ze x)] 1 (ye _) mo rfl
theorem zfK(m:zk)(B g:Nat)(pv fv vv:ω)(v:JV)(w:Wo)(h:Xe w B m g pv fv vv v)(hok:ZD m=ξ)(h1:m.path.size<=1048576)(h2:m.src.size<=1048576):
  δ prog 43 #[g] w fun e w'=>∃ r,e=ε r/\OT w' w r (VI m)/\Below w w w':=by
 obtain⟨i0,Z,M,N,O⟩:=info_parts GU;obtain⟨-,-,qp,qs,-,-,-⟩:=SW hok;have lp:=Nm qp;have ls:=Nm qs;have kb:=h.blk;have L:=(yC.1 kb).1;have f:=zb fun wx (hx:Below w w wx)=>(hx.block g L).trans kb;have T:Hid (∀ wx,Below w w wx->δ prog 92 #[pv,θ (YX m.kind)] wx fun e w'=>e=ε (σ (ze (qm (Fs m))))/\Below wx wx w'):=fun wx hx=>CS _ pv _ wx (Zh h.path hx) om;have S:Hid (∀ wx,Below w w wx->δ prog 92 #[fv,θ (YW m.kind)] wx fun e w'=>e=ε (σ (ze (qm (Fu m))))/\Below wx wx w'):=fun wx hx=>CS _ fv _ wx (Zh h.src hx) om;have i:Hid (VI m=qm (Fs m) ::(if Z1 m.kind then [qm (Fu m)]else [])):=rfl;have s:Below w w w.drew:=(yI _ _).drew;have kd:=uh f w.drew s;unfold Xd at kd f;generalize qm (Fs m)=l at *;generalize qm (Fu m)=y at *;generalize YX m.kind=sp at *;generalize YW m.kind=sf at *;generalize VI m=Q at *;have d7:w.drew.cell? ⟨g,7,ν⟩=η pv:=yG kd 7;have d5:w.drew.cell? ⟨g,5,ν⟩=η (θ sp):=yG kd 5;have I:=zb (uh T w.drew s);go_in;go_wp2_with fail;go_region_law (go_simp;go_call I as e w2 ⟨rfl,b2⟩)
 all_goals (
  have D:=zh s b2;have Y:=zt w2 (χ #[(ze l)] 9);have P:=zh D Y;have kA:=uh f _ P;have F:=D.size;have zA:(w2.alloc (χ #[(ze l)] 9)).heap.size=w2.heap.size+1:=sm;have o:=zb (qH (zfJ w2 l) F);have a:=zb P;have q:(w2.alloc (χ #[(ze l)] 9)).cell? ⟨g,2,ν⟩=η (θ (Z1 m.kind)):=yG kA 2;have V:Hid (w.heap.size<(w2.alloc (χ #[(ze l)] 9)).heap.size):=by show _<_;omega
  have U:=zb F
  cases hf:Z1 m.kind with
  | false=>
   rw[hf]at i q;have J:Hid (Q=[l]):=uh i;go_wp2;go_ret;exact⟨_,rfl,by rw[uh J];exact uh o,a⟩
  | true=>
   rw[hf]at i q;have J:Hid (Q=[l]++[y]):=uh i;generalize hwA:w2.alloc (χ #[(ze l)] 9)=x at *;have k:Below x x x.drew:=(yI _ _).drew;have kd:=uh f x.drew (zh a k);have X:x.drew.cell? ⟨g,8,ν⟩=η fv:=yG kd 8;have W:x.drew.cell? ⟨g,4,ν⟩=η (θ sf):=yG kd 4;have A:=zb (uh S x.drew (zh a k));go_wp2_with fail;go_region_law (first
    |(
      go_simp;go_call A as e w4 ⟨rfl,b4⟩;have p:=zh k b4;have K:=zt w4 (χ #[(ze y)] 9);have C:=zb (Zh (Zh o p) K);have z:Hid (∀ j u,[Value.string (ze y)][j]?=η u->(w4.alloc (χ #[(ze y)] 9)).cell? ((w4:Addr).add j)=η u):=QU _ _ _;have d:=zb (zh a (zh p K));clear K)
    |(
      refine F3 rfl (.tmp 20) (.tmp 31) 35 rfl w 9 i0 Β 1 16 underlying35 Z M N O rfl dc _ _ _ rfl (by exact C) w4 1 1 [(ze y)] rfl rfl (by exact z) (Ge _) (by rw[yS];unfold maxLen;decide) (by rw[yS];decide) (by exact d.size) ?_;intro R w5 n E))
   all_goals (
    have G:=zb (d.grown E d.size (fun b hb=>(o.lt b hb).1));have H:Hid (OT w5 w R ([l]++[y])):=n;clear n E C z d b4 p k X W A q;go_wp2;go_ret;exact⟨R,rfl,by rw[uh J];exact uh H,G⟩))
theorem CT(v:ω)(ms:List zk)(bl:List Nat)(w:Wo)(h:zw Qq w v ms bl)(hs:YT ms)(hw:qC w):
  δ prog 13 #[v] w fun e w'=>∃ r,e=ε r/\OT w' w r (ZN ms)/\Below w w w':=by
 have W:=hs.1;obtain⟨xa,xc,rfl,-,Y⟩:=h.form;have hln:=hs.2;have H:=zb h;have S:=zb Y;have L:=zb W;have HW:=zb hw;have s:Hid (OT w w (ς ν 0 0) []):=⟨rfl,.inl ⟨rfl,rfl⟩⟩;by_cases n:100<ms.length
 .have C:(100:Int)<(ms.length:Int):=om;have T:Hid (ZN ms=[]):=by show _=_;unfold ZN;rw[yg n]
  go_in;go_wp2;go_ret;exact⟨_,rfl,by rw[uh T];exact uh s,yI _ _⟩
 .have C:¬ (100:Int)<(ms.length:Int):=om;have T:Hid (ZN ms=Qj (Jy ms)):=by show _=_;unfold ZN;rw[yf n]
  go_in;go_wp2;go_loopw [3,13] (fun lv i wr=>∃ k:Nat,k<=ms.length/\i=ι κ k/\OT wr w lv (Jy (ms.take k))/\Below w w wr) (fun _ i _=>ms.length - (intOf i).toNat)
  case atStart=>exact⟨0,yu _,rfl,s,yI _ _⟩
  case round=>
   obtain⟨k,hk,rfl,ho,l⟩:=hrel;have U:(Jy (ms.take k)).length<=1000:=by
    have:=Fv (ms.take k);rw[ym]at this;omega
   have d:=zb ho;have j:=zb l;have V:=l.size;by_cases p:k<ms.length
   .have u:=zb (Cc p);obtain⟨g,rfl⟩:=uh S om;obtain⟨cs,ib,hE,E,-⟩:=(H.below l).at (yy p);obtain⟨rfl,-⟩:=hE;obtain⟨i1,i2,i3⟩:=uh L ms[k] (yt p);have c0:wr.cell? ⟨g,k*4,ν⟩=η (ι κ ms[k].kind):=(E 0 _ rfl).1;have c1:wr.cell? ⟨g,k*4+1,ν⟩=η (.string ms[k].path):=(E 1 _ rfl).1;have c2:wr.cell? ⟨g,k*4+2,ν⟩=η (.string ms[k].src):=(E 2 _ rfl).1;have c3:wr.cell? ⟨g,k*4+3,ν⟩=η (.string ms[k].val):=(E 3 _ rfl).1;generalize ms[k]=m at *;generalize Jy (ms.take k)=A at *;have hA:=zt wr (χ #[ι κ m.kind,m.path,m.src,m.val] 82);have y:=HW.up (zh j hA);have HA:=zb hA
    cases hok:ZD m with
    | false=>
     have M:=zb (BV m _ hok y i1 i2 i3);have D:Hid (Jr m=[]):=by show _=_;unfold Jr;rw[hok];rfl
     go_wp2_with fail;generalize (wr.alloc (χ #[ι κ m.kind,m.path,m.src,m.val] 82))=wA at *;go_call M as e w2 ⟨rfl,b2⟩;have a:=zb (zh HA b2);have G:=zb (zh j a);have P:=zb (Zh d a);go_wp2;go_roundw
     case rel=>exact⟨k+1,om,by go_num,by rw[uh u,uh D,yT];exact uh P,G⟩
     case measure=>simp[intOf];omega
    | true=>
     have M:=zb (BU m _ hok y i1 i2 i3);have D:Hid (Jr m=VI m):=by show _=_;unfold Jr;rw[hok];rfl
     have Q:Hid ((VI m).length<=2):=by show _<=_;rw[← uh D];exact Cb m
     have R:=zb fun (B gq:Nat) (pv fv vv:ω) (jv:JV) (wx:Wo) (hx:Xe wx B m gq pv fv vv jv)=>zfK m B gq pv fv vv jv wx hx hok i1 i2;go_wp2_with fail;generalize (wr.alloc (χ #[ι κ m.kind,m.path,m.src,m.val] 82))=wA at *;go_call M as e w2 ⟨gq,pv,fv,vv,jv,rfl,hat,b2⟩;have I:=zb (uh R _ gq pv fv vv jv w2 hat);have a:=zb (zh HA b2);generalize VI m=tp at *;go_wp2_with fail;go_call I as e w3 ⟨rv,rfl,o3,b3⟩;have x:=zh a b3;have o:=zb o3;have f:=zb (zh j x);have q:=zb (Zh d x);have z:=f.size;have htl:=uh Q;go_wp2_with (at_builtin;refine zkD rfl (.tmp 23) (.tmp 25) rfl rfl rfl q o z om ?_);intro l4 w4 o4 g4;have F:=zb (f.grown g4 z (fun b l=>(q.lt b l).1));have O:=zb o4;go_wp2;go_roundw
     case rel=>exact⟨k+1,om,by go_num,by rw[uh u,uh D];exact uh O,F⟩
     case measure=>simp[intOf];omega
   .have X:k=ms.length:=om;subst X;rw[Ι]at d U;have I:=zb (zfg _ _ wr d om);have K:Hid (ZN ms=Δ (Xg (Jy ms))):=by show _=_;rw[uh T];exact (zjC _).symm
    go_wp2_with fail;go_call I as e w2 ⟨rfl,o2,g2⟩;have a:=zb (j.grown g2 V (fun b l=>(d.lt b l).1));have J:=zb (zfh _ _ w2 o2 (by rw[Df];omega));have N:=zb o2;have Z:=a.size;go_wp2_with fail;go_call J as e w3 ⟨r3,rfl,o3,g3⟩;have f:=zb (a.grown g3 Z (fun b l=>(N.lt b l).1));have o:=zb o3;go_wp2;go_ret;exact⟨r3,rfl,by rw[uh K];exact uh o,f⟩
structure DA(B rb sb pb:Nat)(w w1 wr:Wo)(q:List UInt8)(sv:ω)(vs:List zj)(bl:List Nat)(pv:ω)(p:qa):Prop where
 lw:LW B rb sb w1 wr q sv vs bl
 kp:wr.heap[pb]?=η (χ #[pv,ι κ p.base,σ p.doc,ι κ p.tries] 30 (0,0))
 op:zX wr w1.heap.size pv p.ops
 k2:wr.heap[w.heap.size]?=η (χ #[ς ν 0 0] 25 (0,0))
 k3:wr.heap[w.heap.size+1]?=η (χ #[ς ν 0 0,ι κ 0,σ ⟨#[]⟩,ι κ 0] 30 (0,0))
 ge:w1.heap.size<=pb
 r2:w.heap.size+1<rb
section
variable {B rb sb pb:Nat} {w w1 wr w2:Wo} {q q':List UInt8} {sv v pv:ω} {vs vs':List zj} {bl bl':List Nat} {p:qa}
theorem Dl{cs:Array ω}{t:TypeId}(h:zX wr B pv ms)(hk:wr.heap[g]?=η (χ cs t (0,0)))(ht:t≠82):g ∉ pv.ownBlock.toList:=fun hm=>by
 have b:pv.ownBlock=η g:=by simpa using hm
 rcases h with ⟨_,⟨rfl,_⟩ |⟨j,f,i,rfl,_,a,_⟩⟩
 .cases b
 .have d:j=g:=by injection b
  rw[d,hk]at a;injection a with a;injection a with _ e;exact ht e
theorem DA.grown(h:DA B rb sb pb w w1 wr q sv vs bl pv p)(hl:LW B rb sb w1 w2 q' sv vs bl)(g:wr.grownBy w2 (η rb)):DA B rb sb pb w w1 w2 q' sv vs bl pv p:=by
 have d:∀ k,k≠rb->k<wr.heap.size->w2.heap[k]?=wr.heap[k]?:=fun k hn hl=>g.block k hl fun e=>by injection e with e;omega
 have j:=h.lw.lt;have f:=h.r2;have i:=h.ge;have a:∀ {k:Nat} {o:Obj},wr.heap[k]?=η o->k<wr.heap.size:=fun e=>(yC.1 e).1;exact⟨hl,(d _ om (a h.kp)).trans h.kp,Gg h.op fun b hb=>d b (by have:=h.op.orow.2.2 b hb;omega) (h.op.orow.1.lt b hb),(d _ om (a h.k2)).trans h.k2,(d _ om (a h.k3)).trans h.k3,h.ge,h.r2⟩
theorem DA.below(h:DA B rb sb pb w w1 wr q sv vs bl pv p)(hb:Below wr wr w2):DA B rb sb pb w w1 w2 q sv vs bl pv p:=h.grown (h.lw.below hb) (YV hb)
theorem DA.next(h:DA B rb sb pb w w1 wr q sv vs bl pv p)(hb:Below wr wr w2)(ho:zw Zf w2 v vs' bl')(hf:ZQ wr bl'):DA B rb sb pb w w1 (w2.setCell sb v) q v vs' bl' pv p:=by
 have a:=h.below hb;have i:=h.lw.ge;have g:=h.lw.lt;have f:=h.r2;have d:∀ k,k≠sb->(w2.setCell sb v).heap[k]?=w2.heap[k]?:=fun k hn=>Α w2 sb v k hn;exact⟨h.lw.next hb ho hf,(d pb fun e=>by have:=a.kp;rw[e,a.lw.k]at this;injection this with e;injection e with _ e;exact absurd e dc).trans a.kp,Gg a.op fun b hb=>d b fun e=>Dl a.op a.lw.k dc (e ▸ hb),(d _ om).trans a.k2,(d _ om).trans a.k3,h.ge,h.r2⟩
end
def DF(sb pb:Nat)(w wx:Wo)(d:List zj×qa):Prop:=∃ pa pc pv bl cl,wx.heap[sb]?=η (χ #[ς pa d.1.length pc] 25 (0,0))/\wx.heap[pb]?=η (χ #[pv,ι κ d.2.base,.string d.2.doc,ι κ d.2.tries] 30 (0,0)) /\
 wx.heap[w.heap.size]?=η (χ #[ς ν 0 0] 25 (0,0))/\wx.heap[w.heap.size+1]?=η (χ #[ς ν 0 0,ι κ 0,σ ⟨#[]⟩,ι κ 0] 30 (0,0))/\zw Zf wx (ς pa d.1.length pc) d.1 bl/\zw Qq wx pv d.2.ops cl/\(∀ b∈cl,w.heap.size+1<b)/\Bw w wx
theorem DA.fin{pa:Option Addr}{pc:Nat}(h:DA B rb sb pb w w1 wr q (ς pa vs.length pc) vs bl pv p)(hB:Below w w w1):DF sb pb w wr (vs,p):=by
 have d:=h.lw.lt;have a:=h.r2;exact⟨pa,pc,pv,bl,_,h.lw.k,h.kp,h.k2,h.k3,h.lw.row,h.op.orow.1,fun b hb=>by have:=h.op.orow.2.2 b hb;omega,XW hB h.lw.ds.gr om fun j e=>by injection e with e;omega⟩
theorem DA.spo(h:DA rb rb sb pb w w1 wr q sv vs bl pv p)(hB:Below w w w1)(o:zw Zf w2 (ς a S.length c) S bl')(f:Fr (rb :: bl) wr w2):DF sb pb w (w2.setCell sb (ς a S.length c)) (S,p):=by
 have D:=h.lw.lt;have B:=h.r2;have E:=h.lw.ge;have F:=h.lw.ds.size;have x:=hB.size;have l:∀ b∈bl,w1.heap.size<=b:=h.lw.fs.2;have g:∀ {k:Nat} {o:Obj},wr.heap[k]?=η o->k≠rb->k ∉ bl->w2.heap[k]?=η o:=fun e n1 n2=>(f.block _ (yC.1 e).1 fun hm=>(Ε.1 hm).elim n1 n2).trans e;have m:=g h.lw.k om h.lw.ne;have d:∀ {k:Nat} {o:Obj},w2.heap[k]?=η o->k≠sb->(w2.setCell sb (ς a S.length c)).heap[k]?=η o:=fun e n=>(Α w2 sb _ _ n).trans e;have C:=h.ge;have r:∀ k,k<w1.heap.size->k ∉ bl:=fun k g hm=>by have:=l k hm;omega
 have z:zX (w2.setCell sb (ς a S.length c)) w1 pv p.ops:=Gg h.op fun b hb=>by
  have A:=h.op.orow.2.2 b hb;have v:=h.op.orow.1.lt b hb;have y:b≠sb:=fun e=>Dl h.op h.lw.k dc (e ▸ hb);refine (Α w2 sb _ b y).trans (f.block _ v fun hm=>(Ε.1 hm).elim om fun hm=>?_);obtain⟨s,t,u,i⟩:=Yr h.lw.row b hm;exact Dl h.op u (fun e=>by rw[e]at i;exact absurd i dc) hb
 exact⟨a,c,pv,bl',_,heap_setCell_same _ _ 0 _ _ _ m,d (g h.kp om (YL h.kp (Yr h.lw.row) dc)) (Md h.kp h.lw.k dc),d (g h.k2 om (r _ om)) om,d (g h.k3 om (r _ om)) om,o.other (YL m (Yr o) dc) 0 _,z.orow.1,fun b hb=>by have:=h.op.orow.2.2 b hb;omega,Zd ((XW hB h.lw.ds.gr om fun j e=>by injection e with e;omega).trans (f.below (fun b hb=>(Ε.1 hb).elim om fun hm=>by have:=l b hm;omega) om)) om [_] 0⟩
def Dm(i c:Nat)(rb sb pb:Nat)(w w1 wx:Wo)(q:List UInt8)(sv:ω)(vs:List zj)(bl:List Nat)(pv:ω)(p:qa)(d:List zj×qa):Prop:=
 (1<=c/\c<=i->DF sb pb w wx d)/\(¬ (1<=c/\c<=i)->DA rb rb sb pb w w1 wx q sv vs bl pv p)
theorem Dm.skip{i:Nat}{d:List zj×qa}(h:Dm i c rb sb pb w w1 wx q sv vs bl pv p d)(hc:c≠i+1):Dm (i+1) c rb sb pb w w1 wx q sv vs bl pv p d:=
 ⟨fun h'=>h.1 om,fun h'=>h.2 om⟩
theorem CU{x y:Int}{d:Nat}(h:x=y↔c=d):∃ b,(x ==y)=b/\Hid (b=ξ↔c=d):=⟨_,rfl,yD.trans h⟩
noncomputable def CW(k:Nat)(vs:List zj)(t:List UInt8×List UInt8):List zj×Bs:=(if k % 16=14 then (UJ vs t.2).1 else vs,if k % 4=3 then (Uz (ze t.1) t.2).1 else ze t.1)
noncomputable def UN(q:List UInt8):List zj×Bs:=CW (nx q).1 (Vj 3 (nx q).2).1 (Ys (Vj 3 (nx q).2).1 4 (Vj 3 (nx q).2).2)
theorem CY(hG:YK n vs)(q:List UInt8):(ze (Ys vs 4 q).1).size<=20000000:=by
 obtain⟨k,g,r,h,f,-,b,d⟩:=Cu hG;have a:=Cw d 4 q;rw[zL];exact Cv a.1 a.2 _
theorem zfL(q:List UInt8):JN (UN q).1/\(UN q).2.size<=33554432:=by
 unfold UN CW;have a:=CH 3 dc (nx q).2;have b:=CY a (Vj 3 (nx q).2).2;constructor
 .simp only;split
  .exact zfb a _
  .exact a.vin
 .simp only;split
  .have:=Th (ze (Ys (Vj 3 (nx q).2).1 4 (Vj 3 (nx q).2).2).1) (nx (Ys (Vj 3 (nx q).2).1 4 (Vj 3 (nx q).2).2).2).1;unfold Uz;simp only;exact yQ (this _) om
  .omega
def CZ(B:Nat)(w:Wo)(d:List zj×Bs)(e:Ending)(w':Wo):Prop:=∃ sv bl,e=ε (τ #[γ #[sv],.string d.2])/\zw Zf w' sv d.1 bl/\Below B w w'
structure EB(rb sb:Nat)(w w1 wr:Wo)(q:List UInt8)(sv:ω)(vs:List zj)(bl:List Nat):Prop where
 lw:LW rb rb sb w1 wr q sv vs bl
 k2:wr.heap[w.heap.size]?=η (χ #[ς ν 0 0] 25 (0,0))
 r2:w.heap.size<rb
theorem EB.step(h:EB rb sb w w1 wr q sv vs bl)(d:DX rb rb wr q' w2):EB rb sb w w1 w2 q' sv vs bl:=
 ⟨h.lw.step d,d.kv h.lw.ds.rd dc h.k2,h.r2⟩
theorem EB.below(h:EB rb sb w w1 wr q sv vs bl)(hb:Bw wr w2):EB rb sb w w1 w2 q sv vs bl:=
 ⟨h.lw.below hb,(hb.block _ (yC.1 h.k2).1).trans h.k2,h.r2⟩
def EF(sb:Nat)(w wx:Wo)(S:List zj):Prop:=∃ a c bl,wx.heap[sb]?=η (χ #[ς a S.length c] 25 (0,0))/\wx.heap[w.heap.size]?=η (χ #[ς ν 0 0] 25 (0,0))/\zw Zf wx (ς a S.length c) S bl/\Bw w wx
theorem EB.fin(h:EB rb sb w w1 wr q (ς a vs.length c) vs bl)(hB:Bw w w1):EF sb w wr vs:=by
 have b:=h.r2;have d:=h.lw.lt;exact⟨a,c,bl,h.lw.k,h.k2,h.lw.row,XW hB h.lw.ds.gr om fun j e=>by injection e with e;omega⟩
theorem EB.spo(h:EB rb sb w w1 wr q sv vs bl)(hB:Bw w w1)(o:zw Zf w2 (ς a S.length c) S bl')(f:Fr (rb :: bl) wr w2):EF sb w (w2.setCell ⟨sb,0,ν⟩ (ς a S.length c)) S:=by
 have p:=h.lw.lt;have n:=h.r2;have r:=h.lw.ge;have s:=h.lw.ds.size;have l:=hB.size;have d:∀ b∈bl,w1.heap.size<=b:=h.lw.fs.2;have g:∀ {k:Nat} {o:Obj},wr.heap[k]?=η o->k≠rb->k ∉ bl->w2.heap[k]?=η o:=fun e n1 n2=>(f.block _ (yC.1 e).1 fun hm=>(Ε.1 hm).elim n1 n2).trans e;have i:=g h.lw.k om h.lw.ne;have m:w.heap.size≠sb:=om;exact⟨a,c,bl',heap_setCell_same _ _ 0 _ _ _ i,(Α w2 ⟨sb,0,ν⟩ _ w.heap.size m).trans (g h.k2 om fun hm=>by have:=d _ hm;omega),o.other (YL i (Yr o) dc) 0 _,Zd ((XW hB h.lw.ds.gr om fun j e=>by injection e with e;omega).trans (f.below (fun b hb=>(Ε.1 hb).elim (by omega) fun hm=>by have:=d b hm;omega) om)) om [_] 0⟩
theorem zfM(xa:Option Addr)(xb xo xc:Nat)(l:List UInt8)(w:Wo)(h:BS w xa xb xo l)(hl:l.length<=1048576)(hc:l.length<=xc):
  δ prog 5 #[ς xa l.length xc] w (CZ w.heap.size w (UN (l.take 1200))):=by
 have V:=zt w (χ #[ς ν 0 0] 25);have kA:=yH w (χ #[ς ν 0 0] 25);have HO:=zb (zjJ xa xb xo xc l _ (h.below V) hl hc);generalize hD:UN (l.take 1200)=D;unfold UN at hD;have H:=zb hD;have I:=zb fun w1 q B d (h:ZJ w1 B d q)=>zfa B d 3 q w1 h dc;have HG:=zb fun q=>CH 3 dc q;have HA:=zb V;have O:=zb kA;have hx:=QS (l.take 1200);clear h hl hc hD V kA;generalize l.take 1200=S at *;have HX:=zb fun w1 B d (h:ZJ w1 B d S)=>Q6 B d S w1 h;generalize (nx S).1=k at *;generalize (nx S).2=q1 at *;go_in;go_wp2_with fail;have X:(w.alloc (χ #[ς ν 0 0] 25)).heap.size=w.heap.size+1:=by simp
 generalize w.alloc _=w0 at *;go_call HO as e w1 ⟨rfl,r1,b1,z1⟩;have K1:=zb ((b1.block w.heap.size (by omega)).trans O);have r:=zb (zh HA b1);have z:=zb r1;have W:w.heap.size<w0.heap.size:=by omega
 generalize w0.heap.size=d at *;clear HO b1 r1 z1 X HA O;have f:=zb (HX w1 d d z);go_wp2_with fail;go_call f as e w2 ⟨rfl,d2⟩;have K:=d2.rd.lt;have Y:=r.size;have Q:=zb (d2.kv z dc K1);have C:=zb (XW r d2.gr (by omega) fun j e=>by injection e with e;omega);have g:=zb (I w2 q1 d d d2.rd);have x:=zb (HG q1);generalize Vj 3 q1=s at *;clear HX f I HG z K1 r d2 Y;go_wp2_with fail;go_call g as e w3 ⟨sv,bl,rfl,o3,f3,d3⟩;obtain⟨pa,pc,rfl,-,-⟩:=o3.form;have p:=ZO w3 (χ #[ς pa s.1.length pc] 25);have L:=d3.size;have J:=d3.gr.block w.heap.size (yC.1 Q).1 fun e=>by injection e with e;omega
 have P:Hid (EB d w3.heap.size w w2 (w3.alloc (χ #[ς pa s.1.length pc] 25)) s.2 (ς pa s.1.length pc) s.1 bl):=⟨⟨d3.below p,yH w3 _,o3.below p,f3,L,fun R=>by have:=o3.lt _ R;omega,K⟩,(p.block _ (by have:=(yC.1 Q).1;omega)).trans (J.trans Q),W⟩;clear g o3 f3 d3 p L J Q;have s0:=Zw P.lw.k;obtain⟨nn,tn,C1,C2,C3,-⟩:=CD x (show 4<=4 by decide) d d w3.heap.size w2 (ς pa s.1.length pc) bl s.2;have f:=zb (C1 _ _ P.lw);have g:=zb C2;have E:=zb C3;have HT:=zb (CY x s.2);clear C1 C2 C3;go_wp2_with fail;generalize w3.alloc _=w4 at *;generalize w3.heap.size=sb at *;go_call f as e w5 ⟨ta,tc,rfl,b5⟩;have m:=zb (P.below b5);have G:=zb (g _ m.lw);have hf:∀ (w':Wo),(Instr.field 37 (γ #[ι κ nn,σ (ze (ct (Yb s.1))),ς ta tn tc]) 1).run prog w'= .ok (σ (ze (ct (Yb s.1)))) w':=fun _=>by kernel_rfl
 clear f g P b5 s0;go_wp2_with fail;go_call G as e w6 ⟨r6,rfl,o6,d6⟩;have y:=zb (m.step d6);have F:=zb (E _ r6 y.lw (qH o6 m.lw.ds.size));obtain⟨oa,oc,rfl⟩:=Jx o6;clear G E o6 d6 m hf;go_wp2_with fail;go_call F as e w7 ⟨rfl,d7⟩;have n:=zb (y.step d7);clear F y d7;generalize Ys s.1 4 s.2=t at *;obtain⟨N,q2⟩:=s;simp only at *;obtain⟨t1,e1,T⟩:=CU (show (k:Int) % 4=3↔k % 4=3 by omega);obtain⟨t2,e2,U⟩:=CU (show (k:Int) % 16=14↔k % 16=14 by omega);go_upto_if 23 with fail;clear e1;go_cut [7]from 24 to 26 (fun v wx=>v= .string D.2/\∃ q',Hid (k % 4≠3->q'=t.2)/\Hid (EB d sb w w2 wx q' (ς pa N.length pc) N bl))
 case first=>
  cases t1
  .have i:k % 4≠3:=fun h=>Bool.noConfusion (T.2 h);have u:Hid (D.2=ze t.1):=by rw[← uh H];exact yf i
   clear i;go_wp2;go_meet
   case rel=>exact⟨by rw[uh u],_,fun _=>rfl,n⟩
  .have i:k % 4=3:=T.1 rfl;have u:Hid (D.2=(Uz (ze t.1) t.2).1):=by rw[← uh H];exact yg i
   have HC:=zb (Ti d d (ze t.1) t.2 w7 n.lw.ds.rd (by have:=uh HT;omega));have O:=zb i;clear i;go_wp2_with fail;go_call HC as e w8 ⟨rfl,d8⟩;have b:=zb (n.step d8);clear HC d8;go_wp2;go_meet
   case rel=>exact⟨by rw[uh u],_,fun h=>absurd O h,b⟩
 obtain⟨rfl,q',HQ,b⟩:=hcut;clear n T HT;go_upto_if 29 with fail;clear e2;go_cut []from 30 to 32 (fun wx=>Hid (EF sb w wx D.1))
 case first=>
  cases t2
  .have i:k % 16≠14:=fun h=>Bool.noConfusion (U.2 h);have u:Hid (D.1=N):=by rw[← uh H];exact yf i
   go_wp2;go_meet
   case rel=>exact uh u ▸ b.fin C
  .have i:k % 16=14:=U.1 rfl;obtain rfl:=HQ (by omega);have u:Hid (D.1=(UJ N t.2).1):=by rw[← uh H];exact yg i
   have hr:=b.lw.lt;have s0:=Zw b.lw.k;have A:=zb (zft d d _ t.2 _ N bl _ b.lw.ds.rd b.lw.row b.lw.fs.1 (fun hm=>by have:=b.lw.fs.2 d hm;omega) x (by omega));rw[← uh u]at A;go_wp2_with fail;go_call A as e w8 ⟨v8,bl8,rfl,o8,f8⟩;obtain⟨a8,c8,rfl,-,-⟩:=o8.form;have HF:=zb (b.spo C o8 f8);have Z:=(f8.block _ (yC.1 b.lw.k).1 fun hm=>(Ε.1 hm).elim (by have:=b.lw.ge;omega) b.lw.ne).trans b.lw.k;have s8:=Zw Z;have g8:=yJ Z 0;clear o8 f8 A s0 Z b;go_wp2;go_meet
   case rel=>exact HF
 obtain⟨a,c,cl,ks,M,o,R⟩:=uh hcut;have s0:=Zw ks;have s2:=Zw M;have f2:=yJ M 0;have HR:Hid (CZ w.heap.size w D (ε (τ #[γ #[ς a D.1.length c],.string D.2])) (putN wc w.heap.size 0 [ς a D.1.length c])):=⟨_,cl,rfl,o.putN (YL M (Yr o) dc) _ _,Zd R (ye _) _ _⟩;have H2:=zb M;clear hcut b H HQ U o R ks M;go_wp2;exact bodyPost_ret (Qh rfl _ _ w.heap.size 25 #[ς a D.1.length c] (0,0) _ (.string D.2) rfl rfl (heap_setCell_same _ _ 0 _ _ _ H2) underlying25 rfl kr) rfl HR
theorem zfN{α:Type}{M:List α}(h:2<=M.length):∃ x M' y,M=x ::(M'++[y]):=by
 cases M with
 | nil=>simp at h
 | cons x r=>
  rcases List.eq_nil_or_concat r with rfl |⟨M',y,rfl⟩
  .simp at h
  .exact⟨x,M',y,by rw[List.concat_eq_append]⟩
theorem zfO(v:ω)(xs:List zj)(bl:List Nat)(w:Wo)(h:zw Zf w v xs bl)(hd:bl.Nodup)(hl:xs.length<=1000):
  δ prog 76 #[v] w fun e w'=>e=ε (τ #[])/\∃ bl',zw Zf w' v xs.reverse bl'/\bl'.Perm bl/\Fr v.ownBlock.toList w w':=by
 obtain⟨a,c,rfl,-,I⟩:=h.form;have H:=zb h;have U:=zb hd;go_in;go_wp2;go_loopw [2,3] (fun i j wr=>∃ (A M C:List zj) (n:List Nat),xs=A++(M++C)/\A.length=C.length/\i=ι κ (A.length:Int)/\j=ι κ ((xs.length:Int) - 1 - A.length)/\zw Zf wr (ς a xs.length c) (C.reverse++(M++A.reverse)) n/\n.Perm bl/\Fr (Κ a xs.length c).ownBlock.toList w wr) (fun i _ _=>xs.length - (intOf i).toNat)
 case atStart=>exact⟨[],xs,[],bl,sm,rfl,rfl,sm,by simpa using uh H,List.Perm.refl _,Fr.refl _ _⟩
 case round=>
  obtain⟨A,M,C,n,hx,d,rfl,rfl,r,p,z⟩:=hrel;have b:xs.length=A.length+M.length+C.length:=by rw[hx];simp;omega
  by_cases G:2<=M.length
  .obtain⟨x,f,y,rfl⟩:=zfN G;obtain⟨g,rfl⟩:=I om;have s:zw Zf wr (ς (η g) xs.length c) (C.reverse++x ::(f++y :: A.reverse)) n:=by simpa using r
   obtain⟨us,vs,lu,lv,k,l,fz,⟨ix,S⟩,⟨iy,T⟩,o,B,q⟩:=s.swap (p.nodup_iff.2 U);simp only[yh,yp,yE]at b;rw[List.length_reverse]at k l fz B;have N:(xs.length:Int) - 1 - (C.length:Int)=((C.length+1+f.length:Nat):Int):=om;obtain⟨q0,rfl,K⟩:=S;obtain⟨q1,rfl,L⟩:=T;obtain⟨O,P,rfl,-,-⟩:=K.form;obtain⟨Q,R,rfl,-,-⟩:=L.form;rw[show Zf.wd=3 from rfl]at k l fz B;have ab:C.length+1+f.length<xs.length:=om;rw[d,N];generalize hJ:C.length+1+f.length=J at *;have u0:wr.cell? ⟨g,C.length*3,ν⟩=_:=k 0 _ rfl;have u1:wr.cell? ⟨g,C.length*3+1,ν⟩=_:=k 1 _ rfl;have u2:wr.cell? ⟨g,C.length*3+2,ν⟩=_:=k 2 _ rfl;have v0:wr.cell? ⟨g,J*3,ν⟩=_:=l 0 _ rfl;have v1:wr.cell? ⟨g,J*3+1,ν⟩=_:=l 1 _ rfl;have v2:wr.cell? ⟨g,J*3+2,ν⟩=_:=l 2 _ rfl;have g0:=fz (C.length*3) om;have g1:=fz (C.length*3+1) om;have g2:=fz (C.length*3+2) om;have z0:=fz (J*3) om;have z1:=fz (J*3+1) om;have z2:=fz (J*3+2) om;have i1:(C.length:Int)<(J:Int):=om;have i2:(C.length:Int)<(xs.length:Int):=om;have i3:(J:Int)<(xs.length:Int):=om;have n1:¬ C.length=J:=om;have n2:¬ J=C.length:=om;have X:=zb B;have F:=zb (q.trans p);have D:=zb z;have Y:=zb hx;have V:=zb b;have Z:C.length<=1000:=om;have aa:J<=1000:=om;clear B p q z hx r s k l fz K L lu lv b G N;go_wp2;go_region;have W:Hid (zw Zf ((((((wr.setCell ⟨g,C.length*3,ν⟩ (ι κ y.no)).setCell ⟨g,C.length*3+1,ν⟩ y.doc).setCell ⟨g,C.length*3+2,ν⟩ (ς Q y.touched.length R)).setCell ⟨g,J*3,ν⟩ (ι κ x.no)).setCell ⟨g,J*3+1,ν⟩ x.doc).setCell ⟨g,J*3+2,ν⟩ (ς O x.touched.length P)).drew (ς (η g) xs.length c) (C.reverse++y ::(f++x :: A.reverse)) o):=X.below ((yI _ _).drew);have E:Hid (Fr (Κ (η g) xs.length c).ownBlock.toList w ((((((wr.setCell ⟨g,C.length*3,ν⟩ (ι κ y.no)).setCell ⟨g,C.length*3+1,ν⟩ y.doc).setCell ⟨g,C.length*3+2,ν⟩ (ς Q y.touched.length R)).setCell ⟨g,J*3,ν⟩ (ι κ x.no)).setCell ⟨g,J*3+1,ν⟩ x.doc).setCell ⟨g,J*3+2,ν⟩ (ς O x.touched.length P)).drew):=by
    have m:g∈(Κ (η g) xs.length c).ownBlock.toList:=by simp[Ο]
    exact (((((((D.set m _ _).set m _ _).set m _ _).set m _ _).set m _ _).set m _ _)).drew
   generalize World.drew _=wN at *;go_wp2;go_roundw
   case rel=>
    have b:=uh V;refine⟨A++[x],f,y :: C,o,?_,by simp[d],?_,?_,by simpa using uh W,F,E⟩
    .rw[uh Y];simp
    .rw[yh,d];go_num
    .rw[yh,d,yS];congr 1;omega
   case measure=>simp[intOf];omega
  .have u:C.reverse++(M++A.reverse)=xs.reverse:=by
    rw[hx,Η,Η,List.append_assoc];congr 2;rcases (show M.length=0∨M.length=1 by omega)with h | h
    .rw[yO h];rfl
    .obtain⟨x,rfl⟩:=List.length_eq_one_iff.1 h;rfl
   rw[u]at r;have tI:¬ (A.length:Int)<(xs.length:Int) - 1 - A.length:=om;have HR:=zb r;have F:=zb p;have D:=zb z;clear r p z hx u d b G;go_wp2;go_end0;exact⟨rfl,n,HR,F,D⟩
structure TV(w:Wo)(wr:Wo)(p:ω)(ws:List zj)(b1:List Nat):Prop where
 bel:Bw w wr
 k1:wr.heap[w.heap.size]?=η (χ #[ς ν 0 0] 25 (0,0))
 o1:zw Zf wr p ws b1
 fs:ZQ (w.heap.size+1) b1
section
variable {w wr w3:Wo} {p p':ω} {ws:List zj} {b1 b1':List Nat}
theorem TV.below(h:TV w wr p ws b1)(hb:Below wr wr w3):TV w w3 p ws b1:=
 ⟨zh h.bel hb,(hb.block _ (yC.1 h.k1).1).trans h.k1,h.o1.below hb,h.fs⟩
theorem TV.snoc(h:TV w wr p ws b1)(hg:wr.grownBy w3 p.ownBlock){x:zj}(ho:zw Zf w3 p' (ws++[x]) b1')(hF:ZQ (w.heap.size+1) b1'):TV w w3 p' (ws++[x]) b1':=by
 have a:=fun g (hg:p.ownBlock=η g)=>h.fs.2 g (h.o1.head hg);refine⟨h.bel.grown hg h.bel.size fun k hk=>by have:=a k hk;omega,?_,ho,hF⟩;exact (hg.block _ (yC.1 h.k1).1 fun e=>by have:=a _ e.symm;omega).trans h.k1
end
def C0:ω->Nat
 | .slice _ n _=>n
 | _=>0
theorem zfP(S:Nat->Prop)(l:List zj)(v:ω)(w:Wo)(h:Zy w (fun _=>True) S l v)(hl:l.length<=1000)(ht:∀ m∈l,m.touched.length<=2097152):
  δ prog 34 #[v] w (zc8 l.reverse w):=by
 obtain⟨a,rfl⟩:=h.ptr;have HH:=zb h;have HT:=zb ht;go_in;go_wp2;have hA:=zt w (χ #[ς ν 0 0] 25);have kA:=yH w (χ #[ς ν 0 0] 25);generalize w.alloc _=wA at *;have HS:Hid (TV w wA (ς ν 0 0) [] []):=⟨hA,kA,zw.nil _ _,ZQ.nil _⟩;go_loopw [3,4] (fun lv at' wr=>∃ (r d:List zj) (K:List Nat),l=d++r/\Zy w (fun _=>True) S r at'/\TV w wr lv d K) (fun lv _ _=>l.length - C0 lv)
 case atStart=>exact⟨l,[],[],rfl,HH,HS⟩
 case round=>
  obtain⟨r,d,K,n,I,i⟩:=hrel;obtain⟨la,lc,rfl,-,-⟩:=i.o1.form
  cases r with
  | nil=>
   obtain rfl:_=Value.pointer ν:=I;rw[yT]at n;subst n;have f:=zb i;have HR:=zb (zfO _ l K wr i.o1 i.fs.1 hl);go_wp2_with fail;go_call HR as e s ⟨rfl,b2,o2,p2,f2⟩;have k:∀ b∈(Κ la l.length lc).ownBlock.toList,w.heap.size+1<=b:=fun b k=>f.fs.2 b (f.o1.head (by simpa using k));have y:=(f2.block w (yC.1 f.k1).1 (fun hm=>by have:=k _ hm;omega)).trans f.k1;have c0:=Zw y;have fr:=yJ y;have O:=zb (f.bel.trans (f2.below (fun b hb'=>by have:=k b hb';omega) f.bel.size));have W:=zb o2;have B:Hid (ZQ (w.heap.size+1) b2):=⟨p2.nodup_iff.2 f.fs.1,fun b k=>f.fs.2 b (p2.mem_iff.1 k)⟩;have T:=zb y;go_wp2;refine bodyPost_ret (results_cell_row rfl _ _ w 25 #[_] (0,0) _ rfl (Z3 T [_] rfl) underlying25 rfl kr) rfl ?_;exact⟨_,b2,rfl,W.putN (g:=w.heap.size) (fun hm=>by have:=(uh B).2 _ hm;omega) [_] 0,B.mono om,Zd (g:=w.heap.size) O (ye _) [_] 0⟩
  | cons m r'=>
   obtain⟨b,q,t,p,v',bl,jv,rfl,-,Y,h4,-,-,-,-,h8⟩:=I;obtain⟨xa,xc,rfl,-,-⟩:=h4.form;obtain⟨a',rfl⟩:=h8.ptr;have k:=(yC.1 Y).1;have kr:=(i.bel.block b k).trans Y;have J:Below wr wr wr.drew:=(yI _ _).drew;obtain⟨c0,c1,c2,-,-⟩:=cl5 kr;have hmt:=uh HT m (by rw[n];simp);have HM:=zb (zc6 _ m.touched bl wr.drew (h4.below (zh i.bel J)) om);have x:=zb (i.below J);have C:=zb fun wx (hx:Below w w wx)=>(hx.block b k).trans Y;have H8:=zb h8;have Z:d.length+r'.length+1=l.length:=by rw[n];simp;omega
   have U:=zb n;have P:=zb Z;have hd1:d.length<=1000:=om;go_wp2;go_region_law (first
    |(
      refine Sb (e:=Zf) Fc dc underlying23 ON rfl dc dc rfl (.tmp 12) (.tmp 30) rfl rfl O3 Q E3 R N rfl (by exact Fa s [_,_,_] _) D (by have:=(yC.1 A.k1).1;omega) om ?_;intro v' w3 bl' o4 f4 m4 aa;obtain⟨va,vc,rfl,-,-⟩:=o4.form)
    |(
      go_simp;refine HM.mono ?_;rintro e s ⟨z,ib,rfl,F,G,X⟩;obtain⟨L,M,rfl,-,-⟩:=F.form;have o:=x.below X;have H:Below s s (s.alloc (χ #[ι κ m.no,m.doc,ς L m.touched.length M] 37)):=zt _ _;have j:=o.below H;have O3:=zb j.o1;have Q:=zb j.fs;have E3:Hid (Zf.E (s.alloc (χ #[ι κ m.no,m.doc,ς L m.touched.length M] 37)) [ι κ m.no,m.doc,ς L m.touched.length M] m ib):=⟨_,rfl,F.below H⟩;have hcw:w.heap.size<wr.heap.size:=(yC.1 x.k1).1;have R:=zb (G.mono (B':=w.heap.size+1) (by show _<=wr.heap.size;omega));have N:Hid (∀ b∈ib,b ∉ K):=fun b k hbl=>by have h1:wr.heap.size<=b:=G.2 b k;have h2:b<wr.heap.size:=x.o1.lt b hbl;omega
      have D:Hid (∀ u∈[Value.int .i64 m.no,m.doc,ς L m.touched.length M],u.oneCell'=ξ):=fun u hu=>by simp at hu;rcases hu with rfl | rfl | rfl<;>rfl
      have A:=zb j;have y:=uh C s o.bel;have d0:=(cl5 y).1;have d1:s.cell? ⟨b,1,ν⟩=η m.doc:=yG y 1))
   all_goals (
    have V:=zb (A.snoc aa o4 f4);have e4:w3.cell? ⟨b,4,ν⟩=η (.pointer a'):=yG (uh C w3 V.bel) 4;rw[yh,yS]at V;go_wp2;go_roundw)
   all_goals first
    | exact⟨r',d++[m],_,by rw[uh U];simp,H8,V⟩
    |(have:=uh P;simp[C0];omega)
