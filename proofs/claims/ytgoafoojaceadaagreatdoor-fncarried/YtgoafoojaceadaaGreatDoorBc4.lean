import Derived.Test.YtgoafoojaceadaaGreatDoorBc3
import Derived.Lib.ParseIntBCases
import Derived.Lib.ItoaMem
import Derived.Lib.SlicesCompact
set_option maxRecDepth 100000
set_option maxHeartbeats 8000000
open Go renaming Calls->δ,Value->ω
open Go.ByteArray renaming toList_eq->Β
open Go.Ending renaming returned->ε
open Go.IntKind renaming i64->κ
open Go.Lib renaming compactUpTo->Δ
open Go.Obj renaming cells->χ
open Go.Value renaming int->ι,slice->ς,string->σ,tuple->τ
open _root_.Bool renaming false->ζ,true->ξ
open _root_.ByteArray renaming empty->Γ
open _root_.Nat renaming mul_le_mul_right->Α,pow_le_pow_right->Ε
open _root_.Option renaming none->ν,some->η
namespace Go.Proofs.YtgoafoojaceadaaGreatDoor
open Go.RowKit Go.Proofs.Tryz
variable{d a b l:List UInt8}{j i B m rb:Nat}{s:Bs}{w w':Wo}{c:UInt8}{v u:ω}{ts A zs:List (List UInt8)}{tb kt:Bool}{o:Option (ω×Nat)}{e:Ending}
theorem zaC(x:List UInt8):∀ l:List (List UInt8),(Q4 x l).length<=l.length+1
 | []=>by simp[Q4]
 | y :: r=>by
  rw[Q4];split
  .have:=zaC x r;simp;omega
  .split<;>simp
theorem zaD(l:List (List UInt8))(x:List UInt8):Qf (l++[x])=Q4 x (Qf l):=by
 unfold Qf;rw[List.foldl_append];rfl
theorem P9:∀ (n:Nat) (l:List (List UInt8)),l.length=n->(Qf l).length<=n:=by
 intro n;induction n with
 | zero=>intro l h;rw[yO h];simp[Qf]
 | succ n ih=>
  intro l h;rcases List.eq_nil_or_concat l with rfl |⟨a,x,rfl⟩
  .simp at h
  .rw[List.concat_eq_append]at h ⊢;rw[zaD];have b:=zaC x (Qf a);have d:=ih a (by simpa using h);omega
theorem zaE(x:List UInt8):∀ (A:List (List UInt8)) (j:Nat),(∀ i (h:i<A.length),i<j->A[i]<x)->(h:j<A.length)->¬ A[j]<x->Q4 x A=if A[j]=x then A else A.take j++x :: A.drop j
 | y :: r,0,_,_,hn=>by
  have hn':¬ y<x:=hn;rw[Q4,yf hn'];show _=if y=x then _ else _
  split<;>rfl
 | y :: r,j+1,hA,h,hn=>by
  have a:y<x:=hA 0 sm om;have b:=zaE x r j (fun i hi hij=>hA (i+1) (by simpa using hi) om) (by simpa using h) hn;rw[Q4,yg a,b];show _=if r[j]'(by simpa using h)=x then _ else _
  split<;>rfl
theorem zaF(x:List UInt8):∀ (A:List (List UInt8)),(∀ i (h:i<A.length),A[i]<x)->Q4 x A=A++[x]
 | [],_=>rfl
 | y :: r,h=>by
  have h0:y<x:=h 0 sm;rw[Q4,yg h0,zaF x r (fun i hi=>h (i+1) (by simpa using hi))];rfl
theorem ziX(h:a<b):Op.bytesLess (ze a).toList (ze b).toList=ξ:=by
 rw[bytesLess_eq,Β,Β,Zb,Zb];exact yj h
theorem ziY(h:¬ a<b):Op.bytesLess (ze a).toList (ze b).toList=ζ:=by
 rw[bytesLess_eq,Β,Β,Zb,Zb];exact yk h
def V8(w:Wo)(B:Nat)(v:ω)(ts:List (List UInt8)):Prop:=OT w B v ts/\∃ g cap,v=ς (η ⟨g,0,ν⟩) ts.length cap/\B<=g/\g<w.heap.size/\ts.length<=cap/\∀ j u,(ts.map QJ)[j]?=η u->w.cell? ⟨g,j,ν⟩=η u
theorem V8.of(h:OT w B v ts)(hn:v≠ς ν 0 0):V8 w B v ts:=by
 refine⟨h,?_⟩;rcases h.2 with ⟨d,_⟩ |⟨g,a,f,d,i,k,b,_⟩
 .exact absurd d hn
 .subst d;refine⟨g,a,rfl,i,(yC.1 k).1,b,fun j u hj=>?_⟩;have:=World.ownsRow.cells h rfl j u hj
  rwa [show ((g:Addr).add j)=⟨g,j,ν⟩from by simp[Addr.add];omega]at this
theorem LS(h:j<ts.length):(ts.map QJ)[j]?=η (σ (ze ts[j])):=by
 rw[List.getElem?_map,yy h];rfl
theorem ziZ(h:((A.take j).map QJ)[i]?=η u):(A.map QJ)[i]?=η u:=by
 rw[List.map_take]at h;rw[List.getElem?_take]at h;split at h
 .exact h
 .cases h
theorem zi0(h:((A.drop j).map QJ)[i]?=η u):(A.map QJ)[j+i]?=η u:=by
 rwa [List.map_drop,List.getElem?_drop]at h
theorem Ra(ts:List (List UInt8)):∀ u∈ts.map QJ,u.oneCell'=ξ:=by
 intro u a;obtain⟨t,_,rfl⟩:=yP.1 a;rfl
theorem zaG(v:ω)(ts:List (List UInt8))(w:Wo)(h:OT w B v ts)(hn:ts.length<=1000000):
  δ prog 100 #[v] w fun e w'=>∃ r,e=ε r/\OT w' w r (Qf ts)/\Below w w w':=by
 obtain⟨i0,M,I,J,K⟩:=info_parts GV;obtain⟨a,g0,cap0,rfl,hs,_⟩:=h.shape;have L:=hs.ad;have HC:=zb hs.cell;rw[yl]at L;simp only[yl]at HC;have HO0:Hid (V8 (w.alloc (χ #[] 9)) w (ς (η w) 0 0) []):=V8.of (World.ownsRow_lit w #[] 0 (ye _) mo rfl) (by intro e;cases e);have HB0:Hid (Below w w (w.alloc (χ #[] 9))):=(yI _ _).alloc (ye _) _;go_in;go_wp2_with fail;go_loopw [3,4] (fun u i wr=>∃ k:Nat,k<=ts.length/\i=ι κ (k:Int)/\V8 wr w u (Qf (ts.take k))/\Below w w wr) (fun _ i _=>ts.length - (intOf i).toNat)
 case atStart=>exact⟨0,yu _,rfl,HO0,HB0⟩
 case round=>
  obtain⟨k,N,rfl,ho,hb⟩:=hrel;have hAl:(Qf (ts.take k)).length<=1000000:=by
   have:=P9 k (ts.take k) (by rw[ym];omega);omega
  by_cases T:k<ts.length
  .have hltI:(k:Int)<(ts.length:Int):=om;obtain rfl:=L om;have s:=uh HC k T;have hg0:g0<w.heap.size:=yK _ _ s;have hgd:(ts.map zz).getD k Γ=ze ts[k]:=by simp[List.getD,T,zz,ze]
   rw[hgd,Nat.zero_add]at s;have Y:=zb fun (X:Wo) (hX:Below w w X)=>(hX.cell (p:=⟨g0,k,ν⟩) hg0).trans s;have HS:Hid (Qf (ts.take (k+1))=Q4 ts[k] (Qf (ts.take k))):=by
    show _=_
    rw[yz T,zaD]
   obtain⟨hO,g,d,rfl,hgB,hgl,hcap,R⟩:=ho;have HO:=zb hO;have HCELL:=zb R;have HB:=zb hb;generalize ts[k]=x at *;generalize Qf (ts.take k)=A at *;go_wp2_with fail;go_loopw [5] (fun p wx=>∃ j:Nat,j<=A.length/\p=ι κ (j:Int)/\OT wx w (ς (η g) A.length d) A/\Below w w wx/\∀ i (h:i<A.length),i<j->A[i]<x) (fun p _=>A.length - (intOf p).toNat)
   case atStart=>exact⟨0,yu _,rfl,HO,HB,fun i _ h=>om⟩
   case round=>
    obtain⟨j,hj,rfl,hox,hbx,hall⟩:=hrel;have l:=zb hall;have q:=zb hox;have F:=zb hbx;have P:Hid (∀ (X:Wo),OT X w (ς (η g) A.length d) A->g<X.heap.size/\∀ i u,(A.map QJ)[i]?=η u->X.cell? ⟨g,i,ν⟩=η u):=fun X hX=>by
     obtain⟨_,g',cap',he,_,h2,_,h3⟩:=V8.of hX (by intro e;cases e);injection he with he1 _ _;injection he1 with he1;injection he1 with he1;subst he1;exact⟨h2,h3⟩
    have ck:=uh Y _ hbx;by_cases hjl:j<A.length
    case' pos=>
     have hjI:(j:Int)<(A.length:Int):=om;have cj:=(uh P _ q).2 j _ (LS hjl);by_cases H:A[j]<x
     .have S:=ziX H;have HA2:Hid (∀ i (h:i<A.length),i<j+1->A[i]<x):=fun i M hij=>by
       by_cases e:i=j
       .subst e;exact H
       .exact uh l i M om
      generalize A[j]=y at *;go_wp2_with fail;go_quiet (fail);go_wp2;go_roundw
      case rel=>exact⟨j+1,om,by go_num,q,W9 F _,HA2⟩
      case measure=>simp[intOf];omega
     have S:=ziY H;have m:=zb (zaE x A j l hjl H);have heq:=FT A[j] x;by_cases n:A[j]=x
     .have t2:(A[j] ==x)=ξ:=by rw[yD];exact n
      rw[t2]at heq;have o:Hid (Q4 x A=A):=zb (by rw[uh m,yg n]);clear n t2 m;generalize A[j]=y at *;go_wp2_with fail;go_quiet (fail);go_wp2_with fail;go_quiet (fail);go_wp2;exact⟨⟨k+1,om,by go_num,by rw[uh HS,uh o];exact V8.of q (by intro e;cases e),W9 F _⟩,by simp[intOf];omega⟩
     have t2:(A[j] ==x)=ζ:=by rw[yd];exact n
     rw[t2]at heq;have o:Hid (Q4 x A=A.take j++x :: A.drop j):=zb (by rw[uh m,yf n]);clear n t2 m;generalize A[j]=y at *
    case' neg=>
     have hjI:¬ (j:Int)<(A.length:Int):=om;have o:Hid (Q4 x A=A.take j++x :: A.drop j):=by
      show _=_
      rw[zaF x A (fun i M=>uh l i M om),yr om,List.drop_of_length_le om]
     clear l
    all_goals
     go_wp2_with fail;go_quiet (fail);have af:Hid (OT (wr.drewN nq) w (ς (η g) A.length d) A):=uh q;have V:Hid (Below w w (wr.drewN nq)):=W9 F _;have ck1:(wr.drewN nq).cell? ⟨g0,k,ν⟩=η (ze x):=ck;try have cj1:(wr.drewN nq).cell? ⟨g,j,ν⟩=η (ze y):=cj
     try clear cj
     clear q F ck;generalize wr.drewN nq=W1 at *;go_wp2_with fail;go_quiet (fail);have ag:Hid (OT (W1.drewN nq) w (ς (η g) A.length d) A):=uh af;have O:Hid (Below w w (W1.drewN nq)):=W9 V _;try clear cj1
     clear af V ck1;generalize W1.drewN nq=W at *;have hgW:=(uh P W ag).1;have Z:=zb (uh P W ag).2;have bW:=O;have G:=bW.size;have cx:=uh Y W bW;have D:(W.alloc (χ #[] 9)).ownsRow W 9 1 (ς (η W) 0 0) 0 []:=World.ownsRow_lit W #[] 0 (ye _) mo rfl;have Q:Hid (Below W W (W.alloc (χ #[] 9))):=(yI _ _).alloc (ye _) _;have aa:=zb hgW;have HG0:Hid (g0<W.heap.size):=by show _<_;omega
     clear bW;go_wp2_with (at_builtin;refine wpList_append_own _ rfl (.tmp 47) (.tmp 50) 35 rfl W 9 i0 Γ 1 16 underlying35 M I J K rfl dc _ _ _ rfl D g j d ((A.take j).map QJ) rfl (by rw[yl,ym];omega) (fun i u hu=>by {rw[show ((g:Addr).add i)=⟨g,i,ν⟩from by simp[Addr.add];omega];exact (Q.cell (p:=⟨g,i,ν⟩) aa).trans (uh Z i u (ziZ hu))}) (Ra _) mo om sm ?_);intro v1 w1 E hg1 _;have B1:=zb (Q.grown hg1 sm (fun k N=>(D.lt k N).1));have c1:=(B1.cell (p:=⟨g0,k,ν⟩) HG0).trans cx;have hw1:=B1.size;clear D hg1 Q cx;go_wp2_with (at_builtin;refine wpList_append_own _ rfl (.tmp 52) (.tmp 57) 35 rfl W 9 i0 Γ 1 16 underlying35 M I J K rfl dc _ _ _ rfl (E.alloc _) w1 1 1 [(ze x)] rfl rfl (QS _ _ _) (Ge _) mo om so ?_);intro v2 w2 b hg2 nn2;have U:=zb ((B1.alloc hw1 _).grown hg2 so (fun k N=>(E.lt k N).1));have hw2:=U.size;have ab:Hid (v2≠ς ν 0 0):=nn2;clear E hg2 nn2 B1 c1;rcases Nat.lt_or_ge j d with hjc | hjc
     .have hjc1:¬ d<=j:=om;go_wp2_with (at_builtin;refine wpList_append_own _ rfl (.tmp 59) (.tmp 62) 35 rfl W 9 i0 Γ 1 16 underlying35 M I J K rfl dc _ _ _ rfl b ⟨g,j,ν⟩ (A.length - j) (d - j) ((A.drop j).map QJ) (by first | rfl |(simp;omega)) (by rw[yl,yv];omega) (fun i u hu=>by {rw[show ((⟨g,j,ν⟩:Addr).add i)=⟨g,j+i,ν⟩from by simp[Addr.add]];exact (U.cell (p:=⟨g,j+i,ν⟩) aa).trans (uh Z (j+i) u (zi0 hu))}) (Ra _) mo om om ?_);intro v3 w3 f z C;have B3:=zb (O.trans ((U.grown z hw2 (fun k N=>(b.lt k N).1)).mono G));have O3:Hid (V8 w3 w v3 (Qf (ts.take (k+1)))):=by
       refine V8.of (qN ?_ G) (fun e=>uh ab (C.1 e).1);rw[uh HS,uh o,yh,yx,yp,yi,ym,yv,show min j A.length+(A.length - j+1)=0+j+1+(A.length - j)from by omega];have et:QJ x=σ (ze x):=rfl;simpa [et]using f
      clear f z C b U;go_wp2;exact⟨⟨k+1,om,by go_num,O3,B3⟩,by simp[intOf];omega⟩
     .obtain rfl:j=d:=by omega
      go_wp2_with (at_builtin;refine wpList_append_own _ rfl (.tmp 59) (.tmp 62) 35 rfl W 9 i0 Γ 1 16 underlying35 M I J K rfl dc _ _ _ rfl b _ _ _ ((A.drop j).map QJ) rfl (by rw[yl,yv];omega) (fun i u hu=>by {rw[List.drop_of_length_le om]at hu;simp at hu}) (Ra _) mo om om ?_);intro v3 w3 f z C;have B3:=zb (O.trans ((U.grown z hw2 (fun k N=>(b.lt k N).1)).mono G));have O3:Hid (V8 w3 w v3 (Qf (ts.take (k+1)))):=by
       refine V8.of (qN ?_ G) (fun e=>uh ab (C.1 e));rw[uh HS,uh o,yh,yx,yp,yi,ym,yv,show min j A.length+(A.length - j+1)=j+1 from by omega];have et:QJ x=σ (ze x):=rfl;simpa [et]using f
      clear f z C b U;go_wp2;exact⟨⟨k+1,om,by go_num,O3,B3⟩,by simp[intOf];omega⟩
  .have e:ts.take k=ts:=yr om;rw[e]at ho;have HO:=zb ho.1;have HB:=zb hb;clear ho hb e HC;go_wp2;go_ret;exact⟨_,rfl,HO,HB⟩
theorem PR.shape{ps:List zx}(h:PR w B v ps):∃ x cap,v=ς x ps.length cap:=by
 rcases h.2 with ⟨a,d⟩ |⟨g,cap,b,a,_⟩
 .exact⟨ν,0,by rw[a,d]⟩
 .exact⟨_,_,a⟩
open Go.Lib hiding intOf
def dV(c:UInt8):Nat:=c.toNat - 48
def ZG(a:Nat)(d:List UInt8):Nat:=d.foldl (fun a c=>a*10+dV c) a
def Dg(d:List UInt8):Prop:=∀ c∈d,48<=c.toNat/\c.toNat<=57
def GL(d:List UInt8):Prop:=Dg d/\d≠[]/\(d=[48]∨∀ c r,d=c :: r->49<=c.toNat)
theorem Dg.tail(h:Dg (c :: d)):Dg d:=fun x hx=>h x (yw _ hx)
theorem Dg.head(h:Dg (c :: d)):48<=c.toNat/\c.toNat<=57:=h c yq
theorem Um(a:Nat)(c:UInt8)(d:List UInt8):ZG a (c :: d)=ZG (a*10+dV c) d:=by unfold ZG;rw[List.foldl_cons]
theorem zi1(a:Nat)(d:List UInt8)(c:UInt8):ZG a (d++[c])=ZG a d*10+dV c:=by unfold ZG;rw[List.foldl_append];rfl
theorem zi2(d:List UInt8):∀ a,a<=ZG a d:=by
 induction d with
 | nil=>intro a;exact ye _
 | cons c d ih=>intro a;rw[Um];have:=ih (a*10+dV c);omega
theorem Rc(d:List UInt8):∀ a,ZG a d=a*10 ^ d.length+ZG 0 d:=by
 induction d with
 | nil=>intro a;simp[ZG]
 | cons c d ih=>
  intro a;rw[Um,Um,ih (a*10+dV c),ih (0*10+dV c),yp,Nat.pow_succ];rw[Nat.add_mul,Nat.zero_mul,Nat.zero_add,Nat.mul_assoc,Nat.mul_comm 10,Nat.add_assoc]
theorem LT(d:List UInt8)(h:Dg d):ZG 0 d<10 ^ d.length:=by
 induction d with
 | nil=>simp[ZG]
 | cons c d ih=>
  rw[Um,Rc,yp,Nat.pow_succ];have a:=ih h.tail;have b:=h.head;have f:dV c<=9:=by unfold dV;omega
  have g:(0*10+dV c)*10 ^ d.length<=9*10 ^ d.length:=Α _ om;omega
theorem LU(hc:49<=c.toNat):10 ^ d.length<=ZG 0 (c :: d):=by
 rw[Um,Rc];have:1*10 ^ d.length<=(0*10+dV c)*10 ^ d.length:=Α _ (by unfold dV;omega);omega
theorem zi3(d:List UInt8)(h:Dg d):∀ a,a<=18446744073709551615->parseUintM 18446744073709551615 a d=if ZG a d<=18446744073709551615 then .ok (ZG a d)else .range:=by
 induction d with
 | nil=>intro a g;rw[parseUintM];rw[yg (by exact g)];rfl
 | cons c d ih=>
  intro a g;rw[parseUintM,yg h.head,Um];have i:=zi2 d (a*10+dV c);have e:a*10+(c.toNat - 48)=a*10+dV c:=rfl;by_cases b:1844674407370955162<=a
  .rw[yg b,yf om]
  .rw[yf b,e];by_cases f:18446744073709551615<a*10+dV c
   .rw[yg f,yf om]
   .rw[yf f];exact ih h.tail _ om
theorem zaH:∀ (a b:List UInt8),Dg a->Dg b->a.length=b.length->(Op.bytesLess a b=decide (ZG 0 a<ZG 0 b))/\((a ==b)=decide (ZG 0 a=ZG 0 b))
 | [],[],_,_,_=>by simp[Op.bytesLess,ZG]
 | [],_ :: _,_,_,h=>by simp at h
 | _ :: _,[],_,_,h=>by simp at h
 | c :: a,x :: b,ha,hb,h=>by
  have hl:a.length=b.length:=by simpa using h
  obtain⟨n,o⟩:=zaH a b ha.tail hb.tail hl;have k:=LT a ha.tail;have p:=LT b hb.tail;have q:=ha.head;have hx:=hb.head;rw[Um,Um,Rc a,Rc b,hl];rw[hl]at k;have l:0*10+dV c=dV c:=om;have m:0*10+dV x=dV x:=om;rw[l,m];generalize ZG 0 a=A at *;generalize ZG 0 b=B at *;generalize 10 ^ b.length=P at *;have g:c<x↔dV c<dV x:=by rw[UInt8.lt_iff_toNat_lt];unfold dV;omega
  have d:c=x↔dV c=dV x:=by rw[← UInt8.toNat_inj];unfold dV;omega
  rw[Op.bytesLess];by_cases j:dV c<dV x
  .have:(dV c+1)*P<=dV x*P:=Α _ j;rw[Nat.add_mul,Nat.one_mul]at this;refine⟨?_,?_⟩
   .rw[yj (g.2 j),Bool.true_or,yj om]
   .rw[yk om,yd];intro e;injection e with e1 e2;have:=d.1 e1;omega
  .by_cases i:dV c=dV x
   .have f:(c ==x)=ξ:=by rw[yD];exact d.2 i
    rw[yk (fun hh=>j (g.1 hh)),Bool.false_or,f,Bool.true_and,n,i];refine⟨?_,?_⟩
    .apply decide_eq_decide.2;omega
    .rw[d.2 i];rw[show ((x :: a) ==(x :: b))=(a ==b)from by simp,o];apply decide_eq_decide.2;omega
   .have:(dV x+1)*P<=dV c*P:=Α _ om;rw[Nat.add_mul,Nat.one_mul]at this;have f:(c ==x)=ζ:=by rw[yd];exact fun e=>i (d.1 e)
    refine⟨?_,?_⟩
    .rw[yk (fun hh=>j (g.1 hh)),Bool.false_or,f,Bool.false_and,yk om]
    .rw[yk om,yd];intro e;injection e with e1 e2;exact i (d.1 e1)
theorem GL.bounds(h:GL d):(d.length<=18->ZG 0 d<1000000000000000000)/\(20<=d.length->10000000000000000000<=ZG 0 d):=by
 obtain⟨b,i,a⟩:=h;refine⟨fun hl=>?_,fun hl=>?_⟩
 .have:=LT d b;have f:10 ^ d.length<=10 ^ 18:=Ε dc hl;have g:(10:Nat) ^ 18=1000000000000000000:=dc;omega
 .rcases a with rfl | a
  .simp at hl
  .cases d with
   | nil=>simp at hl
   | cons c r=>
    have:=LU (d:=r) (a c r rfl);have f:10 ^ 19<=10 ^ r.length:=Ε dc (by simp at hl;omega);have g:(10:Nat) ^ 19=10000000000000000000:=dc;omega
theorem zaI{lim:List UInt8}(h:GL d)(hl:Dg lim)(h19:lim.length=19)(hm:ZG 0 lim=m)(h1:1000000000000000000<=m)(h2:m<10000000000000000000):over d lim=decide (m<ZG 0 d):=by
 unfold over;have b:=h.bounds;by_cases f:d.length=19
 .rw[yf om];obtain⟨i,j⟩:=zaH d lim h.1 hl om;rw[i,j,hm];by_cases g:m<ZG 0 d
  .rw[yj g,yk om,yk om];rfl
  .rw[yk g];by_cases a:ZG 0 d=m
   .rw[yj a];simp
   .rw[yj (show ZG 0 d<m by omega)];rfl
 .rw[yg f];apply decide_eq_decide.2;constructor
  .intro g;have:=b.2 om;omega
  .intro g;rcases Nat.lt_or_ge d.length 19 with a | a
   .have:=b.1 om;omega
   .omega
theorem zi4(h:GL d):over d XD=decide (9223372036854775807<ZG 0 d):=zaI h (by unfold Dg XD;decide) rfl dc dc dc
theorem zi5(h:GL d):over d XE=decide (9223372036854775808<ZG 0 d):=zaI h (by unfold Dg XE;decide) rfl dc dc dc
theorem zaJ(h:48<=c.toNat/\c.toNat<=57):UInt8.ofNat (48+dV c)=c:=by
 apply UInt8.toNat_inj.1;rw[UInt8.toNat_ofNat'];unfold dV;omega
theorem zi6(n:Nat):∀ d:List UInt8,d.length=n->GL d->decDigits (ZG 0 d)=d:=by
 induction n with
 | zero=>intro d i h;exact absurd (yO i) h.2.1
 | succ n ih=>
  intro d i h;obtain⟨j,o,f⟩:=h;rcases List.eq_nil_or_concat d with e |⟨m,c,e⟩
  .exact absurd e o
  .rw[List.concat_eq_append]at e;subst e;have k:=j c sm;have s:dV c<=9:=by unfold dV;omega
   rw[zi1]
   cases m with
   | nil=>
    show decDigits (0*10+dV c)=[c]
    rw[decDigits_one om,show 48+(0*10+dV c)=48+dV c by omega,zaJ k]
   | cons x r=>
    have hx:49<=x.toNat:=by
     rcases f with f | f
     .simp at f
     .exact f x (r++[c]) rfl
    have l:=LU (d:=r) hx;have q:0<10 ^ r.length:=Nat.pow_pos dc;have p:GL (x :: r):=⟨fun y g=>j y (by simp at g ⊢;rcases g with g | g<;>simp[g]),sm,.inr (fun a b e=>by injection e with e1 e2;subst e1;exact hx)⟩;have:=ih (x :: r) (by simp at i ⊢;omega) p;rw[decDigits,dif_neg om,show (ZG 0 (x :: r)*10+dV c) / 10=ZG 0 (x :: r) by omega,show (ZG 0 (x :: r)*10+dV c) % 10=dV c by omega,this,zaJ k]
theorem Od(hi:i<s.size)(hj:i<j):Zr s i j=s[i] :: Zr s (i+1) j:=by
 unfold Zr;rw[QT s i hi,show j - i=(j - (i+1))+1 by omega,List.take_succ_cons]
theorem zaK(s:Bs)(i:Nat):Zr s i i=[]:=by unfold Zr;simp
theorem zaL(s:Bs):∀ n i,s.size - i<=n->Dg (Zr s i (dg s i))
 | n,i,hn=>by
  by_cases h:zS (bt s i)=ξ
  .have hi:i<s.size:=Zf (by have:=QU.1 h;omega)
   cases n with
   | zero=>omega
   | succ n=>
    have b:=Pf (s:=s) (i:=i+1) om;rw[Wu h,Od hi om];intro c a;rcases List.mem_cons.1 a with rfl | a
    .rw[Zw s i hi]at h;exact QU.1 h
    .exact zaL s n (i+1) om c a
  .rw[XA h,zaK];intro c a;cases a
theorem zi7(h:nm s i=η (l,j)):j=qJ s i/\GL (Zr s (Za s i) j)/\Zr s i j=(if bt s i=45 then 45 :: Zr s (Za s i) j else Zr s (Za s i) j)/\l=QE (Zr s i j):=by
 have n:=FP h;unfold nm at h;split at h
 .rename_i hd;injection h with h;injection h with h1 h2;have k:=QU.1 hd;have b:Za s i<s.size:=Zf om;have g:=Zw s (Za s i) b;subst h2;refine⟨rfl,?_,?_,h1.symm⟩
  .unfold qJ;split
   .rename_i h48;rw[Od b om,zaK];have e:s[Za s i]=48:=UInt8.toNat_inj.1 (by show _=48;omega);rw[e];exact⟨by unfold Dg;decide,sm,.inl rfl⟩
   .rename_i h48;have m:=Pf (s:=s) (i:=Za s i+1) om;refine⟨zaL s _ _ (ye _),?_,.inr ?_⟩
    .rw[Wu hd,Od b om];simp
    .intro c r e;rw[Wu hd,Od b om]at e;injection e with e1 e2;subst e1;omega
  .by_cases a:bt s i=45
   .have f:i<s.size:=Zf om;have e:s[i]=45:=UInt8.toNat_inj.1 (by show _=45;rw[← Zw s i f];exact a);have d:Za s i=i+1:=by unfold Za;rw[yg a]
    rw[yg a,Od f om,e,d]
   .have d:Za s i=i:=by unfold Za;rw[yf a]
    rw[yf a,d]
 .cases h
theorem zi8(h:GL d):QE d=d:=by
 unfold QE;rw[yf];intro e;have:=h.1 45 (by rw[e];simp);exact absurd this.1 dc
theorem zi9(h:GL d):parseUintB 64 d=if ZG 0 d<=18446744073709551615 then .ok (ZG 0 d)else .range:=by
 unfold parseUintB;rw[yf h.2.1];exact zi3 d h.1 0 dc
theorem zja(h:nm s i=η (l,j)):
  (Jk l=ζ->∃ z:Int,parseIntB 64 (Zr s i j)= .ok z/\itoa z=l/\-9223372036854775808<=z/\z<=9223372036854775807)/\(Jk l=ξ->parseIntB 64 (Zr s i j)= .range):=by
 obtain⟨_,a,q,f⟩:=zi7 h;generalize Zr s (Za s i) j=d at *;have v:=zi9 a;have o:=zi6 d.length d rfl a;have y:(2:Nat) ^ (64 - 1)=9223372036854775808:=dc;by_cases m:bt s i=45
 .rw[yg m]at q;rw[q]at f ⊢;rw[parseIntB_minus,v];by_cases u:d=[48]
  .subst u;have e:l=[48]:=by rw[f];unfold QE;rw[yg rfl]
   subst e;refine⟨fun _=>⟨0,dc,by rw[show (0:Int)=((0:Nat):Int)from rfl,itoa_nonneg,decDigits_one dc];rfl,dc,dc⟩,fun hb=>absurd hb dc⟩
  .have e:l=45 :: d:=by
    rw[f];unfold QE;rw[yf];intro e;injection e with _ e;exact u e
   subst e;have w:Jk (45 :: d)=decide (9223372036854775808<ZG 0 d):=by rw[Jk,yg rfl,zi5 a]
   rw[w];have p:1<=ZG 0 d:=by
    obtain⟨A,x,k⟩:=a;rcases k with k | k
    .exact absurd k u
    .cases d with
     | nil=>exact absurd rfl x
     | cons c r=>
      have:=LU (d:=r) (k c r rfl);have v:0<10 ^ r.length:=Nat.pow_pos dc;omega
   refine⟨fun hb=>?_,fun hb=>?_⟩
   .have b:=of_decide_eq_false hb;rw[yg om];refine⟨-((ZG 0 d:Nat):Int),?_,?_,om,om⟩
    .show (if 2 ^ (64 - 1)<ZG 0 d then NumEnd.range else .ok (-((ZG 0 d:Nat):Int)))=_
     rw[yf om]
    .rw[itoa_neg _ p,o]
   .have b:=of_decide_eq_true hb;by_cases g:ZG 0 d<=18446744073709551615
    .rw[yg g];show (if 2 ^ (64 - 1)<ZG 0 d then NumEnd.range else .ok (-((ZG 0 d:Nat):Int)))=_
     rw[yg om]
    .rw[yf g];rfl
 .rw[yf m]at q;rw[q]at f ⊢;rw[zi8 a]at f;subst f
  cases hd:l with
  | nil=>exact absurd hd a.2.1
  | cons c r=>
   have n:=a.1 c (by rw[hd];simp);rw[parseIntB_plain 64 c r om om,← hd,v];have w:Jk l=decide (9223372036854775807<ZG 0 l):=by
    rw[hd,Jk,yf (by intro e;rw[e]at n;exact absurd n.1 dc),← hd,zi4 a]
   rw[w];refine⟨fun hb=>?_,fun hb=>?_⟩
   .have b:=of_decide_eq_false hb;rw[yg om];refine⟨((ZG 0 l:Nat):Int),?_,?_,om,om⟩
    .show (if 2 ^ (64 - 1)<=ZG 0 l then NumEnd.range else .ok ((ZG 0 l:Nat):Int))=_
     rw[yf om]
    .rw[itoa_nonneg,o]
   .have b:=of_decide_eq_true hb;by_cases g:ZG 0 l<=18446744073709551615
    .rw[yg g];show (if 2 ^ (64 - 1)<=ZG 0 l then NumEnd.range else .ok ((ZG 0 l:Nat):Int))=_
     rw[yg om]
    .rw[yf g];rfl
theorem zjb(b:Nat)(hb:b<256)(w:Wo):
  δ prog 286 #[.int .u8 b] w fun e w'=>w=w'/\e=(hx b).elim JW (fun v=>ε (.int .i32 v)):=by
 by_cases f:48<=b/\b<=57
 .have a:Hid (hx b=η (b - 48)):=by show _=_;unfold hx;rw[yg f]
  have d:(48:Int)<=(b:Int):=om;have h:(b:Int)<=57:=om;go_in;go_wp2;go_ret;refine⟨rfl,?_⟩;rw[uh a];exact Uv (by go_num)
 .by_cases i:97<=b/\b<=102
  .have a:Hid (hx b=η (b - 87)):=by show _=_;unfold hx;rw[yf f,yg i]
   have d:(97:Int)<=(b:Int):=om;have h:(b:Int)<=102:=om;go_in;go_wp2;go_ret;refine⟨rfl,?_⟩;rw[uh a];exact Uv (by go_num)
  .by_cases j:65<=b/\b<=70
   .have a:Hid (hx b=η (b - 55)):=by show _=_;unfold hx;rw[yf f,yf i,yg j]
    have d:(65:Int)<=(b:Int):=om;have h:(b:Int)<=70:=om;go_in;go_wp2;go_ret;refine⟨rfl,?_⟩;rw[uh a];exact Uv (by go_num)
   .have a:Hid (hx b=ν):=by show _=_;unfold hx;rw[yf f,yf i,yf j]
    have a:Hid (hx b=ν):=by show _=_;unfold hx;rw[yf f,yf i,yf j]
    rcases (show b<48∨(57<b/\b<65)∨(70<b/\b<97)∨102<b from by omega)with g | g | g | g
    .have d:(b:Int)<48:=om;go_in;go_wp2;exact⟨rfl,rfl,by rw[uh a];rfl⟩
    .have d:(57:Int)<(b:Int):=om;have h:(b:Int)<65:=om;go_in;go_wp2;exact⟨rfl,rfl,by rw[uh a];rfl⟩
    .have d:(70:Int)<(b:Int):=om;have h:(b:Int)<97:=om;go_in;go_wp2;exact⟨rfl,rfl,by rw[uh a];rfl⟩
    .have d:(102:Int)<(b:Int):=om;go_in;go_wp2;exact⟨rfl,rfl,by rw[uh a];rfl⟩
theorem zaM(rb:Nat)(s:Bs)(i:Nat)(tb kt:Bool)(w:Wo)(h:zr rb s i tb kt w)(hs:s.size<=1048576)(hi:i<=s.size):
  δ prog 273 #[rb] w (VM rb s tb kt w ((Qn s i 4).map fun v:Nat=>(.int .i32 (v:Int),i+4))):=by
 have H:=zb h;go_in;go_wp2;go_loopw [3,4] (fun n k wr=>∃ j v:Nat,j<=4/\i+j<=s.size/\v<16 ^ j/\k=ι κ j/\n= .int .i32 v/\Qn s i j=η v/\zr rb s (i+j) tb kt wr/\KB rb w wr) (fun _ k _=>4 - (intOf k).toNat)
 case atStart=>exact⟨0,0,om,om,dc,rfl,rfl,rfl,H,KB.refl _ _⟩
 case round=>
  obtain⟨j,v,C,x,p,rfl,rfl,z,y,l⟩:=hrel;have o:=zb z;have HR:=zb y;by_cases A:j<4
  .have q:v<65536:=by
    have:(16:Nat) ^ j<=16 ^ 3:=Ε dc om;omega
   by_cases m:i+j<s.size
   .have g:=zb (Y1 rb s (i+j) tb kt wr HR hs m);have f:=zb (zjb (bt s (i+j)) (qo _ _))
    cases hx1:hx (bt s (i+j))with
    | some d=>
     have B:=D4 hx1;have a:=zb (Xz o hx1);rw[hx1]at f;generalize bt s (i+j)=b at *;go_wp2_with fail;go_call g as e w1 ⟨rfl,r1,k1⟩;have r:=zb r1;go_wp2_with fail;go_call uh f _ as e w2 ⟨rfl,rfl⟩;simp only[Option.elim];go_wp2;go_roundw
     case rel=>exact⟨j+1,v*16+d,om,om,by rw[Nat.pow_succ];omega,by go_num,by go_num,a,r,l.trans k1⟩
     case measure=>simp[intOf];omega
    | none=>
     have a:Hid (Qn s i 4=ν):=D5 (Pd hx1) om;rw[hx1]at f;generalize bt s (i+j)=b at *;go_wp2_with fail;go_call g as e w1 ⟨rfl,r1,k1⟩;go_wp2_with fail;go_call uh f _ as e w2 ⟨rfl,rfl⟩;exact⟨rfl,l.trans k1,by rw[uh a];rfl⟩
   .have a:=zb (D5 (Pd (by rw[YP s (i+j) om];rfl)) (show j+1<=4 by omega));have g:=zb (DY rb s (i+j) tb kt wr HR om);go_wp2_with fail;go_call g as e w1 ⟨rfl,k1⟩;exact⟨rfl,l.trans k1,by rw[uh a];rfl⟩
  .have u:j=4:=om;subst u;go_wp2;go_ret;exact⟨l,by rw[uh o];exact⟨rfl,HR⟩⟩
def XS(s:Bs)(i:Nat)(wd:Bs):Prop:=∀ k,k<wd.size->bt s (i+k)=bt wd k
theorem Rd(rb:Nat)(s:Bs)(i:Nat)(tb kt:Bool)(w:Wo)(h:zr rb s i tb kt w)(hs:s.size<=1048576)(wd:Bs)(hw:wd.size<=1000)(hi:i+wd.size<=s.size)(hit:XS s i wd):
  δ prog 175 #[rb,wd] w fun e w'=>e=ε (τ #[])/\zr rb s (i+wd.size) tb kt w'/\KB rb w w':=by
 have H:=zb h;have b:=zb hit;go_in;go_wp2;go_loopw [7] (fun k wr=>∃ j:Nat,j<=wd.size/\k=ι κ j/\zr rb s (i+j) tb kt wr/\KB rb w wr) (fun k _=>wd.size - (intOf k).toNat)
 case atStart=>exact⟨0,om,rfl,H,KB.refl _ _⟩
 case round=>
  obtain⟨j,o,rfl,n,d⟩:=hrel;have HR:=zb n;by_cases a:j<wd.size
  .have l:=b j a;have f:Hid (δ prog 210 #[rb,.int .u8 (wd[j].toNat:Int)] wr fun e w'=>e=ε (τ #[])/\zr rb s (i+j+1) tb kt w'/\KB rb wr w'):=
    W2 rb s (i+j) tb kt wr HR hs wd[j].toNat (by rw[l,Zw wd j a]) om
   go_wp2_with fail;go_call f as e w1 ⟨rfl,r1,k1⟩;have g:=zb r1;go_wp2;go_roundw
   case rel=>exact⟨j+1,om,by go_num,g,d.trans k1⟩
   case measure=>simp[intOf];omega
  .have m:j=wd.size:=om;subst m;go_wp2;go_end0;exact⟨rfl,HR,d⟩
theorem Re(rb:Nat)(s:Bs)(i:Nat)(tb kt:Bool)(w:Wo)(h:zr rb s i tb kt w)(hs:s.size<=1048576)(wd:Bs)(hw:wd.size<=1000)(hz:∀ k,k<wd.size->bt wd k≠0)(hi:i<=s.size)(hit:¬ XS s i wd):
  δ prog 175 #[rb,wd] w fun e w'=>e=JW/\KB rb w w':=by
 have H:=zb h;have f:=zb hit;have u:=zb hz;go_in;go_wp2;go_loopw [7] (fun k wr=>∃ j:Nat,j<=wd.size/\i+j<=s.size/\k=ι κ j/\(∀ m,m<j->bt s (i+m)=bt wd m)/\zr rb s (i+j) tb kt wr/\KB rb w wr) (fun k _=>wd.size - (intOf k).toNat)
 case atStart=>exact⟨0,om,hi,rfl,om,H,KB.refl _ _⟩
 case round=>
  obtain⟨j,y,n,rfl,r,x,q⟩:=hrel;have HR:=zb x;have p:=zb r;by_cases a:j<wd.size
  .by_cases b:bt s (i+j)=bt wd j
   .have o:=Zf (by rw[b];exact u j a);have d:Hid (δ prog 210 #[rb,.int .u8 (wd[j].toNat:Int)] wr fun e w'=>e=ε (τ #[])/\zr rb s (i+j+1) tb kt w'/\KB rb wr w'):=
     W2 rb s (i+j) tb kt wr HR hs wd[j].toNat (by rw[b,Zw wd j a]) o
    have l:Hid (∀ m,m<j+1->bt s (i+m)=bt wd m):=fun m r=>by
     rcases Nat.lt_or_ge m j with g | g
     .exact p m g
     .have:m=j:=om;subst this;exact b
    go_wp2_with fail;go_call d as e w1 ⟨rfl,r1,k1⟩;have v:=zb r1;go_wp2;go_roundw
    case rel=>exact⟨j+1,om,om,by go_num,l,v,q.trans k1⟩
    case measure=>simp[intOf];omega
   .have d:Hid (δ prog 210 #[rb,.int .u8 (wd[j].toNat:Int)] wr fun e w'=>e=JW/\KB rb wr w'):=
     FL rb s (i+j) tb kt wr HR hs n wd[j].toNat (.inl (by rw[Zw wd j a]at b;exact b))
    go_wp2_with fail;go_call d as e w1 ⟨rfl,k1⟩;exact⟨rfl,rfl,q.trans k1⟩
  .exfalso;refine f fun k hk'=>p k om
theorem zaN(s:Bs)(i:Nat):XS s i ⟨#[92,117]⟩↔bt s i=92/\bt s (i+1)=117:=by
 constructor
 .intro h;exact⟨h 0 dc,h 1 dc⟩
 .rintro⟨a,b⟩ k d;have:k<2:=d
  match k,this with
  | 0,_=>exact a
  | 1,_=>exact b
theorem zjc(rb:Nat)(s:Bs)(i:Nat)(tb kt:Bool)(w:Wo)(h:zr rb s (i+2) tb kt w)(hs:s.size<=1048576)(hi:i+2<=s.size):
  δ prog 256 #[rb] w (VM rb s tb kt w (((Qn s (i+2) 4).bind (Qt s i)).map fun p=>(.int .i32 (p.1:Int),i+p.2))):=by
 have f:=zb (zaM rb s (i+2) tb kt w h hs hi)
 cases hx1:Qn s (i+2) 4 with
 | none=>
  rw[hx1]at f;go_in;go_wp2_with fail;go_call f as e w1 ⟨k1,rfl⟩;exact⟨rfl,k1,rfl⟩
 | some u=>
  have I:u<65536:=Pc s (i+2) 4 u hx1;have F:=EE hx1;rw[hx1]at f;simp only[yB];by_cases g:u<55296∨57344<=u
  .have a:Hid (Qt s i u=η (u,6)):=by show _=_;unfold Qt;rw[yg g]
   rcases g with g | g
   .have x:(u:Int)<55296:=om;go_in;go_wp2_with fail;go_call f as e w1 ⟨k1,rfl,r1⟩;have d:=zb r1;go_wp2;go_ret;exact⟨k1,by rw[uh a];exact⟨rfl,d⟩⟩
   .have x:¬ (u:Int)<55296:=om;have C:(57343:Int)<(u:Int):=om;have H:decide ((u:Int)<55296)=ζ:=so;go_in;go_wp2_with fail;go_call f as e w1 ⟨k1,rfl,r1⟩;have d:=zb r1;go_wp2;go_ret;exact⟨k1,by rw[uh a];exact⟨rfl,d⟩⟩
  .have x:¬ (u:Int)<55296:=om;have C:¬ (57343:Int)<(u:Int):=om;by_cases m:56320<=u
   .have a:Hid (Qt s i u=ν):=by show _=_;unfold Qt;rw[yf g,yg m]
    have D:(56319:Int)<(u:Int):=om;go_in;go_wp2_with fail;go_call f as e w1 ⟨k1,rfl,r1⟩;go_wp2;exact⟨rfl,k1,by rw[uh a];rfl⟩
   .have D:¬ (56319:Int)<(u:Int):=om;have o:Hid ((55296:Int)<=(u:Int)/\(u:Int)<=56319):=by show _/\_;omega
    by_cases n:bt s (i+6)=92/\bt s (i+6+1)=117
    .have r:=(zaN s (i+6)).2 n;have z:=Zf (by rw[n.2];decide);have l:Hid (∀ w,zr rb s (i+6) tb kt w->δ prog 175 #[rb,σ ⟨#[92,117]⟩] w fun e w'=>e=ε (τ #[])/\zr rb s (i+6+2) tb kt w'/\KB rb w w'):=
      fun w h=>Rd rb s (i+6) tb kt w h hs ⟨#[92,117]⟩ dc (by show i+6+2<=_;omega) r
     have b:Hid (∀ w,zr rb s (i+6+2) tb kt w->δ prog 273 #[rb] w (VM rb s tb kt w ((Qn s (i+6+2) 4).map fun v:Nat=>(.int .i32 (v:Int),i+6+2+4)))):=
      fun w h=>zaM rb s (i+6+2) tb kt w h hs om
     have q:QN s (i+6)=Qn s (i+6+2) 4:=by unfold QN;rw[yg n]
     cases hx2:Qn s (i+6+2) 4 with
     | none=>
      have a:Hid (Qt s i u=ν):=by show _=_;unfold Qt;rw[yf g,yf m,q,hx2];rfl
      rw[hx2]at b;go_in;go_wp2_with fail;go_call f as e w1 ⟨k1,rfl,r1⟩;have d:=zb r1;go_wp2_with fail;go_call uh l _ (uh d) as e w2 ⟨rfl,r2,k2⟩;have j:=zb r2;go_wp2_with fail;go_call uh b _ (uh j) as e w3 ⟨k3,rfl⟩;exact⟨rfl,(k1.trans k2).trans k3,by rw[uh a];rfl⟩
     | some v=>
      have J:v<65536:=Pc s (i+6+2) 4 v hx2;rw[hx2]at b;by_cases y:56320<=v/\v<57344
      .have a:Hid (Qt s i u=η (65536+(u - 55296)*1024+(v - 56320),12)):=by
        show _=_;unfold Qt;rw[yf g,yf m,q,hx2];simp only[yB];rw[yg y]
       have A:(56320:Int)<=(v:Int):=om;have G:(v:Int)<=57343:=om;have M:¬ (v:Int)<56320:=om;have N:¬ (57343:Int)<(v:Int):=om;go_in;go_wp2_with fail;go_call f as e w1 ⟨k1,rfl,r1⟩;have d:=zb r1;go_wp2_with fail;go_call uh l _ (uh d) as e w2 ⟨rfl,r2,k2⟩;have j:=zb r2;go_wp2_with fail;go_call uh b _ (uh j) as e w3 ⟨k3,rfl,r3⟩;have B:=zb r3;obtain⟨K,L⟩:=uh o;go_wp2;go_ret;refine⟨(k1.trans k2).trans k3,?_⟩;rw[uh a];exact⟨Uv om,B⟩
      .have a:Hid (Qt s i u=ν):=by
        show _=_;unfold Qt;rw[yf g,yf m,q,hx2];simp only[yB];rw[yf y]
       rcases (show v<56320∨57344<=v from by omega)with E | E
       .have A:(v:Int)<=56319:=om;go_in;go_wp2_with fail;go_call f as e w1 ⟨k1,rfl,r1⟩;have d:=zb r1;go_wp2_with fail;go_call uh l _ (uh d) as e w2 ⟨rfl,r2,k2⟩;have j:=zb r2;go_wp2_with fail;go_call uh b _ (uh j) as e w3 ⟨k3,rfl,r3⟩;go_wp2;exact⟨rfl,(k1.trans k2).trans k3,by rw[uh a];rfl⟩
       .have A:¬ (v:Int)<56320:=om;have G:(57343:Int)<(v:Int):=om;go_in;go_wp2_with fail;go_call f as e w1 ⟨k1,rfl,r1⟩;have d:=zb r1;go_wp2_with fail;go_call uh l _ (uh d) as e w2 ⟨rfl,r2,k2⟩;have j:=zb r2;go_wp2_with fail;go_call uh b _ (uh j) as e w3 ⟨k3,rfl,r3⟩;go_wp2;exact⟨rfl,(k1.trans k2).trans k3,by rw[uh a];rfl⟩
    .have a:Hid (Qt s i u=ν):=by
      show _=_;unfold Qt;rw[yf g,yf m];unfold QN;rw[yf n];rfl
     have l:Hid (∀ w,zr rb s (i+6) tb kt w->δ prog 175 #[rb,σ ⟨#[92,117]⟩] w fun e w'=>e=JW/\KB rb w w'):=
      fun w h=>Re rb s (i+6) tb kt w h hs ⟨#[92,117]⟩ dc (fun k hk=>by
       have:k<2:=hk
       match k,this with
       | 0,_=>decide
       | 1,_=>decide) om (fun h=>n ((zaN s (i+6)).1 h))
     go_in;go_wp2_with fail;go_call f as e w1 ⟨k1,rfl,r1⟩;have d:=zb r1;go_wp2_with fail;go_call uh l _ (uh d) as e w2 ⟨rfl,k2⟩;exact⟨rfl,k1.trans k2,by rw[uh a];rfl⟩
theorem zjd(rb:Nat)(s:Bs)(i:Nat)(tb kt:Bool)(w:Wo)(h:zr rb s (i+1) tb kt w)(hs:s.size<=1048576)(hb:bt s (i+1)=34):
  δ prog 238 #[rb] w fun e w'=>e=ε (.int .i32 34)/\zr rb s (i+2) tb kt w'/\KB rb w w':=by
 have a:=zb (Y1 rb s (i+1) tb kt w h hs (Zf (by rw[hb];decide)));rw[hb]at a;go_in;go_wp2_with fail;go_call a as e w1 ⟨rfl,r1,k1⟩;have b:=zb r1;go_wp2;go_ret;exact⟨rfl,b,k1⟩
theorem zje(rb:Nat)(s:Bs)(i:Nat)(tb kt:Bool)(w:Wo)(h:zr rb s (i+1) tb kt w)(hs:s.size<=1048576)(hb:bt s (i+1)=92):
  δ prog 238 #[rb] w fun e w'=>e=ε (.int .i32 92)/\zr rb s (i+2) tb kt w'/\KB rb w w':=by
 have a:=zb (Y1 rb s (i+1) tb kt w h hs (Zf (by rw[hb];decide)));rw[hb]at a;go_in;go_wp2_with fail;go_call a as e w1 ⟨rfl,r1,k1⟩;have b:=zb r1;go_wp2;go_ret;exact⟨rfl,b,k1⟩
theorem zjf(rb:Nat)(s:Bs)(i:Nat)(tb kt:Bool)(w:Wo)(h:zr rb s (i+1) tb kt w)(hs:s.size<=1048576)(hb:bt s (i+1)=47):
  δ prog 238 #[rb] w fun e w'=>e=ε (.int .i32 47)/\zr rb s (i+2) tb kt w'/\KB rb w w':=by
 have a:=zb (Y1 rb s (i+1) tb kt w h hs (Zf (by rw[hb];decide)));rw[hb]at a;go_in;go_wp2_with fail;go_call a as e w1 ⟨rfl,r1,k1⟩;have b:=zb r1;go_wp2;go_ret;exact⟨rfl,b,k1⟩
theorem zjg(rb:Nat)(s:Bs)(i:Nat)(tb kt:Bool)(w:Wo)(h:zr rb s (i+1) tb kt w)(hs:s.size<=1048576)(hb:bt s (i+1)=98):
  δ prog 238 #[rb] w fun e w'=>e=ε (.int .i32 8)/\zr rb s (i+2) tb kt w'/\KB rb w w':=by
 have a:=zb (Y1 rb s (i+1) tb kt w h hs (Zf (by rw[hb];decide)));rw[hb]at a;go_in;go_wp2_with fail;go_call a as e w1 ⟨rfl,r1,k1⟩;have b:=zb r1;go_wp2;go_ret;exact⟨rfl,b,k1⟩
theorem zjh(rb:Nat)(s:Bs)(i:Nat)(tb kt:Bool)(w:Wo)(h:zr rb s (i+1) tb kt w)(hs:s.size<=1048576)(hb:bt s (i+1)=102):
  δ prog 238 #[rb] w fun e w'=>e=ε (.int .i32 12)/\zr rb s (i+2) tb kt w'/\KB rb w w':=by
 have a:=zb (Y1 rb s (i+1) tb kt w h hs (Zf (by rw[hb];decide)));rw[hb]at a;go_in;go_wp2_with fail;go_call a as e w1 ⟨rfl,r1,k1⟩;have b:=zb r1;go_wp2;go_ret;exact⟨rfl,b,k1⟩
theorem zji(rb:Nat)(s:Bs)(i:Nat)(tb kt:Bool)(w:Wo)(h:zr rb s (i+1) tb kt w)(hs:s.size<=1048576)(hb:bt s (i+1)=110):
  δ prog 238 #[rb] w fun e w'=>e=ε (.int .i32 10)/\zr rb s (i+2) tb kt w'/\KB rb w w':=by
 have a:=zb (Y1 rb s (i+1) tb kt w h hs (Zf (by rw[hb];decide)));rw[hb]at a;go_in;go_wp2_with fail;go_call a as e w1 ⟨rfl,r1,k1⟩;have b:=zb r1;go_wp2;go_ret;exact⟨rfl,b,k1⟩
theorem zjj(rb:Nat)(s:Bs)(i:Nat)(tb kt:Bool)(w:Wo)(h:zr rb s (i+1) tb kt w)(hs:s.size<=1048576)(hb:bt s (i+1)=114):
  δ prog 238 #[rb] w fun e w'=>e=ε (.int .i32 13)/\zr rb s (i+2) tb kt w'/\KB rb w w':=by
 have a:=zb (Y1 rb s (i+1) tb kt w h hs (Zf (by rw[hb];decide)));rw[hb]at a;go_in;go_wp2_with fail;go_call a as e w1 ⟨rfl,r1,k1⟩;have b:=zb r1;go_wp2;go_ret;exact⟨rfl,b,k1⟩
theorem zjk(rb:Nat)(s:Bs)(i:Nat)(tb kt:Bool)(w:Wo)(h:zr rb s (i+1) tb kt w)(hs:s.size<=1048576)(hb:bt s (i+1)=116):
  δ prog 238 #[rb] w fun e w'=>e=ε (.int .i32 9)/\zr rb s (i+2) tb kt w'/\KB rb w w':=by
 have a:=zb (Y1 rb s (i+1) tb kt w h hs (Zf (by rw[hb];decide)));rw[hb]at a;go_in;go_wp2_with fail;go_call a as e w1 ⟨rfl,r1,k1⟩;have b:=zb r1;go_wp2;go_ret;exact⟨rfl,b,k1⟩
theorem zjl(rb:Nat)(s:Bs)(i:Nat)(tb kt:Bool)(w:Wo)(h:zr rb s (i+1) tb kt w)(hs:s.size<=1048576)(hi:i+2<=s.size)(h0:bt s i=92)(hb:bt s (i+1)=117):
  δ prog 238 #[rb] w (VM rb s tb kt w ((Jt s i).map fun p=>(.int .i32 (p.1:Int),i+p.2))):=by
 have a:=zb (Y1 rb s (i+1) tb kt w h hs (Zf (by rw[hb];decide)));rw[EJ h0 hb];rw[hb]at a;have d:=zb fun w (h:zr rb s (i+2) tb kt w)=>zjc rb s i tb kt w h hs hi;generalize (Qn s (i+2) 4).bind (Qt s i)=o at *
 cases o with
 | none=>
  go_in;go_wp2_with fail;go_call a as e w1 ⟨rfl,r1,k1⟩;have b:=zb r1;go_wp2_with fail;go_call uh d _ (uh b) as e w2 ⟨k2,rfl⟩;exact⟨rfl,k1.trans k2,rfl⟩
 | some p=>
  go_in;go_wp2_with fail;go_call a as e w1 ⟨rfl,r1,k1⟩;have b:=zb r1;go_wp2_with fail;go_call uh d _ (uh b) as e w2 ⟨k2,rfl,r2⟩;have f:=zb r2;go_wp2;go_ret;exact⟨k1.trans k2,rfl,f⟩
theorem zjm(rb:Nat)(s:Bs)(i:Nat)(tb kt:Bool)(w:Wo)(h:zr rb s (i+1) tb kt w)(hi:i+1=s.size):
  δ prog 238 #[rb] w fun e w'=>e=JW/\KB rb w w':=by
 have a:=zb (DY rb s (i+1) tb kt w h hi);go_in;go_wp2_with fail;go_call a as e w1 ⟨rfl,k1⟩;exact⟨rfl,rfl,k1⟩
theorem zjn(rb:Nat)(s:Bs)(i:Nat)(tb kt:Bool)(w:Wo)(h:zr rb s (i+1) tb kt w)(hs:s.size<=1048576)(hi:i+1<s.size)(b:Nat)(hb:bt s (i+1)=b)(n34:b≠34)(n92:b≠92)(n47:b≠47)(n98:b≠98)(n102:b≠102)(n110:b≠110)(n114:b≠114)(n116:b≠116)(n117:b≠117):
  δ prog 238 #[rb] w fun e w'=>e=JW/\KB rb w w':=by
 have a:=zb (Y1 rb s (i+1) tb kt w h hs hi);rw[hb]at a;have l:((b:Int) ==34)=ζ:=by rw[yd];omega
 have n:((b:Int) ==92)=ζ:=by rw[yd];omega
 have m:((b:Int) ==47)=ζ:=by rw[yd];omega
 have o:((b:Int) ==98)=ζ:=by rw[yd];omega
 have d:((b:Int) ==102)=ζ:=by rw[yd];omega
 have f:((b:Int) ==110)=ζ:=by rw[yd];omega
 have g:((b:Int) ==114)=ζ:=by rw[yd];omega
 have j:((b:Int) ==116)=ζ:=by rw[yd];omega
 have k:((b:Int) ==117)=ζ:=by rw[yd];omega
 go_in;go_wp2_with fail;go_call a as e w1 ⟨rfl,r1,k1⟩;go_wp2;exact⟨rfl,rfl,k1⟩
theorem zjo{b:Nat}(n34:b≠34)(n92:b≠92)(n47:b≠47)(n98:b≠98)(n102:b≠102)(n110:b≠110)(n114:b≠114)(n116:b≠116):JX b=ν:=by
 unfold JX;rw[yf n34,yf n92,yf n47,yf n98,yf n102,yf n110,yf n114,yf n116]
theorem GM(ho:o=η (v,j))(h:e=ε v/\zr rb s j tb kt w'/\KB rb w w'):VM rb s tb kt w o e w':=by
 subst ho;exact⟨h.2.2,h.1,h.2.1⟩
theorem Oe(ho:o=ν)(h:e=JW/\KB rb w w'):VM rb s tb kt w o e w':=by
 subst ho;exact⟨h.2,h.1⟩
theorem zjp(rb:Nat)(s:Bs)(i:Nat)(tb kt:Bool)(w:Wo)(h:zr rb s (i+1) tb kt w)(hs:s.size<=1048576)(hi:i+1<=s.size)(h0:bt s i=92):
  δ prog 238 #[rb] w (VM rb s tb kt w ((Jt s i).map fun p=>(.int .i32 (p.1:Int),i+p.2))):=by
 by_cases n:i+1=s.size
 .have o:=YP s (i+1) om;exact (zjm rb s i tb kt w h n).mono fun e w' hh=>Oe (by rw[EK o (by rfl) dc];rfl) hh
 by_cases j:bt s (i+1)=34
 .exact (zjd rb s i tb kt w h hs j).mono fun e w' hh=>GM (by rw[GC j (by rfl)];rfl) hh
 by_cases l:bt s (i+1)=92
 .exact (zje rb s i tb kt w h hs l).mono fun e w' hh=>GM (by rw[GC l (by rfl)];rfl) hh
 by_cases k:bt s (i+1)=47
 .exact (zjf rb s i tb kt w h hs k).mono fun e w' hh=>GM (by rw[GC k (by rfl)];rfl) hh
 by_cases m:bt s (i+1)=98
 .exact (zjg rb s i tb kt w h hs m).mono fun e w' hh=>GM (by rw[GC m (by rfl)];rfl) hh
 by_cases a:bt s (i+1)=102
 .exact (zjh rb s i tb kt w h hs a).mono fun e w' hh=>GM (by rw[GC a (by rfl)];rfl) hh
 by_cases b:bt s (i+1)=110
 .exact (zji rb s i tb kt w h hs b).mono fun e w' hh=>GM (by rw[GC b (by rfl)];rfl) hh
 by_cases d:bt s (i+1)=114
 .exact (zjj rb s i tb kt w h hs d).mono fun e w' hh=>GM (by rw[GC d (by rfl)];rfl) hh
 by_cases f:bt s (i+1)=116
 .exact (zjk rb s i tb kt w h hs f).mono fun e w' hh=>GM (by rw[GC f (by rfl)];rfl) hh
 by_cases g:bt s (i+1)=117
 .exact zjl rb s i tb kt w h hs om h0 g
 exact (zjn rb s i tb kt w h hs om _ rfl j l k m a b d f g).mono fun e w' hh=>Oe (by rw[EK rfl (zjo j l k m a b d f) g];rfl) hh
theorem Of(h:m<zs.length):zs.toArray[m]! =zs[m]:=by
 rw[getElem!_pos zs.toArray m (by simpa using h)];simp
theorem zaO(h:zs.Pairwise (fun a b=>a<=b)):∀ m,m<=zs.length->Yh (Δ zs.toArray m)/\∀ x,x∈Δ zs.toArray m↔x∈zs.take m
 | 0,_=>by simp[Δ,Yh]
 | m+1,hm=>by
  obtain⟨h1,h2⟩:=zaO h m om;rw[Lib.compactUpTo_succ,Of om,yz om];have i:=List.pairwise_iff_getElem.1 h
  cases d:Lib.keeps zs.toArray m with
  | true=>
   rw[yg rfl];refine⟨?_,fun x=>by rw[List.mem_append,List.mem_append,h2]⟩;unfold Yh at *;rw[List.pairwise_append];refine⟨h1,List.pairwise_singleton _ _,fun x hx y hy=>?_⟩;rw[List.mem_singleton]at hy;subst hy;obtain⟨j,k,rfl⟩:=yY.1 ((h2 x).1 hx);rw[ym]at k;rw[List.getElem_take];rw[← List.not_le];intro f;have g:m≠0:=om;unfold Lib.keeps at d;rw[decide_eq_true_eq,Of om,Of om]at d;rcases d with d | d
   .exact g d
   .refine d (List.le_antisymm ?_ (i (m - 1) m om om om));by_cases e:j=m - 1
    .subst e;exact f
    .exact List.le_trans f (i j (m - 1) om om om)
  | false=>
   rw[yf sm,yT];refine⟨h1,fun x=>?_⟩;unfold Lib.keeps at d;rw[decide_eq_false_iff_not,not_or]at d;obtain⟨g,d⟩:=d;rw[Of om,Of om,Classical.not_not]at d;rw[h2,List.mem_append,List.mem_singleton];refine⟨.inl,fun hx=>?_⟩;rcases hx with hx | hx
   .exact hx
   .rw[hx,d];exact yY.2 ⟨m - 1,by rw[ym];omega,by rw[List.getElem_take]⟩
theorem zjq(l:List (List UInt8)):Lib.compact (l.mergeSort (fun x y=>decide (x<=y)))=Qf l:=by
 have i:∀ a b c:List UInt8,decide (a<=b)=ξ->decide (b<=c)=ξ->decide (a<=c)=ξ:=fun a b c d f=>by simp only[decide_eq_true_eq]at *;exact List.le_trans d f
 have j:∀ a b:List UInt8,(decide (a<=b) || decide (b<=a))=ξ:=fun a b=>by simp only[Bool.or_eq_true,decide_eq_true_eq];exact List.le_total a b
 have g:(l.mergeSort (fun x y=>decide (x<=y))).Pairwise (fun a b=>a<=b):=(List.pairwise_mergeSort i j l).imp fun h=>by simpa using h
 obtain⟨d,f⟩:=zaO g _ (ye _);refine LR d (PZ l) fun z=>?_;show z∈Δ _ _↔_
 rw[f,List.take_length,PY];exact (List.mergeSort_perm l _).mem_iff
theorem zjr(zs:List (List UInt8)):(Lib.compact zs).length<=zs.length:=by
 unfold Lib.compact Δ;rw[yl];exact yQ (List.length_filter_le _ _) sm
