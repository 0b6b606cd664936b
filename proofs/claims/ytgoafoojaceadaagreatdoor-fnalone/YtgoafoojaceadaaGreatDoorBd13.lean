import Derived.Lib.BufferKept
import Derived.Test.YtgoafoojaceadaaGreatDoorBd12
import Derived.Test.YtgoafoojaceadaaGreatDoorBd8
import Derived.Shelf.SlIter.Nil
import Derived.Stop.Asserts
set_option maxRecDepth 100000
set_option maxHeartbeats 8000000
open Go renaming Calls->δ,Value->ω
open Go.Ending renaming returned->ε
open Go.IntKind renaming i64->κ
open Go.Lib renaming byteCells->Γ,formatBool->Β,itoa->Α,validD->Δ
open Go.Obj renaming cells->χ
open Go.Value renaming agg->γ,bool->θ,iface->φ,int->ι,pointer->π,slice->ς,string->σ,tuple->τ
open _root_.Bool renaming false->ζ,true->ξ
open _root_.Option renaming none->ν,some->η
namespace Go.Proofs.YtgoafoojaceadaaGreatDoor
open Go.RowKit Go.Sort Go.Proofs.Tryz
def wf:JV->FuncId
 | .nul=>333
 | .tt=>334
 | .ff=>334
 | .num _=>348
 | .str _=>323
 | .arr _=>316
 | .obj _=>322
structure Ss(t:TypeId)(p:ω)(f:FuncId):Prop where
 meth : ∀ w : World, (method 503 t p "loop.example/s04350/impl.write").run Tryz.prog w = .ok (f, p) w
 ent:∀ args (w:Wo),(callFunc f args).run prog w= .ok (.enter f args) w
theorem Y1{w:Wo}{S:Nat->Prop}:∀ {v:JV} {x:ω},zi w S v x->∃ t p,x=φ t p
 | .nul,x,h=>by rw[zi]at h;exact⟨_,_,h⟩
 | .tt,x,h=>by rw[zi]at h;exact⟨_,_,h⟩
 | .ff,x,h=>by rw[zi]at h;exact⟨_,_,h⟩
 | .num l,x,h=>by rw[zi]at h;obtain⟨z,h,_⟩:=h;exact⟨_,_,h⟩
 | .str l,x,h=>by rw[zi]at h;exact⟨_,_,h⟩
 | .arr l,x,h=>by rw[zi]at h;obtain⟨d,i,a,h,_⟩:=h;exact⟨_,_,h⟩
 | .obj m,x,h=>by rw[zi]at h;obtain⟨g,b,f,a,h,_⟩:=h;exact⟨_,_,h⟩
theorem St{w:Wo}{S:Nat->Prop}:∀ {v:JV} {t:TypeId} {p:ω},zi w S v (φ t p)->Ss t p (wf v)
 | .nul,t,p,h=>by
  rw[zi]at h;injection h with h1 h2;subst h1;subst h2;exact⟨fun _=>kr,enters_of func333 kr rfl⟩
 | .tt,t,p,h=>by
  rw[zi]at h;injection h with h1 h2;subst h1;subst h2;exact⟨fun _=>kr,enters_of func334 kr rfl⟩
 | .ff,t,p,h=>by
  rw[zi]at h;injection h with h1 h2;subst h1;subst h2;exact⟨fun _=>kr,enters_of func334 kr rfl⟩
 | .num l,t,p,h=>by
  rw[zi]at h;obtain⟨z,h,_⟩:=h;injection h with h1 h2;subst h1;subst h2;exact⟨fun _=>kr,enters_of func348 kr rfl⟩
 | .str l,t,p,h=>by
  rw[zi]at h;injection h with h1 h2;subst h1;subst h2;exact⟨fun _=>kr,enters_of func323 kr rfl⟩
 | .arr l,t,p,h=>by
  rw[zi]at h;obtain⟨d,i,a,h,_⟩:=h;injection h with h1 h2;subst h1;subst h2;exact⟨fun _=>kr,enters_of func316 kr rfl⟩
 | .obj m,t,p,h=>by
  rw[zi]at h;obtain⟨g,b,f,a,h,_⟩:=h;injection h with h1 h2;subst h1;subst h2;exact⟨fun _=>kr,enters_of func322 kr rfl⟩
def JJ (B : Nat) (w : World) : Prop := 6 < B ∧ Lib.TabIs Tryz.prog w "internal/strconv.uint64pow10" .u64 Lib.pow10Tab
theorem JJ.next{B B':Nat}{w w':Wo}(h:JJ B w)(hb:Below B' w w')(hB:B<=B'):JJ B w':=by
 obtain⟨h0,h⟩:=h;refine⟨h0,?_⟩
 have hgn : Tryz.prog.globalNamed "internal/strconv.uint64pow10" =η 6 := kr
 unfold Lib.TabIs World.var? at h ⊢;rw[hgn]at h ⊢;simp only[yB]at h ⊢;rw[hb.block _ om];exact h
theorem T0{B b:Nat}{l:List UInt8}{w w1:Wo}(h:zZ B b l w)(hb:Below w w w1):zZ B b l w1:=by
 have g:∀ p,Lib.BuilderAt 173 5 B b p (Γ l) w->Lib.BuilderAt 173 5 B b p (Γ l) w1:=by
  rintro p ⟨i,v,a,d,f⟩;exact⟨i,v,(hb.block b (yC.1 a).1).trans a,Zh d hb,f⟩
 exact h.elim (fun x=>.inl (g _ x)) (fun x=>.inr (g _ x))
theorem zdy(w:Wo)(k:Nat)(os:Array Obj):Below w w (grow (w.drewN k) os):=
 ⟨rfl,rfl,rfl,by simp[grow],fun i hi=>by show (w.heap++os)[i]?=_;rw[Array.getElem?_append_left hi]⟩
def Vh(v:JV):Prop:=∀ (B b:Nat) (l:List UInt8) (w:Wo) (S:Nat->Prop) (t:TypeId) (p:ω),zi w S v (φ t p)->(∀ k,S k->k<B)->zZ B b l w->B<=w.heap.size->JJ B w->l.length+(ct v).length<=10000000 ->
 δ prog (wf v) #[p,π (η ⟨b,0,ν⟩)] w fun e w'=>e=ε (τ #[])/\zZ B b (l++ct v) w'/\Below B w w'/\JP b w w'
theorem zdz:Vh .nul:=by
 intro B b l w S t p h _ f d _ g;rw[zi]at h;injection h with h1 h2;subst h1;subst h2;have i:B<=(w.alloc (χ #[] 262)).heap.size:=so;have a:=zb (Vw B b _ ⟨#[110,117,108,108]⟩ (w.alloc (χ #[] 262)) (f.alloc _) (by rw[yL];simp[ct]at g;show _+4<=_;omega) i);show δ _ 333 _ _ _
 go_in;go_wp2_with fail;go_call a as e w1 ⟨rfl,h1,b1,k1⟩;go_wp2;go_end0;exact⟨rfl,zZ.str rfl h1,((yI _ _).alloc d _).trans b1,((Lib.OthersKept.refl _ _ _).alloc _).trans k1⟩
theorem T2(x:Bool)(B b:Nat)(l:List UInt8)(w:Wo)(hI:zZ B b l w)(hB:B<=w.heap.size)(hl:l.length<=10000000):
  δ prog 334 #[θ x,b] w fun e w'=>e=ε (τ #[])/\zZ B b (l++Β x) w'/\Below B w w'/\JP b w w':=by
 have g:(⟨(Β x).toArray⟩:Bs).size<=5:=by cases x<;>decide
 have a:=zb (Vw B b _ ⟨(Β x).toArray⟩ w hI (by rw[yL];omega) hB);have d:=zb (Tryz.strconv_FormatBool x w);have f:Hid (Β x=(⟨(Β x).toArray⟩:Bs).data.toList):=by show _=_;simp
 generalize (⟨(Β x).toArray⟩:Bs)=q at *;generalize Β x=h at *;go_in;go_wp2_with fail;go_call d as e w1 ⟨rfl,rfl⟩;go_wp2_with fail;go_call a as e w1 ⟨rfl,h1,b1,k1⟩;go_wp2;go_end0;exact⟨rfl,zZ.str f h1,b1,k1⟩
theorem zdA:Vh .tt:=by
 intro B b l w S t p h _ d a _ f;rw[zi]at h;injection h with h1 h2;subst h1;subst h2;exact T2 ξ B b l w d a (by simp[ct]at f;omega)
theorem zdB:Vh .ff:=by
 intro B b l w S t p h _ d a _ f;rw[zi]at h;injection h with h1 h2;subst h1;subst h2;exact T2 ζ B b l w d a (by simp[ct]at f;omega)
theorem zdC(x:List UInt8):Vh (.num x):=by
 intro B b l w S t p h _ r j s u;rw[zi]at h;obtain⟨z,h,rfl,v,y⟩:=h;injection h with h1 h2;subst h1;subst h2;have o:=zb (Tryz.strconv_FormatInt_10 z v y w s.2);have i:ct (.num (Α z))=Α z:=rfl;rw[i]at u ⊢;have A:(⟨(Α z).toArray⟩:Bs).size=(Α z).length:=by show (Α z).toArray.size=_;simp
 have n:Hid (∀ a,Below w w a->δ prog 231 #[b,σ ⟨(Α z).toArray⟩] a fun e w'=>e=ε (τ #[ι κ (⟨(Α z).toArray⟩:Bs).size,.nilIface])/\zZ B b (l++Α z) w'/\Below B a w'/\JP b a w'):=fun a hb=>by
  have g:=T0 r hb;go_call Vw B b _ ⟨(Α z).toArray⟩ a g (by rw[yL];omega) (yQ j hb.size) as e w' ⟨rfl,h1,b1,k1⟩;exact⟨rfl,zZ.str sm h1,b1,k1⟩
 generalize (⟨(Α z).toArray⟩:Bs)=q at *;generalize Α z=C at *;have m:=zb j;show δ _ 348 _ _ _
 go_in;go_wp2_with fail;go_call o as e a ⟨rfl,k,os,rfl⟩;have f:Below w w (grow (w.drewN k) os):=zdy _ _ _;generalize grow (w.drewN k) os=a at *;have d:=zb (uh n a f);go_wp2_with fail;go_call d as e w2 ⟨rfl,h1,b1,k1⟩;go_wp2;go_end0;exact⟨rfl,h1,(f.mono m).trans b1,(Lib.OthersKept.below (Lib.OthersKept.refl _ _ _) f).trans k1⟩
theorem zdD(x:List UInt8)(hv:Δ x=ξ):Vh (.str x):=by
 intro B b l w S t p h _ d a _ f;rw[zi]at h;injection h with h1 h2;subst h1;subst h2;have e:ct (.str x)=34 ::(rs (ze x)++[34]):=by rw[LV (ze x) (by rw[Zb];exact hv),Zb];rfl
 have hx:x.length<=(ct (.str x)).length:=by
  show _<=(quoted x).length
  have:x.length<=(qs x).length:=Al x;simp[quoted];omega
 go_call LQ B b l (ze x) w d a (by omega) (by rw[zL];omega) as e1 w' ⟨rfl,h1,b1,k1⟩;exact⟨rfl,by rw[e];exact h1,b1,k1⟩
theorem Yo{w:Wo}{S:Nat->Prop}:∀ (l:JL) (xs:List ω),Zv w S l xs->xs.length=l.toL.length/\∀ j (h:j<xs.length) (h':j<l.toL.length),zi w S l.toL[j] xs[j]
 | .nil,xs,h=>by rw[Zv]at h;subst h;exact⟨rfl,fun j h=>by simp at h⟩
 | .cons v r,xs,h=>by
  rw[Zv]at h;obtain⟨x,xs',rfl,h2,h3⟩:=h;obtain⟨a,b⟩:=Yo r xs' h3;refine⟨by simp[JL.toL,a],fun j hj hj'=>?_⟩
  cases j with
  | zero=>exact h2
  | succ j=>exact b j (by simpa using hj) (by simpa [JL.toL]using hj')
theorem Gt{w:Wo}{S:Nat->Prop}{sv:ω}{xs:List ω}(h:WL w S sv xs):∃ a g cap,sv=ς a xs.length cap/\(0<xs.length->a=η ⟨g,0,ν⟩/\S g)/\∀ j (hj:j<xs.length),w.cell? ⟨g,j,ν⟩=η xs[j]:=by
 obtain⟨h,i⟩:=h;rcases h.2 with ⟨b,f⟩ |⟨g,cap,d,b,k,l,r⟩
 .refine⟨ν,0,0,by rw[b,f],fun hx=>om,fun j hj=>om⟩
 .subst b;refine⟨η g,g,cap,rfl,fun _=>⟨rfl,i g rfl⟩,fun j hj=>?_⟩;rw[h.cellAt j om];simp
theorem T3(xs:List (List UInt8))(k:Nat)(h:k<xs.length):joinC (xs.take (k+1))=joinC (xs.take k)++(if k=0 then xs[k]else 44 :: xs[k]):=by
 rw[yz h,NU];by_cases a:k=0
 .subst a;simp
 .rw[yf a,yf (by intro e;have:=congrArg List.length e;rw[ym,yE]at this;omega)]
theorem T4(xs:List (List UInt8))(k:Nat):(joinC (xs.take k)).length<=(joinC xs).length:=by
 induction xs generalizing k with
 | nil=>simp
 | cons x xs ih=>
  cases k with
  | zero=>simp[joinC]
  | succ k=>
   rw[List.take_succ_cons,joinC,joinC];have:∀ (a:List (List UInt8)) k,(joinT (a.take k)).length<=(joinT a).length:=by
    intro a;induction a with
    | nil=>simp
    | cons y a ihy=>
     intro k
     cases k with
     | zero=>simp[joinT]
     | succ k=>rw[List.take_succ_cons,joinT,joinT];have:=ihy k;simp;omega
   have:=this xs k;simp;omega
theorem T5(xs:List (List UInt8)):xs.length<=(joinC xs).length+1:=by
 cases xs with
 | nil=>simp
 | cons x xs=>
  rw[joinC];have:∀ a:List (List UInt8),a.length<=(joinT a).length:=by
   intro a;induction a with
   | nil=>simp
   | cons y a ih=>rw[joinT];simp;omega
  have:=this xs;simp;omega
theorem zdE(l:JL)(hall:∀ v∈l.toL,Vh v):Vh (.arr l):=by
 intro B b C w S t p h hS D hB hP F;rw[zi]at h;obtain⟨ab,sv,n,h,V,hab,ad,aa⟩:=h;injection h with h1 h2;subst h1;subst h2;obtain⟨a,g,cap,rfl,E,O⟩:=Gt ad;have hxl:=(Yo l n aa).1;have hc0:w.cell? ⟨ab,0,ν⟩=η (ς a n.length cap):=by rw[yG hab];rfl
 have L:=hS _ V;have W:ct (.arr l)=91 ::(joinC (zu l)++[93]):=rfl;have hcl:(zu l).length=n.length:=by rw[Qd,yl,hxl]
 have hn:=T5 (zu l);have hjt:C.length+(joinC (zu l)).length+2<=10000000:=by rw[W]at F;simp at F;omega
 have hxn:n.length<=10000000:=om;have r:Hid (∀ (k:Nat) (Q:k<n.length) (d:List UInt8) (wr:Wo),zZ B b d wr->Below B w wr->d.length+((zu l).getD k []).length<=10000000->∃ t p f,n[k]=φ t p/\Ss t p f/\δ prog f #[p,π (η ⟨b,0,ν⟩)] wr fun e w'=>e=ε (τ #[])/\zZ B b (d++(zu l).getD k []) w'/\Below B wr w'/\JP b wr w'):=by
  intro k Q d wr K u Z;have y:k<l.toL.length:=om;have hr:=(Yo l n aa).2 k Q y;obtain⟨t,p,X⟩:=Y1 hr;rw[X]at hr;have hr':=zi.keep (w':=wr) (S':=S) (fun k Q=>u.block k (hS k Q)) (fun _ h=>h) _ _ hr;have hd:(zu l).getD k []=ct l.toL[k]:=by rw[Qd];simp[List.getD,y]
  rw[hd]at Z ⊢;exact⟨t,p,wf l.toL[k],X,St hr,hall _ (yt y) B b d wr S t p hr' hS K (yQ hB u.size) (hP.next u (ye _)) Z⟩
 have HJ:Hid (∀ k,k<n.length->joinC ((zu l).take (k+1))=joinC ((zu l).take k)++(if k=0 then (zu l).getD k []else 44 ::(zu l).getD k [])):=fun k Q=>by
  have:=T3 (zu l) k om;rw[this];simp[List.getD,show k<(zu l).length by omega]
 have I:=zb (T4 (zu l));have HE:Hid ((zu l).take n.length=zu l):=yr om;have HC:Hid (∀ j (hj:j<n.length) (wr:Wo),Below B w wr->wr.cell? ⟨g,j,ν⟩=η n[j]):=fun j hj wr u=>by
  have hg:=hS _ ((E om).2);exact (u.cell (p:=⟨g,j,ν⟩) hg).trans (O j hj)
 have M:=fun (h:0<n.length)=>(E h).1;have HCT:=zb W;have hl0:(Γ C).length<=10000000:=by rw[yL];omega
 generalize zu l=cs at *;have z:Hid (∀ (d:List UInt8) (c:Int) (c':UInt8) (wr:Wo),c=(c'.toNat:Int)->d.length<=10000000->zZ B b d wr->B<=wr.heap.size->δ prog 191 #[π (η ⟨b,0,ν⟩),.int .u8 c] wr fun e w'=>e= .returned .nilIface/\zZ B b (d++[c']) w'/\Below B wr w'/\JP b wr w'):=fun d c c' wr hc ha K hB'=>by
  go_call Kz B b _ c wr K (by rw[yL];omega) hB' as e w' ⟨rfl,h1,b1,k1⟩;exact⟨rfl,zZ.byte hc h1,b1,k1⟩
 have HW0:=zb (uh z C 91 91 w rfl om D hB);have HB:=zb hB;show δ prog 316 _ _ _
 go_in;go_wp2_with fail;go_call HW0 as e w1 ⟨rfl,i1,b1,k1⟩;have hc1:=(b1.cell (p:=⟨ab,0,ν⟩) L).trans hc0;have I1:=zb i1;have B1:=zb b1;have K1:=zb k1;go_wp2;go_loopw [13] (fun i wr=>∃ k:Nat,k<=n.length/\i=ι κ k/\zZ B b (C++91 :: joinC (cs.take k)) wr/\Below B w wr/\JP b w wr) (fun i _=>n.length - (intOf i).toNat)
 case atStart=>exact⟨0,yu _,rfl,by have:=uh I1;simpa [joinC]using this,B1,K1⟩
 case round=>
  obtain⟨k,Q,rfl,D,N,hok⟩:=hrel;have J:=zb hok;have U:=yQ HB N.size;by_cases A:k<n.length
  .have hltI:(k:Int)<(n.length:Int):=om;obtain rfl:=M om;have hck:=uh HC k A wr N;have s:=zb (uh HJ k A);have q:=uh I (k+1);rw[uh s]at q;have Y:=uh I k;generalize joinC (cs.take k)=jk at *;by_cases P:k=0
   .rw[yg P]at s q;have tk:(0<k)=False:=yR om;obtain⟨t,p,f,X,R,m⟩:=uh r k A (C++91 :: jk) wr D N (by simp at q ⊢;omega);rw[X]at hck;have hm:=R.meth;have hen:=R.ent;have o:=zb m;generalize cs.getD k []=ck at *;have H:=zb N;clear D R X m q Y r HJ I HC z N P;go_wp2_with fail;go_call o as e w2 ⟨rfl,i2,b2,k2⟩;go_wp2;go_roundw
    case rel=>exact⟨k+1,om,by go_num,by rw[uh s];simpa using i2,H.trans b2,J.trans k2⟩
    case measure=>simp[intOf];omega
   .rw[yf P]at s q;have tk:(0<k)=True:=eq_true om;have HWC:=zb (uh z (C++91 :: jk) 44 44 wr rfl (by simp at Y ⊢;omega) D U);have T:=zb (⟨D,N⟩:zZ B b (C++91 :: jk) wr/\Below B w wr);have G:=zb fun w2 (h1:zZ B b (C++91 :: jk++[44]) w2) (h2:Below B w w2)=>uh r k A _ w2 h1 h2 (by simp at q ⊢;omega);generalize cs.getD k []=ck at *;generalize hx:n[k]=x at *;go_wp2_with fail;go_call HWC as e w2 ⟨rfl,i2,b2,k2⟩;obtain⟨t,p,f,rfl,R,m⟩:=uh G w2 i2 ((uh T).2.trans b2);have hm:=R.meth;have hen:=R.ent;have o:=zb m;have B2:=zb ((uh T).2.trans b2);have K2:=zb (J.trans k2);go_wp2_with fail;go_call o as e w3 ⟨rfl,i3,b3,k3⟩;go_wp2;go_roundw
    case rel=>exact⟨k+1,om,by go_num,by rw[uh s];simpa using i3,B2.trans b3,K2.trans k3⟩
    case measure=>simp[intOf];omega
  .have y:k=n.length:=om;subst y;rw[uh HE]at D;have HWE:=zb (uh z (C++91 :: joinC cs) 93 93 wr rfl so D U);have H:=zb N;go_wp2_with fail;go_call HWE as e w2 ⟨rfl,i2,b2,k2⟩;go_wp2;go_end0;exact⟨rfl,by rw[uh HCT];simpa using i2,H.trans b2,J.trans k2⟩
end Go.Proofs.YtgoafoojaceadaaGreatDoor
namespace Go.Proofs
open Go.Shelf
def Tryz.keysA_ren:Go.Shelf.Ren:=⟨fun | 7=>325 | 10=>328 | n=>n,fun | 23=>210 | 26=>9 | 3=>65 | 28=>384 | 0=>0 | 27=>383 | 33=>112 | 4=>4 | n=>n,fun | n=>n⟩
theorem Tryz.keysA:Go.Proofs.SlLaysZ.n7 Tryz.prog Tryz.keysA_ren:=by
 constructor
 case f7=>exact⟨Tryz.f325.name,by decide,func325.trans (congrArg η (by kernel_rfl))⟩
 case f10=>exact⟨Tryz.f328.name,by decide,func328.trans (congrArg η (by kernel_rfl))⟩
 all_goals repeat' first | kernel_rfl |(intro _;kernel_rfl) | constructor
def Tryz.sortedA_ren:Go.Shelf.Ren:=⟨fun | 6=>324 | 8=>327 | 9=>44 | 11=>329 | 13=>94 | 12=>93 | 23=>153 | 24=>154 | 14=>144 | 15=>145 | 16=>146 | 17=>147 | 18=>148 | 19=>149 | 20=>150 | 21=>151 | 22=>152 | 25=>194 | 26=>195 | 27=>196 | 28=>197 | 29=>198 | 30=>199 | 31=>232 | n=>n,fun | 26=>9 | 28=>384 | 24=>35 | 0=>0 | 3=>3 | 37=>181 | 48=>244 | 50=>246 | 4=>4 | 40=>238 | 39=>237 | 45=>218 | 5=>5 | 9=>9 | 51=>284 | 55=>288 | 57=>314 | 58=>89 | 33=>112 | n=>n,fun | n=>n⟩
theorem Tryz.sortedA:Go.Proofs.SlLaysZ.n6 Tryz.prog Tryz.sortedA_ren:=by
 constructor
 case f6=>exact⟨Tryz.f324.name,by decide,func324.trans (congrArg η (by kernel_rfl))⟩
 case f8=>exact⟨Tryz.f327.name,by decide,func327.trans (congrArg η (by kernel_rfl))⟩
 case f11=>exact⟨Tryz.f329.name,by decide,func329.trans (congrArg η (by kernel_rfl))⟩
 all_goals repeat' first | kernel_rfl |(intro _;kernel_rfl) | constructor
def Tryz.sortA_ren:Go.Shelf.Ren:=⟨fun | 6=>44 | 8=>94 | 9=>93 | 19=>153 | 20=>154 | 21=>144 | 22=>145 | 23=>146 | 24=>147 | 25=>148 | 26=>149 | 27=>150 | 28=>151 | 29=>152 | 36=>194 | 31=>195 | 32=>196 | 37=>197 | 38=>198 | 39=>199 | 41=>232 | n=>n,fun | 27=>35 | 29=>9 | 3=>3 | 32=>181 | 26=>35 | 0=>0 | 44=>244 | 46=>246 | 4=>4 | 36=>238 | 35=>237 | 41=>218 | 5=>5 | 9=>9 | 53=>284 | 57=>288 | 63=>314 | 64=>89 | n=>n,fun | n=>n⟩
theorem Tryz.sortA:Go.Proofs.SlLaysM.n6 Tryz.prog Tryz.sortA_ren:=by
 constructor
 case f6=>exact⟨Tryz.f44.name,by decide,func44.trans (congrArg η (by kernel_rfl))⟩
 case f9=>exact⟨Tryz.f93.name,by decide,func93.trans (congrArg η (by kernel_rfl))⟩
 case f21=>exact⟨Tryz.f144.name,by decide,func144.trans (congrArg η (by kernel_rfl))⟩
 case f22=>exact⟨Tryz.f145.name,by decide,func145.trans (congrArg η (by kernel_rfl))⟩
 case f23=>exact⟨Tryz.f146.name,by decide,func146.trans (congrArg η (by kernel_rfl))⟩
 case f24=>exact⟨Tryz.f147.name,by decide,func147.trans (congrArg η (by kernel_rfl))⟩
 case f25=>exact⟨Tryz.f148.name,by decide,func148.trans (congrArg η (by kernel_rfl))⟩
 case f26=>exact⟨Tryz.f149.name,by decide,func149.trans (congrArg η (by kernel_rfl))⟩
 case f27=>exact⟨Tryz.f150.name,by decide,func150.trans (congrArg η (by kernel_rfl))⟩
 case f28=>exact⟨Tryz.f151.name,by decide,func151.trans (congrArg η (by kernel_rfl))⟩
 case f29=>exact⟨Tryz.f152.name,by decide,func152.trans (congrArg η (by kernel_rfl))⟩
 case f36=>exact⟨Tryz.f194.name,by decide,func194.trans (congrArg η (by kernel_rfl))⟩
 case f37=>exact⟨Tryz.f197.name,by decide,func197.trans (congrArg η (by kernel_rfl))⟩
 case f38=>exact⟨Tryz.f198.name,by decide,func198.trans (congrArg η (by kernel_rfl))⟩
 case f39=>exact⟨Tryz.f199.name,by decide,func199.trans (congrArg η (by kernel_rfl))⟩
 case f41=>exact⟨Tryz.f232.name,by decide,func232.trans (congrArg η (by kernel_rfl))⟩
 all_goals repeat' first | kernel_rfl |(intro _;kernel_rfl) | constructor
end Go.Proofs
namespace Go.Proofs.YtgoafoojaceadaaGreatDoor
open Go.RowKit Go.Maps Go.Sort Go.Shelf Go.Proofs.Tryz
variable{w w':Wo}{b n:Nat}{xs:List (List UInt8×ω)}{S:Nat->Prop}{a:JV}{v:ω}
theorem zdF(m:Nat):AnyZ.SortsIn prog Tryz.sortedA_ren Fence.wide m:=
 ⟨fun blk off cap ss W hH hblk hsz=>callsIn_wide.2 (AnyM.slices_Sort_string Tryz.sortA blk off cap ss W hH hblk hsz),
  fun p cap W=>callsIn_wide.2 (AnyM.slices_Sort_string_none Tryz.sortA p cap W)⟩
theorem zdG{H:Type}(ob b nn:Nat)(D0:DataW H)(R:ω->Option (DataW H×List MemPlace))(w:Wo)(hob:w.cell? ob=η (.map (η b)))(hown:w.ownsMap prog 9 R b nn D0)(hmax:Maps.size D0<=maxLen)(hbytes:Maps.size D0*16<=140737488355328):
  δ prog 321 #[ob] w fun e w'=>∃ (v:ω) (ss:List (List UInt8)),e=ε v/\ss.Perm (strKeys D0) /\
   w'.ownsRow w 9 1 v ss.length ((ss.mergeSort (fun x y=>decide (x<=y))).map encStr)/\(v=ς ν 0 0↔ss=[])/\Below w w w':=by
 refine (callsIn_wide (n:=6)).1 ?_;have i:=hown.lt;have g:SeqGives Fence.wide 2 prog 328 #[w] encStr (fun ss=>ss.Perm (strKeys D0)) (Maps.size D0) (w.alloc (χ #[.map (η b)] 210)):=
  AnyZ.keys_gives (ρ:=Tryz.keysA_ren) {Tryz.keysA with} Fence.wide _ trivial rfl om w b nn D0 _ sm sm (by
   obtain⟨m,a,h,k,s,o⟩:=hown;exact⟨m,a,(Below.heap_alloc _ _ b i).trans h,k,s,o⟩)
 have l:∀ mb W,CallsIn Fence.wide 5 prog 325 #[.map mb] W fun e w'=>e=ε (.func (.func 328) #[] #[W])/\w'=W.alloc (χ #[.map mb] 210):=fun mb W=>AnyZ.keys_in Tryz.keysA Fence.wide 5 trivial rfl mb W;have j:=AnyZ.sorted_in Tryz.sortedA Fence.wide 5 trivial trivial trivial trivial rfl om (zdF _) (enters_of func44 (by kernel_rfl) rfl) 328 #[w] trivial (enters_of func328 (by kernel_rfl) rfl) _ _ hmax hbytes _ g;change CallsIn _ _ prog 324 _ _ _ at j;have q:Fence.wide.fn 325:=trivial;have r:Fence.wide.fn 324:=trivial;refine callsIn_of_wp func321 rfl trivial ?_ rfl;simp only[ntmps321,List.size_toArray,yp,yE,Nat.reduceAdd,Nat.reduceSub,Array.replicate_succ,Array.replicate_zero,List.push_toArray,List.append_toArray,List.nil_append,List.cons_append]
 gi_wp2_with (first
  |(gi_at_call 325;refine (l _ _).mono ?_;rintro e w' ⟨rfl,rfl⟩)
  |(gi_at_call 324;refine j.mono ?_;rintro e w' ⟨v,ss,rfl,p,f,d,h⟩))
 go_ret;exact⟨v,ss,rfl,p,ownsRow_base_a f sm,d,((yI _ w).alloc (ye _) _).trans (h.mono sm)⟩
theorem zdH(h:w.ownsMap prog 9 RH b n (Zl xs))(key:List UInt8)(hk:key.length<=10000000)(v:ω)(hv:J8 xs key=η v):
  (Instr.lookup 210 (.map (η b)) (σ (ze key)) ζ).run prog w= .ok v w:=by
 obtain⟨r,j,o,F,_,m⟩:=h;have g:keyOf prog 9 (σ (ze key))=η (.string key):=by
  have:=WideMaps.keyOf_string_mk underlying9 (s:=ze key) (by rw[zL];unfold maxLen;omega)
  rwa [Zb]at this
 have p:(zeroValue 65).run prog w= .ok .nilIface w:=kr;have a:=fun z=>KR key z xs;rw[m]at a;rcases Maps.fit_look ζ (Maps.string_keyed underlying9) underlying210 p o F g with ⟨d,_,i⟩ |⟨q,y,_,_,d,k,i,_⟩
 .have f:=(i (.held .nilIface)).symm.trans (a (.held .nilIface));have l:=(i (.held (θ ξ))).symm.trans (a (.held (θ ξ)));rw[hv]at f l;exact absurd (f.trans l.symm) (by intro e;injection e with e;cases e)
 .injection k with k;subst k;have f:=(i (.held .nilIface)).symm.trans (a (.held .nilIface));rw[hv]at f;injection f with f;subst f;exact d
theorem Vi:∀ (m:JM) (xs:List (List UInt8×ω)),ZE w S m xs->xs.map (·.1)=QE m/\∀ k v,(k,v)∈m.toL->∃ x,(k,x)∈xs/\zi w S v x
 | .nil,xs,h=>by rw[ZE]at h;subst h;exact⟨rfl,fun k v h=>by simp[JM.toL]at h⟩
 | .cons k v r,xs,h=>by
  rw[ZE]at h;obtain⟨x,xs',rfl,h2,h3⟩:=h;obtain⟨d,f⟩:=Vi r xs' h3;refine⟨by simp[QE,d],fun k' v' a=>?_⟩;rcases List.mem_cons.1 a with e | a
  .injection e with e1 e2;subst e1;subst e2;exact⟨x,yq,h2⟩
  .obtain⟨g,hx,b⟩:=f k' v' a;exact⟨g,yw _ hx,b⟩
theorem UE{k:List UInt8}{x:ω}:∀ xs:List (List UInt8×ω),(xs.map (·.1)).Nodup->(k,x)∈xs->J8 xs k=η x:=by
 refine UD (fun _ h=>by simp at h) ?_;rintro l ⟨f,i⟩ g b a;rw[So];rw[yx,List.nodup_append]at b;rcases List.mem_append.1 a with a | a
 .have d:¬ f=k:=fun e=>by
   subst e;exact b.2.2 f (yP.2 ⟨_,a,rfl⟩) f sm rfl
  rw[yf d];exact g b.1 a
 .simp at a;rw[yg a.1.symm,a.2]
theorem UF(x:List UInt8):∀ xs:List (List UInt8×ω),Maps.has (Zl xs) (.string x)=(xs.map (·.1)).contains x:=by
 refine UD rfl ?_;rintro l ⟨k,v⟩ a;rw[We];by_cases h:x=k
 .subst h;rw[Maps.has_put_same (Sp l) (show WideAt.IsKeyLit (.string x)from trivial)];simp
 .rw[Maps.has_put_other (by intro e;injection e with e;exact h e),a];simp only[yx,yi,List.map_nil];rw[Bool.eq_iff_iff];simp;intro e;exact absurd e h
theorem KS(h:w.ownsMap prog 9 RH b n (Zl xs))(hnd:(xs.map (·.1)).Nodup):(xs.map (·.1)).Perm (strKeys (Zl xs)):=by
 obtain⟨g,f,l,_⟩:=h.entries (Maps.string_keyed underlying9);obtain⟨i,a,j⟩:=World.ownsMap.keysOf h;rw[f]at a;injection a with a;subst a;have k:∀ x,x∈xs.map (·.1)↔Maps.has (.map g) (.string x)=ξ:=fun x=>by rw[← f,UF];simp
 rw[f];refine perm_strKeys l (fun p hp'=>?_) hnd k;obtain⟨m,d⟩:=j p hp';obtain⟨x,_,hx,_⟩:=Maps.keyOf_str underlying9 d;exact⟨x,hx⟩
theorem KT{ks:List (List UInt8)}(h:ks.Perm (strKeys (Zl xs))):Maps.size (Zl xs)=ks.length:=by
 obtain⟨b,a⟩:=Sp xs;rw[a]at h ⊢;have:=h.length_eq;simp[strKeys]at this;rw[this];rfl
theorem zdI{B:Nat}{xs:List ω}(h:w.ownsRow B 9 1 v n xs)(hb:b<B)(hk:JP b w w'):w'.ownsRow B 9 1 v n xs:=by
 refine⟨h.1,?_⟩;rcases h.2 with f |⟨g,a,d,k,i,j,r⟩
 .exact .inl f
 .exact .inr ⟨g,a,d,k,i,hk g _ j (by intro e;injection e with e;omega) (fun c fz e=>by injection e with _ e;cases e),r⟩
theorem zdJ(m:JM)(hall:∀ q∈m.toL,Vh q.2)(hval:∀ q∈m.toL,Δ q.1=ξ)(hnd:(QE m).Nodup):Vh (.obj m):=by
 intro B b l0 w S t p h hS G hB hP U;rw[zi]at h;obtain⟨ob,mb,nn,s,h,hSob,T,hob,M,_,hrm⟩:=h;injection h with h1 h2;subst h1;subst h2;obtain⟨r,hrep⟩:=Vi m s hrm;have Y:(s.map (·.1)).Nodup:=by rw[r];exact hnd
 have N:=KS M Y;have hct:ct (.obj m)=123 ::(joinC ((zI (zm m)).map zo)++[125]):=rfl;have hpl:(zI (zm m)).length=s.length:=by
  have a1:=congrArg List.length r;have a2:=congrArg List.length (FG m);simp only[yl]at a1 a2;rw[(Qc _).length_eq];omega
 have hn:=T5 ((zI (zm m)).map zo);rw[yl]at hn;have hjt:l0.length+(joinC ((zI (zm m)).map zo)).length+2<=10000000:=by rw[hct]at U;simp at U;omega
 have hxn:s.length<=10000000:=om;have Z:=hS _ hSob;have hbB:=G.elim (fun x=>x.1) (fun x=>x.1);have hblt:=G.lt;have hc0:w.cell? ob=η (.map (η mb)):=by rw[yG hob];rfl
 have hsz:Maps.size (Zl s)=s.length:=by rw[KT N,yl]
 have HSK:Hid (∀ w1,Below B w w1->δ prog 321 #[ob] w1 fun e w'=>∃ v,e=ε v/\w'.ownsRow w1 9 1 v s.length (((zI (zm m)).map (·.1)).map encStr)/\Below w1 w1 w'):=fun w1 hb1=>by
  have hc1:=(hb1.cell (p:=ob) Z).trans hc0;go_call zdG ob mb nn (Zl s) RH w1 hc1 (Wd M (hb1.block mb (hS _ T))) (by rw[hsz];unfold maxLen;omega) (by rw[hsz];omega) as e w' ⟨v,ss,rfl,hss,hrow,_,hb⟩;have hks:ss.Perm ((zm m).map (·.1)):=by
   rw[FG,← r];exact hss.trans N.symm
  have hl:ss.length=s.length:=by rw[hks.length_eq,FG,← r,yl]
  rw[zg3 hks,hl]at hrow;exact⟨v,rfl,hrow,hb⟩
 have F:Hid (∀ k,(I:k<(zI (zm m)).length)->Δ (zI (zm m))[k].1=ξ/\∃ t p f,Ss t p f/\(∀ X:Wo,Below B w X->(zI (zm m))[k].1.length<=10000000->(Instr.lookup 210 (.map (η mb)) (σ (ze (zI (zm m))[k].1)) ζ).run prog X= .ok (φ t p) X) /\
   ∀ (acc:List UInt8) (wr:Wo),zZ B b acc wr->Below B w wr->acc.length+(zI (zm m))[k].2.length<=10000000->δ prog f #[p,b] wr fun e w'=>e=ε (τ #[])/\zZ B b (acc++(zI (zm m))[k].2) w'/\Below B wr w'/\JP b wr w'):=by
  intro k I;have V:=(Qc _).subset (yt I);obtain⟨q,hq,he⟩:∃ q∈m.toL,(q.1,ct q.2)=(zI (zm m))[k]:=by
   have h2:=Qn m;generalize (zI (zm m))[k]=z at *;rw[h2]at V;exact yP.1 V
  have e1:(zI (zm m))[k].1=q.1:=by rw[← he]
  have e2:(zI (zm m))[k].2=ct q.2:=by rw[← he]
  rw[e1,e2];obtain⟨x,hx,hr⟩:=hrep q.1 q.2 hq;obtain⟨t,p,rfl⟩:=Y1 hr;have hlast:=UE s Y hx;refine⟨hval q hq,t,p,wf q.2,St hr,fun X hX hkl=>?_,fun acc wr hI' hb' hl'=>?_⟩
  .exact zdH (Wd M (hX.block mb (hS _ T))) q.1 hkl _ hlast
  .exact hall q hq B b acc wr S t p (zi.keep (fun k I=>hb'.block k (hS k I)) (fun _ h=>h) _ _ hr) hS hI' (yQ hB hb'.size) (hP.next hb' (ye _)) hl'
 have hl0:(Γ l0).length<=10000000:=by rw[yL];omega
 have HCT:=zb hct;generalize zI (zm m)=l at *;have HJ:Hid (∀ k (I:k<l.length),joinC ((l.map zo).take (k+1))=joinC ((l.map zo).take k)++(if k=0 then zo l[k]else 44 :: zo l[k])):=fun k I=>by
  have:=T3 (l.map zo) k (by rw[yl];exact I);rw[this];simp
 have P:=zb (T4 (l.map zo));have HE:Hid ((l.map zo).take s.length=l.map zo):=yr (by rw[yl];omega);have A:Hid (∀ (acc:List UInt8) (c:Int) (c':UInt8) (wr:Wo),c=(c'.toNat:Int)->acc.length<=10000000->zZ B b acc wr->B<=wr.heap.size->δ prog 191 #[b,.int .u8 c] wr fun e w'=>e= .returned .nilIface/\zZ B b (acc++[c']) w'/\Below B wr w'/\JP b wr w'):=fun acc c c' wr hc ha hI' hB'=>by
  go_call Kz B b _ c wr hI' (by rw[yL];omega) hB' as e w' ⟨rfl,h1,b1,k1⟩;exact⟨rfl,zZ.byte hc h1,b1,k1⟩
 have aa:Hid (∀ (acc:List UInt8) (d:List UInt8) (wr:Wo),Δ d=ξ->acc.length+(quoted d).length<=10000000->zZ B b acc wr->B<=wr.heap.size->δ prog 323 #[(ze d),b] wr fun e w'=>e=ε (τ #[])/\zZ B b (acc++quoted d) w'/\Below B wr w'/\JP b wr w'):=fun acc d wr hv ha hI' hB'=>by
  have hq:=UX d;go_call LQ B b acc (ze d) wr hI' hB' (by omega) (by rw[zL];omega) as e w' ⟨rfl,h1,b1,k1⟩;have e:quoted d=34 ::(rs (ze d)++[34]):=by rw[LV (ze d) (by rw[Zb];exact hv),Zb];rfl
  exact⟨rfl,by rw[e];exact h1,b1,k1⟩
 have HW0:=zb (uh A l0 123 123 w rfl om G hB);have HB:=zb hB;have HC0:=zb fun (X:Wo) (hX:Below B w X)=>(hX.cell (p:=⟨ob,0,ν⟩) Z).trans hc0;show δ prog 322 _ _ _
 go_in;go_wp2_with fail;go_call HW0 as e w1 ⟨rfl,i1,b1,k1⟩;have HSK1:=zb (uh HSK w1 b1);have I1:=zb i1;have B1:=zb b1;have K1:=zb k1;have hw1:=b1.size;go_wp2_with fail;go_call HSK1 as e w2 ⟨v2,rfl,hrow,b2⟩;have hw2:=b2.size;have I2:=zb (T0 I1 b2);have B2:=zb (B1.trans (b2.mono (yQ HB hw1)));have K2:=zb (Lib.OthersKept.below K1 b2);obtain⟨a2,g2,c2,rfl,hadr,hcell⟩:∃ a g c,v2=ς a s.length c/\(0<s.length->a=η ⟨g,0,ν⟩)/\(∀ (wr:Wo),JP b w2 wr->∀ j (hj:j<l.length),wr.cell? ⟨g,j,ν⟩=η (σ (ze l[j].1))):=by
  rcases hrow.2 with ⟨hv,h0⟩ |⟨g,cap,cur,hv,_⟩
  .exact⟨ν,0,0,by rw[hv,h0],fun h=>om,fun wr I j hj=>om⟩
  .refine⟨η ⟨g,0,ν⟩,g,cap,hv,fun _=>rfl,fun wr I j hj=>?_⟩;subst hv;have:=(zdI hrow om I).cellAt j om;rw[this];simp[hj];rfl
 have u:=zb hcell;go_wp2_with fail;go_loopw [11] (fun i wr=>∃ k:Nat,k<=s.length/\i=ι κ k/\zZ B b (l0++123 :: joinC ((l.map zo).take k)) wr/\Below B w wr/\JP b w2 wr) (fun i _=>s.length - (intOf i).toNat)
 case atStart=>exact⟨0,yu _,rfl,by have:=uh I2;simpa [joinC]using this,B2,Lib.OthersKept.refl _ _ _⟩
 case round=>
  obtain⟨k,I,rfl,G,hb,L⟩:=hrel;have C:=yQ HB hb.size;by_cases hlt:k<s.length
  .have K:k<l.length:=om;have hltI:(k:Int)<(s.length:Int):=om;obtain rfl:=hadr om;have hck:=uh u wr L k K;obtain⟨hkv,t,p,f,hw,J,H⟩:=uh F k K;have E:=zb (uh HJ k K);have y:=uh P (k+1);rw[uh E]at y;have hj0:=uh P k;have hmp:=N6 l[k];have HMT:Hid (zo l[k]=quoted l[k].1++58 :: l[k].2):=rfl;have hqg:=UX l[k].1;generalize joinC ((l.map zo).take k)=jk at *;generalize l[k].1=d at *;generalize l[k].2=txt at *;generalize zo l[k]=mt at *;have W:=hw.meth;have hen:=hw.ent;have Q:=zb L;have HBW:=zb hb;have o:=zb J;have n:=zb H;clear hw J H L hb u HJ P F;by_cases R:k=0
   .rw[yg R]at E y;have tk:(0<k)=False:=yR om;have hj2:jk.length+mt.length<=(joinC (l.map zo)).length:=by simpa using y
    have HS:=zb (uh aa (l0++123 :: jk) d wr hkv so G C);clear R G y;go_wp2_with fail;go_call HS as e w3 ⟨rfl,i3,b3,k3⟩;have B3:=zb (HBW.trans b3);have K3:=zb (Q.trans k3);have HC:=zb (uh A _ 58 58 w3 rfl so i3 (yQ C b3.size));clear HS i3 b3 k3 hck;go_wp2_with fail;go_call HC as e w4 ⟨rfl,i4,b4,k4⟩;have O:=zb (B3.trans b4);have K4:=zb (K3.trans k4);have hlk:=uh o w4 O om;have hcm:=uh HC0 w4 O;have D:=zb (uh n _ w4 i4 O so);clear HC i4 b4 k4 o n B3 K3;go_wp2_with fail;go_call D as e w5 ⟨rfl,i5,b5,k5⟩;clear D hlk hcm W hen;go_wp2;go_roundw
    case rel=>exact⟨k+1,om,by go_num,by rw[uh E,uh HMT];simpa using i5,O.trans b5,K4.trans k5⟩
    case measure=>simp[intOf];omega
   .rw[yf R]at E y;have tk:(0<k)=True:=eq_true om;have hj2:jk.length+1+mt.length<=(joinC (l.map zo)).length:=by simp at y;omega
    have HCM:=zb (uh A (l0++123 :: jk) 44 44 wr rfl so G C);clear R G y;go_wp2_with fail;go_call HCM as e w2' ⟨rfl,i2',b2',k2'⟩;have B2':=zb (HBW.trans b2');have K2':=zb (Q.trans k2');have HS:=zb (uh aa _ d w2' hkv so i2' (yQ C b2'.size));have hBr2:=yQ C b2'.size;clear HCM i2' b2' k2' hck;go_wp2_with fail;go_call HS as e w3 ⟨rfl,i3,b3,k3⟩;have B3:=zb (B2'.trans b3);have K3:=zb (K2'.trans k3);have HC:=zb (uh A _ 58 58 w3 rfl so i3 (yQ hBr2 b3.size));clear HS i3 b3 k3 B2' K2';go_wp2_with fail;go_call HC as e w4 ⟨rfl,i4,b4,k4⟩;have O:=zb (B3.trans b4);have K4:=zb (K3.trans k4);have hlk:=uh o w4 O om;have hcm:=uh HC0 w4 O;have D:=zb (uh n _ w4 i4 O so);clear HC i4 b4 k4 o n B3 K3;go_wp2_with fail;go_call D as e w5 ⟨rfl,i5,b5,k5⟩;clear D hlk hcm W hen;go_wp2;go_roundw
    case rel=>exact⟨k+1,om,by go_num,by rw[uh E,uh HMT];simpa using i5,O.trans b5,K4.trans k5⟩
    case measure=>simp[intOf];omega
  .have hk':k=s.length:=om;subst hk';rw[uh HE]at G;have HWE:=zb (uh A (l0++123 :: joinC (l.map zo)) 125 125 wr rfl so G C);have HB':=zb hb;have Q:=zb L;clear G hb L F HJ P u A aa;go_wp2_with fail;go_call HWE as e w3 ⟨rfl,i3,b3,k3⟩;go_wp2;go_end0;exact⟨rfl,by rw[uh HCT];simpa using i3,HB'.trans b3,K2.trans (Q.trans k3)⟩
mutual
theorem Su:∀ v:JV,zz v->zF v=ζ->Vh v
 | .nul,_,_=>zdz
 | .tt,_,_=>zdA
 | .ff,_,_=>zdB
 | .num l,_,_=>zdC l
 | .str l,h,_=>zdD l (by rw[zz]at h;exact h)
 | .arr l,h,t=>zdE l (T6 l (by rw[zz]at h;exact h) (by rw[zF]at t;exact t))
 | .obj m,h,t=>zdJ m (T7 m [] (by rw[zz]at h;exact h) (by rw[zF]at t;exact t)) (Sv m (by rw[zz]at h;exact h)) (FI m [] (by rw[zF]at t;exact t)).1
theorem T6:∀ l:JL,qT l->qh l=ζ->∀ v∈l.toL,Vh v
 | .nil,_,_,v,hv=>by simp[JL.toL]at hv
 | .cons x r,h,t,v,hv=>by
  rw[qT]at h;rw[qh,Bool.or_eq_false_iff]at t;rw[JL.toL]at hv;rcases List.mem_cons.1 hv with e | hv
  .rw[e];exact Su x h.1 t.1
  .exact T6 r h.2 t.2 v hv
theorem T7:∀ (m:JM) (ks:List (List UInt8)),qR m->Z6 ks m=ζ->∀ q∈m.toL,Vh q.2
 | .nil,_,_,_,q,hq=>by simp[JM.toL]at hq
 | .cons k x r,ks,h,t,q,hq=>by
  rw[qR]at h;rw[Z6]at t;simp only[Bool.or_eq_false_iff]at t;rw[JM.toL]at hq;rcases List.mem_cons.1 hq with e | hq
  .rw[e];exact Su x h.2.1 t.1.1
  .exact T7 r (ks++[k]) h.2.2 t.2 q hq
theorem Sv:∀ m:JM,qR m->∀ q∈m.toL,Δ q.1=ξ
 | .nil,_,q,hq=>by simp[JM.toL]at hq
 | .cons k x r,h,q,hq=>by
  rw[qR]at h;rw[JM.toL]at hq;rcases List.mem_cons.1 hq with e | hq
  .rw[e];exact h.1
  .exact Sv r h.2.2 q hq
end
theorem Fg(v:JV)(hok:zz v)(htw:zF v=ζ)(t:TypeId)(p:ω)(w:Wo)(S:Nat->Prop)(h:zi w S v (φ t p))(hS:∀ k,S k->k<w.heap.size)(hP:JJ w w)(hl:(ct v).length<=10000000):
  δ prog 40 #[φ t p] w fun e w'=>e=ε (σ (ze (ct v)))/\Below w w w':=by
 have i:=St h;have a:Below w w (w.alloc (χ #[π ν,ς ν 0 0] 173)):=(yI _ _).alloc (ye _) _;have g:=zb (Su v hok htw w w [] (w.alloc (χ #[π ν,ς ν 0 0] 173)) S t p (zi.keep (fun k hk=>a.block k (hS k hk)) (fun _ h=>h) _ _ h) hS (Lib.fresh_isBuilder _ _ w) sm (hP.next a (ye _)) (by simpa using hl));rw[List.nil_append]at g;have o:=i.meth;have n:=i.ent;generalize wf v=f at *;generalize ct v=m at *;go_in;go_wp2_with fail;go_call g as e w1 ⟨rfl,h1,b1,_⟩;have d:=a.trans b1;have b:=d.size;have l:=zb (XY w w m w1 h1 b);go_wp2_with fail;go_call l as e w2 ⟨rfl,b2⟩;have j:=d.trans b2;go_wp2;go_ret;exact⟨rfl,j⟩
theorem T8:∀ n:Nat,Lib.decDigits n=Zj n:=by
 intro n;induction n using Nat.strongRecOn with
 | _ n ih=>
  rw[Lib.decDigits];split
  .rename_i h;rw[J2 h]
  .rename_i h;rw[UU h,ih (n / 10) om,J2 (n:=n % 10) om]
theorem Sw{tx:TypeId}{vx vy:ω}{b:Bool}(hinfo:(prog.info? tx).map (·.comparable)=η ξ)(h:∀ (d:Nat) (w:Wo),(Op.equalIn (d+1) tx vx vy).run prog w= .ok b w)(w:Wo):
  (binOp .eql 65 (φ tx vx) (φ tx vy)).run prog w= .ok (θ b) w:=by
 obtain⟨i,g,f⟩:=yA.1 hinfo;have a:∀ d:Nat,(Op.equalIn (d+1+1) 65 (φ tx vx) (φ tx vy)).run prog w= .ok b w:=fun d=>by
  rw[Op.equalIn];simp[run_underlying underlying65,typeInfo,g,f,h d]
 simp only[binOp];simp[Op.equal,Op.maxDepth,a 9998]
theorem zdK(z z':Int)(w:Wo):(binOp .eql 65 (φ 299 (ι κ z)) (φ 299 (ι κ z'))).run prog w= .ok (θ (z ==z')) w:=
 Sw kr (fun d w=>by rw[Op.equalIn];simp[run_underlying underlying299]) w
theorem zdL(a b:Bs)(w:Wo):(binOp .eql 65 (φ 213 a) (φ 213 b)).run prog w= .ok (θ (a ==b)) w:=
 Sw kr (fun d w=>by rw[Op.equalIn];simp[run_underlying underlying213]) w
theorem O4(a b:Bool)(w:Wo):(binOp .eql 65 (φ 263 (θ a)) (φ 263 (θ b))).run prog w= .ok (θ (a ==b)) w:=
 Sw kr (fun d w=>by rw[Op.equalIn];simp[run_underlying underlying263]) w
theorem O9{tp te:TypeId}(hinfo:(prog.info? tp).map (·.comparable)=η ξ)(hu:prog.underlying tp=η (.pointer te))(hz:∀ w:Wo,∃ n,n≠0/\(sizeOf te).run prog w= .ok n w)(a b:Nat)(hne:a≠b)(w:Wo){ca cb:Array ω}{ta tb:TypeId}(ha:w.heap[a]?=η (χ ca ta (0,0)))(hb:w.heap[b]?=η (χ cb tb (0,0))):
  (binOp .eql 65 (φ tp a) (φ tp b)).run prog w= .ok (θ ζ) w:=by
 obtain⟨i,k,j⟩:=yA.1 hinfo;obtain⟨n,l,m⟩:=hz w;have f:(sameAddr a b).run prog w= .ok ζ w:=run_sameAddr_other w (by intro e;injection e with e;exact hne e) ha hb;have h:∀ d:Nat,(Op.equalIn (d+1) tp a b).run prog w= .ok ζ w:=fun d=>by
  rw[Op.equalIn];simp[run_underlying hu,m,l,f]
 have g:∀ d:Nat,(Op.equalIn (d+1+1) 65 (φ tp a) (φ tp b)).run prog w= .ok ζ w:=fun d=>by
  rw[Op.equalIn];simp[run_underlying underlying65,typeInfo,k,j,h d]
 simp only[binOp];simp[Op.equal,Op.maxDepth,g 9998]
def UG(w:Wo)(S:Nat->Prop):Option JV->ω->Prop
 | none,v=>v= .nilIface
 | some u,v=>zi w S u v
theorem UG.keep{S':Nat->Prop}(hk:∀ k,S k->w'.heap[k]?=w.heap[k]?)(hS:∀ k,S k->S' k):∀ {o:Option JV} {v:ω},UG w S o v->UG w' S' o v
 | none,_,h=>h
 | some u,v,h=>zi.keep hk hS u v h
theorem T9(z:Int):(0<=z/\Α z=Zj z.toNat)∨(z<0/\Α z=45 :: Zj z.natAbs):=by
 unfold Α;split
 .exact .inr ⟨om,by rw[T8]⟩
 .exact .inl ⟨om,by rw[T8]⟩
theorem zdM(z z':Int):(z ==z')=(Α z ==Α z'):=by
 rw[Bool.eq_iff_iff,yD,yD];constructor
 .intro h;rw[h]
 .intro h;rcases T9 z with ⟨a,b⟩ |⟨a,b⟩<;>rcases T9 z' with ⟨c,d⟩ |⟨c,d⟩<;>rw[b,d]at h
  .have:=FQ h;omega
  .have f:=(Pn z.toNat).2.1 45 (by rw[h];simp);exact absurd f dc
  .have f:=(Pn z'.toNat).2.1 45 (by rw[← h];simp);exact absurd f dc
  .injection h with _ h;have:=FQ h;omega
theorem zdN(a b:List UInt8):(ze a ==ze b)=(a ==b):=by
 show ((ze a).data ==(ze b).data)=_
 simp[ze]
def Qs:JV->TypeId
 | .nul=>262
 | .tt=>263
 | .ff=>263
 | .num _=>299
 | .str _=>213
 | .arr _=>146
 | .obj _=>209
theorem KU(h:zi w S a v):∃ q,v=φ (Qs a) q:=by
 cases a<;>rw[zi]at h
 .exact⟨_,h⟩
 .exact⟨_,h⟩
 .exact⟨_,h⟩
 .obtain⟨z,h,_⟩:=h;exact⟨_,h⟩
 .exact⟨_,h⟩
 .obtain⟨f,j,d,h,_⟩:=h;exact⟨_,h⟩
 .obtain⟨i,b,g,d,h,_⟩:=h;exact⟨_,h⟩
theorem Ba{b:JV}(h:Qs a≠Qs b):GK a b=ζ:=by
 cases a<;>cases b<;>first | rfl | exact absurd rfl h
theorem zdO(w:Wo):(binOp .eql 65 (φ 262 (γ #[])) (φ 262 (γ #[]))).run prog w= .ok (θ ξ) w:=by kernel_rfl
theorem zdP{S1 S2:Nat->Prop}(hd:∀ k,S1 k->¬ S2 k){b:JV}{v1 v2:ω}(h1:zi w S1 a v1)(h2:zi w S2 b v2):(binOp .eql 65 v1 v2).run prog w= .ok (θ (GK a b)) w:=by
 have x:∀ w:Wo,∃ n,n≠0/\(sizeOf 149).run prog w= .ok n w:=fun w=>⟨1,dc,kr⟩;have j:∀ w:Wo,∃ n,n≠0/\(sizeOf 212).run prog w= .ok n w:=fun w=>⟨1,dc,kr⟩;by_cases d:Qs a=Qs b
 .cases a with
  | nul=>cases b with
   | nul=>rw[zi]at h1 h2;subst h1;subst h2;exact zdO w
   | _=>exact absurd d (by simp only[Qs];decide)
  | tt=>cases b with
   | tt=>rw[zi]at h1 h2;subst h1;subst h2;exact O4 ξ ξ w
   | ff=>rw[zi]at h1;rw[zi]at h2;subst h1;subst h2;exact O4 ξ ζ w
   | _=>exact absurd d (by simp only[Qs];decide)
  | ff=>cases b with
   | tt=>rw[zi]at h1;rw[zi]at h2;subst h1;subst h2;exact O4 ζ ξ w
   | ff=>rw[zi]at h1 h2;subst h1;subst h2;exact O4 ζ ζ w
   | _=>exact absurd d (by simp only[Qs];decide)
  | num l=>cases b with
   | num m=>
    rw[zi]at h1 h2;obtain⟨z,h1,r,_⟩:=h1;obtain⟨F,h2,s,_⟩:=h2;subst h1;subst h2;rw[zdK,zdM,r,s];rfl
   | _=>exact absurd d (by simp only[Qs];decide)
  | str l=>cases b with
   | str m=>rw[zi]at h1 h2;subst h1;subst h2;rw[zdL,zdN];rfl
   | _=>exact absurd d (by simp only[Qs];decide)
  | arr l=>cases b with
   | arr m=>
    rw[zi]at h1 h2;obtain⟨p,E,y,h1,s1,g,_⟩:=h1;obtain⟨f,v,o,h2,s2,h,_⟩:=h2;subst h1;subst h2;exact O9 kr underlying146 x p f (fun e=>hd p s1 (by rw[e];exact s2)) w g h
   | _=>exact absurd d (by simp only[Qs];decide)
  | obj l=>cases b with
   | obj m=>
    rw[zi]at h1 h2;obtain⟨q,b,B,y,h1,s1,_,g,_⟩:=h1;obtain⟨i,A,u,o,h2,s2,_,h,_⟩:=h2;subst h1;subst h2;exact O9 kr underlying209 j q i (fun e=>hd q s1 (by rw[e];exact s2)) w g h
   | _=>exact absurd d (by simp only[Qs];decide)
 .obtain⟨C,rfl⟩:=KU h1;obtain⟨D,rfl⟩:=KU h2;rw[Ba d];exact run_eql_iface_types _ _ _ _ underlying65 d w
