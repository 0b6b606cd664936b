import Derived.Test.YtekpghcckdjnhaaGreatDoorBz15
import Derived.Test.YtekpghcckdjnhaaGreatDoorBz18
set_option maxRecDepth 100000
set_option maxHeartbeats 8000000
namespace Go.Proofs.YtekpghcckdjnhaaGreatDoor
open Go.RowKit Go.Proofs.Tryz
abbrev Gm(m:zw):Array Value:=#[.int .i64 m.kind,.string m.path,.string m.src,.string m.val]
def VD(w:Wo)(g:Nat)(m:zw):Prop:=w.heap[g]?=some (.cells (Gm m) 95 (0,0))
theorem VD.lt{w:Wo}{g:Nat}{m:zw}(h:VD w g m):g<w.heap.size:=(yB.1 h).1
theorem VD.below{w w':Wo}{g:Nat}{m:zw}(h:VD w g m)(hb:Bw w w'):VD w' g m:=(hb.block g h.lt).trans h
theorem VD.c{w:Wo}{g:Nat}{m:zw}(h:VD w g m):w.cell? ⟨g,0,none⟩=some (.int .i64 m.kind)/\w.cell? ⟨g,1,none⟩=some (.string m.path)/\w.cell? ⟨g,2,none⟩=some (.string m.src)/\w.cell? ⟨g,3,none⟩=some (.string m.val):=⟨yF h 0,yF h 1,yF h 2,yF h 3⟩
def Z3(w:Wo)(B:Nat)(v:Value)(ms:List zw):Prop:=w.ownsRow B 95 4 v ms.length (ms.flatMap Yr)
theorem Z3.orow{w:Wo}{B:Nat}{v:Value}{ms:List zw}(h:Z3 w B v ms):zk Zh w v ms v.ownBlock.toList/\Zj B v.ownBlock.toList:=by
 refine⟨⟨ms.map fun m=>(Yr m,[]),by simp,fun j p x hp hx=>?_,?_,?_⟩,?_⟩
 ·rw[List.getElem?_map,hx]at hp;injection hp with hp;subst hp;exact⟨rfl,rfl⟩
 ·have e:(ms.map fun m=>((Yr m,[]):List Value×List Nat)).flatMap (·.1)=ms.flatMap Yr:=by rw[List.flatMap_map]
  rw[e];exact qT h (yt _)
 ·have e:(ms.map fun m=>((Yr m,[]):List Value×List Nat)).flatMap (·.2)=[]:=by rw[List.flatMap_map];simp
  rw[e,yS]
 ·refine⟨?_,fun b hb=>(h.lt b (by simpa using hb)).1⟩
  cases v.ownBlock<;>simp
theorem U5(a b:List (List UInt8)):ZV a b=a.isPrefixOf b:=by
 rw[Bool.eq_iff_iff,List.isPrefixOf_iff_prefix];unfold ZV;rw[decide_eq_true_iff];constructor
 ·rintro⟨g,f⟩;refine⟨b.drop a.length,?_⟩;refine List.ext_getElem? fun j=>?_;by_cases d:j<a.length
  ·rw[List.getElem?_append_left d];have:=f j d;rw[yx d,yx (by omega)];simpa [List.getD,d,show j<b.length by omega]using this
  ·rw[List.getElem?_append_right (by omega),List.getElem?_drop];congr 1;omega
 ·rintro⟨r,rfl⟩;refine⟨by simp,fun j d=>?_⟩;simp[List.getD,List.getElem?_append_left d]
theorem A4{a b:List (List UInt8)}(h1:ZV a b=true)(h2:ZV b a=true):a=b:=by
 rw[U5,List.isPrefixOf_iff_prefix]at h1 h2;exact h1.eq_of_length (Nat.le_antisymm h1.length_le h2.length_le)
theorem DE(a:List (List UInt8)):ZV a a=true:=by
 rw[U5,List.isPrefixOf_iff_prefix];exact List.prefix_refl a
theorem A5(sv su:Bs)(a:Option Addr)(cap:Nat)(w:Wo):
  Calls prog 93 #[.string sv,.slice a 0 cap,.string su] w fun e w'=>e= .returned (.tuple #[.string su,.bool true])/\Bw w w':=by
 go_in;go_wp2;go_ret2;exact⟨rfl,yH _ _⟩
theorem Nf(v u:JV)(ts:List (List UInt8))(a:Option Addr)(g off cap:Nat)(w:Wo)(hv:zx v)(hu:zx u)(hl:(ct v).length<=100000)(hul:(ct u).length<=100000)(hts:∀ x∈ts,x.length<=1048576)(hn:ts.length<=1048577)(hcap:ts.length<=cap)(hss:SS w a g off (ts.map zz)):
  Calls prog 93 #[.string (ze (ct v)),.slice a ts.length cap,.string (ze (ct u))] w fun e w'=>e= .returned (Gl (qc v ts u))/\Bw w w':=by
 rcases List.eq_nil_or_concat ts with rfl |⟨d,t,rfl⟩
 ·exact A5 _ _ a cap w
 ·rw[List.concat_eq_append]at *;have b:(d++[t]).length=d.length+1:=by simp
  rw[b]at hn hcap ⊢;exact AG v u d t a g off cap w hv hu hl hul hts (by omega) hcap hss
theorem A6{v c:JV}{xs:List (List UInt8)}{t:List UInt8}(h:zM v (xs++[t])=some c):∃ hm,zM v xs=some hm/\zQ hm t=some c/\qz v (xs++[t])=some (ZS v xs (qO hm t)):=by
 rw[UE]at h
 cases hg:zM v xs with
 | none=>rw[hg]at h;cases h
 | some hm=>
  rw[hg]at h;have a:zM hm [t]=some c:=h;rw[YL]at a
  cases hc:zQ hm t with
  | none=>rw[hc]at a;cases a
  | some x=>
   rw[hc]at a;have:x=c:=by have b:zM x []=some c:=a;rw[Gj]at b;injection b
   subst this;refine⟨hm,rfl,hc,?_⟩;unfold qz qj J7 Qq;rw[yf (by simp),List.dropLast_concat,hg];simp[hc]
theorem DF(v c:JV)(ts:List (List UInt8))(a:Option Addr)(g off cap:Nat)(w:Wo)(hne:ts≠[])(hv:zx v)(hg:zM v ts=some c)(hl:(ct v).length<=100000)(hts:∀ x∈ts,x.length<=1048576)(hn:ts.length<=1048577)(hcap:ts.length<=cap)(hss:SS w a g off (ts.map zz)):
  ∃ r,qz v ts=some r/\zx r/\(ct r).length<=(ct v).length/\Calls prog 95 #[.string (ze (ct v)),.slice a ts.length cap] w fun e w'=>e= .returned (.string (ze (ct r)))/\Bw w w':=by
 rcases List.eq_nil_or_concat ts with rfl |⟨d,t,rfl⟩
 ·exact absurd rfl hne
 ·rw[List.concat_eq_append]at *;have b:(d++[t]).length=d.length+1:=by simp
  obtain⟨j,f,h,i⟩:=A6 hg;have k:=Vy (u:=qO j t) hv f;have l:=O5 h;refine⟨_,i,UZ hv i,by omega,?_⟩;rw[b]at hn hcap ⊢;exact AE v j c d t a g off cap w hv f h hl hts (by omega) hcap hss
def XG(o:zw)(u:JV):qd:=⟨o.kind,(zG o.path.data.toList).getD [],(zG o.src.data.toList).getD [],u⟩
def XH:Nat⊕JV->Value
 | .inl c=>.tuple #[.string ⟨#[]⟩,.int .i64 (c:Int)]
 | .inr r=>.tuple #[.string (ze (ct r)),.int .i64 0]
theorem Ng(s:Bs)(hs:s.size<=1048576):((zG s.data.toList).getD []).length<=1048577/\∀ x∈(zG s.data.toList).getD [],x.length<=1048576:=by
 have d:=Zn s;have a:=Xx s.data.toList
 cases hp:zG s.data.toList with
 | none=>simp
 | some ts=>
  rw[hp]at a;simp only[Option.getD_some]at a ⊢;have b:=ST hp;exact⟨by omega,fun x hx=>by have:=b x hx;omega⟩
theorem OT.all{w:Wo}{B:Nat}{v:Value}{ts:List (List UInt8)}(h:OT w B v ts):∃ a g cap,v= .slice a ts.length cap/\SS w a g 0 (ts.map zz)/\ts.length<=cap:=by
 obtain⟨a,g,cap,rfl,i,_⟩:=h.shape;refine⟨a,g,cap,rfl,i,?_⟩;rcases h.2 with ⟨d,k⟩ |⟨j,b,f,d,_,_,l,_⟩
 ·omega
 ·injection d with _ _ e;omega
theorem A9{v:JV}{ts:List (List UInt8)}(h:zM v ts=none):qz v ts=none:=by
 rcases List.eq_nil_or_concat ts with rfl |⟨d,t,rfl⟩
 ·unfold qz;rw[yg rfl]
 ·rw[List.concat_eq_append]at *;rw[UE]at h;unfold qz qj J7 Qq;rw[yf (by simp),List.dropLast_concat]
  cases hg:zM v d with
  | none=>rfl
  | some hm=>
   rw[hg]at h;have a:zM hm [t]=none:=h;rw[YL]at a
   cases hc:zQ hm t with
   | none=>simp[hc]
   | some x=>rw[hc]at a;have b:zM x []=none:=a;rw[Gj]at b;cases b
structure DW(w0 w:Wo)(A:Nat)(o:zw)(ps fs:List (List UInt8))(B1 B2:Nat)(a1 a2:Option Addr)(g1 g2 cap1 cap2:Nat):Prop where
 op:VD w A o
 s1:SS w a1 g1 0 (ps.map zz)
 s2:SS w a2 g2 0 (fs.map zz)
 t1:OT w B1 (.slice a1 ps.length cap1) ps
 t2:OT w B2 (.slice a2 fs.length cap2) fs
 bl:Bw w0 w
theorem DW.next{w0 w w':Wo}{A B1 B2 g1 g2 cap1 cap2:Nat}{o:zw}{ps fs:List (List UInt8)}{a1 a2:Option Addr}(h:DW w0 w A o ps fs B1 B2 a1 a2 g1 g2 cap1 cap2)(hb:Bw w w'):DW w0 w' A o ps fs B1 B2 a1 a2 g1 g2 cap1 cap2:=
 ⟨h.op.below hb,h.s1.below hb,h.s2.below hb,ZB h.t1 hb,ZB h.t2 hb,zh h.bl hb⟩
theorem Ha(v u:JV)(o:zw)(w:Wo)(hv:zx v)(hl:(ct v).length<=100000)(hp:o.path.size<=1048576)(hs:o.src.size<=1048576)(hk1:1<=o.kind)(hk6:o.kind<=6)(hval:qS o.kind=true->o.val=ze (ct u)/\zx u/\(ct u).length<=100000):
  Calls prog 50 #[.string (ze (ct v)),.agg (Gm o)] w fun e w'=>e= .returned (XH (ZK v (XG o u)))/\Bw w w':=by
 obtain⟨i,j⟩:=Ng o.path hp;obtain⟨q,s⟩:=Ng o.src hs;have hX:XG o u=⟨o.kind,(zG o.path.data.toList).getD [],(zG o.src.data.toList).getD [],u⟩:=rfl;have kA:VD (w.alloc (.cells (Gm o) 95)) w.heap.size o:=yG w (.cells (Gm o) 95);have bA:=QF w (.cells (Gm o) 95);have HT1:=zb (Wa o.path (w.alloc (.cells (Gm o) 95)) hp);have HT2:Hid (∀ wx,Calls prog 67 #[.string o.src] wx fun e w'=>∃ v,e= .returned (.tuple #[v,.bool (zG o.src.data.toList).isSome])/\OT w' wx.heap.size v ((zG o.src.data.toList).getD [])/\Bw wx w'):=fun wx=>Wa o.src wx hs;have HOA:=zb kA;have HBA:=zb bA;have hc:=kA.c;generalize (zG o.path.data.toList).isSome=ok1 at *;generalize (zG o.src.data.toList).isSome=ok2 at *;generalize (zG o.path.data.toList).getD []=d at *;generalize (zG o.src.data.toList).getD []=A at *;have L:Hid (∀ (ts:List (List UInt8)) (a:Option Addr) (g cap:Nat) (wx:Wo),ts=d∨ts=A->SS wx a g 0 (ts.map zz)->Calls prog 92 #[.string (ze (ct v)),.slice a ts.length cap] wx (Rb (YJ v ts) wx)):=fun ts a g cap wx ht h=>ON v hv.ok hv.tw (by omega) a g 0 cap ts wx h (by rcases ht with rfl | rfl<;>assumption) (by rcases ht with rfl | rfl<;>assumption);have S:Hid (∀ (x y:List (List UInt8)) (wx:Wo) (a b:Value) (B1 B2:Nat),(x=A/\y=d)∨(x=d/\y=A)->OT wx B1 a x->OT wx B2 b y->Calls prog 94 #[a,b] wx (Rb (.bool (ZV x y)) wx)):=fun x y wx a b B1 B2 hq h1 h2=>(Oq a b x y wx h1 h2 (by rcases hq with ⟨rfl,rfl⟩ |⟨rfl,rfl⟩<;>assumption) (by rcases hq with ⟨rfl,rfl⟩ |⟨rfl,rfl⟩<;>assumption)).mono (by rintro e w' ⟨rfl,n,rfl⟩;exact⟨rfl,Xw wx n _⟩);obtain⟨gx,gb,hgr,F,G⟩:∃ (gx:Bs) (gb:Bool),YJ v d= .tuple #[.string gx,.bool gb]/\(zM v d=none->gb=false)/\(∀ c,zM v d=some c->gx=ze (ct c)/\gb=true):=by
  cases h:zM v d with
  | none=>exact⟨_,_,XE h,fun _=>rfl,fun c h=>by cases h⟩
  | some x=>exact⟨_,_,U4 h,fun h=>(by cases h),fun c hc=>by injection hc with hc;subst hc;exact⟨rfl,rfl⟩⟩
 have HG:Hid (∀ (a:Option Addr) (g cap:Nat) (wx:Wo),SS wx a g 0 (d.map zz)->Calls prog 92 #[.string (ze (ct v)),.slice a d.length cap] wx (Rb (.tuple #[.string gx,.bool gb]) wx)):=fun a g cap wx h=>by have:=uh L d a g cap wx (.inl rfl) h;rw[hgr]at this;exact this
 obtain⟨T,Z⟩:∃ D,ZK v (XG o u)=D:=⟨_,rfl⟩;rw[Z];rw[hX]at Z;have U:=zb Z;have HFA:Hid (zx v/\(ct v).length<=100000/\d.length<=1048577/\(∀ x∈d,x.length<=1048576)/\A.length<=1048577/\(∀ x∈A,x.length<=1048576)/\(qS o.kind=true->o.val=ze (ct u)/\zx u/\(ct u).length<=100000)/\1<=o.kind/\o.kind<=6/\(zM v d=none->gb=false)/\∀ c,zM v d=some c->gx=ze (ct c)/\gb=true):=⟨hv,hl,i,j,q,s,hval,hk1,hk6,F,G⟩;clear hX Z hv hl hp hs i j q s hval hk1 hk6 F G hgr kA bA;go_in;go_wp2_with fail;generalize (w.alloc (.cells (Gm o) 95))=wA at *;refine (uh HT1).mono ?_;rintro e w1 ⟨v1,rfl,o1,b1⟩;have HO1:=zb ((uh HOA).below b1);obtain⟨p10,p11,p12,p13⟩:=(uh HO1).c;obtain⟨R,V,k,rfl,ss1,E⟩:=OT.all o1;have ab:=zb o1;have af:=zb ss1;have HB1:=zb (zh (uh HBA) b1);have ag:=zb (uh HT2 w1);clear HT1 HT2 o1 ss1 b1 HOA HBA hc;go_wp2_with fail;refine (uh ag).mono ?_;rintro e w2 ⟨v2,rfl,o2,b2⟩;obtain⟨a2,g2,M,rfl,ss2,hcap2⟩:=OT.all o2;have X:Hid (DW w w2 w.heap.size o d A _ _ R a2 V g2 k M):=⟨(uh HO1).below b2,(uh af).below b2,ss2,ZB (uh ab) b2,o2,zh (uh HB1) b2⟩;obtain⟨q10,q11,q12,q13⟩:=(uh X).op.c;have HG2:=zb (uh HG R V k w2 (uh X).s1);clear ag o2 ss2 b2 HO1 HB1 HG af ab p10 p11 p12 p13;go_wp2_with fail;refine (uh HG2).mono ?_;rintro e w3 ⟨rfl,b3⟩;have f:=zb ((uh X).next b3);obtain⟨r10,r11,r12,r13⟩:=(uh f).op.c;clear HG2 b3 X q10 q11 q12 q13;obtain⟨hv,hl,i,j,q,s,hval,hk1,hk6,F,G⟩:=uh HFA;clear HFA;rcases (show o.kind=1∨o.kind=4∨o.kind=5∨(o.kind=2∨o.kind=3∨o.kind=6) by omega)with p | p | p | p
 ·obtain⟨e1,e2,e3⟩:=hval (by rw[p];rfl);have O:=zb (Nf v u d R V 0 k w3 hv e2 hl e3 j i E (uh f).s1);rw[← e1]at O;have l:Hid (T=ZM 3 (qc v d u)):=by show _=_;rw[← uh U];unfold ZK;simp only;rw[yg p]
  clear hv hl i j q s hval hk1 hk6 e1 e2 e3 F G L S
  cases hpv:qc v d u
  all_goals (
   rw[hpv]at O l;simp only[Gl]at O;clear hpv;go_wp2_with fail;refine (uh O).mono ?_;rintro e w4 ⟨rfl,J⟩;have K:=zb (zh (uh f).bl J);clear O J;go_wp2;go_ret2;exact⟨by rw[uh l];rfl,uh K⟩)
 ·have z:=zb (uh L A a2 g2 M w3 (.inr rfl) (uh f).s2)
  cases hg:zM v A with
  | none=>
   rw[XE hg]at z;have l:Hid (T= .inl 3):=by show _=_;rw[← uh U];unfold ZK;simp only;rw[p,yf (by decide),yf (by decide),yf (by decide),yg rfl,hg]
   clear hv hl i j q s hval hk1 hk6 F G L S hg;go_wp2_with fail;refine (uh z).mono ?_;rintro e w4 ⟨rfl,J⟩;have K:=zb (zh (uh f).bl J);clear z J;go_wp2;go_ret2;exact⟨by rw[uh l];rfl,uh K⟩
  | some m=>
   rw[U4 hg]at z;have l:Hid (T=if A=d then .inr v else if A.isPrefixOf d then .inl 6 else match qz v A with | none=>.inl 3 | some r=>ZM 3 (qc r d m)):=by show _=_;rw[← uh U];unfold ZK;simp only;rw[p,yf (by decide),yf (by decide),yf (by decide),yg rfl,hg];rfl
   have HM:Hid (zx m/\(ct m).length<=100000):=⟨hv.get hg,by have:=Gk hv hg;omega⟩;have Y:Hid (A≠[]->∀ wx,SS wx a2 g2 0 (A.map zz)->∃ r,qz v A=some r/\zx r/\(ct r).length<=(ct v).length/\Calls prog 95 #[.string (ze (ct v)),.slice a2 A.length M] wx (Rb (.string (ze (ct r))) wx)):=fun hne wx h=>DF v m A a2 g2 0 M wx hne hv hg hl s q hcap2 h;have P:Hid (∀ (r:JV) (wx:Wo),zx r->(ct r).length<=(ct v).length->SS wx R V 0 (d.map zz)->Calls prog 93 #[.string (ze (ct r)),.slice R d.length k,.string (ze (ct m))] wx (Rb (Gl (qc r d m)) wx)):=fun r wx hr hrl h=>Nf r m d R V 0 k wx hr (uh HM).1 (by omega) (uh HM).2 j i E h;clear hv hl i j q s hval hk1 hk6 F G L hg HM;generalize ze (ct m)=sm at *;go_wp2_with fail;refine (uh z).mono ?_;rintro e w4 ⟨rfl,J⟩;have B:=zb ((uh f).next J);obtain⟨s10,s11,s12,s13⟩:=(uh B).op.c;have Q:=zb (uh S A d w4 _ _ _ _ (.inl ⟨rfl,rfl⟩) (uh B).t2 (uh B).t1);clear z J f r10 r11 r12 r13
   cases hpre:ZV A d with
   | true=>
    rw[hpre]at Q;go_wp2_with fail;refine (uh Q).mono ?_;rintro e w5 ⟨rfl,b5⟩;have H:=zb ((uh B).next b5);have I:=zb (uh S d A w5 _ _ _ _ (.inr ⟨rfl,rfl⟩) (uh H).t1 (uh H).t2);clear Q b5 B
    cases hq:ZV d A with
    | true=>
     rw[hq]at I;rw[yg (A4 hpre hq)]at l;clear hpre hq S Y P;go_wp2_with fail;refine (uh I).mono ?_;rintro e w6 ⟨rfl,b6⟩;have HB6:=zb (zh (uh H).bl b6);clear I b6;go_wp2;go_ret2;exact⟨by rw[uh l];rfl,uh HB6⟩
    | false=>
     rw[hq]at I;rw[yf (fun e=>by rw[e,DE]at hq;cases hq),yg (by rw[← U5];exact hpre)]at l;go_wp2_with fail;refine (uh I).mono ?_;rintro e w6 ⟨rfl,b6⟩;have N:=zb ((uh H).next b6);have HX6:=zb (uh S A d w6 _ _ _ _ (.inl ⟨rfl,rfl⟩) (uh N).t2 (uh N).t1);rw[hpre]at HX6;clear I b6 H hpre hq S Y P;go_wp2_with fail;refine (uh HX6).mono ?_;rintro e w7 ⟨rfl,b7⟩;have HB7:=zb (zh (uh N).bl b7);clear HX6 b7;go_wp2;go_ret2;exact⟨by rw[uh l];rfl,uh HB7⟩
   | false=>
    rw[hpre]at Q;rw[yf (fun e=>by rw[e,DE]at hpre;cases hpre),yf (by rw[← U5,hpre];simp)]at l;go_wp2_with fail;refine (uh Q).mono ?_;rintro e w5 ⟨rfl,b5⟩;have H:=zb ((uh B).next b5);have I:=zb (uh S A d w5 _ _ _ _ (.inl ⟨rfl,rfl⟩) (uh H).t2 (uh H).t1);rw[hpre]at I;have hfne:A≠[]:=fun e=>by rw[e,U5]at hpre;simp at hpre
    have aa:=zb (uh Y hfne);clear Q b5 B Y hfne hpre S;go_wp2_with fail;refine (uh I).mono ?_;rintro e w6 ⟨rfl,b6⟩;have N:=zb ((uh H).next b6);obtain⟨r,hr,hrg,hrl,C⟩:=uh aa w6 (uh N).s2;have W:=zb C;rw[hr]at l;have ad:Hid (∀ wx,SS wx R V 0 (d.map zz)->Calls prog 93 #[.string (ze (ct r)),.slice R d.length k,.string sm] wx (Rb (Gl (qc r d m)) wx)):=fun wx h=>uh P r wx hrg hrl h;clear aa P hr hrg hrl C I b6 H;go_wp2_with fail;refine (uh W).mono ?_;rintro e w7 ⟨rfl,b7⟩;have HB7:=zb (zh (uh N).bl b7);have O:=zb (uh ad w7 ((uh N).s1.below b7));clear W b7 ad
    cases hpv:qc r d m
    all_goals (
     rw[hpv]at O l;simp only[Gl]at O;clear hpv;go_wp2_with fail;refine (uh O).mono ?_;rintro e w9 ⟨rfl,b9⟩;have HB9:=zb (zh (uh HB7) b9);clear O b9;go_wp2;go_ret2;exact⟨by rw[uh l];rfl,uh HB9⟩)
 ·have z:=zb (uh L A a2 g2 M w3 (.inr rfl) (uh f).s2)
  cases hg:zM v A with
  | none=>
   rw[XE hg]at z;have l:Hid (T= .inl 3):=by show _=_;rw[← uh U];unfold ZK;simp only;rw[p,yf (by decide),yf (by decide),yf (by decide),yf (by decide),yg rfl,hg]
   clear hv hl i j q s hval hk1 hk6 F G L S hg;go_wp2_with fail;refine (uh z).mono ?_;rintro e w4 ⟨rfl,J⟩;have K:=zb (zh (uh f).bl J);clear z J;go_wp2;go_ret2;exact⟨by rw[uh l];rfl,uh K⟩
  | some m=>
   rw[U4 hg]at z;have l:Hid (T=ZM 3 (qc v d m)):=by show _=_;rw[← uh U];unfold ZK;simp only;rw[p,yf (by decide),yf (by decide),yf (by decide),yf (by decide),yg rfl,hg]
   have hlm:=Gk hv hg;have P:Hid (∀ wx,SS wx R V 0 (d.map zz)->Calls prog 93 #[.string (ze (ct v)),.slice R d.length k,.string (ze (ct m))] wx (Rb (Gl (qc v d m)) wx)):=fun wx h=>Nf v m d R V 0 k wx hv (hv.get hg) hl (by omega) j i E h;clear hv hl i j q s hval hk1 hk6 F G L S hg hlm;generalize ze (ct m)=sm at *;go_wp2_with fail;refine (uh z).mono ?_;rintro e w4 ⟨rfl,J⟩;have B:=zb ((uh f).next J);obtain⟨s10,s11,s12,s13⟩:=(uh B).op.c;have O:=zb (uh P w4 (uh B).s1);clear z J f P r10 r11 r12 r13
   cases hpv:qc v d m
   all_goals (
    rw[hpv]at O l;simp only[Gl]at O;clear hpv;go_wp2_with fail;refine (uh O).mono ?_;rintro e w9 ⟨rfl,b9⟩;have HB9:=zb (zh (uh B).bl b9);clear O b9;go_wp2;go_ret2;exact⟨by rw[uh l];rfl,uh HB9⟩)
 ·clear S L
  cases hg:zM v d with
  | none=>
   obtain rfl:=F hg;have l:Hid (T= .inl 3):=by
    show _=_
    rw[← uh U];unfold ZK;simp only;rcases p with p | p | p
    ·rw[p,yf (by decide),yg rfl,A9 hg];rfl
    ·rw[p,yf (by decide),yf (by decide),yg rfl];unfold qj;rw[hg];rfl
    ·rw[p,yf (by decide),yf (by decide),yf (by decide),yf (by decide),yf (by decide),hg]
   clear hv hl i j q s hval hk1 hk6 F G hg;rcases p with p | p | p
   all_goals (
    go_wp2;go_ret2;exact⟨by rw[uh l];rfl,(uh f).bl⟩)
  | some c=>
   obtain⟨rfl,rfl⟩:=G c hg;clear F G;rcases p with p | p | p
   ·by_cases h0:d=[]
    ·subst h0;have l:Hid (T= .inl 3):=by show _=_;rw[← uh U];unfold ZK;simp only;rw[p,yf (by decide),yg rfl];rfl
     clear hv hl i j q s hval hk1 hk6 hg;go_wp2;go_ret2;exact⟨by rw[uh l];rfl,(uh f).bl⟩
    ·have hpos:¬ d.length=0:=fun h=>h0 (yN h);have hposI:((d.length:Int) ==0)=false:=by rw[yd];omega
     obtain⟨r,hr,-,-,C⟩:=DF v c d R V 0 k w3 h0 hv hg hl j i E (uh f).s1;have W:=zb C;have l:Hid (T= .inr r):=by show _=_;rw[← uh U];unfold ZK;simp only;rw[p,yf (by decide),yg rfl,hr];rfl
     clear hv hl i j q s hval hk1 hk6 hg h0 hpos hr C;generalize ze (ct c)=sc at *;go_wp2_with fail;refine (uh W).mono ?_;rintro e w4 ⟨rfl,J⟩;have K:=zb (zh (uh f).bl J);clear W J;go_wp2;go_ret2;exact⟨by rw[uh l];rfl,uh K⟩
   ·obtain⟨e1,e2,e3⟩:=hval (by rw[p];rfl);have hsl:=Vy (u:=u) hv hg;have W:=zb (U3 d v u c R V 0 k w3 hv e2 hg hl (by omega) j i E (uh f).s1);rw[← e1]at W;have l:Hid (T= .inr (ZS v d u)):=by show _=_;rw[← uh U];unfold ZK;simp only;rw[p,yf (by decide),yf (by decide),yg rfl];unfold qj;rw[hg];rfl
    clear hv hl i j q s hval hk1 hk6 hg hsl e1 e2 e3;generalize ze (ct c)=sc at *;go_wp2_with fail;refine (uh W).mono ?_;rintro e w4 ⟨rfl,J⟩;have K:=zb (zh (uh f).bl J);clear W J;go_wp2;go_ret2;exact⟨by rw[uh l];rfl,uh K⟩
   ·have hse:=Fw (ct c) (ct u);rw[← (hval (by rw[p];rfl)).1]at hse;have l:Hid (T=if ct c=ct u then .inr v else .inl 5):=by show _=_;rw[← uh U];unfold ZK;simp only;rw[p,yf (by decide),yf (by decide),yf (by decide),yf (by decide),yf (by decide),hg]
    clear hv hl i j q s hval hk1 hk6 hg;by_cases he:ct c=ct u
    ·rw[yC.2 he]at hse;rw[yg he]at l;clear he;generalize ze (ct c)=sc at *;go_wp2;go_ret2;exact⟨by rw[uh l];rfl,(uh f).bl⟩
    ·rw[yd.2 he]at hse;rw[yf he]at l;clear he;generalize ze (ct c)=sc at *;go_wp2;go_ret2;exact⟨by rw[uh l];rfl,(uh f).bl⟩
def Yq(m:zw):JV:=match ZI m.val with
 | .inr u=>u
 | .inl _=>.nul
def qu(m:zw):qd:=XG m (Yq m)
def qk(s:Bs)(ms:List zw):Bs×Int×Int:=match ZI s with
 | .inl _=>(⟨#[]⟩,1,0)
 | .inr v=>if 0<=ZT ms then (⟨#[]⟩,2,ZT ms)else match Jb v (ms.map qu) 0 with
  | .inl ci=>(⟨#[]⟩,(ci.1:Int),(ci.2:Int))
  | .inr r=>(ze (ct r),0,0)
theorem DG{m:zw}(h:Z1 m=true):1<=m.kind/\m.kind<=6/\(qS m.kind=true->ZI m.val= .inr (Yq m)/\m.val=ze (ct (Yq m))/\Ja (Yq m)):=by
 unfold Z1 at h;simp only[Bool.and_eq_true,decide_eq_true_eq]at h;refine⟨h.1.1.1.1,h.1.1.1.2,fun hv=>?_⟩;have b:=h.2;rw[yg hv,CJ]at b;obtain⟨u,a,d⟩:=b;have e:Yq m=u:=by unfold Yq;rw[a]
 rw[e];exact⟨a,d.symm,Ja.of a⟩
theorem DH{ms:List zw}(h:¬ 0<=ZT ms):ms.length<=100/\∀ m∈ms,Z1 m=true:=by
 unfold ZT at h;split at h
 ·exact absurd (by omega) h
 ·rename_i hl;split at h
  ·rename_i i _;exact absurd (by omega) h
  ·rename_i hf;rw[List.findIdx?_eq_none_iff]at hf;exact⟨by omega,fun m hm=>by have:=hf m hm;simpa using this⟩
theorem U8(v:JV):Yo v=true↔zL v<=100/\zt v<=3000/\(ct v).length<=20000:=by
 unfold Yo;simp[and_assoc]
theorem zx.lim{v:JV}(h:zx v)(hl:Yo v=true):Ja v:=by
 obtain⟨a,b,c⟩:=(U8 v).1 hl;exact⟨h.rd,h.big,a,b,h.tw,h.ok,c⟩
theorem Nh{v u r:JV}{ts:List (List UInt8)}(hv:zx v)(h:qc v ts u=some r):(ct r).length<=(ct v).length+(ct u).length+6*(Qq ts).length+4:=by
 unfold qc at h;split at h
 ·injection h with h;subst h;omega
 ·unfold qj at h;obtain⟨x,hx,rfl⟩:=yz.1 h;obtain⟨y,a,b⟩:=Option.bind_eq_some_iff.1 hx;have d:=Dq (hv.get a) b;have f:=Vy (u:=x) hv a;omega
theorem Ni{v r:JV}{ts:List (List UInt8)}(hv:zx v)(h:qz v ts=some r):(ct r).length<=(ct v).length:=by
 unfold qz at h;split at h
 ·cases h
 ·unfold qj at h;obtain⟨x,hx,rfl⟩:=yz.1 h;obtain⟨y,d,a⟩:=Option.bind_eq_some_iff.1 hx;unfold J7 at a;obtain⟨c,b,rfl⟩:=yz.1 a;have f:=O5 b;have g:=Vy (u:=qO y (Qq ts)) hv d;omega
theorem Hb{ts:List (List UInt8)}{n:Nat}(h:∀ x∈ts,x.length<=n):(Qq ts).length<=n:=by
 unfold Qq
 cases hl:ts.getLast? with
 | none=>simp
 | some x=>exact h x (List.mem_of_getLast? hl)
theorem DI{v r:JV}{o:qd}(hv:zx v)(h:ZK v o= .inr r)(hp:∀ x∈o.path,x.length<=1048576):(ct r).length<=(ct v).length+max (ct v).length (ct o.val).length+6*1048576+4:=by
 have b:=Hb hp;unfold ZK at h;split at h
 ·have:=Nh hv (Jq h);omega
 ·split at h
  ·have:=Ni hv (Jq h);omega
  ·split at h
   ·have a:=Jq h;unfold qj at a;obtain⟨x,hx,rfl⟩:=yz.1 a;obtain⟨y,g,hp⟩:=Option.bind_eq_some_iff.1 hx;injection hp with hp;subst hp;have f:=Vy (u:=o.val) hv g;omega
   ·split at h
    ·split at h
     ·cases h
     ·rename_i m hm;have d:=Gk hv hm;split at h
      ·injection h with h;subst h;omega
      ·split at h
       ·cases h
       ·split at h
        ·cases h
        ·rename_i x hx;have a:=Nh (UZ hv hx) (Jq h);have f:=Ni hv hx;omega
    ·split at h
     ·split at h
      ·cases h
      ·rename_i m hm;have d:=Gk hv hm;have a:=Nh hv (Jq h);omega
     ·split at h
      ·cases h
      ·split at h
       ·injection h with h;subst h;omega
       ·cases h
theorem Nj:∀ (n:Nat) (v:JV),zL v<=n->zF v->zt v<=(ct v).length
 | 0,v,h,_=>by have:=(Gy v).2;omega
 | n+1,v,h,hok=>by
  cases v with
  | arr l=>
   rw[zF,XA]at hok;have a:=T8 (.arr l);have b:((Vp (.arr l)).map fun q=>zt q.2).sum=(l.toL.map zt).sum:=by
    show ((Q4 0 l.toL).map fun q=>zt q.2).sum=_
    rw[show (fun q:List UInt8×JV=>zt q.2)=zt∘(·.2)from rfl,← List.map_map,FI]
   have d:(l.toL.map zt).sum<=(l.toL.map fun v=>(ct v).length).sum:=U2 _ _ _ fun u hu=>Nj n u (by
    have:=KN l.toL u hu;rw[zL,WC]at h;omega) (hok u hu)
   rw[U1];unfold hold;omega
  | obj m=>
   rw[zF,XB]at hok;have a:=T8 (.obj m);have b:((Vp (.obj m)).map fun q=>zt q.2).sum=(m.toL.map fun q=>zt q.2).sum:=((FH m.toL).map _).sum_nat;have d:(m.toL.map fun q=>zt q.2).sum<=(m.toL.map Z0).sum:=U2 _ _ _ fun q hq=>by
    have:=Nj n q.2 (by
     have:=KN (m.toL.map (·.2)) q.2 (yO.2 ⟨q,hq,rfl⟩);rw[zL,VW]at h;omega) (hok q hq).2
    unfold Z0;omega
   rw[Yh];unfold hold;omega
  | _=>
   have:=OP hok;rw[Zw]at this;simp only[zt];omega
def VE(v:JV)(xs:List qd)(k:Nat)(u:JV):Prop:=Jb v xs 0=Jb u (xs.drop k) k/\Ja u
theorem DJ{v u r:JV}{xs:List qd}{k:Nat}(h:VE v xs k u)(hk:k<xs.length)(hd:ZK u xs[k]= .inr r)(hr:zx r)(hl:Yo r=true):VE v xs (k+1) r:=by
 refine⟨?_,hr.lim hl⟩;rw[h.1,List.drop_eq_getElem_cons hk,Jb,hd];simp only;rw[yg hl]
theorem DK{v u:JV}{xs:List qd}{k c:Nat}(h:VE v xs k u)(hk:k<xs.length)(hd:ZK u xs[k]= .inl c):Jb v xs 0= .inl (c,k):=by
 rw[h.1,List.drop_eq_getElem_cons hk,Jb,hd]
theorem Nk{v u r:JV}{xs:List qd}{k:Nat}(h:VE v xs k u)(hk:k<xs.length)(hd:ZK u xs[k]= .inr r)(hl:Yo r=false):Jb v xs 0= .inl (7,k):=by
 rw[h.1,List.drop_eq_getElem_cons hk,Jb,hd];simp only;rw[hl];rfl
theorem DM{v u:JV}{xs:List qd}{k:Nat}(h:VE v xs k u)(hk:¬ k<xs.length):Jb v xs 0= .inr u:=by
 rw[h.1,List.drop_of_length_le (by omega),Jb]
theorem DN{v:JV}{o:qd}{c:Nat}(h:ZK v o= .inl c):c≠0:=by
 have a:∀ {x:Option JV},ZM 3 x= .inl c->c≠0:=fun {x} h=>by
  cases x with
  | none=>injection h with h;omega
  | some y=>cases h
 unfold ZK at h
 repeat' split at h
 all_goals first | exact a h |(injection h with h;omega) | cases h
theorem Hc:zx .nul:=⟨by rw[ZR];trivial,rfl,rfl,by rw[zF];trivial⟩
theorem Nl(m:zw):zx (Yq m)/\(ct (Yq m)).length<=20000:=by
 unfold Yq
 cases h:ZI m.val with
 | inl c=>exact⟨Hc,by show (ct .nul).length<=20000;decide⟩
 | inr u=>have:=Ja.of h;exact⟨this.t,this.len⟩
theorem Hd{r:JV}(hl:(ct r).length<=20000):Yo r=decide (zL r<=100/\zt r<=3000):=by
 rw[Bool.eq_iff_iff,U8,decide_eq_true_iff];constructor
 ·rintro⟨a,b,_⟩;exact⟨a,b⟩
 ·rintro⟨a,b⟩;exact⟨a,b,hl⟩
theorem He{r:JV}(hl:¬ (ct r).length<=20000):Yo r=false:=by
 cases h:Yo r with
 | false=>rfl
 | true=>exact absurd ((U8 r).1 h).2.2 hl
theorem Hf(s:Bs)(val:Value)(ms:List zw)(bl:List Nat)(w:Wo)(hrow:zk Zh w val ms bl)(hin:VY ms)(hs:s.size<=1048576):
  Calls prog 24 #[.string s,val] w fun e w'=>e= .returned (.tuple #[.string (qk s ms).1,.int .i64 (qk s ms).2.1,.int .i64 (qk s ms).2.2])/\Bw w w':=by
 have j:=zb (CG s w hs);obtain⟨xa,xc,rfl,Y,P⟩:=hrow.form
 cases hr:ZI s with
 | inl c=>
  have hc:=TR hr;have HR:Hid (qk s ms=(⟨#[]⟩,1,0)):=by show _=_;unfold qk;rw[hr]
  have e:Qy s= .tuple #[.string ⟨#[]⟩,.int .i64 (c:Int)]:=by unfold Qy;rw[hr]
  rw[e]at j;have t2:((c:Int) !=0)=true:=by simp;omega
  clear hr e hc hrow hin hs Y P;go_in;go_wp2_with fail;refine (uh j).mono ?_;rintro e w1 ⟨rfl,L⟩;have A:=zb L;clear j L;go_wp2;go_ret3;exact⟨by rw[uh HR];rfl,uh A⟩
 | inr v=>
  have hg:=Ja.of hr;have e:Qy s= .tuple #[.string (ze (ct v)),.int .i64 0]:=by unfold Qy;rw[hr]
  rw[e]at j;have N:Hid (∀ wx,Bw w wx->Calls prog 49 #[.slice xa ms.length xc] wx (Rb (.int .i64 (ZT ms)) wx)):=fun wx hx=>CQ _ ms bl wx (hrow.below hx) hin;by_cases y:0<=ZT ms
  ·have HR:Hid (qk s ms=(⟨#[]⟩,2,ZT ms)):=by show _=_;unfold qk;rw[hr];simp only;rw[yg y]
   clear hr e hg hrow hin hs Y P;generalize ZT ms=z at *;generalize ze (ct v)=sv at *;go_in;go_wp2_with fail;refine (uh j).mono ?_;rintro e w1 ⟨rfl,L⟩;have I:=zb (uh N w1 L);have A:=zb L;clear j L N;go_wp2_with fail;refine (uh I).mono ?_;rintro e w2 ⟨rfl,W⟩;have M:=zb (zh (uh A) W);clear I W;go_wp2;go_ret3;exact⟨by rw[uh HR];rfl,uh M⟩
  ·obtain⟨hl100,Q⟩:=DH y;have l:Hid (∀ c k,Jb v (ms.map qu) 0= .inl (c,k)->qk s ms=(⟨#[]⟩,(c:Int),(k:Int))):=fun c k h=>by unfold qk;rw[hr];simp only;rw[yf y,h]
   have D:Hid (∀ r,Jb v (ms.map qu) 0= .inr r->qk s ms=(ze (ct r),0,0)):=fun r h=>by unfold qk;rw[hr];simp only;rw[yf y,h]
   have B:Hid (∀ (k:Nat) (S:k<ms.length) (u:JV) (wx:Wo),Ja u->Calls prog 50 #[.string (ze (ct u)),.agg (Gm ms[k])] wx (Rb (XH (ZK u (qu ms[k]))) wx)):=fun k S u wx hu=>by
    obtain⟨a,b,c⟩:=DG (Q _ (yr S));obtain⟨i1,i2,i3⟩:=hin _ (yr S);exact Ha u (Yq ms[k]) ms[k] wx hu.t (by have:=hu.len;omega) i1 i2 a b (fun hv=>by
     obtain⟨_,q2,q3⟩:=c hv;exact⟨q2,q3.t,by have:=q3.len;omega⟩)
   have C:Hid (∀ (k:Nat) (S:k<ms.length) (u r:JV),Ja u->ZK u (qu ms[k])= .inr r->zx r/\(ct r).length<=20000000):=fun k S u r hu hd=>by
    obtain⟨hvg,hvl⟩:=Nl ms[k];obtain⟨i1,i2,i3⟩:=hin _ (yr S);have Y:=Db (o:=qu ms[k]) hu.t hvg hd;have h2:=DI (o:=qu ms[k]) hu.t hd (Ng ms[k].path i1).2;have h3:=hu.len;have h4:(ct (qu ms[k]).val).length<=20000:=hvl;exact⟨Y,by omega⟩
   have HRW:=zb hrow;have F:(ms.map qu).length=ms.length:=yl _;have HXA:=zb P;have V:Hid (VE v (ms.map qu) 0 v):=⟨rfl,hg⟩;have hbI:¬ (0:Int)<=ZT ms:=y;clear hr e hg hrow hin hs Y P Q y;generalize ZT ms=z at *;go_in;go_wp2_with fail;refine (uh j).mono ?_;rintro e w1 ⟨rfl,L⟩;have I:=zb (uh N w1 L);have A:=zb L;clear j L N;go_wp2_with fail;refine (uh I).mono ?_;rintro e w2 ⟨rfl,W⟩;have M:=zb (zh (uh A) W);clear I W A;go_wp2;go_loopw [7,10] (fun tv i wr=>∃ (k:Nat) (u:JV),k<=ms.length/\i= .int .i64 (k:Int)/\tv= .string (ze (ct u))/\VE v (ms.map qu) k u/\Bw w wr) (fun _ i _=>ms.length - (intOf i).toNat)
   case atStart=>exact⟨0,v,yt _,rfl,rfl,uh V,uh M⟩
   case round=>
    obtain⟨k,u,S,rfl,rfl,d,y⟩:=hrel;have HRUN:=zb d;have H:=zb y;clear V M;by_cases O:k<ms.length
    ·have aa:(k:Int)<(ms.length:Int):=by omega
     obtain⟨g,rfl⟩:=uh HXA (by omega);obtain⟨vs,ib,hE,m,_⟩:=((uh HRW).below y).at (yx O);obtain⟨rfl,_⟩:=hE;have c0:wr.cell? ⟨g,k*4,none⟩=some (.int .i64 ms[k].kind):=(m 0 _ rfl).1;have c1:wr.cell? ⟨g,k*4+1,none⟩=some (.string ms[k].path):=(m 1 _ rfl).1;have c2:wr.cell? ⟨g,k*4+2,none⟩=some (.string ms[k].src):=(m 2 _ rfl).1;have c3:wr.cell? ⟨g,k*4+3,none⟩=some (.string ms[k].val):=(m 3 _ rfl).1;have G:=zb (uh B k O u wr d.2);have q:(ms.map qu)[k]'(by rw[F];exact O)=qu ms[k]:=by simp
     have n:k<(ms.map qu).length:=by omega
     cases hdo:ZK u (qu ms[k])with
     | inl c=>
      rw[hdo]at G;rw[show XH (.inl c)= .tuple #[.string ⟨#[]⟩,.int .i64 (c:Int)]from rfl]at G;have hc0:=DN hdo
      have f:=zb (uh l c k (DK d n (by rw[q];exact hdo)));have t2:((c:Int) !=0)=true:=by simp;omega
      clear m d y hdo B C l D q n F hc0;go_wp2_with fail;refine (uh G).mono ?_;rintro e w3 ⟨rfl,K⟩;have x:=zb (zh (uh H) K);clear G K c0 c1 c2 c3;go_wp2;go_ret3;exact⟨by rw[uh f];rfl,uh x⟩
     | inr r=>
      rw[hdo]at G;rw[show XH (.inr r)= .tuple #[.string (ze (ct r)),.int .i64 0]from rfl]at G;obtain⟨E,T⟩:=uh C k O u r d.2 hdo
      by_cases p:(ct r).length<=20000
      ·have tl:¬ (20000:Int)<((ze (ct r)).size:Int):=by rw[Zw];omega
       have Z:=Nj (zL r) r (ye _) E.ok;have U:Hid (∀ wx,Calls prog 51 #[.string (ze (ct r))] wx (Rb (.bool (Yo r)) wx)):=fun wx=>by
        have:=TO r E.ok wx (by omega) (by omega);rw[Hd p];exact this
       cases hlim:Yo r with
       | true=>
        rw[hlim]at U;have HNX:=zb (DJ d n (by rw[q];exact hdo) E hlim);clear m d y hdo B C l D q n F E T p Z hlim;generalize hsr:ze (ct r)=sr at *;have HSR:=zb hsr;clear hsr;go_wp2_with fail;refine (uh G).mono ?_;rintro e w3 ⟨rfl,K⟩;have x:=zb (zh (uh H) K);have J:=zb (uh U w3);clear G U K c0 c1 c2 c3;go_wp2_with fail;refine (uh J).mono ?_;rintro e w4 ⟨rfl,X⟩;have R:=zb (zh (uh x) X);clear J X;go_wp2;go_roundw
        case rel=>exact⟨k+1,r,by omega,by go_num,by rw[uh HSR],uh HNX,uh R⟩
        case measure=>simp[intOf];omega
       | false=>
        rw[hlim]at U;have f:=zb (uh l 7 k (Nk d n (by rw[q];exact hdo) hlim));clear m d y hdo B C l D q n F E T p Z hlim;generalize ze (ct r)=sr at *;go_wp2_with fail;refine (uh G).mono ?_;rintro e w3 ⟨rfl,K⟩;have x:=zb (zh (uh H) K);have J:=zb (uh U w3);clear G U K c0 c1 c2 c3;go_wp2_with fail;refine (uh J).mono ?_;rintro e w4 ⟨rfl,X⟩;have R:=zb (zh (uh x) X);clear J X;go_wp2;go_ret3;exact⟨by rw[uh f];rfl,uh R⟩
      ·have tl:(20000:Int)<((ze (ct r)).size:Int):=by rw[Zw];omega
       have f:=zb (uh l 7 k (Nk d n (by rw[q];exact hdo) (He p)));clear m d y hdo B C l D q n F E T p;generalize ze (ct r)=sr at *;go_wp2_with fail;refine (uh G).mono ?_;rintro e w3 ⟨rfl,K⟩;have x:=zb (zh (uh H) K);clear G K c0 c1 c2 c3;go_wp2;go_ret3;exact⟨by rw[uh f];rfl,uh x⟩
    ·have aa:¬ (k:Int)<(ms.length:Int):=by omega
     have f:=zb (uh D u (DM d (by omega)));clear d y B C l D F;go_wp2;go_ret3;exact⟨by rw[uh f];rfl,uh H⟩
end Go.Proofs.YtekpghcckdjnhaaGreatDoor
