import Derived.Test.YtpaecnbdoljafaaGreatDoorBz13
import Derived.Test.YtpaecnbdoljafaaGreatDoorBz15
set_option maxRecDepth 100000
set_option maxHeartbeats 8000000
namespace Go.Proofs.YtpaecnbdoljafaaGreatDoor
open Go.RowKit Go.Proofs.Tryz
abbrev qk(m:zG):Array Value:=#[.int .i64 m.kind,.string m.path,.string m.src,.string m.val]
def qV(w:Wo)(g:Nat)(m:zG):Prop:=w.heap[g]?=some (.cells (qk m) 59 (0,0))
theorem qV.lt{w:Wo}{g:Nat}{m:zG}(h:qV w g m):g<w.heap.size:=(yC.1 h).1
theorem qV.below{w w':Wo}{g:Nat}{m:zG}(h:qV w g m)(hb:Bw w w'):qV w' g m:=(hb.block g h.lt).trans h
theorem qV.c{w:Wo}{g:Nat}{m:zG}(h:qV w g m):w.cell? ⟨g,0,none⟩=some (.int .i64 m.kind)/\w.cell? ⟨g,1,none⟩=some (.string m.path)/\w.cell? ⟨g,2,none⟩=some (.string m.src)/\w.cell? ⟨g,3,none⟩=some (.string m.val):=⟨yG h 0,yG h 1,yG h 2,yG h 3⟩
theorem qV.fz{w:Wo}{g:Nat}{m:zG}(h:qV w g m)(j:Nat):w.frozen? ⟨g,j,none⟩=false:=yJ h j
theorem qV.s0{w:Wo}{g:Nat}{m:zG}(h:qV w g m)(z:Int):qV (w.setCell ⟨g,0,none⟩ (.int .i64 z)) g ⟨z,m.path,m.src,m.val⟩:=heap_setCell_same w g 0 _ _ _ h
theorem qV.s1{w:Wo}{g:Nat}{m:zG}(h:qV w g m)(z:Bs):qV (w.setCell ⟨g,1,none⟩ (.string z)) g ⟨m.kind,z,m.src,m.val⟩:=heap_setCell_same w g 1 _ _ _ h
theorem qV.s2{w:Wo}{g:Nat}{m:zG}(h:qV w g m)(z:Bs):qV (w.setCell ⟨g,2,none⟩ (.string z)) g ⟨m.kind,m.path,z,m.val⟩:=heap_setCell_same w g 2 _ _ _ h
theorem qV.s3{w:Wo}{g:Nat}{m:zG}(h:qV w g m)(z:Bs):qV (w.setCell ⟨g,3,none⟩ (.string z)) g ⟨m.kind,m.path,m.src,z⟩:=heap_setCell_same w g 3 _ _ _ h
theorem Kq(a b:List (List UInt8)):pre a b=a.isPrefixOf b:=by
 rw[Bool.eq_iff_iff,List.isPrefixOf_iff_prefix];unfold pre;rw[decide_eq_true_iff];constructor
 ·rintro⟨g,f⟩;refine⟨b.drop a.length,?_⟩;refine List.ext_getElem? fun j=>?_;by_cases d:j<a.length
  ·rw[List.getElem?_append_left d];have:=f j d;rw[yy d,yy (by omega)];simpa [List.getD,d,show j<b.length by omega]using this
  ·rw[List.getElem?_append_right (by omega),List.getElem?_drop];congr 1;omega
 ·rintro⟨r,rfl⟩;refine⟨by simp,fun j d=>?_⟩;simp[List.getD,List.getElem?_append_left d]
theorem zaR{a b:List (List UInt8)}(h1:pre a b=true)(h2:pre b a=true):a=b:=by
 rw[Kq,List.isPrefixOf_iff_prefix]at h1 h2;exact h1.eq_of_length (Nat.le_antisymm h1.length_le h2.length_le)
theorem LM(a:List (List UInt8)):pre a a=true:=by
 rw[Kq,List.isPrefixOf_iff_prefix];exact List.prefix_refl a
theorem zaS(sv su:Bs)(a:Option Addr)(cap:Nat)(w:Wo):
  Calls prog 101 #[.string sv,.slice a 0 cap,.string su] w fun e w'=>e= .returned (.tuple #[.string su,.bool true])/\Bw w w':=by
 go_in;go_wp2;go_ret2;exact⟨rfl,yI _ _⟩
theorem Pj(v u:JV)(ts:List (List UInt8))(a:Option Addr)(g off cap:Nat)(w:Wo)(hv:zo v)(hu:zo u)(hl:(ct v).length<=100000)(hul:(ct u).length<=100000)(hts:∀ x∈ts,x.length<=1048576)(hn:ts.length<=1048577)(hcap:ts.length<=cap)(hss:SS w a g off (ts.map zH)):
  Calls prog 101 #[.string (zh (ct v)),.slice a ts.length cap,.string (zh (ct u))] w fun e w'=>e= .returned (Gu (Z4 v ts u))/\Bw w w':=by
 rcases List.eq_nil_or_concat ts with rfl |⟨d,t,rfl⟩
 ·exact zaS _ _ a cap w
 ·rw[List.concat_eq_append]at *;have b:(d++[t]).length=d.length+1:=by simp
  rw[b]at hn hcap ⊢;exact zaA v u d t a g off cap w hv hu hl hul hts (by omega) hcap hss
theorem zaT{v c:JV}{xs:List (List UInt8)}{t:List UInt8}(h:zr v (xs++[t])=some c):∃ hm,zr v xs=some hm/\zn hm t=some c/\qe v (xs++[t])=some (zO v xs (ZU hm t)):=by
 rw[Gc]at h
 cases hg:zr v xs with
 | none=>rw[hg]at h;cases h
 | some hm=>
  rw[hg]at h;have a:zr hm [t]=some c:=h;rw[qM]at a
  cases hc:zn hm t with
  | none=>rw[hc]at a;cases a
  | some x=>
   rw[hc]at a;have:x=c:=by have b:zr x []=some c:=a;rw[Qz]at b;injection b
   subst this;refine⟨hm,rfl,hc,?_⟩;unfold qe ZO QA q7;rw[yf (by simp),List.dropLast_concat,hg];simp[hc]
theorem LN(v c:JV)(ts:List (List UInt8))(a:Option Addr)(g off cap:Nat)(w:Wo)(hne:ts≠[])(hv:zo v)(hg:zr v ts=some c)(hl:(ct v).length<=100000)(hts:∀ x∈ts,x.length<=1048576)(hn:ts.length<=1048577)(hcap:ts.length<=cap)(hss:SS w a g off (ts.map zH)):
  ∃ r,qe v ts=some r/\zo r/\(ct r).length<=(ct v).length/\Calls prog 102 #[.string (zh (ct v)),.slice a ts.length cap] w fun e w'=>e= .returned (.string (zh (ct r)))/\Bw w w':=by
 rcases List.eq_nil_or_concat ts with rfl |⟨d,t,rfl⟩
 ·exact absurd rfl hne
 ·rw[List.concat_eq_append]at *;have b:(d++[t]).length=d.length+1:=by simp
  obtain⟨j,f,h,i⟩:=zaT hg;have k:=Ym (u:=ZU j t) hv f;have l:=XZ h;refine⟨_,i,Wv hv i,by omega,?_⟩;rw[b]at hn hcap ⊢;exact zaz v j c d t a g off cap w hv f h hl hts (by omega) hcap hss
def Ww(o:zG)(u:JV):Zv:=⟨o.kind,(zK o.path.data.toList).getD [],(zK o.src.data.toList).getD [],u⟩
def Kr:Nat⊕JV->Value
 | .inl c=>.tuple #[.string ⟨#[]⟩,.int .i64 (c:Int)]
 | .inr r=>.tuple #[.string (zh (ct r)),.int .i64 0]
theorem X8(s:Bs)(hs:s.size<=1048576):((zK s.data.toList).getD []).length<=1048577/\∀ x∈(zK s.data.toList).getD [],x.length<=1048576:=by
 have d:=Zg s;have a:=OV s.data.toList
 cases hp:zK s.data.toList with
 | none=>simp
 | some ts=>
  rw[hp]at a;simp only[Option.getD_some]at a ⊢;have b:=Ny hp;exact⟨by omega,fun x hx=>by have:=b x hx;omega⟩
theorem OT.all{w:Wo}{B:Nat}{v:Value}{ts:List (List UInt8)}(h:OT w B v ts):∃ a g cap,v= .slice a ts.length cap/\SS w a g 0 (ts.map zH)/\ts.length<=cap:=by
 obtain⟨a,g,cap,rfl,i,_⟩:=h.shape;refine⟨a,g,cap,rfl,i,?_⟩;rcases h.2 with ⟨d,k⟩ |⟨j,b,f,d,_,_,l,_⟩
 ·omega
 ·injection d with _ _ e;omega
theorem zaU{v:JV}{ts:List (List UInt8)}(h:zr v ts=none):qe v ts=none:=by
 rcases List.eq_nil_or_concat ts with rfl |⟨d,t,rfl⟩
 ·unfold qe;rw[yg rfl]
 ·rw[List.concat_eq_append]at *;rw[Gc]at h;unfold qe ZO QA q7;rw[yf (by simp),List.dropLast_concat]
  cases hg:zr v d with
  | none=>rfl
  | some hm=>
   rw[hg]at h;have a:zr hm [t]=none:=h;rw[qM]at a
   cases hc:zn hm t with
   | none=>simp[hc]
   | some x=>rw[hc]at a;have b:zr x []=none:=a;rw[Qz]at b;cases b
structure DW(w0 w:Wo)(A:Nat)(o:zG)(ps fs:List (List UInt8))(B1 B2:Nat)(a1 a2:Option Addr)(g1 g2 cap1 cap2:Nat):Prop where
 op:qV w A o
 s1:SS w a1 g1 0 (ps.map zH)
 s2:SS w a2 g2 0 (fs.map zH)
 t1:OT w B1 (.slice a1 ps.length cap1) ps
 t2:OT w B2 (.slice a2 fs.length cap2) fs
 bl:Bw w0 w
theorem DW.next{w0 w w':Wo}{A B1 B2 g1 g2 cap1 cap2:Nat}{o:zG}{ps fs:List (List UInt8)}{a1 a2:Option Addr}(h:DW w0 w A o ps fs B1 B2 a1 a2 g1 g2 cap1 cap2)(hb:Bw w w'):DW w0 w' A o ps fs B1 B2 a1 a2 g1 g2 cap1 cap2:=
 ⟨h.op.below hb,h.s1.below hb,h.s2.below hb,Zd h.t1 hb,Zd h.t2 hb,zi h.bl hb⟩
theorem LO(v u:JV)(o:zG)(w:Wo)(hv:zo v)(hl:(ct v).length<=100000)(hp:o.path.size<=1048576)(hs:o.src.size<=1048576)(hk1:1<=o.kind)(hk6:o.kind<=6)(hval:ZR o.kind=true->o.val=zh (ct u)/\zo u/\(ct u).length<=100000):
  Calls prog 52 #[.string (zh (ct v)),.agg (qk o)] w fun e w'=>e= .returned (Kr (Zl v (Ww o u)))/\Bw w w':=by
 obtain⟨i,j⟩:=X8 o.path hp;obtain⟨q,s⟩:=X8 o.src hs;have hX:Ww o u=⟨o.kind,(zK o.path.data.toList).getD [],(zK o.src.data.toList).getD [],u⟩:=rfl;have kA:qV (w.alloc (.cells (qk o) 59)) w.heap.size o:=yH w (.cells (qk o) 59);have bA:=Z0 w (.cells (qk o) 59);have HT1:=ze (Gl o.path (w.alloc (.cells (qk o) 59)) hp);have HT2:Hid (∀ wx,Calls prog 41 #[.string o.src] wx fun e w'=>∃ v,e= .returned (.tuple #[v,.bool (zK o.src.data.toList).isSome])/\OT w' wx.heap.size v ((zK o.src.data.toList).getD [])/\Bw wx w'):=fun wx=>Gl o.src wx hs;have HOA:=ze kA;have HBA:=ze bA;have hc:=kA.c;generalize (zK o.path.data.toList).isSome=ok1 at *;generalize (zK o.src.data.toList).isSome=ok2 at *;generalize (zK o.path.data.toList).getD []=d at *;generalize (zK o.src.data.toList).getD []=A at *;have L:Hid (∀ (ts:List (List UInt8)) (a:Option Addr) (g cap:Nat) (wx:Wo),ts=d∨ts=A->SS wx a g 0 (ts.map zH)->Calls prog 100 #[.string (zh (ct v)),.slice a ts.length cap] wx (Rb (Yj v ts) wx)):=fun ts a g cap wx ht h=>XS v hv.ok hv.tw (by omega) a g 0 cap ts wx h (by rcases ht with rfl | rfl<;>assumption) (by rcases ht with rfl | rfl<;>assumption);have S:Hid (∀ (x y:List (List UInt8)) (wx:Wo) (a b:Value) (B1 B2:Nat),(x=A/\y=d)∨(x=d/\y=A)->OT wx B1 a x->OT wx B2 b y->Calls prog 85 #[a,b] wx (Rb (.bool (pre x y)) wx)):=fun x y wx a b B1 B2 hq h1 h2=>(Nm a b x y wx h1 h2 (by rcases hq with ⟨rfl,rfl⟩ |⟨rfl,rfl⟩<;>assumption) (by rcases hq with ⟨rfl,rfl⟩ |⟨rfl,rfl⟩<;>assumption)).mono (by rintro e w' ⟨rfl,n,rfl⟩;exact⟨rfl,OU wx n _⟩);obtain⟨gx,gb,hgr,F,G⟩:∃ (gx:Bs) (gb:Bool),Yj v d= .tuple #[.string gx,.bool gb]/\(zr v d=none->gb=false)/\(∀ c,zr v d=some c->gx=zh (ct c)/\gb=true):=by
  cases h:zr v d with
  | none=>exact⟨_,_,Km h,fun _=>rfl,fun c h=>by cases h⟩
  | some x=>exact⟨_,_,Us h,fun h=>(by cases h),fun c hc=>by injection hc with hc;subst hc;exact⟨rfl,rfl⟩⟩
 have HG:Hid (∀ (a:Option Addr) (g cap:Nat) (wx:Wo),SS wx a g 0 (d.map zH)->Calls prog 100 #[.string (zh (ct v)),.slice a d.length cap] wx (Rb (.tuple #[.string gx,.bool gb]) wx)):=fun a g cap wx h=>by have:=uh L d a g cap wx (.inl rfl) h;rw[hgr]at this;exact this
 obtain⟨T,Y⟩:∃ D,Zl v (Ww o u)=D:=⟨_,rfl⟩;rw[Y];rw[hX]at Y;have U:=ze Y;have HFA:Hid (zo v/\(ct v).length<=100000/\d.length<=1048577/\(∀ x∈d,x.length<=1048576)/\A.length<=1048577/\(∀ x∈A,x.length<=1048576)/\(ZR o.kind=true->o.val=zh (ct u)/\zo u/\(ct u).length<=100000)/\1<=o.kind/\o.kind<=6/\(zr v d=none->gb=false)/\∀ c,zr v d=some c->gx=zh (ct c)/\gb=true):=⟨hv,hl,i,j,q,s,hval,hk1,hk6,F,G⟩;clear hX Y hv hl hp hs i j q s hval hk1 hk6 F G hgr kA bA;go_in;go_wp2_with fail;generalize (w.alloc (.cells (qk o) 59))=wA at *;refine (uh HT1).mono ?_;rintro e w1 ⟨v1,rfl,o1,b1⟩;have HO1:=ze ((uh HOA).below b1);obtain⟨p10,p11,p12,p13⟩:=(uh HO1).c;obtain⟨R,V,k,rfl,ss1,E⟩:=OT.all o1;have aa:=ze o1;have ad:=ze ss1;have HB1:=ze (zi (uh HBA) b1);have af:=ze (uh HT2 w1);clear HT1 HT2 o1 ss1 b1 HOA HBA hc;go_wp2_with fail;refine (uh af).mono ?_;rintro e w2 ⟨v2,rfl,o2,b2⟩;obtain⟨a2,g2,M,rfl,ss2,hcap2⟩:=OT.all o2;have W:Hid (DW w w2 w.heap.size o d A _ _ R a2 V g2 k M):=⟨(uh HO1).below b2,(uh ad).below b2,ss2,Zd (uh aa) b2,o2,zi (uh HB1) b2⟩;obtain⟨q10,q11,q12,q13⟩:=(uh W).op.c;have HG2:=ze (uh HG R V k w2 (uh W).s1);clear af o2 ss2 b2 HO1 HB1 HG ad aa p10 p11 p12 p13;go_wp2_with fail;refine (uh HG2).mono ?_;rintro e w3 ⟨rfl,b3⟩;have f:=ze ((uh W).next b3);obtain⟨r10,r11,r12,r13⟩:=(uh f).op.c;clear HG2 b3 W q10 q11 q12 q13;obtain⟨hv,hl,i,j,q,s,hval,hk1,hk6,F,G⟩:=uh HFA;clear HFA;rcases (show o.kind=1∨o.kind=4∨o.kind=5∨(o.kind=2∨o.kind=3∨o.kind=6) by omega)with p | p | p | p
 ·obtain⟨e1,e2,e3⟩:=hval (by rw[p];rfl);have O:=ze (Pj v u d R V 0 k w3 hv e2 hl e3 j i E (uh f).s1);rw[← e1]at O;have l:Hid (T=ZS 3 (Z4 v d u)):=by show _=_;rw[← uh U];unfold Zl;simp only;rw[yg p]
  clear hv hl i j q s hval hk1 hk6 e1 e2 e3 F G L S
  cases hpv:Z4 v d u
  all_goals (
   rw[hpv]at O l;simp only[Gu]at O;clear hpv;go_wp2_with fail;refine (uh O).mono ?_;rintro e w4 ⟨rfl,J⟩;have K:=ze (zi (uh f).bl J);clear O J;go_wp2;go_ret2;exact⟨by rw[uh l];rfl,uh K⟩)
 ·have z:=ze (uh L A a2 g2 M w3 (.inr rfl) (uh f).s2)
  cases hg:zr v A with
  | none=>
   rw[Km hg]at z;have l:Hid (T= .inl 3):=by show _=_;rw[← uh U];unfold Zl;simp only;rw[p,yf (by decide),yf (by decide),yf (by decide),yg rfl,hg]
   clear hv hl i j q s hval hk1 hk6 F G L S hg;go_wp2_with fail;refine (uh z).mono ?_;rintro e w4 ⟨rfl,J⟩;have K:=ze (zi (uh f).bl J);clear z J;go_wp2;go_ret2;exact⟨by rw[uh l];rfl,uh K⟩
  | some m=>
   rw[Us hg]at z;have l:Hid (T=if A=d then .inr v else if A.isPrefixOf d then .inl 6 else match qe v A with | none=>.inl 3 | some r=>ZS 3 (Z4 r d m)):=by show _=_;rw[← uh U];unfold Zl;simp only;rw[p,yf (by decide),yf (by decide),yf (by decide),yg rfl,hg];rfl
   have HM:Hid (zo m/\(ct m).length<=100000):=⟨hv.get hg,by have:=Yn hv hg;omega⟩;have X:Hid (A≠[]->∀ wx,SS wx a2 g2 0 (A.map zH)->∃ r,qe v A=some r/\zo r/\(ct r).length<=(ct v).length/\Calls prog 102 #[.string (zh (ct v)),.slice a2 A.length M] wx (Rb (.string (zh (ct r))) wx)):=fun hne wx h=>LN v m A a2 g2 0 M wx hne hv hg hl s q hcap2 h;have P:Hid (∀ (r:JV) (wx:Wo),zo r->(ct r).length<=(ct v).length->SS wx R V 0 (d.map zH)->Calls prog 101 #[.string (zh (ct r)),.slice R d.length k,.string (zh (ct m))] wx (Rb (Gu (Z4 r d m)) wx)):=fun r wx hr hrl h=>Pj r m d R V 0 k wx hr (uh HM).1 (by omega) (uh HM).2 j i E h;clear hv hl i j q s hval hk1 hk6 F G L hg HM;generalize zh (ct m)=sm at *;go_wp2_with fail;refine (uh z).mono ?_;rintro e w4 ⟨rfl,J⟩;have B:=ze ((uh f).next J);obtain⟨s10,s11,s12,s13⟩:=(uh B).op.c;have Q:=ze (uh S A d w4 _ _ _ _ (.inl ⟨rfl,rfl⟩) (uh B).t2 (uh B).t1);clear z J f r10 r11 r12 r13
   cases hpre:pre A d with
   | true=>
    rw[hpre]at Q;go_wp2_with fail;refine (uh Q).mono ?_;rintro e w5 ⟨rfl,b5⟩;have H:=ze ((uh B).next b5);have I:=ze (uh S d A w5 _ _ _ _ (.inr ⟨rfl,rfl⟩) (uh H).t1 (uh H).t2);clear Q b5 B
    cases hq:pre d A with
    | true=>
     rw[hq]at I;rw[yg (zaR hpre hq)]at l;clear hpre hq S X P;go_wp2_with fail;refine (uh I).mono ?_;rintro e w6 ⟨rfl,b6⟩;have HB6:=ze (zi (uh H).bl b6);clear I b6;go_wp2;go_ret2;exact⟨by rw[uh l];rfl,uh HB6⟩
    | false=>
     rw[hq]at I;rw[yf (fun e=>by rw[e,LM]at hq;cases hq),yg (by rw[← Kq];exact hpre)]at l;go_wp2_with fail;refine (uh I).mono ?_;rintro e w6 ⟨rfl,b6⟩;have N:=ze ((uh H).next b6);have HX6:=ze (uh S A d w6 _ _ _ _ (.inl ⟨rfl,rfl⟩) (uh N).t2 (uh N).t1);rw[hpre]at HX6;clear I b6 H hpre hq S X P;go_wp2_with fail;refine (uh HX6).mono ?_;rintro e w7 ⟨rfl,b7⟩;have HB7:=ze (zi (uh N).bl b7);clear HX6 b7;go_wp2;go_ret2;exact⟨by rw[uh l];rfl,uh HB7⟩
   | false=>
    rw[hpre]at Q;rw[yf (fun e=>by rw[e,LM]at hpre;cases hpre),yf (by rw[← Kq,hpre];simp)]at l;go_wp2_with fail;refine (uh Q).mono ?_;rintro e w5 ⟨rfl,b5⟩;have H:=ze ((uh B).next b5);have I:=ze (uh S A d w5 _ _ _ _ (.inl ⟨rfl,rfl⟩) (uh H).t2 (uh H).t1);rw[hpre]at I;have hfne:A≠[]:=fun e=>by rw[e,Kq]at hpre;simp at hpre
    have Z:=ze (uh X hfne);clear Q b5 B X hfne hpre S;go_wp2_with fail;refine (uh I).mono ?_;rintro e w6 ⟨rfl,b6⟩;have N:=ze ((uh H).next b6);obtain⟨r,hr,hrg,hrl,C⟩:=uh Z w6 (uh N).s2;have HC:=ze C;rw[hr]at l;have ab:Hid (∀ wx,SS wx R V 0 (d.map zH)->Calls prog 101 #[.string (zh (ct r)),.slice R d.length k,.string sm] wx (Rb (Gu (Z4 r d m)) wx)):=fun wx h=>uh P r wx hrg hrl h;clear Z P hr hrg hrl C I b6 H;go_wp2_with fail;refine (uh HC).mono ?_;rintro e w7 ⟨rfl,b7⟩;have HB7:=ze (zi (uh N).bl b7);have O:=ze (uh ab w7 ((uh N).s1.below b7));clear HC b7 ab
    cases hpv:Z4 r d m
    all_goals (
     rw[hpv]at O l;simp only[Gu]at O;clear hpv;go_wp2_with fail;refine (uh O).mono ?_;rintro e w9 ⟨rfl,b9⟩;have HB9:=ze (zi (uh HB7) b9);clear O b9;go_wp2;go_ret2;exact⟨by rw[uh l];rfl,uh HB9⟩)
 ·have z:=ze (uh L A a2 g2 M w3 (.inr rfl) (uh f).s2)
  cases hg:zr v A with
  | none=>
   rw[Km hg]at z;have l:Hid (T= .inl 3):=by show _=_;rw[← uh U];unfold Zl;simp only;rw[p,yf (by decide),yf (by decide),yf (by decide),yf (by decide),yg rfl,hg]
   clear hv hl i j q s hval hk1 hk6 F G L S hg;go_wp2_with fail;refine (uh z).mono ?_;rintro e w4 ⟨rfl,J⟩;have K:=ze (zi (uh f).bl J);clear z J;go_wp2;go_ret2;exact⟨by rw[uh l];rfl,uh K⟩
  | some m=>
   rw[Us hg]at z;have l:Hid (T=ZS 3 (Z4 v d m)):=by show _=_;rw[← uh U];unfold Zl;simp only;rw[p,yf (by decide),yf (by decide),yf (by decide),yf (by decide),yg rfl,hg]
   have hlm:=Yn hv hg;have P:Hid (∀ wx,SS wx R V 0 (d.map zH)->Calls prog 101 #[.string (zh (ct v)),.slice R d.length k,.string (zh (ct m))] wx (Rb (Gu (Z4 v d m)) wx)):=fun wx h=>Pj v m d R V 0 k wx hv (hv.get hg) hl (by omega) j i E h;clear hv hl i j q s hval hk1 hk6 F G L S hg hlm;generalize zh (ct m)=sm at *;go_wp2_with fail;refine (uh z).mono ?_;rintro e w4 ⟨rfl,J⟩;have B:=ze ((uh f).next J);obtain⟨s10,s11,s12,s13⟩:=(uh B).op.c;have O:=ze (uh P w4 (uh B).s1);clear z J f P r10 r11 r12 r13
   cases hpv:Z4 v d m
   all_goals (
    rw[hpv]at O l;simp only[Gu]at O;clear hpv;go_wp2_with fail;refine (uh O).mono ?_;rintro e w9 ⟨rfl,b9⟩;have HB9:=ze (zi (uh B).bl b9);clear O b9;go_wp2;go_ret2;exact⟨by rw[uh l];rfl,uh HB9⟩)
 ·clear S L
  cases hg:zr v d with
  | none=>
   obtain rfl:=F hg;have l:Hid (T= .inl 3):=by
    show _=_
    rw[← uh U];unfold Zl;simp only;rcases p with p | p | p
    ·rw[p,yf (by decide),yg rfl,zaU hg];rfl
    ·rw[p,yf (by decide),yf (by decide),yg rfl];unfold ZO;rw[hg];rfl
    ·rw[p,yf (by decide),yf (by decide),yf (by decide),yf (by decide),yf (by decide),hg]
   clear hv hl i j q s hval hk1 hk6 F G hg;rcases p with p | p | p
   all_goals (
    go_wp2;go_ret2;exact⟨by rw[uh l];rfl,(uh f).bl⟩)
  | some c=>
   obtain⟨rfl,rfl⟩:=G c hg;clear F G;rcases p with p | p | p
   ·by_cases h0:d=[]
    ·subst h0;have l:Hid (T= .inl 3):=by show _=_;rw[← uh U];unfold Zl;simp only;rw[p,yf (by decide),yg rfl];rfl
     clear hv hl i j q s hval hk1 hk6 hg;go_wp2;go_ret2;exact⟨by rw[uh l];rfl,(uh f).bl⟩
    ·have hpos:¬ d.length=0:=fun h=>h0 (yO h);have hposI:((d.length:Int) ==0)=false:=by rw[yd];omega
     obtain⟨r,hr,-,-,C⟩:=LN v c d R V 0 k w3 h0 hv hg hl j i E (uh f).s1;have HC:=ze C;have l:Hid (T= .inr r):=by show _=_;rw[← uh U];unfold Zl;simp only;rw[p,yf (by decide),yg rfl,hr];rfl
     clear hv hl i j q s hval hk1 hk6 hg h0 hpos hr C;generalize zh (ct c)=sc at *;go_wp2_with fail;refine (uh HC).mono ?_;rintro e w4 ⟨rfl,J⟩;have K:=ze (zi (uh f).bl J);clear HC J;go_wp2;go_ret2;exact⟨by rw[uh l];rfl,uh K⟩
   ·obtain⟨e1,e2,e3⟩:=hval (by rw[p];rfl);have hsl:=Ym (u:=u) hv hg;have HC:=ze (Kl d v u c R V 0 k w3 hv e2 hg hl (by omega) j i E (uh f).s1);rw[← e1]at HC;have l:Hid (T= .inr (zO v d u)):=by show _=_;rw[← uh U];unfold Zl;simp only;rw[p,yf (by decide),yf (by decide),yg rfl];unfold ZO;rw[hg];rfl
    clear hv hl i j q s hval hk1 hk6 hg hsl e1 e2 e3;generalize zh (ct c)=sc at *;go_wp2_with fail;refine (uh HC).mono ?_;rintro e w4 ⟨rfl,J⟩;have K:=ze (zi (uh f).bl J);clear HC J;go_wp2;go_ret2;exact⟨by rw[uh l];rfl,uh K⟩
   ·have hse:=Fm (ct c) (ct u);rw[← (hval (by rw[p];rfl)).1]at hse;have l:Hid (T=if ct c=ct u then .inr v else .inl 5):=by show _=_;rw[← uh U];unfold Zl;simp only;rw[p,yf (by decide),yf (by decide),yf (by decide),yf (by decide),yf (by decide),hg]
    clear hv hl i j q s hval hk1 hk6 hg;by_cases he:ct c=ct u
    ·rw[yD.2 he]at hse;rw[yg he]at l;clear he;generalize zh (ct c)=sc at *;go_wp2;go_ret2;exact⟨by rw[uh l];rfl,(uh f).bl⟩
    ·rw[yd.2 he]at hse;rw[yf he]at l;clear he;generalize zh (ct c)=sc at *;go_wp2;go_ret2;exact⟨by rw[uh l];rfl,(uh f).bl⟩
theorem DS.set{B rb g i:Nat}{w w1:Wo}(h:DS B rb w w1)(hr:rb<g)(hg:w.heap.size<=g)(z:Value):DS B rb w (w1.setCell ⟨g,i,none⟩ z):=by
 have a:B<=rb:=by obtain⟨_,_,_,_,_,_,_,a,_⟩:=h.1;exact a
 exact⟨h.1.grown (D3 w1 g i z) (fun e=>by injection e with e;omega) (fun k e=>by injection e with e;omega),XF h.2 (D3 w1 g i z) fun j e=>by injection e with e;omega⟩
structure QK(B rb g4 g6:Nat)(w wx:Wo)(o:zG):Prop where
 ds:DS B rb w wx
 op:qV wx g6 o
 r4:qV wx g4 ⟨0,⟨#[]⟩,⟨#[]⟩,⟨#[]⟩⟩
 lt:rb<g4
 l6:g4<g6
 eq:w.heap.size=g4
section
variable {B rb g4 g6:Nat} {w w1 w2:Wo} {o:zG}
theorem QK.below(h:QK B rb g4 g6 w w1 o)(hb:Bw w1 w2):QK B rb g4 g6 w w2 o:=⟨h.ds.below hb,h.op.below hb,h.r4.below hb,h.lt,h.l6,h.eq⟩
theorem QK.step(h:QK B rb g4 g6 w w1 o)(r:zR w2 B rb)(g:w1.grownBy w2 (some rb)):QK B rb g4 g6 w w2 o:=
 ⟨h.ds.step r g,(g.block g6 h.op.lt fun e=>by injection e with e;have:=h.lt;have:=h.l6;omega).trans h.op,(g.block g4 h.r4.lt fun e=>by injection e with e;have:=h.lt;omega).trans h.r4,h.lt,h.l6,h.eq⟩
theorem QK.oth(h:QK B rb g4 g6 w w1 o)(i:Nat)(z:Value):DS B rb w (w1.setCell ⟨g6,i,none⟩ z)/\qV (w1.setCell ⟨g6,i,none⟩ z) g4 ⟨0,⟨#[]⟩,⟨#[]⟩,⟨#[]⟩⟩:=
 ⟨h.ds.set (by have:=h.lt;have:=h.l6;omega) (by have:=h.eq;have:=h.l6;omega) z,(Below.heap_setCell _ _ _ _ (by have:=h.l6;show g4≠g6;omega)).trans h.r4⟩
theorem QK.s1(h:QK B rb g4 g6 w w1 o)(z:Bs):QK B rb g4 g6 w (w1.setCell ⟨g6,1,none⟩ (.string z)) ⟨o.kind,z,o.src,o.val⟩:=⟨(h.oth 1 _).1,h.op.s1 z,(h.oth 1 _).2,h.lt,h.l6,h.eq⟩
theorem QK.s2(h:QK B rb g4 g6 w w1 o)(z:Bs):QK B rb g4 g6 w (w1.setCell ⟨g6,2,none⟩ (.string z)) ⟨o.kind,o.path,z,o.val⟩:=⟨(h.oth 2 _).1,h.op.s2 z,(h.oth 2 _).2,h.lt,h.l6,h.eq⟩
theorem QK.s3(h:QK B rb g4 g6 w w1 o)(z:Bs):QK B rb g4 g6 w (w1.setCell ⟨g6,3,none⟩ (.string z)) ⟨o.kind,o.path,o.src,z⟩:=⟨(h.oth 3 _).1,h.op.s3 z,(h.oth 3 _).2,h.lt,h.l6,h.eq⟩
end
structure X9(o:zG):Prop where
 k1:1<=o.kind
 k6:o.kind<=6
 path:o.path.size<=40100
 src:o.src.size<=40100
 val:ZR o.kind=true->∃ u:JV,o.val=zh (ct u)/\zo u/\(ct u).length<=20000
 no:ZR o.kind=false->o.val=⟨#[]⟩
def LP(B rb:Nat)(w:Wo)(e:Ending)(w':Wo):Prop:=∃ o:zG,X9 o/\e= .returned (.agg (qk o))/\DS B rb w w'
theorem zaV(B rb:Nat)(v:JV)(w:Wo)(h:zR w B rb)(hd:KR v)(hv:zo v)(hl:(ct v).length<=20000):
  Calls prog 84 #[.pointer (some ⟨rb,0,none⟩),.string (zh (ct v))] w (LP B rb w):=by
 have hA:=Z0 w (.cells (qk ⟨0,⟨#[]⟩,⟨#[]⟩,⟨#[]⟩⟩) 59);have kA:qV (w.alloc (.cells (qk ⟨0,⟨#[]⟩,⟨#[]⟩,⟨#[]⟩⟩) 59)) w.heap.size ⟨0,⟨#[]⟩,⟨#[]⟩,⟨#[]⟩⟩:=yH w _;have HX:=ze (Jq B rb _ (DS.below (w:=w) ⟨h,qI (yI _ _)⟩ hA).1);have HA:=ze hA;have o:=ze kA;have i:=h.lt;have l:Hid (∀ (b:Bool) wx,zR wx B rb->Calls prog 132 #[.pointer (some ⟨rb,0,none⟩),.string (zh (ct v)),.bool b] wx (DP B rb 40100 wx)):=fun b wx hr=>zaB B rb v b wx hr hd;have I:=ze fun wx (hr:zR wx B rb)=>zal B rb wx hr;have n:Hid (∀ (ts:List (List UInt8)) (r:Value) (B1:Nat) wx,OT wx B1 r ts->ts.length<=1048577->(∀ t∈ts,t.length<=1048576)->Calls prog 100 #[.string (zh (ct v)),r] wx (Rb (Yj v ts) wx)):=fun ts r B1 wx ho h1 h2=>Ht v hv.ok hv.tw (by omega) r ts wx ho h1 h2;have P:Hid (∀ ts u,zr v ts=some u->zo u/\(ct u).length<=20000):=fun ts u X=>⟨hv.get X,yQ (Yn hv X) hl⟩;have M:=ze h;clear hA kA hd hv h hl;go_in;go_wp2_with fail;refine (uh HX).mono ?_;rintro e m ⟨x,hx,rfl,r1,g1⟩;obtain⟨K,hK⟩:∃ K:Int,K=1+(x:Int) % 6:=⟨_,rfl⟩;have hK1:1+(x:Int) % 6=K:=hK.symm;have U:1<=K/\K<=6:=by omega
 have k1:qV m w.heap.size ⟨0,⟨#[]⟩,⟨#[]⟩,⟨#[]⟩⟩:=(g1.block w.heap.size (uh o).lt fun e=>by injection e with e;omega).trans (uh o);have f:w.heap.size<m.heap.size:=k1.lt;have D:=Z0 m (.cells (qk ⟨K,⟨#[]⟩,⟨#[]⟩,⟨#[]⟩⟩) 59);have d:Hid (QK B rb w.heap.size m.heap.size w (m.alloc (.cells (qk ⟨K,⟨#[]⟩,⟨#[]⟩,⟨#[]⟩⟩) 59)) ⟨K,⟨#[]⟩,⟨#[]⟩,⟨#[]⟩⟩):=
  ⟨((DS.below (w:=w) ⟨uh M,qI (yI _ _)⟩ (uh HA)).step r1 g1).below D,yH m _,k1.below D,i,f,rfl⟩
 clear HX HA o r1 g1 k1 D hK M;go_upto_region 3 with fail;generalize m.heap.size=T at *;generalize m.alloc _=w2 at *;go_cut []from 17 to 28 (fun wx=>∃ p:Bs,p.size<=40100/\QK B rb w.heap.size T w wx ⟨K,p,⟨#[]⟩,⟨#[]⟩⟩)
 case first=>
  obtain⟨c0,c1,-,-⟩:=(uh d).op.c;by_cases hk:K=1
  case' pos=>
   have t1:(K ==1)=true:=by simp[hk]
   have HC:=ze (uh l true _ (uh d).ds.1);clear hk;go_wp2_with fail
  case' neg=>
   have t1:(K ==1)=false:=by simp[hk]
   have G:=ze (ND K w2);have HC:=ze (uh l (Qj K) _ (uh d).ds.1);clear hk;go_wp2_with fail;refine (uh G).mono ?_;rintro e w2' ⟨rfl,rfl⟩;clear G;go_wp2_with fail
  all_goals
   refine (uh HC).mono ?_;rintro e w3 ⟨t,ht,rfl,Y,S⟩;have ZL:=ze ((uh d).step Y S);have F:(zh t).size<=40100:=by rw[zN];exact ht
   obtain⟨-,d1,-,-⟩:=(uh ZL).op.c;have Z:=(uh ZL).op.fz 1;clear HC Y S;generalize zh t=k at *;go_wp2;go_meet
   case rel=>exact⟨k,F,(uh ZL).s1 k⟩
 obtain⟨p,hp,a⟩:=hcut;have d:=ze a;obtain⟨c0,-,-,-⟩:=a.op.c;clear a;go_wp2_with fail;refine (ND K _).mono ?_;rintro e w3 ⟨rfl,rfl⟩;go_upto_if 31 with fail;go_cut []from 29 to 35 (fun wx=>∃ s:Bs,s.size<=40100/\QK B rb w.heap.size T w wx ⟨K,p,s,⟨#[]⟩⟩)
 case first=>
  cases hf:Qj K with
  | false=>
   clear hf;go_wp2;go_meet
   case rel=>exact⟨⟨#[]⟩,by decide,uh d⟩
  | true=>
   have HC:=ze (uh l false _ (uh d).ds.1);clear hf;go_wp2_with fail;refine (uh HC).mono ?_;rintro e w3 ⟨t,ht,rfl,Y,S⟩;have ZL:=ze ((uh d).step Y S);have F:(zh t).size<=40100:=by rw[zN];exact ht
   obtain⟨-,-,d2,-⟩:=(uh ZL).op.c;have Z:=(uh ZL).op.fz 2;clear HC Y S;generalize zh t=k at *;go_wp2;go_meet
   case rel=>exact⟨k,F,(uh ZL).s2 k⟩
 obtain⟨s,hs,a⟩:=hcut;have d:=ze a;clear c0;obtain⟨c0,-,-,-⟩:=a.op.c;clear a l;go_wp2_with fail;refine (D7 K _).mono ?_;rintro e w3 ⟨rfl,rfl⟩;go_upto_if 38 with fail;go_cut []from 36 to 41 (fun wx=>∃ z:Bs,(ZR K=true->∃ u:JV,z=zh (ct u)/\zo u/\(ct u).length<=20000)/\(ZR K=false->z=⟨#[]⟩)/\QK B rb w.heap.size T w wx ⟨K,p,s,z⟩)
 case first=>
  cases hf:ZR K with
  | false=>
   have G:=ze hf;clear hf;go_wp2;go_meet
   case rel=>exact⟨⟨#[]⟩,fun h=>absurd h (by rw[uh G];decide),fun _=>rfl,uh d⟩
  | true=>
   have HC:=ze (uh I _ (uh d).ds.1);have G:=ze hf;clear hf;go_wp2_with fail;refine (uh HC).mono ?_;rintro e w3 ⟨u,gu,lu,rfl,R⟩;have ZL:=ze ((uh d).step R.1 R.2);have HU:Hid (∃ v:JV,zh (ct u)=zh (ct v)/\zo v/\(ct v).length<=20000):=⟨u,rfl,gu,lu⟩;obtain⟨-,-,-,d2⟩:=(uh ZL).op.c;have Z:=(uh ZL).op.fz 3;clear HC R gu lu;generalize zh (ct u)=k at *;go_wp2;go_meet
   case rel=>exact⟨k,fun _=>uh HU,fun h=>absurd h (by rw[uh G];decide),(uh ZL).s3 k⟩
 obtain⟨z,f,j,a⟩:=hcut;have A:=ze f;have C:=ze j;have d:=ze a;clear c0;obtain⟨c0,c1,-,c3⟩:=a.op.c;clear a I f j;have q:=ze fun wz=>Gl p wz (show p.size<=1048576 by omega);obtain⟨V,W⟩:=X8 p (by omega);have J:=ze V;have L:=ze W;clear V W;generalize (zK p.data.toList).isSome=ok1 at *;generalize (zK p.data.toList).getD []=ps at *;obtain⟨b6,E⟩:∃ b:Bool,(K ==6)=b:=⟨_,rfl⟩;have H:Hid (b6=true->ZR K=true):=fun h=>by rw[h]at E;rw[eq_of_beq E];rfl
 go_upto_region 8 with fail;go_cut [48]from 42 to 48 (fun y wx=>∃ b:Bool,y= .bool b/\Hid (b=true->ZR K=true)/\wc=wx)
 case first=>
  cases b6 with
  | false=>
   go_wp2;go_meet
   case rel=>exact⟨false,rfl,(fun h=>by cases h),rfl⟩
  | true=>
   have HB7:=ze (uh H rfl);by_cases h2:x<200
   case' pos=>have e2:((x:Int)<200)=True:=eq_true (by omega)
   case' neg=>have e2:((x:Int)<200)=False:=yR (by omega)
   all_goals
    clear h2;go_wp2;go_meet
    case rel=>exact⟨_,rfl,fun _=>uh HB7,rfl⟩
 obtain⟨b,rfl,HB,rfl⟩:=hcut;clear H E;go_upto_if 48 with fail;go_cut []from 49 to 63 (fun wx=>∃ z:Bs,(ZR K=true->∃ u:JV,z=zh (ct u)/\zo u/\(ct u).length<=20000)/\(ZR K=false->z=⟨#[]⟩)/\QK B rb w.heap.size T w wx ⟨K,p,s,z⟩)
 case first=>
  cases b with
  | false=>
   go_wp2;go_meet
   case rel=>exact⟨z,uh A,uh C,uh d⟩
  | true=>
   have HV:=ze (uh HB rfl);have O:=ze (uh q wc);clear q HB;go_wp2_with fail;refine (uh O).mono ?_;rintro e w4 ⟨r4,rfl,o4,b4⟩;have N:=ze ((uh d).below b4);have HC:=ze (uh n ps r4 _ w4 o4 (uh J) (uh L));clear O o4 b4 n
   cases hg:zr v ps with
   | none=>
    rw[Km hg]at HC;clear hg;go_wp2_with fail;refine (uh HC).mono ?_;rintro e w5 ⟨rfl,Q⟩;have g:=ze ((uh N).below Q);clear HC Q;go_wp2;go_meet
    case rel=>exact⟨z,uh A,uh C,uh g⟩
   | some u=>
    rw[Us hg]at HC;have X:=uh P ps u hg;have HU:Hid (∃ v:JV,zh (ct u)=zh (ct v)/\zo v/\(ct v).length<=20000):=⟨u,rfl,X⟩;clear hg X;generalize zh (ct u)=k at *;go_wp2_with fail;refine (uh HC).mono ?_;rintro e w5 ⟨rfl,Q⟩;have g:=ze ((uh N).below Q);obtain⟨-,-,-,R⟩:=(uh g).op.c;have Z:=(uh g).op.fz 3;clear HC Q;go_wp2;go_meet
    case rel=>exact⟨k,fun _=>uh HU,fun h=>absurd h (by rw[uh HV];decide),(uh g).s3 k⟩
 obtain⟨z',f,j,a⟩:=hcut;obtain⟨d0,d1,d2,R⟩:=a.op.c;obtain⟨q0,q1,q2,q3⟩:=a.r4.c;have f0:=a.r4.fz 0;have f1:=a.r4.fz 1;have f2:=a.r4.fz 2;have Z:=a.r4.fz 3;have HR4:=ze a.r4;have HD:=ze a.ds;have HO:Hid (X9 ⟨K,p,s,z'⟩):=⟨U.1,U.2,hp,hs,f,j⟩;have hne:¬ T=w.heap.size:=by have:=a.l6;omega
 clear a f j d A C q J L n P c0 c1 c3;go_wp2;refine bodyPost_ret (results_cell_row rfl _ _ w.heap.size 59 #[_,_,_,_] (0,0) _ rfl (Wt (uh HR4) [_,_,_,_] rfl) underlying59 rfl (by kernel_rfl)) rfl ?_;exact⟨_,uh HO,rfl,((((uh HD).set i (ye _) _).set i (ye _) _).set i (ye _) _).set i (ye _) _⟩
theorem LQ:(prog.info? 59).map (fun i=>(i.zero,i.size,i.bytes))=some (some (.agg #[.int .i64 0,.string ByteArray.empty,.string ByteArray.empty,.string ByteArray.empty]),4,56):=by kernel_rfl
def qg(w:Wo)(B:Nat)(v:Value)(ms:List zG):Prop:=w.ownsRow B 59 4 v ms.length (ms.flatMap JA)
theorem qg.step{w:Wo}{B:Nat}{v:Value}{ms:List zG}{m:zG}(h:w.ownsRow B 59 4 v (ms.length+1) (ms.flatMap JA++JA m)):qg w B v (ms++[m]):=by
 unfold qg;rw[yh,List.flatMap_append,List.flatMap_singleton];exact h
theorem qg.orow{w:Wo}{B:Nat}{v:Value}{ms:List zG}(h:qg w B v ms):Zr Yk w v ms v.ownBlock.toList/\Jl B v.ownBlock.toList:=by
 refine⟨⟨ms.map fun m=>(JA m,[]),by simp,fun j p x hp hx=>?_,?_,?_⟩,?_⟩
 ·rw[List.getElem?_map,hx]at hp;injection hp with hp;subst hp;exact⟨rfl,rfl⟩
 ·have e:(ms.map fun m=>((JA m,[]):List Value×List Nat)).flatMap (·.1)=ms.flatMap JA:=by rw[List.flatMap_map]
  rw[e];exact QO h (yu _)
 ·have e:(ms.map fun m=>((JA m,[]):List Value×List Nat)).flatMap (·.2)=[]:=by rw[List.flatMap_map];simp
  rw[e,yT]
 ·refine⟨?_,fun b hb=>(h.lt b (by simpa using hb)).1⟩
  cases v.ownBlock<;>simp
theorem Ks(w:Wo)(m:zG):∀ j u,(JA m)[j]?=some u->(w.alloc (.cells (qk m) 59)).cell? ((⟨w.heap.size,0,none⟩:Addr).add j)=some u:=zaO w (JA m) 59
theorem Kt(m:zG):∀ u∈JA m,u.oneCell'=true:=by
 intro u a;simp only[JA,List.mem_cons,List.not_mem_nil,or_false]at a;rcases a with rfl | rfl | rfl | rfl<;>rfl
def JB(m:zG):JV:=match zI m.val with
 | .inr u=>u
 | .inl _=>.nul
def ZN(m:zG):Zv:=Ww m (JB m)
def Ze(s:Bs)(ms:List zG):Bs×Int×Int:=match zI s with
 | .inl _=>(⟨#[]⟩,1,0)
 | .inr v=>if 0<=Z9 ms then (⟨#[]⟩,2,Z9 ms)else match Zw v (ms.map ZN) 0 with
  | .inl ci=>(⟨#[]⟩,(ci.1:Int),(ci.2:Int))
  | .inr r=>(zh (ct r),0,0)
theorem LR{m:zG}(h:Zu m=true):1<=m.kind/\m.kind<=6/\(ZR m.kind=true->zI m.val= .inr (JB m)/\m.val=zh (ct (JB m))/\ZF (JB m)):=by
 unfold Zu at h;simp only[Bool.and_eq_true,decide_eq_true_eq]at h;refine⟨h.1.1.1.1,h.1.1.1.2,fun hv=>?_⟩;have b:=h.2;rw[yg hv,XU]at b;obtain⟨u,a,d⟩:=b;have e:JB m=u:=by unfold JB;rw[a]
 rw[e];exact⟨a,d.symm,ZF.of a⟩
theorem LS{ms:List zG}(h:¬ 0<=Z9 ms):ms.length<=100/\∀ m∈ms,Zu m=true:=by
 unfold Z9 at h;split at h
 ·exact absurd (by omega) h
 ·rename_i hl;split at h
  ·rename_i i _;exact absurd (by omega) h
  ·rename_i hf;rw[List.findIdx?_eq_none_iff]at hf;exact⟨by omega,fun m hm=>by have:=hf m hm;simpa using this⟩
theorem Uv(v:JV):Q5 v=true↔zm v<=100/\zj v<=3000/\(ct v).length<=20000:=by
 unfold Q5;simp[and_assoc]
theorem zo.lim{v:JV}(h:zo v)(hl:Q5 v=true):ZF v:=by
 obtain⟨a,b,c⟩:=(Uv v).1 hl;exact⟨h.rd,h.big,a,b,h.tw,h.ok,c⟩
theorem Uw{v u r:JV}{ts:List (List UInt8)}(hv:zo v)(h:Z4 v ts u=some r):(ct r).length<=(ct v).length+(ct u).length+6*(q7 ts).length+4:=by
 unfold Z4 at h;split at h
 ·injection h with h;subst h;omega
 ·unfold ZO at h;obtain⟨x,hx,rfl⟩:=yA.1 h;obtain⟨y,a,b⟩:=Option.bind_eq_some_iff.1 hx;have d:=Lp (hv.get a) b;have f:=Ym (u:=x) hv a;omega
theorem Ku{v r:JV}{ts:List (List UInt8)}(hv:zo v)(h:qe v ts=some r):(ct r).length<=(ct v).length:=by
 unfold qe at h;split at h
 ·cases h
 ·unfold ZO at h;obtain⟨x,hx,rfl⟩:=yA.1 h;obtain⟨y,d,a⟩:=Option.bind_eq_some_iff.1 hx;unfold QA at a;obtain⟨c,b,rfl⟩:=yA.1 a;have f:=XZ b;have g:=Ym (u:=ZU y (q7 ts)) hv d;omega
theorem LT{ts:List (List UInt8)}{n:Nat}(h:∀ x∈ts,x.length<=n):(q7 ts).length<=n:=by
 unfold q7
 cases hl:ts.getLast? with
 | none=>simp
 | some x=>exact h x (List.mem_of_getLast? hl)
theorem LU{v r:JV}{o:Zv}(hv:zo v)(h:Zl v o= .inr r)(hp:∀ x∈o.path,x.length<=1048576):(ct r).length<=(ct v).length+max (ct v).length (ct o.val).length+6*1048576+4:=by
 have b:=LT hp;unfold Zl at h;split at h
 ·have:=Uw hv (Qc h);omega
 ·split at h
  ·have:=Ku hv (Qc h);omega
  ·split at h
   ·have a:=Qc h;unfold ZO at a;obtain⟨x,hx,rfl⟩:=yA.1 a;obtain⟨y,g,hp⟩:=Option.bind_eq_some_iff.1 hx;injection hp with hp;subst hp;have f:=Ym (u:=o.val) hv g;omega
   ·split at h
    ·split at h
     ·cases h
     ·rename_i m hm;have d:=Yn hv hm;split at h
      ·injection h with h;subst h;omega
      ·split at h
       ·cases h
       ·split at h
        ·cases h
        ·rename_i x hx;have a:=Uw (Wv hv hx) (Qc h);have f:=Ku hv hx;omega
    ·split at h
     ·split at h
      ·cases h
      ·rename_i m hm;have d:=Yn hv hm;have a:=Uw hv (Qc h);omega
     ·split at h
      ·cases h
      ·split at h
       ·injection h with h;subst h;omega
       ·cases h
theorem Fa:∀ (n:Nat) (v:JV),zm v<=n->zD v->zj v<=(ct v).length
 | 0,v,h,_=>by have:=(qz v).2;omega
 | n+1,v,h,hok=>by
  cases v with
  | arr l=>
   rw[zD,XV]at hok;have a:=JH (.arr l);have b:((zu (.arr l)).map fun q=>zj q.2).sum=(l.toL.map zj).sum:=by
    show ((ZX 0 l.toL).map fun q=>zj q.2).sum=_
    rw[show (fun q:List UInt8×JV=>zj q.2)=zj∘(·.2)from rfl,← List.map_map,FK]
   have d:(l.toL.map zj).sum<=(l.toL.map fun v=>(ct v).length).sum:=Kk _ _ _ fun u hu=>Fa n u (by
    have:=KP l.toL u hu;rw[zm,Vu]at h;omega) (hok u hu)
   rw[Ur];unfold hold;omega
  | obj m=>
   rw[zD,XW]at hok;have a:=JH (.obj m);have b:((zu (.obj m)).map fun q=>zj q.2).sum=(m.toL.map fun q=>zj q.2).sum:=((Yy m.toL).map _).sum_nat;have d:(m.toL.map fun q=>zj q.2).sum<=(m.toL.map Zo).sum:=Kk _ _ _ fun q hq=>by
    have:=Fa n q.2 (by
     have:=KP (m.toL.map (·.2)) q.2 (yP.2 ⟨q,hq,rfl⟩);rw[zm,JE]at h;omega) (hok q hq).2
    unfold Zo;omega
   rw[Jm];unfold hold;omega
  | _=>
   have:=XT hok;rw[zN]at this;simp only[zj];omega
def VM(v:JV)(xs:List Zv)(k:Nat)(u:JV):Prop:=Zw v xs 0=Zw u (xs.drop k) k/\ZF u
theorem LV{v u r:JV}{xs:List Zv}{k:Nat}(h:VM v xs k u)(hk:k<xs.length)(hd:Zl u xs[k]= .inr r)(hr:zo r)(hl:Q5 r=true):VM v xs (k+1) r:=by
 refine⟨?_,hr.lim hl⟩;rw[h.1,List.drop_eq_getElem_cons hk,Zw,hd];simp only;rw[yg hl]
theorem LW{v u:JV}{xs:List Zv}{k c:Nat}(h:VM v xs k u)(hk:k<xs.length)(hd:Zl u xs[k]= .inl c):Zw v xs 0= .inl (c,k):=by
 rw[h.1,List.drop_eq_getElem_cons hk,Zw,hd]
theorem Pk{v u r:JV}{xs:List Zv}{k:Nat}(h:VM v xs k u)(hk:k<xs.length)(hd:Zl u xs[k]= .inr r)(hl:Q5 r=false):Zw v xs 0= .inl (7,k):=by
 rw[h.1,List.drop_eq_getElem_cons hk,Zw,hd];simp only;rw[hl];rfl
theorem LX{v u:JV}{xs:List Zv}{k:Nat}(h:VM v xs k u)(hk:¬ k<xs.length):Zw v xs 0= .inr u:=by
 rw[h.1,List.drop_of_length_le (by omega),Zw]
theorem Fb{v:JV}{o:Zv}{c:Nat}(h:Zl v o= .inl c):c≠0:=by
 have a:∀ {x:Option JV},ZS 3 x= .inl c->c≠0:=fun {x} h=>by
  cases x with
  | none=>injection h with h;omega
  | some y=>cases h
 unfold Zl at h
 repeat' split at h
 all_goals first | exact a h |(injection h with h;omega) | cases h
theorem zaW:zo .nul:=⟨by rw[ZP];trivial,rfl,rfl,by rw[zD];trivial⟩
theorem Fc(m:zG):zo (JB m)/\(ct (JB m)).length<=20000:=by
 unfold JB
 cases h:zI m.val with
 | inl c=>exact⟨zaW,by show (ct .nul).length<=20000;decide⟩
 | inr u=>have:=ZF.of h;exact⟨this.t,this.len⟩
theorem zaX{r:JV}(hl:(ct r).length<=20000):Q5 r=decide (zm r<=100/\zj r<=3000):=by
 rw[Bool.eq_iff_iff,Uv,decide_eq_true_iff];constructor
 ·rintro⟨a,b,_⟩;exact⟨a,b⟩
 ·rintro⟨a,b⟩;exact⟨a,b,hl⟩
theorem zaY{r:JV}(hl:¬ (ct r).length<=20000):Q5 r=false:=by
 cases h:Q5 r with
 | false=>rfl
 | true=>exact absurd ((Uv r).1 h).2.2 hl
theorem Pl(s:Bs)(val:Value)(ms:List zG)(bl:List Nat)(w:Wo)(hrow:Zr Yk w val ms bl)(hin:Wu ms)(hs:s.size<=1048576):
  Calls prog 17 #[.string s,val] w fun e w'=>e= .returned (.tuple #[.string (Ze s ms).1,.int .i64 (Ze s ms).2.1,.int .i64 (Ze s ms).2.2])/\Bw w w':=by
 have j:=ze (Wi s w hs);obtain⟨xa,xc,rfl,Y,P⟩:=hrow.form
 cases hr:zI s with
 | inl c=>
  have hc:=GK hr;have HR:Hid (Ze s ms=(⟨#[]⟩,1,0)):=by show _=_;unfold Ze;rw[hr]
  have e:Zx s= .tuple #[.string ⟨#[]⟩,.int .i64 (c:Int)]:=by unfold Zx;rw[hr]
  rw[e]at j;have t2:((c:Int) !=0)=true:=by simp;omega
  clear hr e hc hrow hin hs Y P;go_in;go_wp2_with fail;refine (uh j).mono ?_;rintro e w1 ⟨rfl,L⟩;have A:=ze L;clear j L;go_wp2;go_ret3;exact⟨by rw[uh HR];rfl,uh A⟩
 | inr v=>
  have hg:=ZF.of hr;have e:Zx s= .tuple #[.string (zh (ct v)),.int .i64 0]:=by unfold Zx;rw[hr]
  rw[e]at j;have N:Hid (∀ wx,Bw w wx->Calls prog 51 #[.slice xa ms.length xc] wx (Rb (.int .i64 (Z9 ms)) wx)):=fun wx hx=>zag _ ms bl wx (hrow.below hx) hin;by_cases y:0<=Z9 ms
  ·have HR:Hid (Ze s ms=(⟨#[]⟩,2,Z9 ms)):=by show _=_;unfold Ze;rw[hr];simp only;rw[yg y]
   clear hr e hg hrow hin hs Y P;generalize Z9 ms=z at *;generalize zh (ct v)=sv at *;go_in;go_wp2_with fail;refine (uh j).mono ?_;rintro e w1 ⟨rfl,L⟩;have I:=ze (uh N w1 L);have A:=ze L;clear j L N;go_wp2_with fail;refine (uh I).mono ?_;rintro e w2 ⟨rfl,W⟩;have M:=ze (zi (uh A) W);clear I W;go_wp2;go_ret3;exact⟨by rw[uh HR];rfl,uh M⟩
  ·obtain⟨hl100,Q⟩:=LS y;have l:Hid (∀ c k,Zw v (ms.map ZN) 0= .inl (c,k)->Ze s ms=(⟨#[]⟩,(c:Int),(k:Int))):=fun c k h=>by unfold Ze;rw[hr];simp only;rw[yf y,h]
   have D:Hid (∀ r,Zw v (ms.map ZN) 0= .inr r->Ze s ms=(zh (ct r),0,0)):=fun r h=>by unfold Ze;rw[hr];simp only;rw[yf y,h]
   have B:Hid (∀ (k:Nat) (S:k<ms.length) (u:JV) (wx:Wo),ZF u->Calls prog 52 #[.string (zh (ct u)),.agg (qk ms[k])] wx (Rb (Kr (Zl u (ZN ms[k]))) wx)):=fun k S u wx hu=>by
    obtain⟨a,b,c⟩:=LR (Q _ (yt S));obtain⟨i1,i2,i3⟩:=hin _ (yt S);exact LO u (JB ms[k]) ms[k] wx hu.t (by have:=hu.len;omega) i1 i2 a b (fun hv=>by
     obtain⟨_,q2,q3⟩:=c hv;exact⟨q2,q3.t,by have:=q3.len;omega⟩)
   have C:Hid (∀ (k:Nat) (S:k<ms.length) (u r:JV),ZF u->Zl u (ZN ms[k])= .inr r->zo r/\(ct r).length<=20000000):=fun k S u r hu hd=>by
    obtain⟨hvg,hvl⟩:=Fc ms[k];obtain⟨i1,i2,i3⟩:=hin _ (yt S);have Y:=Ki (o:=ZN ms[k]) hu.t hvg hd;have h2:=LU (o:=ZN ms[k]) hu.t hd (X8 ms[k].path i1).2;have h3:=hu.len;have h4:(ct (ZN ms[k]).val).length<=20000:=hvl;exact⟨Y,by omega⟩
   have HRW:=ze hrow;have F:(ms.map ZN).length=ms.length:=yl _;have HXA:=ze P;have V:Hid (VM v (ms.map ZN) 0 v):=⟨rfl,hg⟩;have hbI:¬ (0:Int)<=Z9 ms:=y;clear hr e hg hrow hin hs Y P Q y;generalize Z9 ms=z at *;go_in;go_wp2_with fail;refine (uh j).mono ?_;rintro e w1 ⟨rfl,L⟩;have I:=ze (uh N w1 L);have A:=ze L;clear j L N;go_wp2_with fail;refine (uh I).mono ?_;rintro e w2 ⟨rfl,W⟩;have M:=ze (zi (uh A) W);clear I W A;go_wp2;go_loopw [7,10] (fun tv i wr=>∃ (k:Nat) (u:JV),k<=ms.length/\i= .int .i64 (k:Int)/\tv= .string (zh (ct u))/\VM v (ms.map ZN) k u/\Bw w wr) (fun _ i _=>ms.length - (intOf i).toNat)
   case atStart=>exact⟨0,v,yu _,rfl,rfl,uh V,uh M⟩
   case round=>
    obtain⟨k,u,S,rfl,rfl,d,y⟩:=hrel;have HRUN:=ze d;have H:=ze y;clear V M;by_cases O:k<ms.length
    ·have aa:(k:Int)<(ms.length:Int):=by omega
     obtain⟨g,rfl⟩:=uh HXA (by omega);obtain⟨vs,ib,hE,m,_⟩:=((uh HRW).below y).at (yy O);obtain⟨rfl,_⟩:=hE;have c0:wr.cell? ⟨g,k*4,none⟩=some (.int .i64 ms[k].kind):=(m 0 _ rfl).1;have c1:wr.cell? ⟨g,k*4+1,none⟩=some (.string ms[k].path):=(m 1 _ rfl).1;have c2:wr.cell? ⟨g,k*4+2,none⟩=some (.string ms[k].src):=(m 2 _ rfl).1;have c3:wr.cell? ⟨g,k*4+3,none⟩=some (.string ms[k].val):=(m 3 _ rfl).1;have G:=ze (uh B k O u wr d.2);have q:(ms.map ZN)[k]'(by rw[F];exact O)=ZN ms[k]:=by simp
     have n:k<(ms.map ZN).length:=by omega
     cases hdo:Zl u (ZN ms[k])with
     | inl c=>
      rw[hdo]at G;rw[show Kr (.inl c)= .tuple #[.string ⟨#[]⟩,.int .i64 (c:Int)]from rfl]at G;have hc0:=Fb hdo
      have f:=ze (uh l c k (LW d n (by rw[q];exact hdo)));have t2:((c:Int) !=0)=true:=by simp;omega
      clear m d y hdo B C l D q n F hc0;go_wp2_with fail;refine (uh G).mono ?_;rintro e w3 ⟨rfl,K⟩;have x:=ze (zi (uh H) K);clear G K c0 c1 c2 c3;go_wp2;go_ret3;exact⟨by rw[uh f];rfl,uh x⟩
     | inr r=>
      rw[hdo]at G;rw[show Kr (.inr r)= .tuple #[.string (zh (ct r)),.int .i64 0]from rfl]at G;obtain⟨E,T⟩:=uh C k O u r d.2 hdo
      by_cases p:(ct r).length<=20000
      ·have tl:¬ (20000:Int)<((zh (ct r)).size:Int):=by rw[zN];omega
       have Z:=Fa (zm r) r (ye _) E.ok;have U:Hid (∀ wx,Calls prog 28 #[.string (zh (ct r))] wx (Rb (.bool (Q5 r)) wx)):=fun wx=>by
        have:=Rx r E.ok wx (by omega) (by omega);rw[zaX p];exact this
       cases hlim:Q5 r with
       | true=>
        rw[hlim]at U;have HNX:=ze (LV d n (by rw[q];exact hdo) E hlim);clear m d y hdo B C l D q n F E T p Z hlim;generalize hsr:zh (ct r)=sr at *;have HSR:=ze hsr;clear hsr;go_wp2_with fail;refine (uh G).mono ?_;rintro e w3 ⟨rfl,K⟩;have x:=ze (zi (uh H) K);have J:=ze (uh U w3);clear G U K c0 c1 c2 c3;go_wp2_with fail;refine (uh J).mono ?_;rintro e w4 ⟨rfl,X⟩;have R:=ze (zi (uh x) X);clear J X;go_wp2;go_roundw
        case rel=>exact⟨k+1,r,by omega,by go_num,by rw[uh HSR],uh HNX,uh R⟩
        case measure=>simp[intOf];omega
       | false=>
        rw[hlim]at U;have f:=ze (uh l 7 k (Pk d n (by rw[q];exact hdo) hlim));clear m d y hdo B C l D q n F E T p Z hlim;generalize zh (ct r)=sr at *;go_wp2_with fail;refine (uh G).mono ?_;rintro e w3 ⟨rfl,K⟩;have x:=ze (zi (uh H) K);have J:=ze (uh U w3);clear G U K c0 c1 c2 c3;go_wp2_with fail;refine (uh J).mono ?_;rintro e w4 ⟨rfl,X⟩;have R:=ze (zi (uh x) X);clear J X;go_wp2;go_ret3;exact⟨by rw[uh f];rfl,uh R⟩
      ·have tl:(20000:Int)<((zh (ct r)).size:Int):=by rw[zN];omega
       have f:=ze (uh l 7 k (Pk d n (by rw[q];exact hdo) (zaY p)));clear m d y hdo B C l D q n F E T p;generalize zh (ct r)=sr at *;go_wp2_with fail;refine (uh G).mono ?_;rintro e w3 ⟨rfl,K⟩;have x:=ze (zi (uh H) K);clear G K c0 c1 c2 c3;go_wp2;go_ret3;exact⟨by rw[uh f];rfl,uh x⟩
    ·have aa:¬ (k:Int)<(ms.length:Int):=by omega
     have f:=ze (uh D u (LX d (by omega)));clear d y B C l D F;go_wp2;go_ret3;exact⟨by rw[uh f];rfl,uh H⟩
structure JW(v:JV):Prop where
 doc:KR v
 gd:zo v
 len:(ct v).length<=20000
theorem JW.of{s:Bs}{v:JV}(h:zI s= .inr v):JW v:=⟨zcK h,(ZF.of h).t,(ZF.of h).len⟩
structure Gw(ms:List zG):Prop where
 ok:∀ m∈ms,Zu m=true
 dr:∀ m∈ms,X9 m
theorem Gw.snoc{ms:List zG}{m:zG}(h:Gw ms)(h1:Zu m=true)(h2:X9 m):Gw (ms++[m]):=
 ⟨fun x hx=>by
         rcases List.mem_append.1 hx with hx | hx
         ·exact h.ok x hx
         ·rw[List.mem_singleton]at hx;rw[hx];exact h1,
  fun x hx=>by
          rcases List.mem_append.1 hx with hx | hx
          ·exact h.dr x hx
          ·rw[List.mem_singleton]at hx;rw[hx];exact h2⟩
structure Vl(B rb:Nat)(w wr:Wo)(r:Value)(ms:List zG):Prop where
 ds:DS B rb w wr
 row:qg wr w.heap.size r ms
 lt:rb<w.heap.size
theorem Vl.below{B rb:Nat}{w w1 w2:Wo}{r:Value}{ms:List zG}(h:Vl B rb w w1 r ms)(hb:Bw w1 w2):Vl B rb w w2 r ms:=⟨h.ds.below hb,Zd h.row hb,h.lt⟩
theorem Vl.step{B rb:Nat}{w w1 w2:Wo}{r:Value}{ms:List zG}(h:Vl B rb w w1 r ms)(d:DS B rb w1 w2):Vl B rb w w2 r ms:=⟨h.ds.step d.1 d.2,XG h.row d.2 fun k e=>by injection e with e;have:=h.lt;omega,h.lt⟩
structure Vm(B rb g:Nat)(w wr:Wo)(r:Value)(ms:List zG)(o:zG):Prop where
 gs:Vl B rb w wr r ms
 op:qV wr g o
 ge:w.heap.size<=g
theorem Vm.below{B rb g:Nat}{w w1 w2:Wo}{r:Value}{ms:List zG}{o:zG}(h:Vm B rb g w w1 r ms o)(hb:Bw w1 w2):Vm B rb g w w2 r ms o:=⟨h.gs.below hb,h.op.below hb,h.ge⟩
theorem Vm.step{B rb g:Nat}{w w1 w2:Wo}{r:Value}{ms:List zG}{o:zG}(h:Vm B rb g w w1 r ms o)(d:DS B rb w1 w2):Vm B rb g w w2 r ms o:=
 ⟨h.gs.step d,(d.2.block g h.op.lt fun e=>by injection e with e;have:=h.ge;have:=h.gs.lt;omega).trans h.op,h.ge⟩
theorem zaZ{v r:JV}{o:Zv}{N:Nat}(hv:zo v)(h:Zl v o= .inr r)(hp:∀ x∈o.path,x.length<=N):(ct r).length<=(ct v).length+max (ct v).length (ct o.val).length+6*N+4:=by
 have b:=LT hp;unfold Zl at h;split at h
 ·have:=Uw hv (Qc h);omega
 ·split at h
  ·have:=Ku hv (Qc h);omega
  ·split at h
   ·have a:=Qc h;unfold ZO at a;obtain⟨x,hx,rfl⟩:=yA.1 a;obtain⟨y,g,hp⟩:=Option.bind_eq_some_iff.1 hx;injection hp with hp;subst hp;have f:=Ym (u:=o.val) hv g;omega
   ·split at h
    ·split at h
     ·cases h
     ·rename_i m hm;have d:=Yn hv hm;split at h
      ·injection h with h;subst h;omega
      ·split at h
       ·cases h
       ·split at h
        ·cases h
        ·rename_i x hx;have a:=Uw (Wv hv hx) (Qc h);have f:=Ku hv hx;omega
    ·split at h
     ·split at h
      ·cases h
      ·rename_i m hm;have d:=Yn hv hm;have a:=Uw hv (Qc h);omega
     ·split at h
      ·cases h
      ·split at h
       ·injection h with h;subst h;omega
       ·cases h
theorem za0(s:Bs):∀ x∈(zK s.data.toList).getD [],x.length<=s.size:=by
 have a:=Zg s
 cases hp:zK s.data.toList with
 | none=>simp
 | some ts=>intro x hx;have:=Ny hp x hx;omega
theorem Pm(B rb:Nat)(v:JV)(most:Nat)(w:Wo)(h:zR w B rb)(hd:JW v)(hm:most<=100):
  Calls prog 38 #[.pointer (some ⟨rb,0,none⟩),.string (zh (ct v)),.int .i64 (most:Int)] w fun e w'=>∃ r ms,e= .returned r/\Gw ms/\ms.length<=most/\qg w' w.heap.size r ms/\DS B rb w w':=by
 obtain⟨i0,hi,hz0,hz1,hz2⟩:=info_parts LQ;have hA:=Z0 w (.cells #[] 59);have hrb:=h.lt;have Q:Hid (Vl B rb w (w.alloc (.cells #[] 59)) (.slice (some ⟨w.heap.size,0,none⟩) 0 0) []):=⟨DS.below ⟨h,qI (yI _ _)⟩ hA,zaP w 59 4,hrb⟩;have S:=ze fun wx (hr:zR wx B rb)=>Jq B rb wx hr;have X:=ze fun wx (hr:zR wx B rb)=>Ad B rb wx hr;have f:Hid (∀ (V:JV) wx,JW V->zR wx B rb->Calls prog 84 #[.pointer (some ⟨rb,0,none⟩),.string (zh (ct V))] wx (LP B rb wx)):=fun V wx hV hr=>zaV B rb V wx hr hV.doc hV.gd hV.len;have HV0:=ze hd;clear hA h hd;go_in;go_wp2_with fail;refine (uh S _ (uh Q).ds.1).mono ?_;rintro e w1 ⟨x,hx,rfl,r1,g1⟩;have HS1:=ze ((uh Q).step ⟨r1,g1⟩);obtain⟨n,hn⟩:∃ n:Nat,n=1+x % 3:=⟨_,rfl⟩;have hnI:1+(x:Int) % 3=(n:Int):=by omega
 have hnb:n<=3:=by omega
 clear r1 g1 Q hn;go_wp2_with fail;go_loopw [1,7,9] (fun vv r i wr=>∃ (V:JV) (ms:List zG) (k:Nat),vv= .string (zh (ct V))/\i= .int .i64 (k:Int)/\k<=most/\ms.length<=k/\Hid (JW V)/\Hid (Gw ms)/\Hid (Vl B rb w wr r ms)) (fun _ _ i _=>most - (intOf i).toNat)
 case atStart=>exact⟨v,[],0,rfl,rfl,yu _,yu _,uh HV0,⟨by simp,by simp⟩,uh HS1⟩
 case round=>
  obtain⟨V,ms,k,rfl,rfl,hk,hml,z,HM,s⟩:=hrel;clear HV0 HS1;go_upto_region 4 with fail;go_cut [30]from 18 to 30 (fun y wx=>∃ b:Bool,y= .bool b/\(b=true->k<most)/\Vl B rb w wx u7 ms)
  case first=>
   by_cases T:k<most
   ·have e1:(k:Int)<(most:Int):=by omega
    by_cases h2:k<n
    ·have e2:(k:Int)<(n:Int):=by omega
     go_wp2;go_meet
     case rel=>exact⟨true,rfl,fun _=>T,uh s⟩
    ·have e2:¬ (k:Int)<(n:Int):=by omega
     have HC:=ze (uh X _ (uh s).ds.1);go_wp2_with fail;refine (uh HC).mono ?_;rintro e W ⟨y,hy,rfl,r2,g2⟩;have HS2:=ze ((uh s).step ⟨r2,g2⟩);clear HC r2 g2;by_cases h3:(40:Int)<y
     all_goals
      go_wp2;go_meet
      case rel=>exact⟨_,rfl,fun _=>T,uh HS2⟩
   ·have e1:¬ (k:Int)<(most:Int):=by omega
    go_wp2;go_meet
    case rel=>exact⟨false,rfl,(fun h=>by cases h),uh s⟩
  obtain⟨b,rfl,hb,hS⟩:=hcut;have s:=ze hS;clear hS
  cases b with
  | false=>
   clear X S f;go_wp2;go_ret;exact⟨u7,ms,rfl,uh HM,by omega,(uh s).row,(uh s).ds⟩
  | true=>
   have hkm:=hb rfl;have HC:=ze (uh f V _ (uh z) (uh s).ds.1);clear hb;go_wp2_with fail;refine (uh HC).mono ?_;rintro e W ⟨o,p,rfl,d2⟩;have U:=(uh s).step d2;have l:Hid (Vm B rb W.heap.size w (W.alloc (.cells (qk o) 59)) u7 ms o):=⟨U.below (Z0 W _),yH W _,U.ds.2.size⟩;obtain⟨u,gu,lu,hu⟩:∃ u:JV,zo u/\(ct u).length<=20000/\(ZR o.kind=true->o.val=zh (ct u)):=by
    cases hv:ZR o.kind with
    | true=>obtain⟨u,T,h2,h3⟩:=p.val hv;exact⟨u,h2,h3,fun _=>T⟩
    | false=>exact⟨.num [48],(ZF.of Lc).t,by decide,fun h=>by cases h⟩
   have K:=ze fun wx=>LO V u o wx (uh z).gd (by have:=(uh z).len;omega) (by have:=p.path;omega) (by have:=p.src;omega) p.k1 p.k6 fun h=>⟨hu h,gu,by omega⟩;obtain⟨A,C,hAC,hDR⟩:∃ (A:Bs) (C:Int),((C=0/\∃ r:JV,zo r/\(ct r).length<=600000/\A=zh (ct r))∨¬ C=0)/\Kr (Zl V (Ww o u))= .tuple #[.string A,.int .i64 C]:=by
    cases J:Zl V (Ww o u)with
    | inl c=>exact⟨_,_,.inr (by have:=Fb J;omega),rfl⟩
    | inr r=>
     refine⟨_,_,.inl ⟨rfl,r,Ki (uh z).gd gu J,?_,rfl⟩,rfl⟩;have T:=zaZ (N:=40100) (uh z).gd J (fun x hx=>yQ (za0 o.path x hx) p.path);have h2:=(uh z).len;have h3:(ct (Ww o u).val).length<=20000:=lu;omega
   rw[hDR]at K;have HAC:=ze hAC;have HOO:=ze p;have hop:=p.path;have hos:=p.src;have hov:o.val.size<=1048576:=by
    cases hv:ZR o.kind with
    | true=>rw[hu hv,zN];omega
    | false=>rw[p.no hv];decide
   clear HC d2 U hAC hDR gu lu hu p s;go_wp2_with fail;generalize W.heap.size=g at *;generalize W.alloc _=w3 at *;refine (uh K _).mono ?_;rintro e w4 ⟨rfl,b4⟩;have M:=ze ((uh l).below b4);have O:=ze (NE o w4 (by omega) (by omega) hov);clear K b4 l;obtain⟨c0,c1,c2,c3⟩:=(uh M).op.c;go_upto_region 8 with fail;go_cut [58]from 42 to 58 (fun y wx=>∃ b:Bool,y= .bool b/\Hid (b=false->Zu o=true/\(C=0->∃ d:JV,JW d/\A=zh (ct d)))/\Vm B rb g w wx u7 ms o)
   case first=>
    go_wp2_with fail;refine (uh O).mono ?_;rintro e w5 ⟨rfl,b5⟩;have E:=ze ((uh M).below b5);clear O b5 X S f
    cases j:Zu o with
    | false=>
     clear j;go_wp2;go_meet
     case rel=>exact⟨true,rfl,(fun h=>by cases h),uh E⟩
    | true=>
     have HK:=ze j;clear j;rcases uh HAC with ⟨rfl,r,Z,lr,rfl⟩ | I
     ·have hcn:=Fa (zm r) r (ye _) Z.ok;have HW:=ze (Rx r Z.ok w5 (by omega) (by omega));obtain⟨q,D⟩:∃ q,decide (zm r<=100/\zj r<=3000)=q:=⟨_,rfl⟩;rw[D]at HW;have HQ:=ze D;have hz:(zh (ct r)).size=(ct r).length:=zN _;have m:Hid (q=true->(ct r).length<=2000->∃ d:JV,JW d/\zh (ct r)=zh (ct d)):=fun T h2=>by
       rw[T]at D;have h3:=of_decide_eq_true D;have e:=Bc Z.rd Z.big Z.tw;rw[yf (by omega),yf (by omega)]at e;exact⟨nv r,JW.of e,by rw[(VA r).ct]⟩
      clear D hcn Z lr;go_wp2_with fail;refine (uh HW).mono ?_;rintro e w6 ⟨rfl,b6⟩;have a:=ze ((uh E).below b6);clear HW b6 E
      cases q with
      | false=>
       go_wp2;go_meet
       case rel=>exact⟨true,rfl,(fun h=>by cases h),uh a⟩
      | true=>
       have L:=ze (uh m rfl);clear m;by_cases hl:(ct r).length<=2000
       ·have e2:((2000:Int)<((zh (ct r)).size:Int))=False:=yR (by omega);have HN3:=ze (uh L hl);clear hl L hz;go_wp2;go_meet
        case rel=>exact⟨false,rfl,fun _=>⟨uh HK,fun _=>uh HN3⟩,uh a⟩
       ·have e2:((2000:Int)<((zh (ct r)).size:Int))=True:=eq_true (by omega);clear hl L hz;go_wp2;go_meet
        case rel=>exact⟨true,rfl,(fun h=>by cases h),uh a⟩
     ·have e0:(C ==0)=false:=by simp[I]
      have HCN:=ze I;clear I;go_wp2;go_meet
      case rel=>exact⟨false,rfl,fun _=>⟨uh HK,fun h=>absurd h (uh HCN)⟩,uh E⟩
   obtain⟨b,rfl,HB,G⟩:=hcut;have l:=ze G;clear G O M c0 c1 c2 c3
   cases b with
   | true=>
    clear X S f;go_wp2;go_roundw
    case rel=>exact⟨V,ms,k+1,rfl,by go_num,by omega,by omega,uh z,uh HM,(uh l).gs⟩
    case measure=>simp[intOf];omega
   | false=>
    obtain⟨j,hnx⟩:=uh HB rfl;have HK:=ze j;have m:=ze hnx;clear j hnx HB;go_upto_region 9 with fail;go_cut [66]from 59 to 66 (fun y wx=>∃ b:Bool,y= .bool b/\Vm B rb g w wx u7 ms o)
    case first=>
     by_cases I:C=0
     ·have e0:(C !=0)=false:=by simp[I]
      clear I;go_wp2;go_meet
      case rel=>exact⟨false,rfl,uh l⟩
     ·have e0:(C !=0)=true:=by simp[I]
      have HC:=ze (uh S _ (uh l).gs.ds.1);clear I;go_wp2_with fail;refine (uh HC).mono ?_;rintro e w6 ⟨y,hy,rfl,r6,Y⟩;have a:=ze ((uh l).step ⟨r6,Y⟩);clear HC r6 Y;obtain⟨q,D⟩:∃ q:Bool,((y:Int) % 8 !=7)=q:=⟨_,rfl⟩;go_wp2;go_meet
      case rel=>exact⟨q,rfl,uh a⟩
    obtain⟨b,rfl,G⟩:=hcut;have l:=ze G;clear G
    cases b with
    | true=>
     clear X S f;go_wp2;go_roundw
     case rel=>exact⟨V,ms,k+1,rfl,by go_num,by omega,by omega,uh z,uh HM,(uh l).gs⟩
     case measure=>simp[intOf];omega
    | false=>
     clear X S f;obtain⟨q,D⟩:∃ q:Bool,(C ==0)=q:=⟨_,rfl⟩;have HQ:Hid (q=true->∃ d:JV,JW d/\A=zh (ct d)):=fun h=>uh m (by rw[h]at D;exact eq_of_beq D);go_upto_if 68 with fail;go_cut [1]from 67 to 69 (fun y wx=>∃ d:JV,y= .string (zh (ct d))/\Hid (JW d)/\Vm B rb g w wx u7 ms o)
     case first=>
      cases q with
      | false=>
       go_wp2;go_meet
       case rel=>exact⟨V,rfl,uh z,uh l⟩
      | true=>
       obtain⟨d,hV',rfl⟩:=uh HQ rfl;have R:=ze hV';clear hV';go_wp2;go_meet
       case rel=>exact⟨d,rfl,uh R,uh l⟩
     obtain⟨d,rfl,R,G⟩:=hcut;have HDR:=ze ((uh HM).snoc (uh HK) (uh HOO));obtain⟨c0,c1,c2,c3⟩:=G.op.c;have F:=G.below (Z0 wc (.cells (qk o) 59));have lM:=Ks wc o;have HMM:=ze F;have P:=ze F.gs.row;have HLM:=ze lM;have HGE:=ze F.gs.ds.2.size;clear G F lM HQ m D HAC l HM HOO HK z;go_wp2_with (at_builtin;refine wpList_append_own _ rfl (.tmp 70) (.tmp 72) 27 rfl w.heap.size 59 i0 (.agg #[.int .i64 0,.string ByteArray.empty,.string ByteArray.empty,.string ByteArray.empty]) 4 56 underlying27 hi hz0 hz1 hz2 rfl (by decide) _ _ _ rfl (uh P) ⟨wc.heap.size,0,none⟩ 1 1 (JA o) rfl rfl (uh HLM) (Kt o) (by unfold maxLen;omega) (by omega) (uh HGE) ?_);generalize wc.alloc _=wM at *;intro l6 w6 o6 Y gx6;clear gx6;have a:Hid (qg w6 w.heap.size l6 (ms++[o])):=qg.step o6;have J:=(uh HMM).gs.ds;have hB:B<=rb:=by obtain⟨_,_,_,_,_,_,_,hB,_⟩:=J.1;exact hB
     have H:=fun b hb=>((uh P).lt b hb).1;have HDD:Hid (DS B rb w w6):=⟨J.1.grown Y (fun e=>by have:=H rb e.symm;omega) (fun b hb=>by have:=H b hb;omega),XF J.2 Y H⟩;have hml2:(ms++[o]).length<=k+1:=by simp;omega
     clear o6 Y HMM P HLM HGE J hB H;go_wp2;go_roundw
     case rel=>exact⟨d,ms++[o],k+1,rfl,by go_num,by omega,hml2,uh R,uh HDR,⟨uh HDD,uh a,hrb⟩⟩
     case measure=>simp[intOf];omega
theorem LY:∀ (ops:List Zv) (v:JV) (i:Nat) (r:JV),(ct v).length<=20000->Zw v ops i= .inr r->(ct r).length<=20000
 | [],v,i,r,h,e=>by rw[Zw]at e;injection e with e;subst e;exact h
 | o :: ops,v,i,r,_,e=>by
  rw[Zw]at e
  cases hd:Zl v o with
  | inl c=>rw[hd]at e;cases e
  | inr u=>
   rw[hd]at e;simp only at e;split at e
   ·rename_i hl;exact LY ops u (i+1) r ((Uv u).1 hl).2.2 e
   ·cases e
theorem Pn(s:Bs)(ms:List zG):(Ze s ms).1.size<=20000:=by
 unfold Ze
 cases hr:zI s with
 | inl c=>exact yu _
 | inr v=>
  simp only;split
  ·exact yu _
  ·cases hv:Zw v (ms.map ZN) 0 with
   | inl c=>exact yu _
   | inr r=>show (zh (ct r)).size<=_;rw[zN];exact LY _ v 0 r (ZF.of hr).len hv
theorem LZ(B rb:Nat)(w:Wo)(h:zR w B rb):
  Calls prog 37 #[.pointer (some ⟨rb,0,none⟩)] w fun e w'=>∃ v:JV,JW v/\e= .returned (.string (zh (ct v)))/\DS B rb w w':=by
 have f:=ze (zgN B rb w h);clear h;go_in;go_wp2_with fail;refine (uh f).mono ?_;rintro e j ⟨t,p,rfl,i,g⟩;have d:Hid (DS B rb w j):=⟨i,g⟩;have HC:=ze (Wi (zh t) j (by rw[zN];omega));clear f i g
 cases hr:zI (zh t)with
 | inl c=>
  have l:=FM hr;have a:Zx (zh t)= .tuple #[.string ⟨#[]⟩,.int .i64 (c:Int)]:=by unfold Zx;rw[hr]
  rw[a]at HC;have m:((c:Int) ==0)=false:=by simp;omega
  have n:((c:Int)=0)=False:=yR (by omega);clear hr l a;go_wp2_with fail;refine (uh HC).mono ?_;rintro e o ⟨rfl,b⟩;clear HC;go_wp2;go_ret;exact⟨RG,JW.of zcM,by rw[zcL];rfl,(uh d).below b⟩
 | inr v=>
  have k:=ze (JW.of hr);have a:Zx (zh t)= .tuple #[.string (zh (ct v)),.int .i64 0]:=by unfold Zx;rw[hr]
  rw[a]at HC;clear hr a;go_wp2_with fail;refine (uh HC).mono ?_;rintro e o ⟨rfl,b⟩;clear HC;go_wp2;go_ret;exact⟨v,uh k,rfl,(uh d).below b⟩
def PP(B rb:Nat)(w:Wo)(e:Ending)(w':Wo):Prop:=∃ s t:Bs,s.size<=400000/\t.size<=400000/\e= .returned (.tuple #[.string s,.string t])/\DS B rb w w'
theorem za1(B rb:Nat)(w:Wo)(h:zR w B rb):
  Calls prog 24 #[.pointer (some ⟨rb,0,none⟩)] w (PP B rb w):=by
 have HX:=ze (Jq B rb w h);have G:Hid (∀ wx,zR wx B rb->Calls prog 37 #[.pointer (some ⟨rb,0,none⟩)] wx fun e A=>∃ v:JV,JW v/\e= .returned (.string (zh (ct v)))/\DS B rb wx A):=fun wx hr=>LZ B rb wx hr;have Q:=ze h;clear h;go_in;go_wp2_with fail;refine (uh HX).mono ?_;rintro e w1 ⟨x,hx,rfl,r1,g1⟩;have s:Hid (DS B rb w w1):=⟨r1,g1⟩;clear HX r1 g1 Q;go_wp2_with fail;refine (uh G _ (uh s).1).mono ?_;rintro e w2 ⟨v,C,rfl,T⟩;have g:=ze ((uh s).step T.1 T.2);have HV:=ze C;have hvz:(zh (ct v)).size<=20000:=by rw[zN];exact C.len
 clear T s C;by_cases h4:x % 5=4
 ·have e4:(x:Int) % 5=4:=by omega
  clear h4;go_wp2_with fail;refine (uh G _ (uh g).1).mono ?_;rintro e w3 ⟨v3,N,rfl,z⟩;have ZL:=ze ((uh g).step z.1 z.2);have hz3:(zh (ct v3)).size<=20000:=by rw[zN];exact N.len
  clear z G N;go_wp2;go_ret2;exact⟨_,_,by omega,by omega,rfl,uh ZL⟩
 ·have e4:((x:Int) % 5 ==4)=false:=by simp only[yd,ne_eq];omega
  have HG:=ze (Pm B rb v 6 w2 (uh g).1 (uh HV) (by omega));clear h4;go_wp2_with fail;refine (uh HG).mono ?_;rintro e w3 ⟨r,D,rfl,j,Y,o3,z⟩;have K:=(uh g).step z.1 z.2;have L:Wu D:=fun m hm=>by
   have h1:=(j.dr m hm).path;have h2:=(j.dr m hm).src;refine⟨by omega,by omega,?_⟩
   cases C:ZR m.kind with
   | true=>obtain⟨u,e1,_,e3⟩:=(j.dr m hm).val C;rw[e1,zN];omega
   | false=>rw[(j.dr m hm).no C];decide
  have HA:=ze (Pl (zh (ct v)) r D _ w3 o3.orow.1 L (by omega));have P:=Pn (zh (ct v)) D;have ZL:=ze K;clear HG j Y o3 z K L;generalize (Ze (zh (ct v)) D).1=b at *;generalize (Ze (zh (ct v)) D).2.1=c at *;generalize (Ze (zh (ct v)) D).2.2=c2 at *;generalize zh (ct v)=a at *;go_wp2_with fail;refine (uh HA).mono ?_;rintro e w4 ⟨rfl,b4⟩;have k:=ze ((uh ZL).below b4);obtain⟨q,hq⟩:∃ q:Bool,(c !=0)=q:=⟨_,rfl⟩;clear HA b4 ZL g HV;go_upto_if 29 with fail;go_cut [6]from 28 to 31 (fun y wx=>∃ b:Bs,y= .string b/\b.size<=20000/\DS B rb w wx)
  case first=>
   cases q with
   | false=>
    go_wp2;go_meet
    case rel=>exact⟨b,rfl,P,uh k⟩
   | true=>
    go_wp2_with fail;refine (uh G _ (uh k).1).mono ?_;rintro e w5 ⟨v5,O,rfl,U⟩;have d:=ze ((uh k).step U.1 U.2);have ab:(zh (ct v5)).size<=20000:=by rw[zN];exact O.len
    clear U O;go_wp2;go_meet
    case rel=>exact⟨_,rfl,ab,uh d⟩
  obtain⟨b1,rfl,W,o⟩:=hcut;have d:=ze o;clear o k G hq P;have E:=ze (Hs B rb b1 wc (uh d).1 (by omega));obtain⟨q3,Z⟩:∃ q:Bool,((x:Int) % 5 ==3)=q:=⟨_,rfl⟩;go_upto_if 34 with fail;go_cut [6]from 32 to 37 (fun y wx=>∃ b:Bs,y= .string b/\b.size<=160000/\DS B rb w wx)
  case first=>
   cases q3 with
   | false=>
    go_wp2;go_meet
    case rel=>exact⟨b1,rfl,by omega,uh d⟩
   | true=>
    go_wp2_with fail;refine (uh E).mono ?_;rintro e w6 ⟨t,M,rfl,r6,g6⟩;have f:=ze ((uh d).step r6 g6);have ad:(zh t).size<=160000:=by rw[zN];omega
    clear r6 g6;go_wp2;go_meet
    case rel=>exact⟨_,rfl,ad,uh f⟩
  obtain⟨b2,rfl,X,o⟩:=hcut;have f:=ze o;clear o d E Z W;have F:=ze (D2 B rb b2 wc (uh f).1 (by omega));obtain⟨q4,aa⟩:∃ q:Bool,((x:Int) % 20 ==2)=q:=⟨_,rfl⟩;go_upto_if 40 with fail;go_cut [6]from 38 to 43 (fun y wx=>∃ b:Bs,y= .string b/\b.size<=160020/\DS B rb w wx)
  case first=>
   cases q4 with
   | false=>
    go_wp2;go_meet
    case rel=>exact⟨b2,rfl,by omega,uh f⟩
   | true=>
    go_wp2_with fail;refine (uh F).mono ?_;rintro e w7 ⟨t,M,rfl,r7,g7⟩;have i:=ze ((uh f).step r7 g7);have af:(zh t).size<=160020:=by rw[zN];omega
    clear r7 g7;go_wp2;go_meet
    case rel=>exact⟨_,rfl,af,uh i⟩
  obtain⟨b3,rfl,hb3,o⟩:=hcut;have i:=ze o;clear o f F aa X;by_cases J:x % 40=1
  ·have V:(x:Int) % 40=1:=by omega
   have hx4:99+(x:Int) / 40=((99+x / 40:Nat):Int):=by omega
   have hx5:99+x / 40<=200:=by omega
   clear J;generalize 99+x / 40=n at *;have p:=ze fun (l:List UInt8) (hl:l.length<=100) wx=>Hr l n wx hl (by omega);have H:Hid (∀ wx,Calls prog 55 #[.string ⟨#[48,44]⟩,.int .i64 (n:Int)] wx fun e A=>∃ t:Bs,t.size<=400/\e= .returned (.string t)/\Bw wx A):=fun wx=>by
    refine (uh p [48,44] (by decide) wx).mono ?_;rintro e A ⟨t,M,rfl,b⟩;exact⟨_,by rw[zN,M];simp;omega,rfl,b⟩
   have I:Hid (∀ wx,Calls prog 55 #[.string ⟨#[49,44]⟩,.int .i64 (n:Int)] wx fun e A=>∃ t:Bs,t.size<=400/\e= .returned (.string t)/\Bw wx A):=fun wx=>by
    refine (uh p [49,44] (by decide) wx).mono ?_;rintro e A ⟨t,M,rfl,b⟩;exact⟨_,by rw[zN,M];simp;omega,rfl,b⟩
   clear p;go_wp2_with fail;refine (uh H _).mono ?_;rintro e w8 ⟨t8,h8,rfl,b8⟩;have R:=ze ((uh i).below b8);clear b8 H;go_wp2_with fail;refine (uh I _).mono ?_;rintro e w9 ⟨t9,h9,rfl,b9⟩;have S:=ze ((uh R).below b9);clear b9 I;have z1:(⟨#[91]⟩:Bs).size=1:=rfl;have z2:(⟨#[48,93]⟩:Bs).size=2:=rfl;have z3:(⟨#[49,93]⟩:Bs).size=2:=rfl;have HZ:=ze (And.intro z1 (And.intro z2 z3));clear z1 z2 z3;go_wp2;go_ret2;exact⟨_,_,by have:=uh HZ;rw[ByteArray.size_append,ByteArray.size_append];omega,by have:=uh HZ;rw[ByteArray.size_append,ByteArray.size_append];omega,rfl,uh S⟩
  ·have V:((x:Int) % 40 ==1)=false:=by simp only[yd,ne_eq];omega
   clear J;by_cases h2:x % 2=1
   ·have e2:(x:Int) % 2=1:=by omega
    go_wp2;go_ret2;exact⟨_,_,by omega,by omega,rfl,uh i⟩
   ·have e2:((x:Int) % 2 ==1)=false:=by simp only[yd,ne_eq];omega
    go_wp2;go_ret2;exact⟨_,_,by omega,by omega,rfl,uh i⟩
theorem za2(xa:Option Addr)(xb xo xc:Nat)(l:List UInt8)(w:Wo)(h:BS w xa xb xo l)(hl:l.length<=1048576)(hc:l.length<=xc):
  Calls prog 6 #[.slice xa l.length xc] w fun e w'=>∃ s t:Bs,s.size<=400000/\t.size<=400000/\e= .returned (.tuple #[.string s,.string t])/\Bw w w':=by
 have j:=ze (Dj xa xb xo xc l w h hl hc);have i:Hid (∀ a,zR a w.heap.size w.heap.size->Calls prog 24 #[.pointer (some ⟨w.heap.size,0,none⟩)] a (PP w.heap.size w.heap.size a)):=fun a h=>za1 _ _ a h;clear h hl hc;go_in;go_wp2_with fail;refine (uh j).mono ?_;rintro e a ⟨rfl,o,m,p⟩;have d:=ze (uh i a o);have b:=ze m;have f:=ze p;clear j i o m p;go_wp2_with fail;refine (uh d).mono ?_;rintro e u ⟨s,t,q,r,rfl,n⟩;have g:Hid (Bw w u):=(uh b).grown n.2 (by have:=uh f;omega) (fun k hk=>by injection hk with hk;omega);clear d n b f;go_wp2;go_ret2;exact⟨s,t,q,r,rfl,uh g⟩
end Go.Proofs.YtpaecnbdoljafaaGreatDoor
