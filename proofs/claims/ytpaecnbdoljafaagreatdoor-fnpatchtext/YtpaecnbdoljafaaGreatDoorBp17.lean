import Derived.Test.YtpaecnbdoljafaaGreatDoorBp13
import Derived.Test.YtpaecnbdoljafaaGreatDoorBp16
set_option maxRecDepth 100000
set_option maxHeartbeats 8000000
namespace Go.Proofs.YtpaecnbdoljafaaGreatDoor
open Go.RowKit Go.Proofs.Tryz
abbrev qo(m:zk):Array Value:=#[.int .i64 m.kind,.string m.path,.string m.src,.string m.val]
def Vp:zk:=⟨0,⟨#[]⟩,⟨#[]⟩,⟨#[]⟩⟩
def Zv(w:Wo)(g:Nat)(m:zk):Prop:=w.heap[g]?=some (.cells (qo m) 59 (0,0))
theorem Zv.lt{w:Wo}{g:Nat}{m:zk}(h:Zv w g m):g<w.heap.size:=(yA.1 h).1
theorem Zv.below{w w':Wo}{g:Nat}{m:zk}(h:Zv w g m)(hb:Bw w w'):Zv w' g m:=(hb.block g h.lt).trans h
theorem Zv.c{w:Wo}{g:Nat}{m:zk}(h:Zv w g m):w.cell? ⟨g,0,none⟩=some (.int .i64 m.kind)/\w.cell? ⟨g,1,none⟩=some (.string m.path)/\w.cell? ⟨g,2,none⟩=some (.string m.src)/\w.cell? ⟨g,3,none⟩=some (.string m.val):=⟨yE h 0,yE h 1,yE h 2,yE h 3⟩
theorem Zv.fz{w:Wo}{g:Nat}{m:zk}(h:Zv w g m)(j:Nat):w.frozen? ⟨g,j,none⟩=false:=yH h j
theorem Zv.s0{w:Wo}{g:Nat}{m:zk}(h:Zv w g m)(z:Int):Zv (w.setCell ⟨g,0,none⟩ (.int .i64 z)) g ⟨z,m.path,m.src,m.val⟩:=heap_setCell_same w g 0 _ _ _ h
theorem Zv.s1{w:Wo}{g:Nat}{m:zk}(h:Zv w g m)(z:Bs):Zv (w.setCell ⟨g,1,none⟩ (.string z)) g ⟨m.kind,z,m.src,m.val⟩:=heap_setCell_same w g 1 _ _ _ h
theorem Zv.s2{w:Wo}{g:Nat}{m:zk}(h:Zv w g m)(z:Bs):Zv (w.setCell ⟨g,2,none⟩ (.string z)) g ⟨m.kind,m.path,z,m.val⟩:=heap_setCell_same w g 2 _ _ _ h
theorem Zv.s3{w:Wo}{g:Nat}{m:zk}(h:Zv w g m)(z:Bs):Zv (w.setCell ⟨g,3,none⟩ (.string z)) g ⟨m.kind,m.path,m.src,z⟩:=heap_setCell_same w g 3 _ _ _ h
def Rf(v:JV)(w:Wo)(e:Ending)(w':Wo):Prop:=Bw w w'/\∃ m:zk,e= .returned (.tuple #[.agg (qo m),.bool (qi v)])/\(qi v=true->m=Qd v)
theorem Ud(a b:List (List UInt8)):QZ a b=a.isPrefixOf b:=by
 rw[Bool.eq_iff_iff,List.isPrefixOf_iff_prefix];unfold QZ;rw[decide_eq_true_iff];constructor
 ·rintro⟨g,f⟩;refine⟨b.drop a.length,?_⟩;refine List.ext_getElem? fun j=>?_;by_cases d:j<a.length
  ·rw[List.getElem?_append_left d];have:=f j d;rw[yw d,yw (by omega)];simpa [List.getD,d,show j<b.length by omega]using this
  ·rw[List.getElem?_append_right (by omega),List.getElem?_drop];congr 1;omega
 ·rintro⟨r,rfl⟩;refine⟨by simp,fun j d=>?_⟩;simp[List.getD,List.getElem?_append_left d]
theorem T8{a b:List (List UInt8)}(h1:QZ a b=true)(h2:QZ b a=true):a=b:=by
 rw[Ud,List.isPrefixOf_iff_prefix]at h1 h2;exact h1.eq_of_length (Nat.le_antisymm h1.length_le h2.length_le)
theorem Rg(a:List (List UInt8)):QZ a a=true:=by
 rw[Ud,List.isPrefixOf_iff_prefix];exact List.prefix_refl a
theorem T9(sv su:Bs)(a:Option Addr)(cap:Nat)(w:Wo):
  Calls prog 101 #[.string sv,.slice a 0 cap,.string su] w fun e w'=>e= .returned (.tuple #[.string su,.bool true])/\Bw w w':=by
 go_in;go_wp2;go_ret2;exact⟨rfl,yG _ _⟩
theorem Fu(v u:JV)(ts:List (List UInt8))(a:Option Addr)(g off cap:Nat)(w:Wo)(hv:zI v)(hu:zI u)(hl:(ct v).length<=100000)(hul:(ct u).length<=100000)(hts:∀ x∈ts,x.length<=1048576)(hn:ts.length<=1048577)(hcap:ts.length<=cap)(hss:SS w a g off (ts.map Zc)):
  Calls prog 101 #[.string (zi (ct v)),.slice a ts.length cap,.string (zi (ct u))] w fun e w'=>e= .returned (Vo (Qk v ts u))/\Bw w w':=by
 rcases List.eq_nil_or_concat ts with rfl |⟨d,t,rfl⟩
 ·exact T9 _ _ a cap w
 ·rw[List.concat_eq_append]at *;have b:(d++[t]).length=d.length+1:=by simp
  rw[b]at hn hcap ⊢;exact TV v u d t a g off cap w hv hu hl hul hts (by omega) hcap hss
theorem Ba{v c:JV}{xs:List (List UInt8)}{t:List UInt8}(h:Za v (xs++[t])=some c):∃ hm,Za v xs=some hm/\zL hm t=some c/\Jn v (xs++[t])=some (ZP v xs (q9 hm t)):=by
 rw[WG]at h
 cases hg:Za v xs with
 | none=>rw[hg]at h;cases h
 | some hm=>
  rw[hg]at h;have a:Za hm [t]=some c:=h;rw[YX]at a
  cases hc:zL hm t with
  | none=>rw[hc]at a;cases a
  | some x=>
   rw[hc]at a;have:x=c:=by have b:Za x []=some c:=a;rw[Ga]at b;injection b
   subst this;refine⟨hm,rfl,hc,?_⟩;unfold Jn JW W6 Ys;rw[ye (by simp),List.dropLast_concat,hg];simp[hc]
theorem Rh(v c:JV)(ts:List (List UInt8))(a:Option Addr)(g off cap:Nat)(w:Wo)(hne:ts≠[])(hv:zI v)(hg:Za v ts=some c)(hl:(ct v).length<=100000)(hts:∀ x∈ts,x.length<=1048576)(hn:ts.length<=1048577)(hcap:ts.length<=cap)(hss:SS w a g off (ts.map Zc)):
  ∃ r,Jn v ts=some r/\zI r/\(ct r).length<=(ct v).length/\Calls prog 102 #[.string (zi (ct v)),.slice a ts.length cap] w fun e w'=>e= .returned (.string (zi (ct r)))/\Bw w w':=by
 rcases List.eq_nil_or_concat ts with rfl |⟨d,t,rfl⟩
 ·exact absurd rfl hne
 ·rw[List.concat_eq_append]at *;have b:(d++[t]).length=d.length+1:=by simp
  obtain⟨j,f,h,i⟩:=Ba hg;have k:=YY (u:=q9 j t) hv f;have l:=Fl h;refine⟨_,i,Kv hv i,by omega,?_⟩;rw[b]at hn hcap ⊢;exact TU v j c d t a g off cap w hv f h hl hts (by omega) hcap hss
def Ue(o:zk)(u:JV):W7:=⟨o.kind,(zG o.path.data.toList).getD [],(zG o.src.data.toList).getD [],u⟩
def Fv:Nat⊕JV->Value
 | .inl c=>.tuple #[.string ⟨#[]⟩,.int .i64 (c:Int)]
 | .inr r=>.tuple #[.string (zi (ct r)),.int .i64 0]
theorem Fw(s:Bs)(hs:s.size<=1048576):((zG s.data.toList).getD []).length<=1048577/\∀ x∈(zG s.data.toList).getD [],x.length<=1048576:=by
 have d:=Zb s;have a:=zaw s.data.toList
 cases hp:zG s.data.toList with
 | none=>simp
 | some ts=>
  rw[hp]at a;simp only[Option.getD_some]at a ⊢;have b:=N6 hp;exact⟨by omega,fun x hx=>by have:=b x hx;omega⟩
theorem OT.all{w:Wo}{B:Nat}{v:Value}{ts:List (List UInt8)}(h:OT w B v ts):∃ a g cap,v= .slice a ts.length cap/\SS w a g 0 (ts.map Zc)/\ts.length<=cap:=by
 obtain⟨a,g,cap,rfl,i,_⟩:=h.shape;refine⟨a,g,cap,rfl,i,?_⟩;rcases h.2 with ⟨d,k⟩ |⟨j,b,f,d,_,_,l,_⟩
 ·omega
 ·injection d with _ _ e;omega
theorem Bb{v:JV}{ts:List (List UInt8)}(h:Za v ts=none):Jn v ts=none:=by
 rcases List.eq_nil_or_concat ts with rfl |⟨d,t,rfl⟩
 ·unfold Jn;rw[yf rfl]
 ·rw[List.concat_eq_append]at *;rw[WG]at h;unfold Jn JW W6 Ys;rw[ye (by simp),List.dropLast_concat]
  cases hg:Za v d with
  | none=>rfl
  | some hm=>
   rw[hg]at h;have a:Za hm [t]=none:=h;rw[YX]at a
   cases hc:zL hm t with
   | none=>simp[hc]
   | some x=>rw[hc]at a;have b:Za x []=none:=a;rw[Ga]at b;cases b
structure DW(w0 w:Wo)(A:Nat)(o:zk)(ps fs:List (List UInt8))(B1 B2:Nat)(a1 a2:Option Addr)(g1 g2 cap1 cap2:Nat):Prop where
 op:Zv w A o
 s1:SS w a1 g1 0 (ps.map Zc)
 s2:SS w a2 g2 0 (fs.map Zc)
 t1:OT w B1 (.slice a1 ps.length cap1) ps
 t2:OT w B2 (.slice a2 fs.length cap2) fs
 bl:Bw w0 w
theorem DW.next{w0 w w':Wo}{A B1 B2 g1 g2 cap1 cap2:Nat}{o:zk}{ps fs:List (List UInt8)}{a1 a2:Option Addr}(h:DW w0 w A o ps fs B1 B2 a1 a2 g1 g2 cap1 cap2)(hb:Bw w w'):DW w0 w' A o ps fs B1 B2 a1 a2 g1 g2 cap1 cap2:=
 ⟨h.op.below hb,h.s1.below hb,h.s2.below hb,ZI h.t1 hb,ZI h.t2 hb,zj h.bl hb⟩
theorem Bc(v u:JV)(o:zk)(w:Wo)(hv:zI v)(hl:(ct v).length<=100000)(hp:o.path.size<=1048576)(hs:o.src.size<=1048576)(hk1:1<=o.kind)(hk6:o.kind<=6)(hval:zY o.kind=true->o.val=zi (ct u)/\zI u/\(ct u).length<=100000):
  Calls prog 52 #[.string (zi (ct v)),.agg (qo o)] w fun e w'=>e= .returned (Fv (Qs v (Ue o u)))/\Bw w w':=by
 obtain⟨i,j⟩:=Fw o.path hp;obtain⟨q,s⟩:=Fw o.src hs;have hX:Ue o u=⟨o.kind,(zG o.path.data.toList).getD [],(zG o.src.data.toList).getD [],u⟩:=rfl;have kA:Zv (w.alloc (.cells (qo o) 59)) w.heap.size o:=yF w (.cells (qo o) 59);have bA:=ZJ w (.cells (qo o) 59);have HT1:=zh (Kd o.path (w.alloc (.cells (qo o) 59)) hp);have HT2:Hid (∀ wx,Calls prog 41 #[.string o.src] wx fun e w'=>∃ v,e= .returned (.tuple #[v,.bool (zG o.src.data.toList).isSome])/\OT w' wx.heap.size v ((zG o.src.data.toList).getD [])/\Bw wx w'):=fun wx=>Kd o.src wx hs;have HOA:=zh kA;have HBA:=zh bA;have hc:=kA.c;generalize (zG o.path.data.toList).isSome=ok1 at *;generalize (zG o.src.data.toList).isSome=ok2 at *;generalize (zG o.path.data.toList).getD []=d at *;generalize (zG o.src.data.toList).getD []=A at *;have L:Hid (∀ (ts:List (List UInt8)) (a:Option Addr) (g cap:Nat) (wx:Wo),ts=d∨ts=A->SS wx a g 0 (ts.map Zc)->Calls prog 100 #[.string (zi (ct v)),.slice a ts.length cap] wx (Rb (Ji v ts) wx)):=fun ts a g cap wx ht h=>Kh v hv.ok hv.tw (by omega) a g 0 cap ts wx h (by rcases ht with rfl | rfl<;>assumption) (by rcases ht with rfl | rfl<;>assumption);have S:Hid (∀ (x y:List (List UInt8)) (wx:Wo) (a b:Value) (B1 B2:Nat),(x=A/\y=d)∨(x=d/\y=A)->OT wx B1 a x->OT wx B2 b y->Calls prog 85 #[a,b] wx (Rb (.bool (QZ x y)) wx)):=fun x y wx a b B1 B2 hq h1 h2=>(Mz a b x y wx h1 h2 (by rcases hq with ⟨rfl,rfl⟩ |⟨rfl,rfl⟩<;>assumption) (by rcases hq with ⟨rfl,rfl⟩ |⟨rfl,rfl⟩<;>assumption)).mono (by rintro e w' ⟨rfl,n,rfl⟩;exact⟨rfl,Ni wx n _⟩);obtain⟨gx,gb,hgr,F,G⟩:∃ (gx:Bs) (gb:Bool),Ji v d= .tuple #[.string gx,.bool gb]/\(Za v d=none->gb=false)/\(∀ c,Za v d=some c->gx=zi (ct c)/\gb=true):=by
  cases h:Za v d with
  | none=>exact⟨_,_,Uc h,fun _=>rfl,fun c h=>by cases h⟩
  | some x=>exact⟨_,_,Wj h,fun h=>(by cases h),fun c hc=>by injection hc with hc;subst hc;exact⟨rfl,rfl⟩⟩
 have HG:Hid (∀ (a:Option Addr) (g cap:Nat) (wx:Wo),SS wx a g 0 (d.map Zc)->Calls prog 100 #[.string (zi (ct v)),.slice a d.length cap] wx (Rb (.tuple #[.string gx,.bool gb]) wx)):=fun a g cap wx h=>by have:=uh L d a g cap wx (.inl rfl) h;rw[hgr]at this;exact this
 obtain⟨T,Y⟩:∃ D,Qs v (Ue o u)=D:=⟨_,rfl⟩;rw[Y];rw[hX]at Y;have U:=zh Y;have HFA:Hid (zI v/\(ct v).length<=100000/\d.length<=1048577/\(∀ x∈d,x.length<=1048576)/\A.length<=1048577/\(∀ x∈A,x.length<=1048576)/\(zY o.kind=true->o.val=zi (ct u)/\zI u/\(ct u).length<=100000)/\1<=o.kind/\o.kind<=6/\(Za v d=none->gb=false)/\∀ c,Za v d=some c->gx=zi (ct c)/\gb=true):=⟨hv,hl,i,j,q,s,hval,hk1,hk6,F,G⟩;clear hX Y hv hl hp hs i j q s hval hk1 hk6 F G hgr kA bA;go_in;go_wp2_with fail;generalize (w.alloc (.cells (qo o) 59))=wA at *;refine (uh HT1).mono ?_;rintro e w1 ⟨v1,rfl,o1,b1⟩;have HO1:=zh ((uh HOA).below b1);obtain⟨p10,p11,p12,p13⟩:=(uh HO1).c;obtain⟨R,V,k,rfl,ss1,E⟩:=OT.all o1;have aa:=zh o1;have ad:=zh ss1;have HB1:=zh (zj (uh HBA) b1);have af:=zh (uh HT2 w1);clear HT1 HT2 o1 ss1 b1 HOA HBA hc;go_wp2_with fail;refine (uh af).mono ?_;rintro e w2 ⟨v2,rfl,o2,b2⟩;obtain⟨a2,g2,M,rfl,ss2,hcap2⟩:=OT.all o2;have W:Hid (DW w w2 w.heap.size o d A _ _ R a2 V g2 k M):=⟨(uh HO1).below b2,(uh ad).below b2,ss2,ZI (uh aa) b2,o2,zj (uh HB1) b2⟩;obtain⟨q10,q11,q12,q13⟩:=(uh W).op.c;have HG2:=zh (uh HG R V k w2 (uh W).s1);clear af o2 ss2 b2 HO1 HB1 HG ad aa p10 p11 p12 p13;go_wp2_with fail;refine (uh HG2).mono ?_;rintro e w3 ⟨rfl,b3⟩;have f:=zh ((uh W).next b3);obtain⟨r10,r11,r12,r13⟩:=(uh f).op.c;clear HG2 b3 W q10 q11 q12 q13;obtain⟨hv,hl,i,j,q,s,hval,hk1,hk6,F,G⟩:=uh HFA;clear HFA;rcases (show o.kind=1∨o.kind=4∨o.kind=5∨(o.kind=2∨o.kind=3∨o.kind=6) by omega)with p | p | p | p
 ·obtain⟨e1,e2,e3⟩:=hval (by rw[p];rfl);have O:=zh (Fu v u d R V 0 k w3 hv e2 hl e3 j i E (uh f).s1);rw[← e1]at O;have l:Hid (T=Yt 3 (Qk v d u)):=by show _=_;rw[← uh U];unfold Qs;simp only;rw[yf p]
  clear hv hl i j q s hval hk1 hk6 e1 e2 e3 F G L S
  cases hpv:Qk v d u
  all_goals (
   rw[hpv]at O l;simp only[Vo]at O;clear hpv;go_wp2_with fail;refine (uh O).mono ?_;rintro e w4 ⟨rfl,J⟩;have K:=zh (zj (uh f).bl J);clear O J;go_wp2;go_ret2;exact⟨by rw[uh l];rfl,uh K⟩)
 ·have z:=zh (uh L A a2 g2 M w3 (.inr rfl) (uh f).s2)
  cases hg:Za v A with
  | none=>
   rw[Uc hg]at z;have l:Hid (T= .inl 3):=by show _=_;rw[← uh U];unfold Qs;simp only;rw[p,ye (by decide),ye (by decide),ye (by decide),yf rfl,hg]
   clear hv hl i j q s hval hk1 hk6 F G L S hg;go_wp2_with fail;refine (uh z).mono ?_;rintro e w4 ⟨rfl,J⟩;have K:=zh (zj (uh f).bl J);clear z J;go_wp2;go_ret2;exact⟨by rw[uh l];rfl,uh K⟩
  | some m=>
   rw[Wj hg]at z;have l:Hid (T=if A=d then .inr v else if A.isPrefixOf d then .inl 6 else match Jn v A with | none=>.inl 3 | some r=>Yt 3 (Qk r d m)):=by show _=_;rw[← uh U];unfold Qs;simp only;rw[p,ye (by decide),ye (by decide),ye (by decide),yf rfl,hg];rfl
   have HM:Hid (zI m/\(ct m).length<=100000):=⟨hv.get hg,by have:=Vn hv hg;omega⟩;have X:Hid (A≠[]->∀ wx,SS wx a2 g2 0 (A.map Zc)->∃ r,Jn v A=some r/\zI r/\(ct r).length<=(ct v).length/\Calls prog 102 #[.string (zi (ct v)),.slice a2 A.length M] wx (Rb (.string (zi (ct r))) wx)):=fun hne wx h=>Rh v m A a2 g2 0 M wx hne hv hg hl s q hcap2 h;have P:Hid (∀ (r:JV) (wx:Wo),zI r->(ct r).length<=(ct v).length->SS wx R V 0 (d.map Zc)->Calls prog 101 #[.string (zi (ct r)),.slice R d.length k,.string (zi (ct m))] wx (Rb (Vo (Qk r d m)) wx)):=fun r wx hr hrl h=>Fu r m d R V 0 k wx hr (uh HM).1 (by omega) (uh HM).2 j i E h;clear hv hl i j q s hval hk1 hk6 F G L hg HM;generalize zi (ct m)=sm at *;go_wp2_with fail;refine (uh z).mono ?_;rintro e w4 ⟨rfl,J⟩;have B:=zh ((uh f).next J);obtain⟨s10,s11,s12,s13⟩:=(uh B).op.c;have Q:=zh (uh S A d w4 _ _ _ _ (.inl ⟨rfl,rfl⟩) (uh B).t2 (uh B).t1);clear z J f r10 r11 r12 r13
   cases hpre:QZ A d with
   | true=>
    rw[hpre]at Q;go_wp2_with fail;refine (uh Q).mono ?_;rintro e w5 ⟨rfl,b5⟩;have H:=zh ((uh B).next b5);have I:=zh (uh S d A w5 _ _ _ _ (.inr ⟨rfl,rfl⟩) (uh H).t1 (uh H).t2);clear Q b5 B
    cases hq:QZ d A with
    | true=>
     rw[hq]at I;rw[yf (T8 hpre hq)]at l;clear hpre hq S X P;go_wp2_with fail;refine (uh I).mono ?_;rintro e w6 ⟨rfl,b6⟩;have HB6:=zh (zj (uh H).bl b6);clear I b6;go_wp2;go_ret2;exact⟨by rw[uh l];rfl,uh HB6⟩
    | false=>
     rw[hq]at I;rw[ye (fun e=>by rw[e,Rg]at hq;cases hq),yf (by rw[← Ud];exact hpre)]at l;go_wp2_with fail;refine (uh I).mono ?_;rintro e w6 ⟨rfl,b6⟩;have N:=zh ((uh H).next b6);have HX6:=zh (uh S A d w6 _ _ _ _ (.inl ⟨rfl,rfl⟩) (uh N).t2 (uh N).t1);rw[hpre]at HX6;clear I b6 H hpre hq S X P;go_wp2_with fail;refine (uh HX6).mono ?_;rintro e w7 ⟨rfl,b7⟩;have HB7:=zh (zj (uh N).bl b7);clear HX6 b7;go_wp2;go_ret2;exact⟨by rw[uh l];rfl,uh HB7⟩
   | false=>
    rw[hpre]at Q;rw[ye (fun e=>by rw[e,Rg]at hpre;cases hpre),ye (by rw[← Ud,hpre];simp)]at l;go_wp2_with fail;refine (uh Q).mono ?_;rintro e w5 ⟨rfl,b5⟩;have H:=zh ((uh B).next b5);have I:=zh (uh S A d w5 _ _ _ _ (.inl ⟨rfl,rfl⟩) (uh H).t2 (uh H).t1);rw[hpre]at I;have hfne:A≠[]:=fun e=>by rw[e,Ud]at hpre;simp at hpre
    have Z:=zh (uh X hfne);clear Q b5 B X hfne hpre S;go_wp2_with fail;refine (uh I).mono ?_;rintro e w6 ⟨rfl,b6⟩;have N:=zh ((uh H).next b6);obtain⟨r,hr,hrg,hrl,C⟩:=uh Z w6 (uh N).s2;have HC:=zh C;rw[hr]at l;have ab:Hid (∀ wx,SS wx R V 0 (d.map Zc)->Calls prog 101 #[.string (zi (ct r)),.slice R d.length k,.string sm] wx (Rb (Vo (Qk r d m)) wx)):=fun wx h=>uh P r wx hrg hrl h;clear Z P hr hrg hrl C I b6 H;go_wp2_with fail;refine (uh HC).mono ?_;rintro e w7 ⟨rfl,b7⟩;have HB7:=zh (zj (uh N).bl b7);have O:=zh (uh ab w7 ((uh N).s1.below b7));clear HC b7 ab
    cases hpv:Qk r d m
    all_goals (
     rw[hpv]at O l;simp only[Vo]at O;clear hpv;go_wp2_with fail;refine (uh O).mono ?_;rintro e w9 ⟨rfl,b9⟩;have HB9:=zh (zj (uh HB7) b9);clear O b9;go_wp2;go_ret2;exact⟨by rw[uh l];rfl,uh HB9⟩)
 ·have z:=zh (uh L A a2 g2 M w3 (.inr rfl) (uh f).s2)
  cases hg:Za v A with
  | none=>
   rw[Uc hg]at z;have l:Hid (T= .inl 3):=by show _=_;rw[← uh U];unfold Qs;simp only;rw[p,ye (by decide),ye (by decide),ye (by decide),ye (by decide),yf rfl,hg]
   clear hv hl i j q s hval hk1 hk6 F G L S hg;go_wp2_with fail;refine (uh z).mono ?_;rintro e w4 ⟨rfl,J⟩;have K:=zh (zj (uh f).bl J);clear z J;go_wp2;go_ret2;exact⟨by rw[uh l];rfl,uh K⟩
  | some m=>
   rw[Wj hg]at z;have l:Hid (T=Yt 3 (Qk v d m)):=by show _=_;rw[← uh U];unfold Qs;simp only;rw[p,ye (by decide),ye (by decide),ye (by decide),ye (by decide),yf rfl,hg]
   have hlm:=Vn hv hg;have P:Hid (∀ wx,SS wx R V 0 (d.map Zc)->Calls prog 101 #[.string (zi (ct v)),.slice R d.length k,.string (zi (ct m))] wx (Rb (Vo (Qk v d m)) wx)):=fun wx h=>Fu v m d R V 0 k wx hv (hv.get hg) hl (by omega) j i E h;clear hv hl i j q s hval hk1 hk6 F G L S hg hlm;generalize zi (ct m)=sm at *;go_wp2_with fail;refine (uh z).mono ?_;rintro e w4 ⟨rfl,J⟩;have B:=zh ((uh f).next J);obtain⟨s10,s11,s12,s13⟩:=(uh B).op.c;have O:=zh (uh P w4 (uh B).s1);clear z J f P r10 r11 r12 r13
   cases hpv:Qk v d m
   all_goals (
    rw[hpv]at O l;simp only[Vo]at O;clear hpv;go_wp2_with fail;refine (uh O).mono ?_;rintro e w9 ⟨rfl,b9⟩;have HB9:=zh (zj (uh B).bl b9);clear O b9;go_wp2;go_ret2;exact⟨by rw[uh l];rfl,uh HB9⟩)
 ·clear S L
  cases hg:Za v d with
  | none=>
   obtain rfl:=F hg;have l:Hid (T= .inl 3):=by
    show _=_
    rw[← uh U];unfold Qs;simp only;rcases p with p | p | p
    ·rw[p,ye (by decide),yf rfl,Bb hg];rfl
    ·rw[p,ye (by decide),ye (by decide),yf rfl];unfold JW;rw[hg];rfl
    ·rw[p,ye (by decide),ye (by decide),ye (by decide),ye (by decide),ye (by decide),hg]
   clear hv hl i j q s hval hk1 hk6 F G hg;rcases p with p | p | p
   all_goals (
    go_wp2;go_ret2;exact⟨by rw[uh l];rfl,(uh f).bl⟩)
  | some c=>
   obtain⟨rfl,rfl⟩:=G c hg;clear F G;rcases p with p | p | p
   ·by_cases h0:d=[]
    ·subst h0;have l:Hid (T= .inl 3):=by show _=_;rw[← uh U];unfold Qs;simp only;rw[p,ye (by decide),yf rfl];rfl
     clear hv hl i j q s hval hk1 hk6 hg;go_wp2;go_ret2;exact⟨by rw[uh l];rfl,(uh f).bl⟩
    ·have hpos:¬ d.length=0:=fun h=>h0 (yM h);have hposI:((d.length:Int) ==0)=false:=by rw[yb];omega
     obtain⟨r,hr,-,-,C⟩:=Rh v c d R V 0 k w3 h0 hv hg hl j i E (uh f).s1;have HC:=zh C;have l:Hid (T= .inr r):=by show _=_;rw[← uh U];unfold Qs;simp only;rw[p,ye (by decide),yf rfl,hr];rfl
     clear hv hl i j q s hval hk1 hk6 hg h0 hpos hr C;generalize zi (ct c)=sc at *;go_wp2_with fail;refine (uh HC).mono ?_;rintro e w4 ⟨rfl,J⟩;have K:=zh (zj (uh f).bl J);clear HC J;go_wp2;go_ret2;exact⟨by rw[uh l];rfl,uh K⟩
   ·obtain⟨e1,e2,e3⟩:=hval (by rw[p];rfl);have hsl:=YY (u:=u) hv hg;have HC:=zh (Ub d v u c R V 0 k w3 hv e2 hg hl (by omega) j i E (uh f).s1);rw[← e1]at HC;have l:Hid (T= .inr (ZP v d u)):=by show _=_;rw[← uh U];unfold Qs;simp only;rw[p,ye (by decide),ye (by decide),yf rfl];unfold JW;rw[hg];rfl
    clear hv hl i j q s hval hk1 hk6 hg hsl e1 e2 e3;generalize zi (ct c)=sc at *;go_wp2_with fail;refine (uh HC).mono ?_;rintro e w4 ⟨rfl,J⟩;have K:=zh (zj (uh f).bl J);clear HC J;go_wp2;go_ret2;exact⟨by rw[uh l];rfl,uh K⟩
   ·have hse:=Uq (ct c) (ct u);rw[← (hval (by rw[p];rfl)).1]at hse;have l:Hid (T=if ct c=ct u then .inr v else .inl 5):=by show _=_;rw[← uh U];unfold Qs;simp only;rw[p,ye (by decide),ye (by decide),ye (by decide),ye (by decide),ye (by decide),hg]
    clear hv hl i j q s hval hk1 hk6 hg;by_cases he:ct c=ct u
    ·rw[yB.2 he]at hse;rw[yf he]at l;clear he;generalize zi (ct c)=sc at *;go_wp2;go_ret2;exact⟨by rw[uh l];rfl,(uh f).bl⟩
    ·rw[yb.2 he]at hse;rw[ye he]at l;clear he;generalize zi (ct c)=sc at *;go_wp2;go_ret2;exact⟨by rw[uh l];rfl,(uh f).bl⟩
theorem DS.set{B rb g i:Nat}{w w1:Wo}(h:DS B rb w w1)(hr:rb<g)(hg:w.heap.size<=g)(z:Value):DS B rb w (w1.setCell ⟨g,i,none⟩ z):=by
 have a:B<=rb:=by obtain⟨_,_,_,_,_,_,_,a,_⟩:=h.1;exact a
 exact⟨h.1.grown (WZ w1 g i z) (fun e=>by injection e with e;omega) (fun k e=>by injection e with e;omega),VT h.2 (WZ w1 g i z) fun j e=>by injection e with e;omega⟩
structure QM(B rb g4 g6:Nat)(w wx:Wo)(o:zk):Prop where
 ds:DS B rb w wx
 op:Zv wx g6 o
 r4:Zv wx g4 ⟨0,⟨#[]⟩,⟨#[]⟩,⟨#[]⟩⟩
 lt:rb<g4
 l6:g4<g6
 eq:w.heap.size=g4
section
variable {B rb g4 g6:Nat} {w w1 w2:Wo} {o:zk}
theorem QM.below(h:QM B rb g4 g6 w w1 o)(hb:Bw w1 w2):QM B rb g4 g6 w w2 o:=⟨h.ds.below hb,h.op.below hb,h.r4.below hb,h.lt,h.l6,h.eq⟩
theorem QM.step(h:QM B rb g4 g6 w w1 o)(r:JC w2 B rb)(g:w1.grownBy w2 (some rb)):QM B rb g4 g6 w w2 o:=
 ⟨h.ds.step r g,(g.block g6 h.op.lt fun e=>by injection e with e;have:=h.lt;have:=h.l6;omega).trans h.op,(g.block g4 h.r4.lt fun e=>by injection e with e;have:=h.lt;omega).trans h.r4,h.lt,h.l6,h.eq⟩
theorem QM.oth(h:QM B rb g4 g6 w w1 o)(i:Nat)(z:Value):DS B rb w (w1.setCell ⟨g6,i,none⟩ z)/\Zv (w1.setCell ⟨g6,i,none⟩ z) g4 ⟨0,⟨#[]⟩,⟨#[]⟩,⟨#[]⟩⟩:=
 ⟨h.ds.set (by have:=h.lt;have:=h.l6;omega) (by have:=h.eq;have:=h.l6;omega) z,(Below.heap_setCell _ _ _ _ (by have:=h.l6;show g4≠g6;omega)).trans h.r4⟩
theorem QM.s1(h:QM B rb g4 g6 w w1 o)(z:Bs):QM B rb g4 g6 w (w1.setCell ⟨g6,1,none⟩ (.string z)) ⟨o.kind,z,o.src,o.val⟩:=⟨(h.oth 1 _).1,h.op.s1 z,(h.oth 1 _).2,h.lt,h.l6,h.eq⟩
theorem QM.s2(h:QM B rb g4 g6 w w1 o)(z:Bs):QM B rb g4 g6 w (w1.setCell ⟨g6,2,none⟩ (.string z)) ⟨o.kind,o.path,z,o.val⟩:=⟨(h.oth 2 _).1,h.op.s2 z,(h.oth 2 _).2,h.lt,h.l6,h.eq⟩
theorem QM.s3(h:QM B rb g4 g6 w w1 o)(z:Bs):QM B rb g4 g6 w (w1.setCell ⟨g6,3,none⟩ (.string z)) ⟨o.kind,o.path,o.src,z⟩:=⟨(h.oth 3 _).1,h.op.s3 z,(h.oth 3 _).2,h.lt,h.l6,h.eq⟩
end
structure Uf(o:zk):Prop where
 k1:1<=o.kind
 k6:o.kind<=6
 path:o.path.size<=40100
 src:o.src.size<=40100
 val:zY o.kind=true->∃ u:JV,o.val=zi (ct u)/\zI u/\(ct u).length<=20000
 no:zY o.kind=false->o.val=⟨#[]⟩
def gk(x:Nat):Int:=1+(x:Int) % 6
def Yg(v:JV)(q:List UInt8):Bs×List UInt8:=Yz v (gk (nx q).1 ==1 || Zh (gk (nx q).1)) (nx q).2
def JE(v:JV)(q:List UInt8):Bs×List UInt8:=if Zh (gk (nx q).1)=true then Yz v false (Yg v q).2 else (⟨#[]⟩,(Yg v q).2)
def J0(v:JV)(q:List UInt8):Bs×List UInt8:=if zY (gk (nx q).1)=true then (zi (ct (Yw (JE v q).2).1),(Yw (JE v q).2).2)else (⟨#[]⟩,(JE v q).2)
def Vq(v:JV)(q:List UInt8):Bs:=if (gk (nx q).1 ==6 && decide ((nx q).1<200))=true then (match Za v ((zG (Yg v q).1.data.toList).getD [])with
 | some u=>zi (ct u)
 | none=>(J0 v q).1)else (J0 v q).1
def YA(v:JV)(q:List UInt8):zk×List UInt8:=(⟨gk (nx q).1,(Yg v q).1,(JE v q).1,Vq v q⟩,(J0 v q).2)
theorem Ri{v:JV}(hd:VI v)(hv:zI v)(hl:(ct v).length<=20000)(q:List UInt8):Uf (YA v q).1:=by
 have f:1<=gk (nx q).1/\gk (nx q).1<=6:=by unfold gk;omega
 have a:Qe (Yw (JE v q).2).1:=Pw Pv;have d:zY (gk (nx q).1)=true->∃ u:JV,(J0 v q).1=zi (ct u)/\zI u/\(ct u).length<=20000:=fun h=>⟨_,by unfold J0;rw[yf h],a.t,a.len⟩;have g:zY (gk (nx q).1)=false->(J0 v q).1=⟨#[]⟩:=fun h=>by unfold J0;rw[ye (by rw[h];decide)]
 refine⟨f.1,f.2,Fp hd _ _,?_,fun h=>?_,fun h=>?_⟩
 ·show (JE v q).1.size<=_
  unfold JE;split
  ·exact Fp hd _ _
  ·show (⟨#[]⟩:Bs).size<=_;decide
 ·show ∃ u:JV,Vq v q=_/\_
  unfold Vq;split
  ·cases hg:Za v ((zG (Yg v q).1.data.toList).getD [])with
   | none=>exact d h
   | some u=>exact⟨u,rfl,hv.get hg,yO (Vn hv hg) hl⟩
  ·exact d h
 ·show Vq v q=_
  unfold Vq;rw[ye ?_]
  ·exact g h
  ·intro b;rw[Bool.and_eq_true]at b;have e:=eq_of_beq b.1;have h:zY (gk (nx q).1)=false:=h;rw[e]at h
   cases h
theorem DX.set{B rb g i:Nat}{w w1:Wo}{q:List UInt8}(h:DX B rb w q w1)(hr:rb<g)(hg:w.heap.size<=g)(z:Value):DX B rb w q (w1.setCell ⟨g,i,none⟩ z):=by
 have a:=h.rd.ge;exact⟨h.rd.grown (WZ w1 g i z) (fun e=>by injection e with e;omega) (fun k e=>by injection e with e;omega),VT h.gr (WZ w1 g i z) fun j e=>by injection e with e;omega⟩
structure qN(B rb g4 g6:Nat)(w wx:Wo)(q:List UInt8)(o:zk):Prop where
 ds:DX B rb w q wx
 op:Zv wx g6 o
 r4:Zv wx g4 ⟨0,⟨#[]⟩,⟨#[]⟩,⟨#[]⟩⟩
 lt:rb<g4
 l6:g4<g6
 eq:w.heap.size=g4
section
variable {B rb g4 g6:Nat} {w w1 w2:Wo} {q r:List UInt8} {o:zk}
theorem qN.below(h:qN B rb g4 g6 w w1 q o)(hb:Bw w1 w2):qN B rb g4 g6 w w2 q o:=⟨h.ds.below hb,h.op.below hb,h.r4.below hb,h.lt,h.l6,h.eq⟩
theorem qN.step(h:qN B rb g4 g6 w w1 q o)(d:DX B rb w1 r w2):qN B rb g4 g6 w w2 r o:=
 ⟨h.ds.step d,(d.gr.block g6 h.op.lt fun e=>by injection e with e;have:=h.lt;have:=h.l6;omega).trans h.op,(d.gr.block g4 h.r4.lt fun e=>by injection e with e;have:=h.lt;omega).trans h.r4,h.lt,h.l6,h.eq⟩
theorem qN.oth(h:qN B rb g4 g6 w w1 q o)(i:Nat)(z:Value):DX B rb w q (w1.setCell ⟨g6,i,none⟩ z)/\Zv (w1.setCell ⟨g6,i,none⟩ z) g4 ⟨0,⟨#[]⟩,⟨#[]⟩,⟨#[]⟩⟩:=
 ⟨h.ds.set (by have:=h.lt;have:=h.l6;omega) (by have:=h.eq;have:=h.l6;omega) z,(Below.heap_setCell _ _ _ _ (by have:=h.l6;show g4≠g6;omega)).trans h.r4⟩
theorem qN.s1(h:qN B rb g4 g6 w w1 q o)(z:Bs):qN B rb g4 g6 w (w1.setCell ⟨g6,1,none⟩ (.string z)) q ⟨o.kind,z,o.src,o.val⟩:=⟨(h.oth 1 _).1,h.op.s1 z,(h.oth 1 _).2,h.lt,h.l6,h.eq⟩
theorem qN.s2(h:qN B rb g4 g6 w w1 q o)(z:Bs):qN B rb g4 g6 w (w1.setCell ⟨g6,2,none⟩ (.string z)) q ⟨o.kind,o.path,z,o.val⟩:=⟨(h.oth 2 _).1,h.op.s2 z,(h.oth 2 _).2,h.lt,h.l6,h.eq⟩
theorem qN.s3(h:qN B rb g4 g6 w w1 q o)(z:Bs):qN B rb g4 g6 w (w1.setCell ⟨g6,3,none⟩ (.string z)) q ⟨o.kind,o.path,o.src,z⟩:=⟨(h.oth 3 _).1,h.op.s3 z,(h.oth 3 _).2,h.lt,h.l6,h.eq⟩
end
theorem Bd(B rb:Nat)(v:JV)(q0:List UInt8)(w:Wo)(h:Zy w B rb q0)(hd:VI v)(hv:zI v)(hl:(ct v).length<=20000):
  Calls prog 84 #[.pointer (some ⟨rb,0,none⟩),.string (zi (ct v))] w fun e w'=>e= .returned (.agg (qo (YA v q0).1))/\DX B rb w (YA v q0).2 w':=by
 have hA:=ZJ w (.cells (qo ⟨0,⟨#[]⟩,⟨#[]⟩,⟨#[]⟩⟩) 59);have kA:Zv (w.alloc (.cells (qo ⟨0,⟨#[]⟩,⟨#[]⟩,⟨#[]⟩⟩) 59)) w.heap.size ⟨0,⟨#[]⟩,⟨#[]⟩,⟨#[]⟩⟩:=yF w _;have HX:=zh (QS B rb q0 _ ((DX.refl h).below hA).rd);have HA:=zh hA;have H:=zh kA;have l:=h.lt;have S:=zh (DX.refl h);have A:=zh fun (b:Bool) (q:List UInt8) (wx:Wo) (hr:Zy wx B rb q)=>T0 B rb v b q wx hr hd;have HGL:=zh (Fp hd);have P:=zh fun (q:List UInt8) (wx:Wo) (hr:Zy wx B rb q)=>TB B rb q wx hr;have G:Hid (∀ (ts:List (List UInt8)) (r:Value) (B1:Nat) wx,OT wx B1 r ts->ts.length<=1048577->(∀ t∈ts,t.length<=1048576)->Calls prog 100 #[.string (zi (ct v)),r] wx (Rb (Ji v ts) wx)):=fun ts r B1 wx ho h1 D=>M4 v hv.ok hv.tw (by omega) r ts wx ho h1 D;have hx:=Qo q0;have eP:Yg v q0=Yz v (gk (nx q0).1 ==1 || Zh (gk (nx q0).1)) (nx q0).2:=rfl;have eS:JE v q0=if Zh (gk (nx q0).1)=true then Yz v false (Yg v q0).2 else (⟨#[]⟩,(Yg v q0).2):=rfl
 have eV:J0 v q0=if zY (gk (nx q0).1)=true then (zi (ct (Yw (JE v q0).2).1),(Yw (JE v q0).2).2)else (⟨#[]⟩,(JE v q0).2):=rfl
 have eZ:Vq v q0=if (gk (nx q0).1 ==6 && decide ((nx q0).1<200))=true then (match Za v ((zG (Yg v q0).1.data.toList).getD [])with | some u=>zi (ct u) | none=>(J0 v q0).1)else (J0 v q0).1:=rfl
 show Calls prog 84 #[.pointer (some ⟨rb,0,none⟩),.string (zi (ct v))] w fun e w'=>e= .returned (.agg (qo ⟨gk (nx q0).1,(Yg v q0).1,(JE v q0).1,Vq v q0⟩))/\DX B rb w (J0 v q0).2 w'
 have V:1+((nx q0).1:Int) % 6=gk (nx q0).1:=rfl;generalize Yg v q0=i at *;generalize JE v q0=f at *;generalize J0 v q0=m at *;generalize Vq v q0=ZZ at *;generalize (nx q0).1=x at *;generalize (nx q0).2=q1 at *;generalize gk x=K at *;have hK1:1+(x:Int) % 6=K:=V;have hKb:1<=K/\K<=6:=by omega
 have EP:=zh eP;have ES:=zh eS;have EV:=zh eV;have EZ:=zh eZ;have hpz:i.1.size<=40100:=by rw[eP];exact uh HGL _ _
 clear hA kA hd hv h hl eP eS eV eZ V;go_in;go_wp2_with fail;refine (uh HX).mono ?_;rintro e E ⟨rfl,d1⟩;have k1:Zv E w.heap.size ⟨0,⟨#[]⟩,⟨#[]⟩,⟨#[]⟩⟩:=(d1.gr.block w.heap.size (uh H).lt fun e=>by injection e with e;omega).trans (uh H);have hz1:w.heap.size<E.heap.size:=k1.lt;have M:=ZJ E (.cells (qo ⟨K,⟨#[]⟩,⟨#[]⟩,⟨#[]⟩⟩) 59);have g:Hid (qN B rb w.heap.size E.heap.size w (E.alloc (.cells (qo ⟨K,⟨#[]⟩,⟨#[]⟩,⟨#[]⟩⟩) 59)) q1 ⟨K,⟨#[]⟩,⟨#[]⟩,⟨#[]⟩⟩):=
  ⟨((((uh S).below (uh HA)).step d1)).below M,yF E _,k1.below M,l,hz1,rfl⟩
 clear HX HA H d1 k1 M S;go_upto_region 3 with fail;generalize E.heap.size=L at *;generalize E.alloc _=w2 at *;go_cut []from 17 to 28 (fun wx=>qN B rb w.heap.size L w wx i.2 ⟨K,i.1,⟨#[]⟩,⟨#[]⟩⟩)
 case first=>
  obtain⟨c0,c1,-,-⟩:=(uh g).op.c;by_cases hk:K=1
  case' pos=>
   have t1:(K ==1)=true:=by simp[hk]
   have HC:=zh (uh A true q1 _ (uh g).ds.rd);have O:=uh EP;rw[t1,Bool.true_or]at O;rw[← O]at HC;clear hk O;go_wp2_with fail
  case' neg=>
   have t1:(K ==1)=false:=by simp[hk]
   have HF:=zh (Kl K w2);have HC:=zh (uh A (Zh K) q1 _ (uh g).ds.rd);have O:=uh EP;rw[t1,Bool.false_or]at O;rw[← O]at HC;clear hk O;go_wp2_with fail;refine (uh HF).mono ?_;rintro e w2' ⟨rfl,rfl⟩;clear HF;go_wp2_with fail
  all_goals
   refine (uh HC).mono ?_;rintro e w3 ⟨rfl,n⟩;have Z3:=zh ((uh g).step n);obtain⟨-,dd1,-,-⟩:=(uh Z3).op.c;have f3:=(uh Z3).op.fz 1;have d:=zh ((uh Z3).s1 i.1);clear HC n;generalize i.1=tb at *;go_wp2;go_meet
   case rel=>exact uh d
 have g:=zh hcut;obtain⟨c0,-,-,-⟩:=hcut.op.c;clear hcut;go_wp2_with fail;refine (Kl K _).mono ?_;rintro e w3 ⟨rfl,rfl⟩;go_upto_if 31 with fail;go_cut []from 29 to 35 (fun wx=>qN B rb w.heap.size L w wx f.2 ⟨K,i.1,f.1,⟨#[]⟩⟩)
 case first=>
  have j:=uh ES
  cases hf:Zh K with
  | false=>
   rw[hf,ye (by decide)]at j;have d:Hid (qN B rb w.heap.size L w wc f.2 ⟨K,i.1,f.1,⟨#[]⟩⟩):=by rw[j];exact uh g
   clear hf j;go_wp2;go_meet
   case rel=>exact uh d
  | true=>
   rw[hf,yf rfl]at j;have HC:=zh (uh A false i.2 _ (uh g).ds.rd);rw[← j]at HC;clear hf j;go_wp2_with fail;refine (uh HC).mono ?_;rintro e w3 ⟨rfl,n⟩;have Z3:=zh ((uh g).step n);obtain⟨-,-,d2,-⟩:=(uh Z3).op.c;have f3:=(uh Z3).op.fz 2;have d:=zh ((uh Z3).s2 f.1);clear HC n;generalize f.1=tb at *;go_wp2;go_meet
   case rel=>exact uh d
 have g:=zh hcut;clear c0;obtain⟨c0,-,-,-⟩:=hcut.op.c;clear hcut A;go_wp2_with fail;refine (X7 K _).mono ?_;rintro e w3 ⟨rfl,rfl⟩;go_upto_if 38 with fail;go_cut []from 36 to 41 (fun wx=>qN B rb w.heap.size L w wx m.2 ⟨K,i.1,f.1,m.1⟩)
 case first=>
  have j:=uh EV
  cases hf:zY K with
  | false=>
   rw[hf,ye (by decide)]at j;have d:Hid (qN B rb w.heap.size L w wc m.2 ⟨K,i.1,f.1,m.1⟩):=by rw[j];exact uh g
   clear hf j;go_wp2;go_meet
   case rel=>exact uh d
  | true=>
   rw[hf,yf rfl]at j;have HC:=zh (uh P f.2 _ (uh g).ds.rd);have h1:zi (ct (Yw f.2).1)=m.1:=by rw[j]
   have D:(Yw f.2).2=m.2:=by rw[j]
   rw[h1,D]at HC;clear hf j h1 D;go_wp2_with fail;refine (uh HC).mono ?_;rintro e w3 ⟨rfl,n⟩;have Z3:=zh ((uh g).step n);obtain⟨-,-,-,d2⟩:=(uh Z3).op.c;have f3:=(uh Z3).op.fz 3;have d:=zh ((uh Z3).s3 m.1);clear HC n;generalize m.1=tb at *;go_wp2;go_meet
   case rel=>exact uh d
 have g:=zh hcut;clear c0;obtain⟨c0,c1,-,c3⟩:=hcut.op.c;clear hcut P EP ES EV;have I:=zh fun wz=>Kd i.1 wz (show i.1.size<=1048576 by omega);obtain⟨X,Y⟩:=Fw i.1 (by omega);have Q:=zh X;have R:=zh Y;clear X Y;generalize hp1:i.1=p at *;generalize m.1=z at *;generalize hv2:m.2=q4 at *;generalize hs1:f.1=s at *;have HP1:=zh hp1;have HV2:=zh hv2;have HS1:=zh hs1;clear hp1 hv2 hs1;generalize (zG p.data.toList).isSome=ok1 at *;generalize (zG p.data.toList).getD []=ps at *;obtain⟨b6,W⟩:∃ b:Bool,(K ==6)=b:=⟨_,rfl⟩;obtain⟨Z,N⟩:∃ b:Bool,decide (x<200)=b:=⟨_,rfl⟩;have a:=uh EZ;rw[W,N]at a;have J:=zh a;have F:=zh N;clear EZ a N;go_upto_region 8 with fail;go_cut [48]from 42 to 48 (fun y wx=>y= .bool (b6 && Z)/\wc=wx)
 case first=>
  cases b6 with
  | false=>
   go_wp2;go_meet
   case rel=>exact⟨rfl,rfl⟩
  | true=>
   by_cases D:x<200
   ·have e2:((x:Int)<200)=True:=eq_true (by omega);obtain rfl:true=Z:=by rw[← uh F];simp[D]
    clear D;go_wp2;go_meet
    case rel=>exact⟨rfl,rfl⟩
   ·have e2:((x:Int)<200)=False:=yP (by omega);obtain rfl:false=Z:=by rw[← uh F];simp[D]
    clear D;go_wp2;go_meet
    case rel=>exact⟨rfl,rfl⟩
 obtain⟨rfl,rfl⟩:=hcut;clear W F;generalize (b6 && Z)=b at *;go_upto_if 48 with fail;go_cut []from 49 to 63 (fun wx=>qN B rb w.heap.size L w wx q4 ⟨K,p,s,ZZ⟩)
 case first=>
  have a:=uh J
  cases b with
  | false=>
   rw[ye (by decide)]at a;subst a;go_wp2;go_meet
   case rel=>exact uh g
  | true=>
   rw[yf rfl]at a;have T:=zh (uh I wc);have C:=zh a;clear I a J;go_wp2_with fail;refine (uh T).mono ?_;rintro e w4 ⟨r4,rfl,o4,b4⟩;have d:=zh ((uh g).below b4);have HC:=zh (uh G ps r4 _ w4 o4 (uh Q) (uh R));clear T o4 b4 G
   cases hg:Za v ps with
   | none=>
    rw[Uc hg]at HC;have a:=uh C;rw[hg]at a;subst a;clear hg C;go_wp2_with fail;refine (uh HC).mono ?_;rintro e w5 ⟨rfl,U⟩;have k:=zh ((uh d).below U);clear HC U;go_wp2;go_meet
    case rel=>exact uh k
   | some u=>
    rw[Wj hg]at HC;have a:=uh C;rw[hg]at a;simp only at a;rw[← a]at HC;clear hg C a;go_wp2_with fail;refine (uh HC).mono ?_;rintro e w5 ⟨rfl,U⟩;have k:=zh ((uh d).below U);obtain⟨-,-,-,n⟩:=(uh k).op.c;have f3:=(uh k).op.fz 3;clear HC U;go_wp2;go_meet
    case rel=>exact (uh k).s3 ZZ
 have o:=hcut;obtain⟨d0,d1,d2,n⟩:=o.op.c;obtain⟨e0,e1,e2,e3⟩:=o.r4.c;have f0:=o.r4.fz 0;have f1:=o.r4.fz 1;have f2:=o.r4.fz 2;have f3:=o.r4.fz 3;have HR4:=zh o.r4;have HD:=zh o.ds;have hne:¬ L=w.heap.size:=by have:=o.l6;omega
 clear o hcut g J I Q R G c0 c1 c3;go_wp2;refine bodyPost_ret (results_cell_row rfl _ _ w.heap.size 59 #[_,_,_,_] (0,0) _ rfl (Jj (uh HR4) [_,_,_,_] rfl) underlying59 rfl (by kernel_rfl)) rfl ?_;exact by rw[uh HP1,uh HV2,uh HS1];exact⟨rfl,((((uh HD).set l (yd _) _).set l (yd _) _).set l (yd _) _).set l (yd _) _⟩
theorem Fx:(prog.info? 59).map (fun i=>(i.zero,i.size,i.bytes))=some (some (.agg #[.int .i64 0,.string ByteArray.empty,.string ByteArray.empty,.string ByteArray.empty]),4,56):=by kernel_rfl
def qX(w:Wo)(B:Nat)(v:Value)(ms:List zk):Prop:=w.ownsRow B 59 4 v ms.length (ms.flatMap Jk)
theorem qX.step{w:Wo}{B:Nat}{v:Value}{ms:List zk}{m:zk}(h:w.ownsRow B 59 4 v (ms.length+1) (ms.flatMap Jk++Jk m)):qX w B v (ms++[m]):=by
 unfold qX;rw[yg,List.flatMap_append,List.flatMap_singleton];exact h
theorem qX.orow{w:Wo}{B:Nat}{v:Value}{ms:List zk}(h:qX w B v ms):Zn V9 w v ms v.ownBlock.toList/\QB B v.ownBlock.toList:=by
 refine⟨⟨ms.map fun m=>(Jk m,[]),by simp,fun j p x hp hx=>?_,?_,?_⟩,?_⟩
 ·rw[List.getElem?_map,hx]at hp;injection hp with hp;subst hp;exact⟨rfl,rfl⟩
 ·have e:(ms.map fun m=>((Jk m,[]):List Value×List Nat)).flatMap (·.1)=ms.flatMap Jk:=by rw[List.flatMap_map]
  rw[e];exact JB h (yr _)
 ·have e:(ms.map fun m=>((Jk m,[]):List Value×List Nat)).flatMap (·.2)=[]:=by rw[List.flatMap_map];simp
  rw[e,List.append_nil]
 ·refine⟨?_,fun b hb=>(h.lt b (by simpa using hb)).1⟩
  cases v.ownBlock<;>simp
theorem Fy(w:Wo)(m:zk):∀ j u,(Jk m)[j]?=some u->(w.alloc (.cells (qo m) 59)).cell? ((⟨w.heap.size,0,none⟩:Addr).add j)=some u:=T3 w (Jk m) 59
theorem Fz(m:zk):∀ u∈Jk m,u.oneCell'=true:=by
 intro u a;simp only[Jk,List.mem_cons,List.not_mem_nil,or_false]at a;rcases a with rfl | rfl | rfl | rfl<;>rfl
def Wl(m:zk):JV:=match Zo m.val with
 | .inr u=>u
 | .inl _=>.nul
theorem Be{m:zk}(h:Zp m=true):1<=m.kind/\m.kind<=6/\(zY m.kind=true->Zo m.val= .inr (Wl m)/\m.val=zi (ct (Wl m))/\Qe (Wl m)):=by
 unfold Zp at h;simp only[Bool.and_eq_true,decide_eq_true_eq]at h;refine⟨h.1.1.1.1,h.1.1.1.2,fun hv=>?_⟩;have b:=h.2;rw[yf hv,Kk]at b;obtain⟨u,a,d⟩:=b;have e:Wl m=u:=by unfold Wl;rw[a]
 rw[e];exact⟨a,d.symm,Qe.of a⟩
theorem Bf{ms:List zk}(h:¬ 0<=qw ms):ms.length<=100/\∀ m∈ms,Zp m=true:=by
 unfold qw at h;split at h
 ·exact absurd (by omega) h
 ·rename_i hl;split at h
  ·rename_i i _;exact absurd (by omega) h
  ·rename_i hf;rw[List.findIdx?_eq_none_iff]at hf;exact⟨by omega,fun m hm=>by have:=hf m hm;simpa using this⟩
theorem Bg(v:JV):Fa v=true↔zE v<=100/\zo v<=3000/\(ct v).length<=20000:=by
 unfold Fa;simp[and_assoc]
theorem zI.lim{v:JV}(h:zI v)(hl:Fa v=true):Qe v:=by
 obtain⟨a,b,c⟩:=(Bg v).1 hl;exact⟨h.rd,h.big,a,b,h.tw,h.ok,c⟩
theorem FA{v u r:JV}{ts:List (List UInt8)}(hv:zI v)(h:Qk v ts u=some r):(ct r).length<=(ct v).length+(ct u).length+6*(Ys ts).length+4:=by
 unfold Qk at h;split at h
 ·injection h with h;subst h;omega
 ·unfold JW at h;obtain⟨x,hx,rfl⟩:=yy.1 h;obtain⟨y,a,b⟩:=Option.bind_eq_some_iff.1 hx;have d:=PV (hv.get a) b;have f:=YY (u:=x) hv a;omega
theorem Rj{v r:JV}{ts:List (List UInt8)}(hv:zI v)(h:Jn v ts=some r):(ct r).length<=(ct v).length:=by
 unfold Jn at h;split at h
 ·cases h
 ·unfold JW at h;obtain⟨x,hx,rfl⟩:=yy.1 h;obtain⟨y,d,a⟩:=Option.bind_eq_some_iff.1 hx;unfold W6 at a;obtain⟨c,b,rfl⟩:=yy.1 a;have f:=Fl b;have g:=YY (u:=q9 y (Ys ts)) hv d;omega
theorem Bh{ts:List (List UInt8)}{n:Nat}(h:∀ x∈ts,x.length<=n):(Ys ts).length<=n:=by
 unfold Ys
 cases hl:ts.getLast? with
 | none=>simp
 | some x=>exact h x (List.mem_of_getLast? hl)
theorem FB:∀ (n:Nat) (v:JV),zE v<=n->zy v->zo v<=(ct v).length
 | 0,v,h,_=>by have:=(Jv v).2;omega
 | n+1,v,h,hok=>by
  cases v with
  | arr l=>
   rw[zy,Kt]at hok;have a:=WI (.arr l);have b:((zZ (.arr l)).map fun q=>zo q.2).sum=(l.toL.map zo).sum:=by
    show ((qS 0 l.toL).map fun q=>zo q.2).sum=_
    rw[show (fun q:List UInt8×JV=>zo q.2)=zo∘(·.2)from rfl,← List.map_map,Xn]
   have d:(l.toL.map zo).sum<=(l.toL.map fun v=>(ct v).length).sum:=Ua _ _ _ fun u hu=>FB n u (by
    have:=UN l.toL u hu;rw[zE,Uv]at h;omega) (hok u hu)
   rw[KC];unfold hold;omega
  | obj m=>
   rw[zy,Ku]at hok;have a:=WI (.obj m);have b:((zZ (.obj m)).map fun q=>zo q.2).sum=(m.toL.map fun q=>zo q.2).sum:=((UM m.toL).map _).sum_nat;have d:(m.toL.map fun q=>zo q.2).sum<=(m.toL.map ZV).sum:=Ua _ _ _ fun q hq=>by
    have:=FB n q.2 (by
     have:=UN (m.toL.map (·.2)) q.2 (yN.2 ⟨q,hq,rfl⟩);rw[zE,Gn]at h;omega) (hok q hq).2
    unfold ZV;omega
   rw[Ym];unfold hold;omega
  | _=>
   have:=Ki hok;rw[zS]at this;simp only[zo];omega
theorem Bi{v:JV}{o:W7}{c:Nat}(h:Qs v o= .inl c):c≠0:=by
 have a:∀ {x:Option JV},Yt 3 x= .inl c->c≠0:=fun {x} h=>by
  cases x with
  | none=>injection h with h;omega
  | some y=>cases h
 unfold Qs at h
 repeat' split at h
 all_goals first | exact a h |(injection h with h;omega) | cases h
structure J1(v:JV):Prop where
 doc:VI v
 gd:zI v
 len:(ct v).length<=20000
theorem J1.of{s:Bs}{v:JV}(h:Zo s= .inr v):J1 v:=⟨D5 h,(Qe.of h).t,(Qe.of h).len⟩
structure YB(ms:List zk):Prop where
 ok:∀ m∈ms,Zp m=true
 dr:∀ m∈ms,Uf m
theorem YB.snoc{ms:List zk}{m:zk}(h:YB ms)(h1:Zp m=true)(h2:Uf m):YB (ms++[m]):=
 ⟨fun x hx=>by
         rcases List.mem_append.1 hx with hx | hx
         ·exact h.ok x hx
         ·rw[List.mem_singleton]at hx;rw[hx];exact h1,
  fun x hx=>by
          rcases List.mem_append.1 hx with hx | hx
          ·exact h.dr x hx
          ·rw[List.mem_singleton]at hx;rw[hx];exact h2⟩
structure Ge(B rb:Nat)(w wr:Wo)(r:Value)(ms:List zk):Prop where
 ds:DS B rb w wr
 row:qX wr w.heap.size r ms
 lt:rb<w.heap.size
theorem Ge.below{B rb:Nat}{w w1 w2:Wo}{r:Value}{ms:List zk}(h:Ge B rb w w1 r ms)(hb:Bw w1 w2):Ge B rb w w2 r ms:=⟨h.ds.below hb,ZI h.row hb,h.lt⟩
theorem Ge.step{B rb:Nat}{w w1 w2:Wo}{r:Value}{ms:List zk}(h:Ge B rb w w1 r ms)(d:DS B rb w1 w2):Ge B rb w w2 r ms:=⟨h.ds.step d.1 d.2,GO h.row d.2 fun k e=>by injection e with e;have:=h.lt;omega,h.lt⟩
structure Wm(B rb g:Nat)(w wr:Wo)(r:Value)(ms:List zk)(o:zk):Prop where
 gs:Ge B rb w wr r ms
 op:Zv wr g o
 ge:w.heap.size<=g
theorem Wm.below{B rb g:Nat}{w w1 w2:Wo}{r:Value}{ms:List zk}{o:zk}(h:Wm B rb g w w1 r ms o)(hb:Bw w1 w2):Wm B rb g w w2 r ms o:=⟨h.gs.below hb,h.op.below hb,h.ge⟩
theorem Wm.step{B rb g:Nat}{w w1 w2:Wo}{r:Value}{ms:List zk}{o:zk}(h:Wm B rb g w w1 r ms o)(d:DS B rb w1 w2):Wm B rb g w w2 r ms o:=
 ⟨h.gs.step d,(d.2.block g h.op.lt fun e=>by injection e with e;have:=h.ge;have:=h.gs.lt;omega).trans h.op,h.ge⟩
theorem Bj{v r:JV}{o:W7}{N:Nat}(hv:zI v)(h:Qs v o= .inr r)(hp:∀ x∈o.path,x.length<=N):(ct r).length<=(ct v).length+max (ct v).length (ct o.val).length+6*N+4:=by
 have b:=Bh hp;unfold Qs at h;split at h
 ·have:=FA hv (Yu h);omega
 ·split at h
  ·have:=Rj hv (Yu h);omega
  ·split at h
   ·have a:=Yu h;unfold JW at a;obtain⟨x,hx,rfl⟩:=yy.1 a;obtain⟨y,g,hp⟩:=Option.bind_eq_some_iff.1 hx;injection hp with hp;subst hp;have f:=YY (u:=o.val) hv g;omega
   ·split at h
    ·split at h
     ·cases h
     ·rename_i m hm;have d:=Vn hv hm;split at h
      ·injection h with h;subst h;omega
      ·split at h
       ·cases h
       ·split at h
        ·cases h
        ·rename_i x hx;have a:=FA (Kv hv hx) (Yu h);have f:=Rj hv hx;omega
    ·split at h
     ·split at h
      ·cases h
      ·rename_i m hm;have d:=Vn hv hm;have a:=FA hv (Yu h);omega
     ·split at h
      ·cases h
      ·split at h
       ·injection h with h;subst h;omega
       ·cases h
theorem Bk(s:Bs):∀ x∈(zG s.data.toList).getD [],x.length<=s.size:=by
 have a:=Zb s
 cases hp:zG s.data.toList with
 | none=>simp
 | some ts=>intro x hx;have:=N6 hp x hx;omega
noncomputable def uO(o:zk):JV:=by
 classical
 exact if h:∃ u:JV,o.val=zi (ct u)/\zI u/\(ct u).length<=20000 then h.choose else .num [48]
theorem Rl(o:zk):zI (uO o)/\(ct (uO o)).length<=20000/\((∃ u:JV,o.val=zi (ct u)/\zI u/\(ct u).length<=20000)->o.val=zi (ct (uO o))):=by
 classical
 unfold uO;by_cases h:∃ u:JV,o.val=zi (ct u)/\zI u/\(ct u).length<=20000
 ·simp only[dif_pos h];exact⟨h.choose_spec.2.1,h.choose_spec.2.2,fun _=>h.choose_spec.1⟩
 ·simp only[dif_neg h];exact⟨(Qe.of Pv).t,by decide,fun k=>absurd k h⟩
def YC(o:zk)(D:Nat⊕JV):Bool:=!Zp o ||(match D with | .inl _=>false | .inr r=>!(decide (zE r<=100/\zo r<=3000)) || decide (2000<(ct r).length))
def Y0(D:Nat⊕JV)(q:List UInt8):Bool×List UInt8:=match D with | .inl _=>((((nx q).1:Int) % 8 !=7),(nx q).2) | .inr _=>(false,q)
def Ug(D:Nat⊕JV)(V:JV):JV:=match D with | .inl _=>V | .inr r=>nv r
noncomputable def dT(V:JV)(o:zk):Nat⊕JV:=Qs V (Ue o (uO o))
noncomputable def Wn(V:JV)(ms:List zk)(o:zk)(q:List UInt8):JV×List zk×List UInt8:=
 if YC o (dT V o)=true then (V,ms,q)else if (Y0 (dT V o) q).1=true then (V,ms,(Y0 (dT V o) q).2)else (Ug (dT V o) V,ms++[o],(Y0 (dT V o) q).2)
noncomputable def Yh(n:Nat):Nat->Nat->JV×List zk×List UInt8->List zk×List UInt8
 | 0,_,s=>s.2
 | m+1,k,s=>if k<n∨40<s.2.2.length then Yh n m (k+1) (Wn s.1 s.2.1 (YA s.1 s.2.2).1 (YA s.1 s.2.2).2)else s.2
noncomputable def KF(V:JV)(most:Nat)(q:List UInt8):List zk×List UInt8:=Yh (1+(nx q).1 % 3) most 0 (V,[],(nx q).2)
theorem Rm{V:JV}{ms:List zk}{o:zk}{q:List UInt8}(hV:J1 V)(hM:YB ms)(ho:Uf o):J1 (Wn V ms o q).1/\YB (Wn V ms o q).2.1/\(Wn V ms o q).2.1.length<=ms.length+1:=by
 unfold Wn;split
 ·exact⟨hV,hM,Nat.le_succ _⟩
 ·rename_i a;have a:YC o (dT V o)=false:=by simpa using a
  unfold YC at a;rw[Bool.or_eq_false_iff]at a;have d:Zp o=true:=by simpa using a.1
  split
  ·exact⟨hV,hM,Nat.le_succ _⟩
  ·refine⟨?_,hM.snoc d ho,by simp⟩;show J1 (Ug (dT V o) V)
   unfold Ug
   cases hD:dT V o with
   | inl c=>exact hV
   | inr r=>
    rw[hD]at a;have f:=a.2;simp only[Bool.or_eq_false_iff,Bool.not_eq_false',decide_eq_true_eq,decide_eq_false_iff_not]at f;have b:=Pu hV.gd (Rl o).1 hD;have e:=OM b.rd b.big b.tw;rw[ye (by omega),ye (by omega)]at e;exact J1.of e
theorem Rn:∀ (n m k:Nat) (s:JV×List zk×List UInt8),J1 s.1->YB s.2.1->YB (Yh n m k s).1/\(Yh n m k s).1.length<=s.2.1.length+m
 | n,0,k,s,_,hM=>⟨hM,yd _⟩
 | n,m+1,k,s,hV,hM=>by
  rw[Yh];split
  ·obtain⟨h1,h2,h3⟩:=Rm (q:=(YA s.1 s.2.2).2) hV hM (Ri hV.doc hV.gd hV.len s.2.2);obtain⟨a,b⟩:=Rn n m (k+1) _ h1 h2;exact⟨a,by omega⟩
  ·exact⟨hM,Nat.le_add_right _ _⟩
structure YD(B rb:Nat)(w wr:Wo)(q:List UInt8)(r:Value)(ms:List zk):Prop where
 ds:DX B rb w q wr
 row:qX wr w.heap.size r ms
 lt:rb<w.heap.size
theorem YD.below{B rb:Nat}{w w1 w2:Wo}{q:List UInt8}{r:Value}{ms:List zk}(h:YD B rb w w1 q r ms)(hb:Bw w1 w2):YD B rb w w2 q r ms:=⟨h.ds.below hb,ZI h.row hb,h.lt⟩
theorem YD.step{B rb:Nat}{w w1 w2:Wo}{q q':List UInt8}{r:Value}{ms:List zk}(h:YD B rb w w1 q r ms)(d:DX B rb w1 q' w2):YD B rb w w2 q' r ms:=⟨h.ds.step d,GO h.row d.gr fun k e=>by injection e with e;have:=h.lt;omega,h.lt⟩
structure YE(B rb g:Nat)(w wr:Wo)(q:List UInt8)(r:Value)(ms:List zk)(o:zk):Prop where
 gs:YD B rb w wr q r ms
 op:Zv wr g o
 ge:w.heap.size<=g
theorem YE.below{B rb g:Nat}{w w1 w2:Wo}{q:List UInt8}{r:Value}{ms:List zk}{o:zk}(h:YE B rb g w w1 q r ms o)(hb:Bw w1 w2):YE B rb g w w2 q r ms o:=⟨h.gs.below hb,h.op.below hb,h.ge⟩
theorem YE.step{B rb g:Nat}{w w1 w2:Wo}{q q':List UInt8}{r:Value}{ms:List zk}{o:zk}(h:YE B rb g w w1 q r ms o)(d:DX B rb w1 q' w2):YE B rb g w w2 q' r ms o:=
 ⟨h.gs.step d,(d.gr.block g h.op.lt fun e=>by injection e with e;have:=h.ge;have:=h.gs.lt;omega).trans h.op,h.ge⟩
theorem Bl(B rb:Nat)(v:JV)(most:Nat)(q0:List UInt8)(w:Wo)(h:Zy w B rb q0)(hd:J1 v)(hm:most<=100):
  Calls prog 38 #[.pointer (some ⟨rb,0,none⟩),.string (zi (ct v)),.int .i64 (most:Int)] w fun e w'=>∃ r,e= .returned r/\qX w' w.heap.size r (KF v most q0).1/\DX B rb w (KF v most q0).2 w':=by
 obtain⟨i0,hi,hz0,hz1,hz2⟩:=info_parts Fx;have hA:=ZJ w (.cells #[] 59);have hrb:=h.lt;have hBr:=h.ge;have Z:Hid (YD B rb w (w.alloc (.cells #[] 59)) q0 (.slice (some ⟨w.heap.size,0,none⟩) 0 0) []):=⟨(DX.refl h).below hA,Rd w 59 4,hrb⟩;have HX0:=zh fun wx (s:Zy wx B rb q0)=>QS B rb q0 wx s;have HX:=zh fun q wx (s:Zy wx B rb q)=>QS B rb q wx s;have HL:=zh fun q wx (s:Zy wx B rb q)=>L2 B rb q wx s;have G:Hid (∀ (V:JV) (q:List UInt8) wx,J1 V->Zy wx B rb q->Calls prog 84 #[.pointer (some ⟨rb,0,none⟩),.string (zi (ct V))] wx fun e w'=>e= .returned (.agg (qo (YA V q).1))/\DX B rb wx (YA V q).2 w'):=fun V q wx hV s=>Bd B rb V q wx s hV.doc hV.gd hV.len;have HV0:=zh hd;have hx:=Qo q0;unfold KF;clear hA h hd;generalize (nx q0).1=x at *;generalize (nx q0).2=q1 at *;obtain⟨n,hn⟩:∃ n:Nat,n=1+x % 3:=⟨_,rfl⟩;rw[← hn];generalize hRR:Yh n most 0 (v,[],q1)=RR at *;have HRR:=zh hRR;have hnI:1+(x:Int) % 3=(n:Int):=by omega
 have hnb:n<=3:=by omega
 clear hRR hn;go_in;go_wp2_with fail;refine (uh HX0 _ (uh Z).ds.rd).mono ?_;rintro e w1 ⟨rfl,d1⟩;have HS1:=zh ((uh Z).step d1);clear d1 Z HX0;go_wp2_with fail;go_loopw [1,7,9] (fun vv r i wr=>∃ (V:JV) (F:List zk) (k:Nat) (q:List UInt8),vv= .string (zi (ct V))/\i= .int .i64 (k:Int)/\k<=most/\F.length<=k/\Hid (J1 V)/\Hid (YD B rb w wr q r F)/\Hid (Yh n (most - k) k (V,F,q)=RR)) (fun _ _ i _=>most - (intOf i).toNat)
 case atStart=>exact⟨v,[],0,q1,rfl,rfl,yr _,yr _,uh HV0,uh HS1,uh HRR⟩
 case round=>
  obtain⟨V,F,k,q,rfl,rfl,hk,hml,H,J,HR⟩:=hrel;clear HV0 HS1 HRR;obtain⟨b,l⟩:∃ b:Bool,decide (k<most/\(k<n∨40<q.length))=b:=⟨_,rfl⟩;have HB:=zh l;clear l;go_upto_region 4 with fail;go_cut [30]from 18 to 30 (fun y wx=>y= .bool b/\YD B rb w wx q u7 F)
  case first=>
   have l:=uh HB;by_cases h1:k<most
   ·have e1:(k:Int)<(most:Int):=by omega
    by_cases h2:k<n
    ·have e2:(k:Int)<(n:Int):=by omega
     obtain rfl:true=b:=by rw[← l];simp[h1,h2]
     clear l;go_wp2;go_meet
     case rel=>exact⟨rfl,uh J⟩
    ·have e2:¬ (k:Int)<(n:Int):=by omega
     have HC:=zh (uh HL q _ (uh J).ds.rd);have hql:=(uh J).ds.rd.len;by_cases h3:40<q.length
     ·have e3:(40:Int)<(q.length:Int):=by omega
      obtain rfl:true=b:=by rw[← l];simp[h1,h3]
      clear l h3;generalize q.length=ql at *;go_wp2_with fail;refine (uh HC).mono ?_;rintro e U ⟨rfl,S⟩;have E:=zh ((uh J).step S);clear HC S;go_wp2;go_meet
      case rel=>exact⟨rfl,uh E⟩
     ·have e3:¬ (40:Int)<(q.length:Int):=by omega
      obtain rfl:false=b:=by rw[← l];simp[h1,h2,h3]
      have e4:decide ((40:Int)<(q.length:Int))=false:=by simp;omega
      clear l h3;generalize q.length=ql at *;go_wp2_with fail;refine (uh HC).mono ?_;rintro e U ⟨rfl,S⟩;have E:=zh ((uh J).step S);clear HC S;go_wp2;go_meet
      case rel=>exact⟨by first | rfl | rw[e4],uh E⟩
   ·have e1:¬ (k:Int)<(most:Int):=by omega
    obtain rfl:false=b:=by rw[← l];simp[h1]
    clear l;go_wp2;go_meet
    case rel=>exact⟨rfl,uh J⟩
  obtain⟨rfl,hS⟩:=hcut;have J:=zh hS;clear hS
  cases b with
  | false=>
   have hE:(F,q)=RR:=by
    have l:=of_decide_eq_false (uh HB);have s:=uh HR;by_cases h1:k<most
    ·rw[show most - k=(most - (k+1))+1 by omega,Yh,ye (fun h=>l ⟨h1,h⟩)]at s;exact s
    ·rw[show most - k=0 by omega,Yh]at s;exact s
   have HE:=zh hE;clear HL HX G hE;go_wp2;go_ret;exact⟨u7,rfl,by rw[← uh HE];exact (uh J).row,by rw[← uh HE];exact (uh J).ds⟩
  | true=>
   have l:=of_decide_eq_true (uh HB);have hkm:=l.1;have s:=uh HR;rw[show most - k=(most - (k+1))+1 by omega,Yh,yf l.2]at s;simp only at s;have d:=zh s;have HC:=zh (uh G V q _ (uh H) (uh J).ds.rd);have L:=Ri (uh H).doc (uh H).gd (uh H).len q;clear l s HB HR;generalize (YA V q).1=o at *;generalize (YA V q).2=u at *;go_wp2_with fail;refine (uh HC).mono ?_;rintro e U ⟨rfl,S⟩;have hS2:=(uh J).step S;have I:Hid (YE B rb U.heap.size w (U.alloc (.cells (qo o) 59)) u u7 F o):=⟨hS2.below (ZJ U _),yF U _,hS2.ds.size⟩;obtain⟨gu,lu,hu0⟩:=Rl o;have hu:zY o.kind=true->o.val=zi (ct (uO o)):=fun h=>hu0 (L.val h);have M:=zh fun wx=>Bc V (uO o) o wx (uh H).gd (by have:=(uh H).len;omega) (by have:=L.path;omega) (by have:=L.src;omega) L.k1 L.k6 fun h=>⟨hu h,gu,by omega⟩;have hov:o.val.size<=1048576:=by
    cases hv:zY o.kind with
    | true=>rw[hu hv,zS];omega
    | false=>rw[L.no hv];decide
   have f:=zh (Rm (q:=u) (uh H) (show YB []from ⟨by simp,by simp⟩) L);have hop:=L.path;have hos:=L.src;change Hid (∀ wx,Calls _ _ _ wx fun e w'=>e= .returned (Fv (dT V o))/\_)at M;have p:Hid (∀ r,dT V o= .inr r->zI r/\(ct r).length<=600000):=fun r T=>by
    refine⟨Pu (uh H).gd gu T,?_⟩;have h1:=Bj (N:=40100) (uh H).gd T (fun x hx=>yO (Bk o.path x hx) L.path);have h2:=(uh H).len;have h3:(ct (Ue o (uO o)).val).length<=20000:=lu;omega
   have j:Hid (∀ c,dT V o= .inl c->¬ (c:Int)=0):=fun c T=>by have:=Bi T;omega
   unfold Wn at d f;generalize dT V o=D at *;obtain⟨A,C,hDR⟩:∃ (A:Bs) (C:Int),Fv D= .tuple #[.string A,.int .i64 C]:=by cases D<;>exact⟨_,_,rfl⟩
   rw[hDR]at M;have a:=zh hDR;clear HC S hS2 gu lu hu hu0 L J hDR;go_wp2_with fail;generalize U.heap.size=g at *;generalize U.alloc _=w3 at *;refine (uh M _).mono ?_;rintro e w4 ⟨rfl,b4⟩;have W:=zh ((uh I).below b4);have X:=zh (N9 o w4 (by omega) (by omega) hov);clear M b4 I;obtain⟨c0,c1,c2,c3⟩:=(uh W).op.c;go_upto_region 8 with fail;go_cut [58]from 42 to 58 (fun y wx=>y= .bool (YC o D)/\YE B rb g w wx u u7 F o)
   case first=>
    go_wp2_with fail;refine (uh X).mono ?_;rintro e w5 ⟨rfl,b5⟩;have O:=zh ((uh W).below b5);clear X b5 HL HX G d f
    cases hok:Zp o with
    | false=>
     have m:Hid (YC o D=true):=by show _=_;unfold YC;rw[hok];rfl
     clear hok;go_wp2;go_meet
     case rel=>exact⟨by rw[uh m],uh O⟩
    | true=>
     have HK:=zh hok;clear hok
     cases D with
     | inr r=>
      obtain⟨gr,lr⟩:=uh p r rfl;have hd:=uh a;injection hd with hd;simp only[Array.mk.injEq,List.cons.injEq,Value.string.injEq,Value.int.injEq,true_and,and_true]at hd;obtain⟨rfl,rfl⟩:=hd;have hcn:=FB (zE r) r (yd _) gr.ok;have HW:=zh (DH r gr.ok w5 (by omega) (by omega));obtain⟨qq,hq⟩:∃ q,decide (zE r<=100/\zo r<=3000)=q:=⟨_,rfl⟩;rw[hq]at HW;have hz:(zi (ct r)).size=(ct r).length:=zS _;have m:Hid (YC o (.inr r)=(!qq || decide (2000<(ct r).length))):=by show (!Zp o ||(!decide (zE r<=100/\zo r<=3000) || decide (2000<(ct r).length)))=_;rw[uh HK,hq];rfl
      clear hq hcn gr lr p j a;go_wp2_with fail;refine (uh HW).mono ?_;rintro e w6 ⟨rfl,b6⟩;have z:=zh ((uh O).below b6);clear HW b6 O
      cases qq with
      | false=>
       go_wp2;go_meet
       case rel=>exact⟨by rw[uh m];rfl,uh z⟩
      | true=>
       by_cases hl:(ct r).length<=2000
       ·have e2:((2000:Int)<((zi (ct r)).size:Int))=False:=yP (by omega);have hs:=uh m;rw[yj (by omega)]at hs;have E:=zh hs;clear hl hz hs m;go_wp2;go_meet
        case rel=>exact⟨by rw[uh E];rfl,uh z⟩
       ·have e2:((2000:Int)<((zi (ct r)).size:Int))=True:=eq_true (by omega);have hs:=uh m;rw[yi (by omega)]at hs;have E:=zh hs;clear hl hz hs m;go_wp2;go_meet
        case rel=>exact⟨by rw[uh E];rfl,uh z⟩
     | inl c=>
      have K:=uh j c rfl;have hd:=uh a;injection hd with hd;simp only[Array.mk.injEq,List.cons.injEq,Value.string.injEq,Value.int.injEq,true_and,and_true]at hd;obtain⟨rfl,rfl⟩:=hd;have e0:((c:Int) ==0)=false:=by simpa using K
      have e1:((c:Int)=0)=False:=yP K;have m:Hid (YC o (.inl c)=false):=by show _=_;unfold YC;rw[uh HK];rfl
      clear K p j a;go_wp2;go_meet
      case rel=>exact⟨by rw[uh m],uh O⟩
   obtain⟨rfl,Q⟩:=hcut;have I:=zh Q;clear Q X W c0 c1 c2 c3
   cases hsk:YC o D with
   | true=>
    rw[hsk,yf rfl]at d;clear HL HX G hsk;go_wp2;go_roundw
    case rel=>exact⟨V,F,k+1,u,rfl,by go_num,by omega,by omega,uh H,(uh I).gs,uh d⟩
    case measure=>simp[intOf];omega
   | false=>
    rw[hsk,ye (by decide)]at d f;clear hsk;go_upto_region 9 with fail;go_cut [66]from 59 to 66 (fun y wx=>y= .bool (Y0 D u).1/\YE B rb g w wx (Y0 D u).2 u7 F o)
    case first=>
     cases D with
     | inr r=>
      have hd:=uh a;injection hd with hd;simp only[Array.mk.injEq,List.cons.injEq,Value.string.injEq,Value.int.injEq,true_and,and_true]at hd;obtain⟨rfl,rfl⟩:=hd;clear p j a d f;go_wp2;go_meet
      case rel=>exact⟨rfl,uh I⟩
     | inl c=>
      have K:=uh j c rfl;have hd:=uh a;injection hd with hd;simp only[Array.mk.injEq,List.cons.injEq,Value.string.injEq,Value.int.injEq,true_and,and_true]at hd;obtain⟨rfl,rfl⟩:=hd;have e0:((c:Int) !=0)=true:=by simpa using K
      have e1:((c:Int)=0)=False:=yP K;have HC:=zh (uh HX u _ (uh I).gs.ds.rd);have hy:=Qo u;obtain⟨bb,hbb⟩:∃ bb:Bool,(((nx u).1:Int) % 8 !=7)=bb:=⟨_,rfl⟩;have HBB:Hid (Y0 (.inl c) u=(bb,(nx u).2)):=by show (_,_)=_;rw[hbb]
      generalize (nx u).1=y at *;generalize (nx u).2=q3 at *;clear K p j a d f;go_wp2_with fail;refine (uh HC).mono ?_;rintro e w6 ⟨rfl,d6⟩;have z:=zh ((uh I).step d6);clear HC d6;go_wp2;go_meet
      case rel=>exact⟨by rw[uh HBB],by rw[uh HBB];exact uh z⟩
    obtain⟨rfl,Q⟩:=hcut;have I:=zh Q;clear Q
    cases hrd:(Y0 D u).1 with
    | true=>
     rw[hrd,yf rfl]at d;clear HL HX G hrd;go_wp2;go_roundw
     case rel=>exact⟨V,F,k+1,(Y0 D u).2,rfl,by go_num,by omega,by omega,uh H,(uh I).gs,uh d⟩
     case measure=>simp[intOf];omega
    | false=>
     rw[hrd,ye (by decide)]at d f;clear HL HX G hrd;generalize (Y0 D u).2=q4 at *;have aa:=zh (uh f).1;clear f;go_upto_if 68 with fail;go_cut [1]from 67 to 69 (fun y wx=>y= .string (zi (ct (Ug D V)))/\YE B rb g w wx q4 u7 F o)
     case first=>
      cases D with
      | inr r=>
       have hd:=uh a;injection hd with hd;simp only[Array.mk.injEq,List.cons.injEq,Value.string.injEq,Value.int.injEq,true_and,and_true]at hd;obtain⟨rfl,rfl⟩:=hd;have HNV:Hid (zi (ct (nv r))=zi (ct r)):=by show _=_;rw[(VK r).ct]
       clear p j a d aa;go_wp2;go_meet
       case rel=>exact⟨by show _=Value.string (zi (ct (nv r)));rw[uh HNV],uh I⟩
      | inl c=>
       have K:=uh j c rfl;have hd:=uh a;injection hd with hd;simp only[Array.mk.injEq,List.cons.injEq,Value.string.injEq,Value.int.injEq,true_and,and_true]at hd;obtain⟨rfl,rfl⟩:=hd;have e0:((c:Int) ==0)=false:=by simpa using K
       have e1:((c:Int)=0)=False:=yP K;clear K p j a d aa;go_wp2;go_meet
       case rel=>exact⟨rfl,uh I⟩
     obtain⟨rfl,Q⟩:=hcut;obtain⟨c0,c1,c2,c3⟩:=Q.op.c;have P:=Q.below (ZJ wc (.cells (qo o) 59));have lM:=Fy wc o;have HMM:=zh P;have Y:=zh P.gs.row;have HLM:=zh lM;have HGE:=zh P.gs.ds.size;clear Q P lM I H p j a;generalize Ug D V=V' at *;go_wp2_with (at_builtin;refine wpList_append_own _ rfl (.tmp 70) (.tmp 72) 27 rfl w.heap.size 59 i0 (.agg #[.int .i64 0,.string ByteArray.empty,.string ByteArray.empty,.string ByteArray.empty]) 4 56 underlying27 hi hz0 hz1 hz2 rfl (by decide) _ _ _ rfl (uh Y) ⟨wc.heap.size,0,none⟩ 1 1 (Jk o) rfl rfl (uh HLM) (Fz o) (by unfold maxLen;omega) (by omega) (uh HGE) ?_);generalize wc.alloc _=wM at *;intro l6 w6 o6 g6 gx6;clear gx6;have z:Hid (qX w6 w.heap.size l6 (F++[o])):=qX.step o6;have T:=(uh HMM).gs.ds;have R:=fun b l=>((uh Y).lt b l).1;have HDD:Hid (DX B rb w q4 w6):=⟨T.rd.grown g6 (fun e=>by have:=R rb e.symm;omega) (fun b l=>by have:=R b l;omega),VT T.gr g6 R⟩;have hml2:(F++[o]).length<=k+1:=by simp;omega
     clear o6 g6 HMM Y HLM HGE T R;go_wp2;go_roundw
     case rel=>exact⟨V',F++[o],k+1,q4,rfl,by go_num,by omega,hml2,uh aa,⟨uh HDD,uh z,hrb⟩,uh d⟩
     case measure=>simp[intOf];omega
theorem Ro(l:List UInt8)(j:Nat):(List.replicate j l).flatten.length=j*l.length:=by simp
theorem Bm(l:List UInt8)(j:Nat):(List.replicate j l).flatten++l=(List.replicate (j+1) l).flatten:=by rw[List.replicate_succ'];simp
theorem Bn(l:List UInt8)(n:Nat)(w:Wo)(hl:l.length<=100)(hn:n<=30000):
  Calls prog 55 #[.string (zi l),.int .i64 n] w fun e w'=>e= .returned (.string (zi (List.replicate n l).flatten))/\Bw w w':=by
 obtain⟨Q,C,E,F,G⟩:=info_parts VR;have M:Hid (∀ j,j<n->(j+1)*l.length<=3000000/\j*l.length<=3000000):=fun j J=>by
  have V:(j+1)*l.length<=n*l.length:=Nat.mul_le_mul_right _ J;have W:n*l.length<=30000*100:=Nat.mul_le_mul hn hl;have X:j*l.length<=(j+1)*l.length:=Nat.mul_le_mul_right _ (by omega);omega
 go_in;go_wp2;go_loopw [5,6] (fun r k wr=>∃ (j:Nat) (a:List UInt8),k= .int .i64 (j:Int)/\j<=n/\a=(List.replicate j l).flatten/\wr.ownsRow w.heap.size 5 1 r (Lib.byteCells a).length (Lib.byteCells a)/\Bw w wr) (fun _ k _=>n - (intOf k).toNat)
 case atStart=>
  exact⟨0,[],rfl,yr _,by simp,World.ownsRow_lit w #[] 0 (yd _) (by unfold maxLen;omega) rfl,(yG _ _).alloc (yd _) _⟩
 case round=>
  obtain⟨j,a,rfl,J,h,b,B⟩:=hrel;have y:=zh h;have z:=zh B;have x:=B.size;clear h B;by_cases D:j<n
  ·have S:((j:Int)<(n:Int))=True:=eq_true (by omega);obtain⟨R,K⟩:=uh M j D;have O:a.length<=3000000:=by rw[uh y,Ro];exact K
   have A:Hid (a++l=(List.replicate (j+1) l).flatten):=by
    show _=_
    rw[uh y,Bm]
   clear R K;obtain⟨p,U,q,f,I,v,P⟩:=G1 wr l;have g:=v _ _ _ _ _ b;have H:=(uh z).trans (I.mono x);have d:=zh f;clear f v b;go_wp2_with (at_builtin;refine wpList_append_own _ rfl (.tmp 13) (.tmp 15) 22 rfl w.heap.size 5 Q (.int .u8 0) 1 1 underlying22 C E F G rfl (by decide) _ _ _ rfl g ⟨wr.heap.size,0,none⟩ l.length p (Lib.byteCells l) rfl (by rw[yJ];omega) (by exact uh d) (GZ _) (by rw[yJ];unfold maxLen;omega) (by rw[yJ];omega) (by omega) ?_;intro Y T i s _;have L:Bw w T:=H.grown s (by omega) (fun k hk=>(g.lt k hk).1));have o:=qh (m:=l) i rfl rfl;clear i s g d H q I z;go_wp2;go_roundw
   all_goals first
    | exact⟨j+1,a++l,by go_num,by omega,uh A,o,L⟩
    |(simp[intOf];omega)
  ·have S:((j:Int)<(n:Int))=False:=yP (by omega);have u:j=n:=by omega
   have A:Hid (a=(List.replicate n l).flatten):=by show _=_;rw[← u];exact uh y
   have q:=VS b;have N:=zh b;clear u b;go_wp2;go_ret;exact⟨by rw[← uh A];rfl,uh z⟩
abbrev KG(t:List UInt8):Obj:=.cells #[.string (zi t)] 9 (0,0)
theorem Bo(ob:Nat)(t:List UInt8)(s:List UInt8)(c1 c2 c3 c4 c5 c6:Value)(w:Wo)(h:w.heap[ob]?=some (KG t)):
  Calls prog 111 #[.agg #[.string (zi s),c1,c2,c3,c4,c5,c6],.pointer (some ⟨ob,0,none⟩)] w fun e w'=>e= .returned (.bool (s ==t))/\Bw w w':=by
 have a:ob<w.heap.size:=(yA.1 h).1;have k:∀ o,(w.alloc o).cell? ⟨ob,0,none⟩=some (.string (zi t)):=fun o=>yE (((Zx w o).block ob a).trans h) 0;have b:=Uq s t;rw[← b];clear h b;generalize zi s=d at *;generalize zi t=f at *;go_in;go_wp2;go_ret;exact⟨rfl,Zx w _⟩
theorem Rp(g ob:Nat)(t:List UInt8)(w:Wo)(hg:w.heap[g]?=some (.cells qm 135 (0,0)))(h:w.heap[ob]?=some (KG t)):
  Calls prog 136 #[.slice (some ⟨g,0,none⟩) 6 6,.func (Fn.func 111) #[] #[.pointer (some ⟨ob,0,none⟩)]] w fun e w'=>e= .returned (.int .i64 (QD (ZO t)))/\Bw w w':=by
 have x:=zh hg;have y:=zh h;clear hg h;go_in;go_wp2_with fail;go_loopw [8] (fun i wr=>∃ j:Nat,j<=6/\i= .int .i64 (j:Int)/\Bw w wr/\∀ n:Nat,n<j->¬ (ZO t)=(n:Int)+1) (fun i _=>6 - (intOf i).toNat)
 case atStart=>exact⟨0,by omega,rfl,yG _ _,fun n d=>by omega⟩
 case round=>
  obtain⟨j,M,rfl,o,d⟩:=hrel;by_cases u:j<6
  ·have hg:=(o.block g (yA.1 (uh x)).1).trans (uh x);have A:=(o.block ob (yA.1 (uh y)).1).trans (uh y);obtain⟨B,E,F,G,H,I,C⟩:=Fs hg u rfl;have q:=zh (Bo ob t (Zk ((j:Int)+1)) (.int .i64 ((j:Int)+1)) (.bool (Zh ((j:Int)+1))) (.bool (zY ((j:Int)+1))) (.bool (Jo ((j:Int)+1))) (.bool (Jp ((j:Int)+1))) (Qt ((j:Int)+1)) wr A);rw[Tv (t:=t) (k:=(j:Int)+1) (by omega) (by omega)]at q;obtain⟨m,b⟩:∃ m,Qt ((j:Int)+1)= .func (Fn.func m) #[] #[]:=by
    unfold Qt
    repeat' split
    all_goals exact⟨_,rfl⟩
   rw[b]at q C;clear b;unfold qW at B;generalize zi (Zk ((j:Int)+1))=Q at *;generalize Zh ((j:Int)+1)=L at *;generalize zY ((j:Int)+1)=f at *;generalize Jo ((j:Int)+1)=N at *;generalize Jp ((j:Int)+1)=O at *;have D:=zh d;clear hg A d;go_wp2_with fail;refine (uh q).mono ?_;rintro e P ⟨rfl,z⟩;have l:=zh (zj o z);clear q z o B E F G H I C;by_cases p:(j:Int)+1=(ZO t)
   ·have a:(((j:Int)+1) ==(ZO t))=true:=by simpa using p
    rw[a];have f:QD (ZO t)=(j:Int):=by unfold QD;rw[yf (by omega)];omega
    have s:=zh f;clear p a f;go_wp2;go_ret;exact⟨by rw[uh s];rfl,uh l⟩
   ·have a:(((j:Int)+1) ==(ZO t))=false:=by simpa using p
    rw[a];have r:Hid (∀ n:Nat,n<j+1->¬ (ZO t)=(n:Int)+1):=fun n d e=>by
     by_cases v:n=j
     ·subst v;exact p e.symm
     ·exact uh D n (by omega) e
    clear p a;go_wp2;go_roundw
    case rel=>exact⟨j+1,by omega,by go_num,uh l,uh r⟩
    case measure=>simp[intOf];omega
  ·have f:QD (ZO t)= -1:=by
    unfold QD;rw[ye];intro ⟨J,K⟩;exact d ((ZO t) - 1).toNat (by omega) (by omega)
   have s:=zh f;clear f d;go_wp2;go_ret;exact⟨by rw[uh s];rfl,o⟩
theorem Bp(ob:Nat)(t:List UInt8)(w:Wo)(h:w.heap[ob]?=some (KG t))(h1:1<=(ZO t))(h2:(ZO t)<=6):
  Calls prog 93 #[.func (Fn.func 111) #[] #[.pointer (some ⟨ob,0,none⟩)]] w fun e w'=>e= .returned (.tuple #[.agg (Wk (ZO t)),.bool true])/\Bw w w':=by
 have D:ob<w.heap.size:=(yA.1 h).1;obtain⟨j,O,K⟩:∃ j:Nat,j<6/\(ZO t)=(j:Int)+1:=⟨((ZO t) - 1).toNat,by omega,by omega⟩;have r:QD (ZO t)=(j:Int):=by unfold QD;rw[yf ⟨h1,h2⟩];omega
 have f:=fun (w:Wo) (g:Nat) (hg:w.heap[g]?=some (.cells qm 135 (0,0)))=>Fs hg O K;have E:∃ q,Qt (ZO t)= .func (Fn.func q) #[] #[]:=by
  unfold Qt
  repeat' split
  all_goals exact⟨_,rfl⟩
 obtain⟨q,b⟩:=E;unfold Wk;rw[b]at f ⊢;generalize qW (ZO t)=wb at *;generalize Zh (ZO t)=S at *;generalize zY (ZO t)=T at *;generalize Jo (ZO t)=sf at *;generalize Jp (ZO t)=sp at *;have o:=zh f;have p:=zh r;clear f r b;have C:=Zx w (.cells qM 135);have M:=yF w (.cells qM 135);have v:(w.alloc (.cells qM 135)).heap.size=w.heap.size+1:=by simp
 have H:=zh ((C.block ob D).trans h);have I:=zh (Kj (w.alloc (.cells qM 135)));have N:=zh C;have l:=zh M;clear h C M;go_in;go_wp2_with fail;unfold qM at *;generalize (w.alloc (.cells #[.string ⟨#[]⟩,.int .i64 0,.bool false,.bool false,.bool false,.bool false,.nilFunc] 135))=d at *;refine (uh I).mono ?_;rintro e w1 ⟨rfl,rfl⟩;have u:=Zx d (.cells qm 135);have F:=yF d (.cells qm 135);have x:(d.alloc (.cells qm 135)).heap.size=d.heap.size+1:=by simp
 have J:=zh (Rp d.heap.size ob t (d.alloc (.cells qm 135)) F ((u.block ob (by omega)).trans (uh H)));have m:=zh F;have k:=zh (zj (uh N) u);have n:=zh ((u.block w.heap.size (by omega)).trans (uh l));have A:=zh v;have B:=zh x;clear I u F H l v x;generalize (d.alloc (.cells qm 135))=wB at *;generalize d.heap.size=G at *;go_wp2_with fail;refine (uh J).mono ?_;rintro e i ⟨rfl,s⟩;rw[uh p];have v:=uh A;have x:=uh B;have L:=(s.block G (by omega)).trans (uh m);obtain⟨U,V,W,X,Y,Z,q6⟩:=uh o _ _ L;have a:=(s.block w.heap.size (by omega)).trans (uh n);have c0:i.cell? ⟨w.heap.size,0,none⟩=some (.string ⟨#[]⟩):=yE a 0;have c1:i.cell? ⟨w.heap.size,1,none⟩=some (.int .i64 0):=yE a 1;have c2:i.cell? ⟨w.heap.size,2,none⟩=some (.bool false):=yE a 2;have c3:i.cell? ⟨w.heap.size,3,none⟩=some (.bool false):=yE a 3;have c4:i.cell? ⟨w.heap.size,4,none⟩=some (.bool false):=yE a 4;have Q:i.cell? ⟨w.heap.size,5,none⟩=some (.bool false):=yE a 5;have R:i.cell? ⟨w.heap.size,6,none⟩=some .nilFunc:=yE a 6;have fz:=yH a;have z:=zh a;have y:=zh (zj (uh k) s);clear J k m n L a s v x o p h1 h2;clear K;have P:(j:Int)<6:=by omega
 go_wp2;refine bodyPost_ret (JZ rfl _ _ w.heap.size 135 #[_,_,_,_,_,_,_] (0,0) _ _ rfl rfl (Jj (uh z) [_,_,_,_,_,_,_] rfl) underlying135 rfl (by kernel_rfl)) rfl ?_;exact⟨rfl,JU (uh y) (yd _) [_,_,_,_,_,_,_] 0⟩
theorem Bq(ob:Nat)(t:List UInt8)(w:Wo)(h:w.heap[ob]?=some (KG t))(hno:¬ (1<=(ZO t)/\(ZO t)<=6)):
  Calls prog 93 #[.func (Fn.func 111) #[] #[.pointer (some ⟨ob,0,none⟩)]] w fun e w'=>e= .returned (.tuple #[.agg qM,.bool false])/\Bw w w':=by
 have v:ob<w.heap.size:=(yA.1 h).1;have k:QD (ZO t)= -1:=by unfold QD;rw[ye hno]
 have j:=zh k;clear k hno;have u:=Zx w (.cells qM 135);have A:=yF w (.cells qM 135);have m:(w.alloc (.cells qM 135)).heap.size=w.heap.size+1:=by simp
 have x:=zh ((u.block ob v).trans h);have y:=zh (Kj (w.alloc (.cells qM 135)));have C:=zh u;have g:=zh A;clear h u A;unfold qM at *;go_in;go_wp2_with fail;generalize (w.alloc (.cells #[.string ⟨#[]⟩,.int .i64 0,.bool false,.bool false,.bool false,.bool false,.nilFunc] 135))=b at *;refine (uh y).mono ?_;rintro e F ⟨rfl,rfl⟩;have l:=Zx b (.cells qm 135);have B:=yF b (.cells qm 135);have n:(b.alloc (.cells qm 135)).heap.size=b.heap.size+1:=by simp
 have z:=zh (Rp b.heap.size ob t (b.alloc (.cells qm 135)) B ((l.block ob (by omega)).trans (uh x)));have f:=zh (zj (uh C) l);have i:=zh ((l.block w.heap.size (by omega)).trans (uh g));have q:=zh m;have r:=zh n;clear y l B x g m n;generalize (b.alloc (.cells qm 135))=H at *;generalize b.heap.size=G at *;go_wp2_with fail;refine (uh z).mono ?_;rintro e d ⟨rfl,s⟩;rw[uh j];have m:=uh q;have n:=uh r;have a:=(s.block w.heap.size (by omega)).trans (uh i);have c0:d.cell? ⟨w.heap.size,0,none⟩=some (.string ⟨#[]⟩):=yE a 0;have c1:d.cell? ⟨w.heap.size,1,none⟩=some (.int .i64 0):=yE a 1;have c2:d.cell? ⟨w.heap.size,2,none⟩=some (.bool false):=yE a 2;have c3:d.cell? ⟨w.heap.size,3,none⟩=some (.bool false):=yE a 3;have c4:d.cell? ⟨w.heap.size,4,none⟩=some (.bool false):=yE a 4;have D:d.cell? ⟨w.heap.size,5,none⟩=some (.bool false):=yE a 5;have E:d.cell? ⟨w.heap.size,6,none⟩=some .nilFunc:=yE a 6;have fz:=yH a;have p:=zh a;have o:=zh (zj (uh f) s);clear z f i a s m n j;go_wp2;refine bodyPost_ret (JZ rfl _ _ w.heap.size 135 #[_,_,_,_,_,_,_] (0,0) _ _ rfl rfl (Jj (uh p) [_,_,_,_,_,_,_] rfl) underlying135 rfl (by kernel_rfl)) rfl ?_;exact⟨rfl,JU (uh o) (yd _) [_,_,_,_,_,_,_] 0⟩
end Go.Proofs.YtpaecnbdoljafaaGreatDoor
