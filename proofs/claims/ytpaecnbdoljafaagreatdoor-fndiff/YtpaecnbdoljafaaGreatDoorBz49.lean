import Derived.Test.YtpaecnbdoljafaaGreatDoorBz41
import Derived.Test.YtpaecnbdoljafaaGreatDoorBz48
set_option maxRecDepth 100000
set_option maxHeartbeats 8000000
namespace Go.Proofs.YtpaecnbdoljafaaGreatDoor
open Go.RowKit Go.Proofs.Tryz
theorem zfU{s t:Bs}{a b:JV}(hb:zI t= .inr b){p:List UInt8}(hp:p∈qR s t):(QF a b p).path.size<=1048576/\(QF a b p).src.size<=1048576/\(QF a b p).val.size<=1048576:=by
 obtain⟨m,h,j⟩:=zdO hp;have d:=ZF.of hb;have l:=d.len;have k:(⟨#[]⟩:Bs).size=0:=rfl;have g:(zh p).size=p.length:=zN _;unfold QF
 cases hv:zr b ((zK p).getD [])with
 | none=>exact⟨by show (zh p).size<=_;omega,by show (⟨#[]⟩:Bs).size<=_;omega,by show (⟨#[]⟩:Bs).size<=_;omega⟩
 | some v=>
  have f:=Yn d.t hv;have i:(zh (ct v)).size=(ct v).length:=zN _
  cases zr a ((zK p).getD [])with
  | none=>exact⟨by show (zh p).size<=_;omega,by show (⟨#[]⟩:Bs).size<=_;omega,by show (zh (ct v)).size<=_;omega⟩
  | some u=>exact⟨by show (zh p).size<=_;omega,by show (⟨#[]⟩:Bs).size<=_;omega,by show (zh (ct v)).size<=_;omega⟩
theorem zfV(s t:Bs):Gt (Qu s t):=by
 refine⟨fun m hm=>?_,by have:=Ca s t;omega⟩
 cases hs:zI s with
 | inl c=>unfold Qu at hm;rw[hs]at hm;simp at hm
 | inr a=>
  cases ht:zI t with
  | inl c=>unfold Qu at hm;rw[hs,ht]at hm;simp at hm
  | inr b=>
   unfold Qu at hm;rw[hs,ht]at hm;simp only at hm;split at hm
   ·obtain rfl:=List.mem_singleton.1 hm;have g:=(ZF.of ht).len;have h:(⟨#[]⟩:Bs).size=0:=rfl;have f:(zh (ct b)).size=(ct b).length:=zN _;exact⟨by show (⟨#[]⟩:Bs).size<=_;omega,by show (⟨#[]⟩:Bs).size<=_;omega,by show (zh (ct b)).size<=_;omega⟩
   ·obtain⟨p,d,rfl⟩:=yP.1 hm;exact zfU ht d
theorem Ov{s:Bs}{v:JV}(h:zI s= .inr v):Zx s= .tuple #[.string (zh (ct v)),.int .i64 0]:=by unfold Zx;rw[h]
theorem Ow{s:Bs}{c:Nat}(h:zI s= .inl c):Zx s= .tuple #[.string ⟨#[]⟩,.int .i64 (c:Int)]:=by unfold Zx;rw[h]
structure zfW(s t:Bs)(A B:Bs):Prop where
 none:((qR s t).length=0)↔A=B
 app:Y1 s t=true->Ze s (Qu s t)=(B,0,0)
theorem zfX{s t:Bs}{a b:JV}(hs:zI s= .inr a)(ht:zI t= .inr b):zfW s t (zh (ct a)) (zh (ct b)):=by
 refine⟨(zes hs ht).trans ⟨fun h=>by rw[h],fun h=>?_⟩,fun h=>?_⟩
 ·have:=congrArg (fun x:Bs=>x.data.toList) h;simpa [zh]using this
 ·unfold Y1 at h;rw[hs,ht]at h;simp only[Bool.and_eq_true,decide_eq_true_eq]at h;exact zer hs ht h.1 h.2
theorem zfY(xa:Option Addr)(xb xo xc:Nat)(l:List UInt8)(w:Wo)(hw:qQ w)(hg:YC w)(h:BS w xa xb xo l)(hc:l.length<=xc):
  Calls prog 3 #[.slice xa l.length xc] w fun e w'=>e= .returned (.bool true)/\Bw w w':=by
 by_cases hl:l.length<=1048576
 ·have tl:((1048576:Int)<(l.length:Int))=False:=yR (by omega);have HD:=ze (za2 xa xb xo xc l w h hl hc);have O:=ze hw;have HG:=ze hg;clear h hc hl hw hg;go_in;go_wp2_with fail;refine (uh HD).mono ?_;rintro e w1 ⟨s,t,hs,ht,rfl,b1⟩;have D:=ze b1;have p:=ze fun wx=>Wi s wx (by omega);have r:=ze fun wx=>Wi t wx (by omega);have C:Hid (∀ wx,qQ wx->Calls prog 8 #[.string s,.string t] wx fun e w'=>∃ v,e= .returned (.tuple #[v,.bool (Qf s t)])/\qg w' wx.heap.size v (Qu s t)/\Bw wx w'):=fun wx h=>zex s t wx h (by omega) (by omega);have u:Hid (∀ wx,qQ wx->Calls prog 9 #[.string s,.string t] wx fun e w'=>∃ v,e= .returned (.tuple #[v,.bool (Qf s t)])/\OT w' wx.heap.size v (qR s t)/\Bw wx w'):=fun wx h=>zdN s t wx h (by omega) (by omega);have I:=ze fun wx=>za7 s t wx (by omega) (by omega);have m:Hid (∀ (x:Value) (wx:Wo),Zr Yk wx x (Qu s t) x.ownBlock.toList->qQ wx->YC wx->Calls prog 11 #[.string s,x] wx (Rb (.tuple #[.string (Ze s (Qu s t)).1,.int .i64 (Ze s (Qu s t)).2.1,.int .i64 (Ze s (Qu s t)).2.2]) wx)):=fun x wx h1 h2 h3=>SH s x (Qu s t) _ wx h1 (zfV s t) (by omega) h2 h3;clear HD b1 hs ht;by_cases j:∃ a b,zI s= .inr a/\zI t= .inr b
  ·obtain⟨a,b,K,L⟩:=j;have hA:=zfX K L;have U:Qf s t=true:=by unfold Qf;rw[K,L]
   rw[Ov K]at p;rw[Ov L]at r;rw[U]at C u;have HN:=ze hA.none;have N:=ze hA.app;have aa:=RZ s t;have hdl:=Ca s t;clear K L hA U;generalize zh (ct a)=A at *;generalize zh (ct b)=B at *;generalize Qu s t=ms at *;generalize qR s t=W at *;go_wp2_with fail;refine (uh p _).mono ?_;rintro e w2 ⟨rfl,P⟩;have o:=ze (zi (uh D) P);clear p P D;go_wp2_with fail;refine (uh r _).mono ?_;rintro e w3 ⟨rfl,Q⟩;have g:=ze (zi (uh o) Q);have y:=ze (uh C w3 ((uh O).up (uh g)));clear r Q o C;go_wp2_with fail;refine (uh y).mono ?_;rintro e w4 ⟨v4,rfl,M,R⟩;obtain⟨xa4,xc4,rfl,-,-⟩:=(qg.orow M).1.form;have Y:=ze (qg.orow M).1;have i:=ze (zi (uh g) R);have z:=ze (uh u w4 ((uh O).up (uh i)));clear y R g u M;go_wp2_with fail;refine (uh z).mono ?_;rintro e X ⟨v5,rfl,S,J⟩;obtain⟨xa5,-,xc5,rfl,-,-⟩:=OT.shape S;have H:=ze ((uh Y).below J);have k:=ze (zi (uh i) J);clear z J i Y S;have HR:Hid (∀ q:Bool,Y1 s t=q->Calls prog 10 #[.string s,.string t] X (Rb (.bool q) X)):=fun q F=>F ▸ uh I X;have F:∃ q:Bool,Y1 s t=q:=⟨_,rfl⟩;by_cases hn:W.length=0
   ·obtain rfl:=(uh HN).1 hn;have tn:(W.length:Int)=0:=by omega
    obtain⟨q,F⟩:=F;have n:=ze (uh HR q F);rw[F]at N;clear HN I HR F aa
    cases q with
    | false=>
     clear N m;go_wp2_with fail;refine (uh n).mono ?_;rintro e w6 ⟨rfl,E⟩;have f:=ze (zi (uh k) E);clear E n;go_wp2;go_ret;exact⟨rfl,uh f⟩
    | true=>
     rw[uh N rfl]at m;clear N;go_wp2_with fail;refine (uh n).mono ?_;rintro e w6 ⟨rfl,E⟩;have f:=ze (zi (uh k) E);have G:=ze (uh m _ w6 ((uh H).below E) ((uh O).up (uh f)) ((uh HG).up (uh f)));clear E n m H k;go_wp2_with fail;refine (uh G).mono ?_;rintro e w7 ⟨rfl,Z⟩;have T:=ze (zi (uh f) Z);clear Z G f;go_wp2;go_ret;exact⟨by simp,uh T⟩
   ·have V:¬ A=B:=fun h=>hn ((uh HN).2 h);have tn:((W.length:Int)=0)=False:=yR (by omega);have tn1:((W.length:Int) ==0)=false:=yd.2 (by omega);have tn2:(W.length=0)=False:=yR hn;have tn3:(W=[])=False:=yR fun h=>hn (by rw[h];rfl);have tA:(A=B)=False:=yR V;have tA1:(A.toList ==B.toList)=false:=by
     rw[ByteArray.toList_eq,ByteArray.toList_eq];exact yd.2 fun h=>V ((XR A).symm.trans ((congrArg zh h).trans (XR B)))
    clear hn V;obtain⟨q,F⟩:=F;have n:=ze (uh HR q F);rw[F]at N;clear HN I HR F aa
    cases q with
    | false=>
     clear N m;go_wp2_with fail;refine (uh n).mono ?_;rintro e w6 ⟨rfl,E⟩;have f:=ze (zi (uh k) E);clear E n;go_wp2;go_ret;exact⟨rfl,uh f⟩
    | true=>
     rw[uh N rfl]at m;clear N;go_wp2_with fail;refine (uh n).mono ?_;rintro e w6 ⟨rfl,E⟩;have f:=ze (zi (uh k) E);have G:=ze (uh m _ w6 ((uh H).below E) ((uh O).up (uh f)) ((uh HG).up (uh f)));clear E n m H k;go_wp2_with fail;refine (uh G).mono ?_;rintro e w7 ⟨rfl,Z⟩;have T:=ze (zi (uh f) Z);clear Z G f;go_wp2;go_ret;exact⟨by simp,uh T⟩
  ·have U:Qf s t=false:=by
    unfold Qf
    cases h1:zI s with
    | inl c=>cases zI t<;>rfl
    | inr a=>
     cases h2:zI t with
     | inl c=>rfl
     | inr b=>exact absurd ⟨a,b,h1,h2⟩ j
   have eD:Qu s t=[]:=Cb U;have eC:qR s t=[]:=by
    unfold qR
    cases h1:zI s with
    | inl c=>cases zI t<;>rfl
    | inr a=>
     cases h2:zI t with
     | inl c=>rfl
     | inr b=>exact absurd ⟨a,b,h1,h2⟩ j
   obtain⟨A,c,B,d,e1,e2,hcd⟩:∃ (A:Bs) (c:Nat) (B:Bs) (d:Nat),Zx s= .tuple #[.string A,.int .i64 (c:Int)]/\Zx t= .tuple #[.string B,.int .i64 (d:Int)]/\(c≠0∨c=0/\d≠0):=by
    cases h1:zI s with
    | inl c=>
     have hc:=GK h1
     cases h2:zI t with
     | inl d=>exact⟨_,c,_,d,Ow h1,Ow h2,Or.inl (by omega)⟩
     | inr b=>exact⟨_,c,_,0,Ow h1,Ov h2,Or.inl (by omega)⟩
    | inr a=>
     cases h2:zI t with
     | inl d=>have hd:=GK h2;exact⟨_,0,_,d,Ov h1,Ow h2,Or.inr ⟨rfl,by omega⟩⟩
     | inr b=>exact absurd ⟨a,b,h1,h2⟩ j
   rw[e1]at p;rw[e2]at r;rw[U,eD]at C;rw[U,eC]at u;clear I m j U eD eC e1 e2 HG;rcases hcd with hc |⟨rfl,hd⟩
   ·have t1:((c:Int) ==0)=false:=by simp;omega
    have t2:¬ (c:Int)=0:=by omega
    have t3:(c=0)=False:=yR hc;clear hc;go_wp2_with fail;refine (uh p _).mono ?_;rintro e w2 ⟨rfl,P⟩;have o:=ze (zi (uh D) P);clear p P D;go_wp2_with fail;refine (uh r _).mono ?_;rintro e w3 ⟨rfl,Q⟩;have g:=ze (zi (uh o) Q);have y:=ze (uh C w3 ((uh O).up (uh g)));clear r Q o C;go_wp2_with fail;refine (uh y).mono ?_;rintro e w4 ⟨v4,rfl,M,R⟩;obtain⟨xa4,xc4,rfl,-,-⟩:=(qg.orow M).1.form;have i:=ze (zi (uh g) R);have z:=ze (uh u w4 ((uh O).up (uh i)));clear y R g u M;go_wp2_with fail;refine (uh z).mono ?_;rintro e X ⟨v5,rfl,S,J⟩;obtain⟨xa5,-,xc5,rfl,-,-⟩:=OT.shape S;have k:=ze (zi (uh i) J);clear z J i S;go_wp2;go_ret;exact⟨rfl,uh k⟩
   ·have t1:((d:Int) ==0)=false:=by simp;omega
    have t2:¬ (d:Int)=0:=by omega
    have t3:(d=0)=False:=yR hd;clear hd;go_wp2_with fail;refine (uh p _).mono ?_;rintro e w2 ⟨rfl,P⟩;have o:=ze (zi (uh D) P);clear p P D;go_wp2_with fail;refine (uh r _).mono ?_;rintro e w3 ⟨rfl,Q⟩;have g:=ze (zi (uh o) Q);have y:=ze (uh C w3 ((uh O).up (uh g)));clear r Q o C;go_wp2_with fail;refine (uh y).mono ?_;rintro e w4 ⟨v4,rfl,M,R⟩;obtain⟨xa4,xc4,rfl,-,-⟩:=(qg.orow M).1.form;have i:=ze (zi (uh g) R);have z:=ze (uh u w4 ((uh O).up (uh i)));clear y R g u M;go_wp2_with fail;refine (uh z).mono ?_;rintro e X ⟨v5,rfl,S,J⟩;obtain⟨xa5,-,xc5,rfl,-,-⟩:=OT.shape S;have k:=ze (zi (uh i) J);clear z J i S;go_wp2;go_ret;exact⟨rfl,uh k⟩
 ·have tl:((1048576:Int)<(l.length:Int))=True:=eq_true (by omega);clear hl h hc hw hg;go_in;go_wp2;go_ret;exact⟨rfl,yI _ _⟩
theorem zfZ{W:Wo}(hL:laidMetH prog Rows.fnDiffRow.laid W):Ou W:=by
 have h : laidMet Tryz.prog Xo W ∧ handlesMet Tryz.prog [("errors.errorType", Rows.laid_errors_errorType)] W := hL
 exact⟨⟨Ek h.1,Ep h.1,En h.1⟩,Er h.2⟩
theorem zf0(xa:Option Addr)(xb xo xc:Nat)(l:List UInt8)(w:Wo)(h:BS w xa xb xo l)(hc:l.length<=xc)(hm:ML w)(hv:Ou w):
  Calls prog 3 #[.slice xa l.length xc] w fun e w'=>e= .returned (.bool true)/\Bw w w':=zfY xa xb xo xc l w ⟨qL.of hv.1.1,hv.1.2.1,hv.1.2.2,hm⟩ hv.2 h hc
end Go.Proofs.YtpaecnbdoljafaaGreatDoor
