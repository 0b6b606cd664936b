import Derived.Test.YtpaecnbdoljafaaGreatDoorBz56
import Derived.Test.YtpaecnbdoljafaaGreatDoorBz48
set_option maxRecDepth 100000
set_option maxHeartbeats 8000000
namespace Go.Proofs.YtpaecnbdoljafaaGreatDoor
open Go.RowKit Go.Proofs.Tryz
theorem Aa{ms:List zG}(h:Gw ms)(hl:ms.length<=2):Yl ms<=1048576/\Gt ms:=by
 have i:∀ m∈ms,Gs m<=200000:=fun m hm=>by
  have d:=h.dr m hm;have i:=d.path;have b:=d.src;have f:m.val.size<=20000:=by
   cases f:ZR m.kind with
   | true=>obtain⟨u,g,_,k⟩:=d.val f;rw[g,zN];omega
   | false=>rw[d.no f];decide
  unfold Gs;omega
 have b:Yl ms<=1048576:=by
  unfold Yl;have:∀ l:List zG,(∀ m∈l,Gs m<=200000)->(l.map Gs).sum<=l.length*200000:=fun l=>by
   induction l with
   | nil=>intro _;simp
   | cons a r ih=>
    intro h;have g:=ih fun m hm=>h m (yw _ hm);have j:=h a yq;simp only[yi,yM,yp,Nat.add_mul]at *;omega
  have:=this ms i;have:ms.length*200000<=2*200000:=Nat.mul_le_mul_right _ hl;omega
 exact⟨b,zaf b⟩
def TwP(w:Wo)(e:Ending)(w':Wo):Prop:=∃ (v:JV) (x y:Value) (ms ns:List zG),e= .returned (.tuple #[.string (zh (ct v)),x,y])/\JW v/\Gw ms/\Gw ns/\ms.length<=2/\ns.length<=2/\Zr Yk w' x ms x.ownBlock.toList/\Zr Yk w' y ns y.ownBlock.toList/\Bw w w'
theorem zgu(xa:Option Addr)(xb xo xc:Nat)(l:List UInt8)(w:Wo)(h:BS w xa xb xo l)(hl:l.length<=1048576)(hc:l.length<=xc):
  Calls prog 12 #[.slice xa l.length xc] w (TwP w):=by
 have I:=ze (Dj xa xb xo xc l w h hl hc);clear h hl hc;go_in;go_wp2_with fail;refine (uh I).mono ?_;rintro e S ⟨rfl,L,K,N⟩;have H:=ze (LZ _ _ S L);have u:=ze K;have j:=ze N;clear I L K N;go_wp2_with fail;refine (uh H).mono ?_;rintro e M ⟨v,E,rfl,D⟩;have b:=ze (Pm _ _ v 2 M D.1 E (by omega));have J:=ze E;have a:=ze D;clear H E D;go_wp2_with fail;refine (uh b).mono ?_;rintro e T ⟨x,Q,rfl,o,n,F,r⟩;have d:=ze (Pm _ _ v 2 T r.1 (uh J) (by omega));have ZL:=ze ((uh a).step r.1 r.2);have g:=ze F;have O:=ze o;have z:=ze n;have m:w.heap.size<M.heap.size:=by have:=(uh a).2.size;have:=uh j;omega
 have f:=ze m;obtain⟨V,W,rfl,-,-⟩:=(qg.orow F).1.form;clear b o n F r a m;go_wp2_with fail;refine (uh d).mono ?_;rintro e U ⟨y,R,rfl,q,p,G,s⟩;have C:=ze ((uh ZL).step s.1 s.2);have i:=ze (XG (uh g) s.2 fun k e=>by injection e with e;have:=uh f;omega);have B:=ze G;have P:=ze q;have A:=ze p;obtain⟨X,Y,rfl,-,-⟩:=(qg.orow G).1.form;clear d q p G s ZL g f;go_wp2;go_ret3;exact⟨v,_,_,Q,R,rfl,uh J,uh O,uh P,uh z,uh A,(qg.orow (uh i)).1,(qg.orow (uh B)).1,(uh u).grown (uh C).2 (by have:=uh j;omega) (fun k hk=>by injection hk with hk;omega)⟩
structure CW(w1:Wo)(s:Bs)(x y:Value)(ms ns:List zG)(cb:Bool):Prop where
 tx:∀ wx,Bw w1 wx->Calls prog 14 #[x] wx fun e w'=>∃ r,e= .returned r/\OT w' wx.heap.size r (qU ms)/\Bw wx w'
 ty:∀ wx,Bw w1 wx->Calls prog 14 #[y] wx fun e w'=>∃ r,e= .returned r/\OT w' wx.heap.size r (qU ns)/\Bw wx w'
 ix:∀ wx,Bw w1 wx->Calls prog 16 #[x] wx fun e w'=>∃ r,e= .returned r/\OT w' wx.heap.size r (qU ms)/\Bw wx w'
 iy:∀ wx,Bw w1 wx->Calls prog 16 #[y] wx fun e w'=>∃ r,e= .returned r/\OT w' wx.heap.size r (qU ns)/\Bw wx w'
 cs:∀ wx xa xb xc ya yb yc,Bw w1 wx->SS wx xa xb 0 ((qU ms).map zH)->SS wx ya yb 0 ((qU ns).map zH)->Calls prog 13 #[.slice xa (qU ms).length xc,.slice ya (qU ns).length yc] wx fun e w'=>e= .returned (.bool cb)/\Bw wx w'
 ci:∀ wx xa xb xc ya yb yc,Bw w1 wx->SS wx xa xb 0 ((qU ms).map zH)->SS wx ya yb 0 ((qU ns).map zH)->Calls prog 15 #[.slice xa (qU ms).length xc,.slice ya (qU ns).length yc] wx fun e w'=>e= .returned (.bool cb)/\Bw wx w'
 sx:∀ (X:Bs) (c i:Int) wx,Bw w1 wx->Ze s ms=(X,c,i)->Calls prog 17 #[.string s,x] wx fun e w'=>e= .returned (.tuple #[.string X,.int .i64 c,.int .i64 i])/\Bw wx w'
 sy:∀ (X:Bs) (c i:Int) wx,Bw w1 wx->Ze s ns=(X,c,i)->Calls prog 17 #[.string s,y] wx fun e w'=>e= .returned (.tuple #[.string X,.int .i64 c,.int .i64 i])/\Bw wx w'
 ax:∀ (t X:Bs) (c i:Int) wx,t.size<=20000->Bw w1 wx->Ze t ms=(X,c,i)->Calls prog 11 #[.string t,x] wx fun e w'=>e= .returned (.tuple #[.string X,.int .i64 c,.int .i64 i])/\Bw wx w'
 ay:∀ (t X:Bs) (c i:Int) wx,t.size<=20000->Bw w1 wx->Ze t ns=(X,c,i)->Calls prog 11 #[.string t,y] wx fun e w'=>e= .returned (.tuple #[.string X,.int .i64 c,.int .i64 i])/\Bw wx w'
theorem CW.of{w1:Wo}{s:Bs}{x y:Value}{ms ns:List zG}{bx yb:List Nat}(hw:qQ w1)(hg:YC w1)(ox:Zr Yk w1 x ms bx)(oy:Zr Yk w1 y ns yb)(sm:Yl ms<=1048576)(sn:Yl ns<=1048576)(bm:Gt ms)(bn:Gt ns)(hs:s.size<=20000):CW w1 s x y ms ns (Q0 (QH ms) (QH ns)):=by
 have l:(QH ms).length=(qU ms).length:=by unfold QH;simp
 have m:(QH ns).length=(qU ns).length:=by unfold QH;simp
 refine⟨fun a hx=>E6 x ms _ a (ox.below hx) sm,fun a hx=>E6 y ns _ a (oy.below hx) sn,fun a hx=>E9 x ms _ a (ox.below hx) sm (hw.up hx),fun a hx=>E9 y ns _ a (oy.below hx) sn (hw.up hx),?_,?_,?_,?_,?_,?_⟩
 ·intro a b d f g yb j hx h k;have:=zgf b g d 0 f yb 0 j (QH ms) (QH ns) a h k (OJ bm.1) (OJ bn.1)
  rwa [l,m]at this
 ·intro a b d f g yb j hx h k;have:=zgd b g d 0 f yb 0 j (QH ms) (QH ns) a (hw.up hx).ml h k (OJ bm.1) (OJ bn.1)
  rwa [l,m]at this
 ·intro X c i a hx e;have:=Pl s x ms _ a (ox.below hx) bm.1 (by omega)
  rwa [e]at this
 ·intro X c i a hx e;have:=Pl s y ns _ a (oy.below hx) bn.1 (by omega)
  rwa [e]at this
 ·intro t X c i a n hx e;have:=SH t x ms _ a (ox.below hx) bm (by omega) (hw.up hx) (hg.up hx)
  rwa [e]at this
 ·intro t X c i a n hx e;have:=SH t y ns _ a (oy.below hx) bn (by omega) (hw.up hx) (hg.up hx)
  rwa [e]at this
structure CA(s:Bs)(ms ns:List zG)(X:Bs)(c i:Int)(Y:Bs)(d j:Int):Prop where
 a:Ze s ms=(X,c,i)
 b:Ze s ns=(Y,d,j)
 zx:X.size<=20000
 zy:Y.size<=20000
theorem CA.mk'(s:Bs)(ms ns:List zG):∃ X c i Y d j,CA s ms ns X c i Y d j:=⟨_,_,_,_,_,_,rfl,rfl,Pn s ms,Pn s ns⟩
theorem zgv(xa:Option Addr)(xb xo xc:Nat)(l:List UInt8)(w:Wo)(hw:qQ w)(hg:YC w)(h:BS w xa xb xo l)(hc:l.length<=xc):
  Calls prog 4 #[.slice xa l.length xc] w fun e w'=>e= .returned (.bool true)/\Bw w w':=by
 by_cases hl:l.length<=1048576
 ·have tl:((1048576:Int)<(l.length:Int))=False:=yR (by omega);have HD:=ze (zgu xa xb xo xc l w h hl hc);have HW:=ze hw;have HG:=ze hg;clear h hc hl hw hg;go_in;go_wp2_with fail;refine (uh HD).mono ?_;rintro e w1 ⟨v,x,y,A,B,rfl,hv,hm,hn,lm,ln,ox,oy,Z⟩;have q:=ze Z;have hz:(zh (ct v)).size<=20000:=by rw[zN];exact hv.len
  have im:=Aa hm lm;have iN:=Aa hn ln;have HC:=ze (CW.of ((uh HW).up Z) ((uh HG).up Z) ox oy im.1 iN.1 im.2 iN.2 hz);have W:Hid (Q0 (QH A) (QH B)=false->(Ze (zh (ct v)) A).2.1=0->(Ze (zh (ct v)) B).2.1=0->_):=fun h0 h1 h2=>zgj hm.ok hn.ok (by omega) (by omega) h0 h1 h2;obtain⟨pa,pc,rfl,-,-⟩:=ox.form;obtain⟨qa,qc,rfl,-,-⟩:=oy.form;obtain⟨X,c,i,Y,d,j,u⟩:=CA.mk' (zh (ct v)) A B;have g:=ze u;rw[u.a,u.b]at W;have HZ:=ze hz;clear HD HW HG Z hv hm hn lm ln ox oy im iN u hz;generalize zh (ct v)=s at *;generalize hcb:Q0 (QH A) (QH B)=cb at *;clear hcb;have H1:=ze ((uh HC).tx w1 (yI _ _));go_wp2_with fail;refine (uh H1).mono ?_;rintro e w2 ⟨r2,rfl,o2,b2⟩;obtain⟨ra,rg,rc,rfl,s2,-⟩:=OT.all o2;have S:=ze s2;have N:=ze b2;have H2:=ze ((uh HC).ty w2 b2);clear H1 o2 s2 b2;go_wp2_with fail;refine (uh H2).mono ?_;rintro e w3 ⟨r3,rfl,o3,b3⟩;obtain⟨ta,tg,tc,rfl,s3,-⟩:=OT.all o3;have C:=ze (zi (uh N) b3);have H3:=ze ((uh HC).cs w3 ra rg rc ta tg tc (uh C) ((uh S).below b3) s3);clear H2 o3 s3 b3 N S;go_wp2_with fail;refine (uh H3).mono ?_;rintro e w4 ⟨rfl,b4⟩;have D:=ze (zi (uh C) b4);have H4:=ze ((uh HC).ix w4 (uh D));clear H3 b4 C;go_wp2_with fail;refine (uh H4).mono ?_;rintro e w5 ⟨r5,rfl,o5,b5⟩;obtain⟨ra5,rg5,rc5,rfl,s5,-⟩:=OT.all o5;have T:=ze s5;have E:=ze (zi (uh D) b5);have H5:=ze ((uh HC).iy w5 (uh E));clear H4 o5 s5 b5 D;go_wp2_with fail;refine (uh H5).mono ?_;rintro e w6 ⟨r6,rfl,o6,b6⟩;obtain⟨ra6,rg6,rc6,rfl,s6,-⟩:=OT.all o6;have F:=ze (zi (uh E) b6);have H6:=ze ((uh HC).ci w6 ra5 rg5 rc5 ra6 rg6 rc6 (uh F) ((uh T).below b6) s6);clear H5 o6 s6 b6 E T;go_wp2_with fail;refine (uh H6).mono ?_;rintro e w7 ⟨rfl,b7⟩;have G:=ze (zi (uh F) b7);have H7:=ze ((uh HC).sx X c i w7 (uh G) (uh g).a);clear H6 b7 F;have ecb:(cb !=cb)=false:=by simp
  go_wp2_with fail;refine (uh H7).mono ?_;rintro e w8 ⟨rfl,b8⟩;have H:=ze (zi (uh G) b8);have H8:=ze ((uh HC).sy Y d j w8 (uh H) (uh g).b);clear H7 b8 G ecb;go_wp2_with fail;refine (uh H8).mono ?_;rintro e w9 ⟨rfl,b9⟩;have n:=ze (zi (uh H) b9);clear H8 b9 H;by_cases p:cb=false/\c=0/\d=0
  ·obtain⟨rfl,rfl,rfl⟩:=p;have hq:=uh W rfl rfl rfl;obtain⟨P,e,k,eP⟩:∃ P e k,Ze X B=(P,e,k):=⟨_,_,_,rfl⟩;obtain⟨Q,f,m,eQ⟩:∃ Q f m,Ze Y A=(Q,f,m):=⟨_,_,_,rfl⟩;have V:e=7∨f=7∨(e=0/\f=0/\P=Q):=by
    have U:(Ze X B).2.1=7∨(Ze Y A).2.1=7∨((Ze X B).2.1=0/\(Ze Y A).2.1=0/\(Ze X B).1=(Ze Y A).1):=hq;rw[eP,eQ]at U;exact U
   have r:=ze V;have O:=ze eP;have R:=ze eQ;have H9:=ze ((uh HC).ax s X 0 i w9 (uh HZ) (uh n) (uh g).a);clear hq V eP eQ W;go_wp2_with fail;refine (uh H9).mono ?_;rintro e' wA ⟨rfl,bA⟩;have I:=ze (zi (uh n) bA);have HA:=ze ((uh HC).ay s Y 0 j wA (uh HZ) (uh I) (uh g).b);clear H9 bA n;go_wp2_with fail;refine (uh HA).mono ?_;rintro e' wB ⟨rfl,bB⟩;have J:=ze (zi (uh I) bB);have HB:=ze ((uh HC).ay X P e k wB (uh g).zx (uh J) (uh O));clear HA bB I;go_wp2_with fail;refine (uh HB).mono ?_;rintro e' wC ⟨rfl,bC⟩;have K:=ze (zi (uh J) bC);have HX:=ze ((uh HC).ax Y Q f m wC (uh g).zy (uh K) (uh R));clear HB bC J;go_wp2_with fail;refine (uh HX).mono ?_;rintro e' wD ⟨rfl,bD⟩;have L:=ze (zi (uh q) (zi (uh K) bD));clear HX bD K HC g O R q;by_cases h7:e=7
   ·subst h7;clear r;go_wp2;go_ret;exact⟨rfl,uh L⟩
   ·by_cases h8:f=7
    ·subst h8;have t1:(e ==7)=false:=by simpa using h7
     clear r;go_wp2;go_ret;exact⟨rfl,uh L⟩
    ·obtain⟨rfl,rfl,rfl⟩:e=0/\f=0/\P=Q:=by
      rcases uh r with h | h | h
      ·exact absurd h h7
      ·exact absurd h h8
      ·exact h
     clear r h7 h8;go_wp2;go_ret;exact⟨by simp,uh L⟩
  ·have M:=ze (zi (uh q) (uh n));clear W HC g q n
   cases cb with
   | true=>
    clear p;go_wp2;go_ret;exact⟨rfl,uh M⟩
   | false=>
    by_cases o:c=0
    ·subst o;have z:¬ d=0:=fun h=>p ⟨rfl,rfl,h⟩;have t1:(d !=0)=true:=by simpa using z
     have t2:(d ==0)=false:=by simpa using z
     have t3:(d=0)=False:=yR z;clear p z;go_wp2;go_ret;exact⟨rfl,uh M⟩
    ·have t1:(c !=0)=true:=by simpa using o
     have t2:(c ==0)=false:=by simpa using o
     have t3:(c=0)=False:=yR o;clear p o;go_wp2;go_ret;exact⟨rfl,uh M⟩
 ·have tl:((1048576:Int)<(l.length:Int))=True:=eq_true (by omega);clear hl h hc hw hg;go_in;go_wp2;go_ret;exact⟨rfl,yI _ _⟩
theorem zgw{W:Wo}(hL:laidMetH prog Rows.fnCommuteRow.laid W):Ou W:=by
 have h : laidMet Tryz.prog Xo W ∧ handlesMet Tryz.prog [("errors.errorType", Rows.laid_errors_errorType)] W := hL
 exact⟨⟨Ek h.1,Ep h.1,En h.1⟩,Er h.2⟩
theorem zgx(xa:Option Addr)(xb xo xc:Nat)(l:List UInt8)(w:Wo)(h:BS w xa xb xo l)(hc:l.length<=xc)(hm:ML w)(hv:Ou w):
  Calls prog 4 #[.slice xa l.length xc] w fun e w'=>e= .returned (.bool true)/\Bw w w':=zgv xa xb xo xc l w ⟨qL.of hv.1.1,hv.1.2.1,hv.1.2.2,hm⟩ hv.2 h hc
end Go.Proofs.YtpaecnbdoljafaaGreatDoor
