import Derived.Test.YtpaecnbdoljafaaGreatDoorBz2
set_option maxRecDepth 100000
set_option maxHeartbeats 8000000
namespace Go.Proofs.YtpaecnbdoljafaaGreatDoor
open Go.RowKit Go.Proofs.Tryz
theorem zcn{s:Bs}{i:Nat}(h:s.size<i+6):Qr s i=none:=by
 cases e:Qr s i with
 | none=>rfl
 | some u=>have:=Px e;omega
theorem zco(s:Bs)(i:Nat)(hs:s.size<=1048576)(hi:i<=2000000)(w:Wo):
  Calls prog 160 #[.string s,.int .i64 i] w fun e w'=>w=w'/\e= .returned (.int .i64 (Vr (Qr s i))):=by
 by_cases r:i+6<=s.size
 ·have g:¬ (s.size:Int)<(i:Int)+6:=by omega
  have o:=Zq s i (by omega);have p:=Zq s (i+1) (by omega);by_cases f:bt s i=92
  ·have y:((s[i]'(by omega)).toNat:Int)=92:=by omega
   have z:(((s[i]'(by omega)).toNat:Int) !=92)=false:=by rw[bne_eq_false_iff_eq];omega
   by_cases m:bt s (i+1)=117
   ·have A:(((s[i+1]'(by omega)).toNat:Int) !=117)=false:=by rw[bne_eq_false_iff_eq];omega
    have b:Hid (Qr s i=qW s (i+2) 4):=by show _=_;unfold Qr;rw[yg ⟨f,m⟩]
    have dl:decide ((s.size:Int)<(i:Int)+6)=false:=by simp;omega
    clear f m o p y;go_in;go_wp2;clear z A dl g;go_loopw [5,6] (fun v k wr=>∃ j u:Nat,j<=4/\k= .int .i64 ((j+2:Nat):Int)/\u<16 ^ j/\v= .int .i64 (u:Int)/\qW s (i+2) j=some u/\w=wr) (fun _ k _=>6 - (intOf k).toNat)
    case atStart=>exact⟨0,0,by omega,rfl,by decide,rfl,rfl,rfl⟩
    case round=>
     obtain⟨j,u,G,rfl,H,rfl,hx,rfl⟩:=hrel;have q:=ze hx;clear hx;by_cases E:j<4
     ·have x:u<65536:=by
       have:(16:Nat) ^ j<=16 ^ 3:=Nat.pow_le_pow_right (by decide) (by omega);omega
      have a:i+(j+2)<s.size:=by omega
      have HC:=ze (zbs ((s[i+(j+2)]'a).toNat) (UInt8.toNat_lt _) w);have l:bt s (i+2+j)=(s[i+(j+2)]'a).toNat:=by rw[show i+2+j=i+(j+2)from by omega];exact Zq s _ a
      cases hx1:hx ((s[i+(j+2)]'a).toNat)with
      | some d=>
       have F:=Pu hx1;have n:=ze (UB (uh q) (by rw[l];exact hx1));rw[hx1]at HC;have C:¬ ((d:Int)<0):=by omega
       clear hx1 l;go_wp2_with fail;refine (uh HC).mono ?_;rintro e D ⟨rfl,rfl⟩;clear HC;simp only[Vr,Option.elim];go_wp2;go_roundw
       case rel=>exact⟨j+1,u*16+d,by omega,by go_num,by rw[Nat.pow_succ];omega,by go_num,uh n,trivial⟩
       case measure=>simp[intOf];omega
      | none=>
       have n:Hid (qW s (i+2) 4=none):=Pv (Fg (by rw[l];exact hx1)) (by omega);rw[hx1]at HC;clear hx1 l;go_wp2_with fail;refine (uh HC).mono ?_;rintro e D ⟨rfl,rfl⟩;clear HC;simp only[Vr,Option.elim];go_wp2;go_ret;exact⟨rfl,by rw[uh b,uh n];rfl⟩
     ·have B:j=4:=by omega
      subst B;go_wp2;go_ret;exact⟨rfl,by rw[uh b,uh q];rfl⟩
   ·have A:(((s[i+1]'(by omega)).toNat:Int) !=117)=true:=by rw[bne_iff_ne];omega
    have b:Hid (Qr s i=none):=by show _=_;unfold Qr;rw[yf (fun h=>m h.2)]
    clear f m o p y;go_in;go_wp2;go_ret;exact⟨rfl,by rw[uh b];rfl⟩
  ·have z:(((s[i]'(by omega)).toNat:Int) !=92)=true:=by rw[bne_iff_ne];omega
   have b:Hid (Qr s i=none):=by show _=_;unfold Qr;rw[yf (fun h=>f h.1)]
   clear f o p;go_in;go_wp2;go_ret;exact⟨rfl,by rw[uh b];rfl⟩
 ·have g:(s.size:Int)<(i:Int)+6:=by omega
  have b:=ze (zcn (s:=s) (i:=i) (by omega));go_in;go_wp2;go_ret;exact⟨rfl,by rw[uh b];rfl⟩
theorem zcp{b:Bs}{l:List UInt8}(h:b.data.toList=l):b=zh l:=by
 subst h
 cases b with
 | mk d=>simp[zh]
theorem Ts(s:Bs)(i n:Nat)(l:List UInt8)(h:(s.data.toList.drop i).take n=l):s.extract i (i+n)=zh l:=by
 refine zcp ?_;rw[Lib.extract_data,show i+n - i=n from by omega,h]
theorem zcq{r:Nat}(h:r<128):enc r=[UInt8.ofNat r]:=by
 unfold enc;rw[← Fh (by omega) (by omega)];unfold ZI qj;rw[yg h];rfl
theorem Tt{r:Nat}(h:r<=1114111)(h':r<55296∨57344<=r):ZI r=enc r:=Fh h h'
abbrev zcr(w:Wo)(e:Ending)(w':Wo):Prop:=(∃ t,e= .returned (.tuple #[.string t,.int .i64 0]))/\Bw w w'
abbrev zcs(w:Wo)(t:Bs)(n:Nat)(e:Ending)(w':Wo):Prop:=e= .returned (.tuple #[.string t,.int .i64 (n:Int)])/\Bw w w'
def zct(w:Wo)(o:Option (Nat×Nat))(e:Ending)(w':Wo):Prop:=o.elim (zcr w e w') fun p=>zcs w (zh (enc p.1)) p.2 e w'
theorem zcu(s:Bs)(i:Nat)(w:Wo)(hs:s.size<=1048576)(hi:i<s.size)(hq:bt s i≠34):
  Calls prog 116 #[.string s,.int .i64 i] w (zct w (piece s i)):=by
 have H:=Zq s i hi;have o:piece s i=if bt s i=92 then QQ s i else if bt s i<32 then none else if bt s i<128 then some (bt s i,1)else if rl s i=0 then none else some ((Utf8.decode s i).1,rl s i):=rfl
 by_cases j:128<=bt s i
 ·rw[yf (by omega),yf (by omega),yf (by omega)]at o;have HR:=ze (L7 s i w hi hs);have ab:=Wy s i hi;have J:Hid (¬ rl s i=0->s.extract i (i+rl s i)=zh (enc (Utf8.decode s i).1)):=fun h=>Ts s i (rl s i) _ (Gy s i hi h (by omega)).1.symm;have h':(128:Int)<=(s[i].toNat:Int):=by omega
  have d:=ze o;clear o hq j H;generalize rl s i=n at *;go_in;go_wp2_with fail;refine (uh HR).mono ?_;rintro e R ⟨rfl,l⟩;clear HR;go_wp2;go_ret2;rw[uh d];by_cases P:n=0
  ·subst P;exact⟨⟨_,rfl⟩,l⟩
  ·rw[yf P];exact⟨by rw[← uh J P];rfl,l⟩
 have N:¬ (128:Int)<=(s[i].toNat:Int):=by omega
 by_cases m:bt s i=92
 ·rw[yg m]at o;have O:((s[i].toNat:Int) !=92)=false:=by rw[bne_eq_false_iff_eq];omega
  have K:=ze o;clear o H m hq j;go_in;go_upto_region 8 with fail;go_cut [54]from 42 to 54 (fun x wx=>∃ b:Bool,x= .bool b/\Bw w wx/\(b=true->i+1<s.size/\∃ v,Jt (bt s (i+1))=some v)/\(b=false->QQ s i=(Qr s i).bind (q8 s i)))
  case first=>
   have F:Hid (Jt (bt s (i+1))=none->QQ s i=(Qr s i).bind (q8 s i)):=fun h=>by unfold QQ;rw[h]
   by_cases B:i+1<s.size
   ·have W:(i:Int)+1<(s.size:Int):=by omega
    have k:Hid (Calls prog 159 #[.int .u8 (s[i+1].toNat:Int)] w (Rb (.int .i64 (Vr (Jt (bt s (i+1))))) w)):=by
     rw[Zq s (i+1) B];exact Mn _ (UInt8.toNat_lt _) w
    cases p:Jt (bt s (i+1))with
    | none=>
     have k:Hid (Calls prog 159 #[.int .u8 (s[i+1].toNat:Int)] w (Rb (.int .i64 (-1)) w)):=by rw[p]at k;exact k
     have F:=ze (uh F p);clear p;go_wp2_with fail;refine (uh k).mono ?_;rintro e R ⟨rfl,l⟩;go_wp2;go_meet
     case rel=>exact⟨false,rfl,l,nofun,fun _=>uh F⟩
    | some v=>
     have k:Hid (Calls prog 159 #[.int .u8 (s[i+1].toNat:Int)] w (Rb (.int .i64 (v:Int)) w)):=by rw[p]at k;exact k
     have Q:(0:Int)<=(v:Int):=by omega
     have r:=ze p;clear p;go_wp2_with fail;refine (uh k).mono ?_;rintro e R ⟨rfl,l⟩;go_wp2;go_meet
     case rel=>exact⟨true,rfl,l,fun _=>⟨B,v,uh r⟩,nofun⟩
   ·have W:¬ (i:Int)+1<(s.size:Int):=by omega
    have di:decide ((i:Int)+1<(s.size:Int))=false:=by simp;omega
    have F:=ze (uh F (by rw[Ya s (i+1) (by omega)];rfl));go_wp2;go_meet
    case rel=>exact⟨false,rfl,yI _ _,nofun,fun _=>uh F⟩
  obtain⟨b,rfl,l,D,E⟩:=hcut
  cases b with
  | true=>
   obtain⟨B,v,p⟩:=D rfl;have M:=Zq s (i+1) B;have d:=ze (Vp rfl p);have k:Hid (∀ w,Calls prog 159 #[.int .u8 (s[i+1].toNat:Int)] w (Rb (.int .i64 (v:Int)) w)):=fun w=>by
    have c:=Mn s[i+1].toNat (UInt8.toNat_lt _) w;rw[← M,p]at c;rw[← M];exact c
   have q:=Pw p;have y:ZI v=enc v:=Tt (by omega) (by omega);have G:Hid (∀ w:Wo,(convert 22 9 (.slice (some ⟨w.heap.size,0,none⟩) 1 1)).run prog (w.alloc (.cells #[.int .u8 (v:Int)] 5))= .ok (.string (zh (enc v))) (w.alloc (.cells #[.int .u8 (v:Int)] 5))):=fun w=>by
    rw[← y];exact Wk w (ZI v) #[.int .u8 (v:Int)] 1 (by simp[ZI,qj,q]) (by simp[ZI,qj,q,Lib.byteCells];omega)
   have Q:(0:Int)<=(v:Int):=by omega
   have W:(i:Int)+1<(s.size:Int):=by omega
   have f:=ze l;clear y p D E M l;go_wp2_with fail;refine (uh k _).mono ?_;rintro e S ⟨rfl,U⟩;have T:=zi (uh f) U;have aa:=uh G S;clear k G U;go_wp2;go_ret2;rw[uh K,uh d];exact⟨rfl,T.alloc T.size _⟩
  | false=>
   have d:=ze (E rfl);have L:=ze fun i (h:i<=2000000) w=>zco s i hs h w;have f:=ze l;clear D E l;go_wp2_with fail;refine (uh L i (by omega) _).mono ?_;rintro e S ⟨rfl,rfl⟩
   cases y:Qr s i with
   | none=>
    rw[y]at d;clear y;rw[show Vr none= -1 from rfl];go_wp2;go_ret2;rw[uh K,uh d];exact⟨⟨_,rfl⟩,uh f⟩
   | some u=>
    have V:=Mc y;have a:piece s i=q8 s i u:=by rw[uh K,uh d,y];rfl
    have r:Hid (∀ (z:Int) (u:Nat) w,z=u->u<=1114111->u<55296∨57344<=u->Calls prog 161 #[.int .i64 z] w (Rb (.string (zh (enc u))) w)):=fun z u w hz N O=>by
     subst hz;have c:=Dm u w N;rw[Tt N O]at c;exact c
    rw[show Vr (some u)=(u:Int)from rfl];have u0:((u:Int)<0)=False:=yR (by omega);unfold q8 at a;by_cases g:u<55296∨57344<=u
    ·rw[yg g]at a;have r:=ze fun w=>uh r u u w rfl (by omega) g;have d:=ze a;clear y a;have g:u<55296/\((56320:Int)<=(u:Int))=False/\((u:Int)<55296)=True/\((57344:Int)<=(u:Int))=False∨((56320:Int)<=(u:Int))=True/\((u:Int)<57344)=False/\((u:Int)<55296)=False/\((57344:Int)<=(u:Int))=True:=by
      rcases g with h | h
      ·exact .inl ⟨h,yR (by omega),eq_true (by omega),yR (by omega)⟩
      ·exact .inr ⟨eq_true (by omega),yR (by omega),yR (by omega),eq_true (by omega)⟩
     rcases g with ⟨_,_,_,_⟩ |⟨_,_,_,_⟩
     all_goals
      go_wp2_with fail;refine (uh r _).mono ?_;rintro e X ⟨rfl,Y⟩;clear r;go_wp2;go_ret2;rw[uh d];exact⟨rfl,zi (uh f) Y⟩
    ·rw[yf g]at a;by_cases I:56320<=u
     ·rw[yg I]at a;have u1:((56320:Int)<=(u:Int))=True:=eq_true (by omega);have u2:((u:Int)<57344)=True:=eq_true (by omega);have d:=ze a;clear y a;go_wp2;go_ret2;rw[uh d];exact⟨⟨_,rfl⟩,uh f⟩
     ·rw[yf I]at a;have u1:((56320:Int)<=(u:Int))=False:=yR (by omega);have u2:((u:Int)<55296)=False:=yR (by omega);have u3:((57344:Int)<=(u:Int))=False:=yR (by omega);have d:=ze a;clear y a;go_wp2_with fail;refine (uh L (i+6) (by omega) _).mono ?_;rintro e X ⟨rfl,rfl⟩;clear L
      cases hu2:Qr s (i+6)with
      | none=>
       rw[show Vr none= -1 from rfl];rw[hu2]at d;clear hu2;go_wp2;go_ret2;rw[uh d];exact⟨⟨_,rfl⟩,uh f⟩
      | some v=>
       rw[show Vr (some v)=(v:Int)from rfl];rw[hu2,yB]at d;clear hu2;by_cases C:56320<=v/\v<57344
       ·have v1:((v:Int)<56320)=False:=yR (by omega);have v2:((57344:Int)<=(v:Int))=False:=yR (by omega);have r:=ze fun w=>uh r (65536+((u:Int) - 55296)*1024+(v:Int) - 56320) (65536+(u - 55296)*1024+(v - 56320)) w (by omega) (by omega) (by omega);rw[yg C]at d;have R:55296<=u:=by omega
        have S:u<=56319:=by omega
        have X:56320<=v:=C.1;have w4:v<=57343:=by omega
        clear C g I;go_wp2_with fail;refine (uh r _).mono ?_;rintro e w4 ⟨rfl,Z⟩;clear r;go_wp2;go_ret2;rw[uh d];exact⟨rfl,zi (uh f) Z⟩
       ·rw[yf C]at d;have C:((v:Int)<56320)=True∨((v:Int)<56320)=False/\((57344:Int)<=(v:Int))=True:=by
         by_cases h:v<56320
         ·exact .inl (eq_true (by omega))
         ·exact .inr ⟨yR (by omega),eq_true (by omega)⟩
        rcases C with _ |⟨_,_⟩<;>(go_wp2;go_ret2;rw[uh d];exact⟨⟨_,rfl⟩,uh f⟩)
 ·rw[yf m]at o;have O:((s[i].toNat:Int) !=92)=true:=by rw[bne_iff_ne];omega
  by_cases A:bt s i<32
  ·rw[o,yg A];have I:(s[i].toNat:Int)<32:=by omega
   clear o H m hq j A;go_in;go_wp2;go_ret2;exact⟨⟨_,rfl⟩,yI _ _⟩
  ·rw[o,yf A,yg (by omega),H];have I:¬ (s[i].toNat:Int)<32:=by omega
   have C:((s[i].toNat:Int) ==34)=false:=by rw[yd];omega
   have d3:decide ((s[i].toNat:Int)<32)=false:=by simp;omega
   have J:Hid (s.extract i (i+1)=zh (enc s[i].toNat)):=Ts s i 1 _ (by rw[zcq (by omega),L4,Qw s i hi];rfl);clear o H m hq j A;go_in;go_wp2;go_ret2;exact⟨by rw[← uh J];rfl,yI _ _⟩
def UN(s:Bs)(w:Wo)(o:Option (List UInt8×Nat))(e:Ending)(w':Wo):Prop:=
 Bw w w'/\o.elim (∃ (t:Bs) (k:Nat),k<=s.size+1/\t.size<=4*s.size+4/\e= .returned (.tuple #[.string t,.int .i64 (k:Int),.bool false])) fun q=>e= .returned (.tuple #[.string (zh q.1),.int .i64 (q.2:Int),.bool true])
theorem UO(s:Bs)(i:Nat)(w:Wo)(hs:s.size<=1048576)(hi:i<=s.size+1):
  Calls prog 69 #[.string s,.int .i64 i] w (UN s w (Zz s i)):=by
 obtain⟨i0,R,S,T,U⟩:=info_parts Gf;by_cases f:bt s i=34
 ·have g:i<s.size:=Zb (by rw[f];decide);have F:Hid (Zz s i=qN s (i+1)):=by show _=_;unfold Zz;rw[yg f]
  have I:Jy s i 34=true:=by rw[Vk g,yD,← Zq s i g,f];rfl
  have z:=ze (Gk s (i:Int) i rfl 34 w);rw[I]at z;clear f I;go_in;go_wp2_with fail;refine (uh z).mono ?_;rintro e w1 ⟨rfl,rfl⟩;clear z;go_wp2;go_loopw [1,7] (fun k v wr=>∃ (j:Nat) (b:List UInt8),j<=s.size/\k= .int .i64 (j:Int)/\b.length<=4*j/\wr.ownsRow w.heap.size 5 1 v (Lib.byteCells b).length (Lib.byteCells b)/\Bw w wr/\qN s (i+1)=(qN s j).map fun q=>(b++q.1,q.2)) (fun k _ _=>s.size - (intOf k).toNat)
  case atStart=>
   exact⟨i+1,[],by omega,by go_num,by simp,⟨rfl,.inr ⟨w.heap.size,0,#[],rfl,ye _,yH w _,ye _,by unfold maxLen;omega,rfl,rfl⟩⟩,(yI _ _).alloc (ye _) _,by simp⟩
  case round=>
   obtain⟨j,b,hj,rfl,hal,a,Q,N⟩:=hrel;have u:=ze N;have D:=ze Q;have Z:=Q.size;clear N Q;by_cases K:j<s.size
   ·have P:=Zq s j K;have L:(j:Int)<(s.size:Int):=by omega
    by_cases d:bt s j=34
    ·have t1:((s[j].toNat:Int) !=34)=false:=by rw[bne_eq_false_iff_eq];omega
     have E:Hid (Zz s i=some (b,j+1)):=by
      show _=_
      rw[uh F,uh u,Gz d];simp
     have A:=Gg a;clear a d P;go_wp2;go_ret3;exact⟨uh D,by rw[uh E];rfl⟩
    ·have t1:((s[j].toNat:Int) !=34)=true:=by rw[bne_iff_ne];omega
     have HC:=ze (zcu s j wr hs K d)
     cases hp:piece s j with
     | none=>
      have E:Hid (Zz s i=none):=by
       show _=_
       rw[uh F,uh u,GA d hp];rfl
      rw[hp]at HC;clear a d P hp;go_wp2_with fail;refine (uh HC).mono ?_;rintro e V ⟨⟨t,rfl⟩,H⟩;have C:=zi (uh D) H;clear HC;go_wp2;go_ret3;exact⟨C,by rw[uh E];exact⟨_,j,by omega,yu _,rfl⟩⟩
     | some p=>
      obtain⟨r,n⟩:=p;obtain⟨p1,p2,p3⟩:=VT hp;have hel:=Kx r;have G:Hid (qN s (i+1)=(qN s (j+n)).map fun q=>(b++enc r++q.1,q.2)):=by
       show _=_
       rw[uh u,VV d hp,Option.map_map];congr 1;funext q;simp
      rw[hp]at HC;have t0:((n:Int) ==0)=false:=by rw[yd];omega
      clear d P hp;go_wp2_with fail;refine (uh HC).mono ?_;rintro e V ⟨rfl,H⟩;have C:=zi (uh D) H;have x:=Zd a H;obtain⟨O,W3,A,l,X,M,hs3⟩:=Wl V (enc r);have o:=M _ _ _ _ _ x;have W:=zi C X;have h:=ze l;have Y:=C.size;clear HC l M x a H X D C;go_wp2_with (at_builtin;refine wpList_append_own _ rfl (.tmp 37) (.tmp 39) 22 rfl w.heap.size 5 i0 (.int .u8 0) 1 1 underlying22 R S T U rfl (by decide) _ _ _ rfl o ⟨V.heap.size,0,none⟩ (enc r).length O (Lib.byteCells (enc r)) rfl (by rw[yL];omega) (uh h) (Yi (enc r)) (by rw[yL];unfold maxLen;omega) (by rw[yL];omega) (by omega) ?_);intro v4 w4 y J _;have B4:Bw w w4:=W.grown J (by omega) (fun k hk=>(o.lt k hk).1);have B:=ZY (m:=(enc r)) y rfl rfl;clear y J o h W A;go_wp2;go_roundw
      case rel=>exact⟨j+n,b++(enc r),by omega,by go_num,by rw[yh];omega,B,B4,uh G⟩
      case measure=>simp[intOf];omega
   ·have L:¬ (j:Int)<(s.size:Int):=by omega
    have d1:decide ((j:Int)<(s.size:Int))=false:=by simp;omega
    have E:Hid (Zz s i=none):=by
     show _=_
     rw[uh F,uh u,zbo (by omega)];rfl
    have A:=Gg a;clear a;go_wp2;go_ret3;exact⟨uh D,by rw[uh E];exact⟨_,j+1,by omega,by show b.toArray.size<=_;simp;omega,rfl⟩⟩
 ·have F:Hid (Zz s i=none):=by show _=_;unfold Zz;rw[yf f]
  have I:Jy s i 34=false:=by
   by_cases g:i<s.size
   ·rw[Vk g,yd,← Zq s i g];omega
   ·exact Ul g
  have z:=ze (Gk s (i:Int) i rfl 34 w);rw[I]at z;clear f I;go_in;go_wp2_with fail;refine (uh z).mono ?_;rintro e w1 ⟨rfl,rfl⟩;clear z;go_wp2;go_ret3;exact⟨yI _ _,by rw[uh F];exact⟨_,i,hi,yu _,rfl⟩⟩
theorem Tu{T:Bs}{j j2:Nat}(h:JY T j=some j2)(hj:j<T.size):j<j2/\j2<=T.size:=by
 unfold JY at h;split at h
 ·cases hq:Zz T j with
  | none=>rw[hq]at h;simp at h
  | some q=>
   obtain⟨l,n⟩:=q;rw[hq]at h;simp at h;have:=JX hq;omega
 ·injection h with h;omega
theorem zcv{T:Bs}{o n k g:Nat}(hj:n<=T.size)(h:(if o=0/\Y5 T n=true then some n else qY T g o n)=some k):
  ((¬ o=0∨o=0/\n<T.size/\¬ bt T n=44/\¬ bt T n=93/\¬ bt T n=125)/\qY T g o n=some k)∨((o=0/\n=T.size∨o=0/\n<T.size/\(bt T n=44∨bt T n=93∨bt T n=125))/\n=k):=by
 by_cases b:o=0
 ·by_cases a:Y5 T n=true
  ·rw[yg ⟨b,a⟩]at h;injection h with h;refine .inr ⟨?_,h⟩;by_cases e:n=T.size
   ·exact .inl ⟨b,e⟩
   ·unfold Y5 at a;simp[e]at a;exact .inr ⟨b,by omega,by omega⟩
  ·rw[yf (fun x=>a x.2)]at h;unfold Y5 at a;simp at a;exact .inl ⟨.inr ⟨b,by omega,a.1.1.2,a.1.2,a.2⟩,h⟩
 ·rw[yf (fun x=>b x.1)]at h;exact .inl ⟨.inl b,h⟩
theorem Tv{T:Bs}{j n:Nat}(hn:JY T j=some n):(bt T j≠34->j+1=n)/\(bt T j=34->∃ l,Zz T j=some (l,n)):=by
 unfold JY at hn;refine⟨fun h=>by rw[yf h]at hn;injection hn,fun h=>?_⟩;rw[yg h]at hn
 cases hq:Zz T j with
 | none=>rw[hq]at hn;simp at hn
 | some q=>rw[hq]at hn;simp at hn;exact⟨q.1,by rw[← hn]⟩
theorem Rs{c op o:Nat}(ho:Jd c op=some o):(c=91/\(op:Int)+1=(o:Int))∨(c=123/\(op:Int)+1=(o:Int))∨(c=93/\(op:Int) - 1=(o:Int))∨(c=125/\(op:Int) - 1=(o:Int))∨(¬ c=91/\¬ c=123/\¬ c=93/\¬ c=125/\op=o):=by
 unfold Jd V9 WH at ho;by_cases a:c=91
 ·subst a;simp at ho;omega
 ·by_cases b:c=123
  ·subst b;simp at ho;omega
  ·by_cases d:c=93
   ·subst d;simp at ho;omega
   ·by_cases f:c=125
    ·subst f;simp at ho;omega
    ·simp[a,b,d,f]at ho;omega
theorem Tw{c op o:Nat}(ho:Jd c op=some o):o<=op+1:=by
 rcases Rs ho with h | h | h | h | h<;>omega
theorem bI{a c:Nat}(h:a=c)(x:Nat):((a:Int) ==(x:Int))=decide (c=x):=by rw[Bool.eq_iff_iff,yD,decide_eq_true_iff];omega
theorem Tx(T:Bs)(i k f:Nat)(w:Wo)(hT:T.size<=1048576)(h:qY T f 0 i=some k):
  Calls prog 120 #[.string T,.int .i64 (i:Int)] w fun e w'=>e= .returned (.int .i64 (k:Int))/\Bw w w':=by
 have y:Hid (∀ (j:Nat) (w:Wo),j<T.size->Calls prog 69 #[.string T,.int .i64 j] w (UN T w (Zz T j))):=fun j w hj=>UO T j w hT (by omega);have hi0:i<T.size:=by
  cases f with
  | zero=>simp[qY]at h
  | succ f=>
   rw[qY]at h;split at h
   ·assumption
   ·cases h
 have P:=ze h;clear h;go_in;go_wp2;go_loopw [1,5] (fun iv ov wr=>∃ (j v g:Nat),iv= .int .i64 (j:Int)/\ov= .int .i64 (v:Int)/\j<=T.size/\v<=j/\qY T g v j=some k/\Bw w wr) (fun iv _ _=>T.size - (intOf iv).toNat)
 case atStart=>exact⟨i,0,f,rfl,rfl,by omega,by omega,uh P,yI _ _⟩
 case round=>
  obtain⟨j,v,g,rfl,rfl,hj,hop,d,R⟩:=hrel;clear P;obtain⟨g,rfl⟩:∃ g',g=g'+1:=by cases g with
   | zero=>simp[qY]at d
   | succ g=>exact⟨g,rfl⟩
  rw[qY]at d;by_cases L:j<T.size
  ·rw[yg L]at d;have V:(j:Int)<(T.size:Int):=by omega
   have D:=Zq T j L;obtain⟨n,J,o,s,X⟩:∃ j2,JY T j=some j2/\∃ o,Jd (bt T j) v=some o/\(if o=0/\Y5 T j2=true then some j2 else qY T g o j2)=some k:=by
    cases J:JY T j with
    | none=>rw[J]at d;simp at d
    | some j2=>
     rw[J]at d;simp only[yB]at d
     cases s:Jd (bt T j) v with
     | none=>rw[s]at d;simp at d
     | some o=>rw[s]at d;exact⟨j2,rfl,o,rfl,by simpa using d⟩
   clear d;have G:=Tu J L;have F:=G.2;have hjn:=G.1;obtain⟨r,q⟩:=Tv J;have p:=zcv F X;have I:=ze R;clear J X G R;obtain⟨c,u⟩:∃ c,bt T j=c:=⟨_,rfl⟩;have Y:((T[j].toNat:Int) ==34)=decide (c=34):=bI (D ▸ u) 34;have Z:((T[j].toNat:Int) ==91)=decide (c=91):=bI (D ▸ u) 91;have S:((T[j].toNat:Int) ==123)=decide (c=123):=bI (D ▸ u) 123;have aa:((T[j].toNat:Int) ==93)=decide (c=93):=bI (D ▸ u) 93;have U:((T[j].toNat:Int) ==125)=decide (c=125):=bI (D ▸ u) 125;have tz:((o:Int) ==0)=decide (o=0):=bI rfl 0;have te:((n:Int) ==(T.size:Int))=decide (n=T.size):=bI rfl _;have hoj:=Tw s;rw[u]at r q s;by_cases K:c=34
   ·subst K;obtain⟨l,W⟩:=q rfl;obtain rfl:v=o:=by injection s
    have x:=ze (uh y j wr L);rw[W]at x;clear q r W D u y s;go_wp2_with fail;refine (uh x).mono ?_;rintro e w2 ⟨Q,rfl⟩
    replace I:=ze (zi (uh I) Q)
    clear x Q;rcases p with ⟨p,b⟩ |⟨p,b⟩
    ·have M:=ze b;clear b;rcases p with B |⟨B,b,C,h4,h5⟩
     all_goals (
      try (
         have a:=(Zq T n b).symm;have E:(n:Int)<(T.size:Int):=by omega
         have z:((T[n].toNat:Int) ==44)=decide (bt T n=44):=bI a 44;have A:((T[n].toNat:Int) ==93)=decide (bt T n=93):=bI a 93;have m:((T[n].toNat:Int) ==125)=decide (bt T n=125):=bI a 125;clear a)
      go_wp2
      all_goals (
       go_roundw
       case rel=>exact⟨n,v,g,by go_num,by go_num,F,by omega,uh M,uh I⟩
       case measure=>simp[intOf];omega))
    ·have N:=ze b;clear b;rcases p with ⟨B,b⟩ |⟨B,b,C | C | C⟩
     all_goals (
      try (
         have a:=(Zq T n b).symm;have E:(n:Int)<(T.size:Int):=by omega
         have z:((T[n].toNat:Int) ==44)=decide (bt T n=44):=bI a 44;have A:((T[n].toNat:Int) ==93)=decide (bt T n=93):=bI a 93;have m:((T[n].toNat:Int) ==125)=decide (bt T n=125):=bI a 125;clear a)
      go_wp2
      all_goals (
       go_ret;exact⟨by rw[← uh N];first | rfl | go_num,uh I⟩))
   ·have hnI:(j:Int)+1=(n:Int):=by have:=r K;omega
    have O:=Rs s;clear q r D u y s;rcases O with ⟨rfl,H⟩ |⟨rfl,H⟩ |⟨rfl,H⟩ |⟨rfl,H⟩ |⟨c1,c2,c3,c4,rfl⟩
    all_goals (
     rcases p with ⟨p,b⟩ |⟨p,b⟩
     ·have M:=ze b;clear b;rcases p with B |⟨B,b,C,h4,h5⟩
      all_goals (
       try (
          have a:=(Zq T n b).symm;have E:(n:Int)<(T.size:Int):=by omega
          have z:((T[n].toNat:Int) ==44)=decide (bt T n=44):=bI a 44;have A:((T[n].toNat:Int) ==93)=decide (bt T n=93):=bI a 93;have m:((T[n].toNat:Int) ==125)=decide (bt T n=125):=bI a 125;clear a)
       go_wp2
       all_goals (
        go_roundw
        case rel=>exact⟨n,_,g,by go_num,by go_num,F,by omega,uh M,uh I⟩
        case measure=>simp[intOf];omega))
     ·have N:=ze b;clear b;rcases p with ⟨B,b⟩ |⟨B,b,C | C | C⟩
      all_goals (
       try (
          have a:=(Zq T n b).symm;have E:(n:Int)<(T.size:Int):=by omega
          have z:((T[n].toNat:Int) ==44)=decide (bt T n=44):=bI a 44;have A:((T[n].toNat:Int) ==93)=decide (bt T n=93):=bI a 93;have m:((T[n].toNat:Int) ==125)=decide (bt T n=125):=bI a 125;clear a)
       go_wp2
       all_goals (
        go_ret;exact⟨by rw[← uh N];first | rfl | go_num,uh I⟩)))
  ·rw[yf L]at d;cases d
theorem Ty(T:Bs)(w:Wo)(h0:0<T.size)(h1:bt T 0≠91)(h2:bt T 0≠123):
  Calls prog 74 #[.string T] w fun e w'=>∃ v,e= .returned v/\PR w' w.heap.size v []/\Bw w w':=by
 rw[Zq T 0 h0]at h1 h2;have a:((T[0].toNat:Int) !=91)=true:=by rw[bne_iff_ne];omega
 have b:((T[0].toNat:Int) !=123)=true:=by rw[bne_iff_ne];omega
 have d:(0:Int)<(T.size:Int):=by omega
 clear h1 h2;go_in;go_wp2;go_ret;exact⟨_,rfl,World.ownsRow_lit (base:=w.heap.size) (e:=97) (size:=2) w #[] 0 (ye _) (by unfold maxLen;omega) rfl,(yI _ _).alloc (ye _) _⟩
theorem Tz(l:JL)(hok:qJ l)(w:Wo)(hT:(zh (ct (.arr l))).size<=1000000):
  Calls prog 74 #[.string (zh (ct (.arr l)))] w fun e w'=>∃ v,e= .returned v/\PR w' w.heap.size v (qP 0 (zF l))/\Bw w w':=by
 obtain⟨i0,R,W,X,Y⟩:=info_parts WG;have b:(zh (ct (.arr l))).data.toList=91 ::(joinC (zF l)++[93]):=by rw[Za];rfl
 have y:=Fx (zh (ct (.arr l))) l hok;generalize zh (ct (.arr l))=T at *;generalize zF l=a at *;have h0:0<T.size:=by have:=congrArg List.length b;rw[Zg]at this;simp at this;omega
 have Q:T[0].toNat=91:=by rw[← Zq T 0 h0];unfold bt;rw[b];rfl
 have f1:((T[0].toNat:Int) !=91)=false:=by rw[bne_eq_false_iff_eq];omega
 have f2:((T[0].toNat:Int) ==123)=false:=by rw[yd];omega
 have hI:(0:Int)<(T.size:Int):=by omega
 have hn:a.length<=T.size:=by
  have h1:=KI b;have:∀ k,k<=a.length->k<=pk a k:=by
   intro k;induction k with
   | zero=>intro _;omega
   | succ k ih=>intro d;rw[FB a k (by omega)];have:=ih (by omega);omega
  cases hl:a.length with
  | zero=>omega
  | succ m=>
   have h2:=KH b m (by omega);have h3:=this m (by omega);omega
 have I:Hid (∀ k (d:k<a.length) (w:Wo),pk a k+a[k].length+1<=T.size/\1<=a[k].length/\T.extract (pk a k) (pk a k+a[k].length)=zh a[k]/\pk a (k+1)=pk a k+a[k].length+1/\qP 0 (a.take (k+1))=qP 0 (a.take k)++[(zM k,a[k])] /\
   Calls prog 120 #[.string T,.int .i64 ((pk a k:Nat):Int)] w (Rb (.int .i64 ((pk a k+a[k].length:Nat):Int)) w)):=fun k d w=>by
  have hd:=KG b k d;obtain⟨ht,U⟩:=y a[k] (yt d);obtain⟨f,hf⟩:=ht _ _ hd (Fz _ 93 (.inl rfl));refine⟨KH b k d,?_,MX hd,FB a k d,?_,Tx T _ _ f w (by omega) hf⟩
  ·cases h:a[k]with
   | nil=>exact absurd h U
   | cons _ _=>simp
  ·rw[yz d,MV];simp[Nat.min_eq_left (Nat.le_of_lt d)]
 have p:=ze (KI b);have F:∀ k,k<=a.length->(qP 0 (a.take k)).length=k:=fun k d=>by rw[GF,ym];omega
 have A:=ze F;have o:Hid (∀ (n:Nat) (w:Wo),n<=1000000->Calls prog 119 #[.int .i64 (n:Int)] w (Rb (.string (zh (zM n))) w)):=fun n w hn=>UI n n w (ye _) (by omega);clear b y Q F hok;go_in;go_wp2;go_loopw [3,4] (fun v i wr=>∃ k:Nat,k<=a.length/\i= .int .i64 ((pk a k:Nat):Int)/\PR wr w.heap.size v (qP 0 (a.take k))/\Bw w wr) (fun _ i _=>T.size+1 - (intOf i).toNat)
 case atStart=>exact⟨0,yu _,rfl,World.ownsRow_lit (base:=w.heap.size) (e:=97) (size:=2) w #[] 0 (ye _) (by unfold maxLen;omega) rfl,(yI _ _).alloc (ye _) _⟩
 case round=>
  obtain⟨k,d,rfl,j,O⟩:=hrel;have q:=uh A k d;have L:=ze O;have hwsz:=O.size;clear O;by_cases G:k<a.length
  ·obtain⟨k1,k2,k3,k4,k5,_⟩:=uh I k G w;have M:Hid (∀ w,Calls prog 120 #[.string T,.int .i64 ((pk a k:Nat):Int)] w (Rb (.int .i64 ((pk a k+a[k].length:Nat):Int)) w)):=fun w=>(uh I k G w).2.2.2.2.2;have B:=ze k4;have N:=ze k5;have tl:((pk a k:Nat):Int)<(T.size:Int) - 1:=by omega
   obtain⟨x,len,s,rfl,S⟩:∃ x len s,u3= .slice x len s/\len=k:=by
    rcases j.2 with ⟨V,h0'⟩ |⟨g,s,cur,V,_⟩
    ·exact⟨_,_,_,V,by omega⟩
    ·exact⟨_,_,_,V,q⟩
   obtain rfl:=S;have HD:=ze (uh o len wr (by omega));generalize qP 0 (a.take len)=H at *;generalize pk a len=P at *;generalize a[len]=t at *;obtain⟨E,hE⟩:∃ E,P+t.length=E:=⟨_,rfl⟩;rw[hE]at k3 k1 M B;have hPE:P<=E:=by omega
   clear hE k4 k5 I p o A;go_wp2_with fail;refine (uh HD).mono ?_;rintro e w1 ⟨rfl,J⟩;have p1:=j.below J;have B1:=ze (zi (uh L) J);have hw1:=J.size;clear HD J j L;go_wp2_with fail;refine (uh M _).mono ?_;rintro e w2 ⟨rfl,K⟩;have p2:=p1.below K;have B2:=ze (zi (uh B1) K);have hw2:=K.size;clear M K p1 B1;have r:w2.ownsRow w.heap.size 97 2 (.slice x len s) H.length (H.flatMap Zm):=p2;have hal:H.length<=1000000:=by omega
   go_wp2_with (at_builtin;refine wpList_append_own _ rfl (.tmp 44) (.tmp 51) 94 rfl w.heap.size 97 i0 (.agg #[.string ByteArray.empty,.string ByteArray.empty]) 2 32 underlying94 R W X Y rfl (by decide) _ _ _ rfl (r.alloc _) ⟨w2.heap.size,0,none⟩ 1 1 (Zm (zM len,t)) rfl rfl (Yt _ _ _ _) (fun u hu=>by {simp[Zm]at hu;rcases hu with rfl | rfl<;>rfl}) (by unfold maxLen;omega) (by omega) (by simp;omega) ?_);intro v3 Z z C _;have P3:Hid (PR Z w.heap.size v3 (H++[(zM len,t)])):=by
    show PR Z w.heap.size v3 (H++[(zM len,t)])
    unfold PR;rw[yh,List.flatMap_append,q];simpa using z
   have B3:Hid (Bw w Z):=((uh B2).alloc (by omega) _).grown C (by simp;omega) (fun k d=>(r.lt k d).1);clear z C r p2 B2;go_wp2;go_roundw
   case rel=>exact⟨len+1,by omega,by rw[uh B];go_num,by rw[uh N];exact uh P3,uh B3⟩
   case measure=>simp[intOf];omega
  ·have D:k=a.length:=by omega
   have h2:=uh p;rw[← D]at h2;have tl:¬ ((pk a k:Nat):Int)<(T.size:Int) - 1:=by omega
   have e:a.take k=a:=yr (by omega);rw[e]at j;have HP:=ze j;generalize pk a k=P at *;clear I p o A j e D q;go_wp2;go_ret;exact⟨_,rfl,uh HP,uh L⟩
theorem Rt{T:Bs}{cs:List (List UInt8)}{a c:UInt8}(hTL:T.data.toList=a ::(joinC cs++[c])):cs.length<=T.size:=by
 have b:=KI hTL;have:∀ k,k<=cs.length->k<=pk cs k:=by
  intro k;induction k with
  | zero=>intro _;omega
  | succ k ih=>intro g;rw[FB cs k (by omega)];have:=ih (by omega);omega
 cases hl:cs.length with
 | zero=>omega
 | succ m=>
  have d:=KH hTL m (by omega);have f:=this m (by omega);omega
theorem TA(m:JM)(hok:qG m)(w:Wo)(hT:(zh (ct (.obj m))).size<=1000000):
  Calls prog 74 #[.string (zh (ct (.obj m)))] w fun e w'=>∃ v,e= .returned v/\PR w' w.heap.size v (zJ (zl m))/\Bw w w':=by
 obtain⟨i0,hi0,hz0,hz1,hz2⟩:=info_parts WG;have a:(zh (ct (.obj m))).data.toList=123 ::(joinC ((zJ (zl m)).map zz)++[125]):=by rw[Za];rfl
 have B:∀ p∈zJ (zl m),Jv (zh (ct (.obj m))) p.2/\p.2≠[]/\Lib.validD p.1=true:=fun p hp=>Fy _ m hok p ((qw _).subset hp);generalize zh (ct (.obj m))=T at *;generalize zJ (zl m)=qs at *;have hml:(qs.map zz).length=qs.length:=yl _;have h0:0<T.size:=by have:=congrArg List.length a;rw[Zg]at this;simp at this;omega
 have hb0:T[0].toNat=123:=by rw[← Zq T 0 h0];unfold bt;rw[a];rfl
 have f1:((T[0].toNat:Int) !=91)=true:=by rw[bne_iff_ne];omega
 have f1':((T[0].toNat:Int) !=123)=false:=by rw[bne_eq_false_iff_eq];omega
 have f2:((T[0].toNat:Int) ==123)=true:=by rw[yD];omega
 have hI:(0:Int)<(T.size:Int):=by omega
 have hn:qs.length<=T.size:=by have:=Rt a;omega
 have I:Hid (∀ k (F:k<qs.length) (w:Wo),pk (qs.map zz) k+(quoted qs[k].1).length+1+qs[k].2.length+1<=T.size/\1<=qs[k].2.length/\T.extract (pk (qs.map zz) k+(quoted qs[k].1).length+1) (pk (qs.map zz) k+(quoted qs[k].1).length+1+qs[k].2.length)=zh qs[k].2/\pk (qs.map zz) (k+1)=pk (qs.map zz) k+(quoted qs[k].1).length+1+qs[k].2.length+1/\qs.take (k+1)=qs.take k++[(qs[k].1,qs[k].2)] /\
   Calls prog 120 #[.string T,.int .i64 ((pk (qs.map zz) k+(quoted qs[k].1).length+1:Nat):Int)] w ((Rb (.int .i64 ((pk (qs.map zz) k+(quoted qs[k].1).length+1+qs[k].2.length:Nat):Int)) w)) /\
   Calls prog 69 #[.string T,.int .i64 ((pk (qs.map zz) k:Nat):Int)] w (Rb (.tuple #[.string (zh qs[k].1),.int .i64 ((pk (qs.map zz) k+(quoted qs[k].1).length:Nat):Int),.bool true]) w)):=fun k F w=>by
  have d:k<(qs.map zz).length:=by omega
  have W:=KG a k d;have N:=KH a k d;have O:=FB (qs.map zz) k d;have em:(qs.map zz)[k]=quoted qs[k].1++58 :: qs[k].2:=by simp[zz]
  rw[em]at W N O;rw[List.append_assoc]at W;simp only[yh,yp]at N O;obtain⟨ht,hne,Q⟩:=B qs[k] (yt F);have K:T.data.toList.drop (pk (qs.map zz) k+(quoted qs[k].1).length+1)=qs[k].2++(joinT ((qs.map zz).drop (k+1))++[125]):=by
   have h1:=Jc W;have h2:=ZA (T:=T) (c:=58) (m:=qs[k].2++(joinT ((qs.map zz).drop (k+1))++[125])) (by rw[h1];rfl);exact h2.2.2
  obtain⟨f,hf⟩:=ht _ _ K (Fz _ 125 (.inr rfl));have hs:=VZ qs[k].1 T _ Q (pk (qs.map zz) k) W;refine⟨by omega,?_,MX K,by omega,yz F,Tx T _ _ f w (by omega) hf,?_⟩
  ·cases h:qs[k].2 with
   | nil=>exact absurd h hne
   | cons _ _=>simp
  ·have:=UO T (pk (qs.map zz) k) w (by omega) (by omega);rw[hs]at this;exact this.mono fun e w' h=>⟨h.2,h.1⟩
 have b:=ze (KI a);have l:Hid (∀ (n:Nat) (w:Wo),n<=1000000->Calls prog 119 #[.int .i64 (n:Int)] w (Rb (.string (zh (zM n))) w)):=fun n w hn=>UI n n w (ye _) (by omega);clear a B hb0 hok;rw[hml]at b;go_in;go_wp2;go_loopw [3,4] (fun v i wr=>∃ k:Nat,k<=qs.length/\i= .int .i64 ((pk (qs.map zz) k:Nat):Int)/\PR wr w.heap.size v (qs.take k)/\Bw w wr) (fun _ i _=>T.size+1 - (intOf i).toNat)
 case atStart=>exact⟨0,yu _,rfl,World.ownsRow_lit (base:=w.heap.size) (e:=97) (size:=2) w #[] 0 (ye _) (by unfold maxLen;omega) rfl,(yI _ _).alloc (ye _) _⟩
 case round=>
  obtain⟨k,F,rfl,j,hb⟩:=hrel;have o:(qs.take k).length=k:=by rw[ym];omega
  have X:=ze hb;have hwsz:=hb.size;clear hb;by_cases D:k<qs.length
  ·obtain⟨k1,k2,k3,k4,k5,_,_⟩:=uh I k D w;have H:Hid (∀ w,Calls prog 120 #[.string T,.int .i64 ((pk (qs.map zz) k+(quoted qs[k].1).length+1:Nat):Int)] w ((Rb (.int .i64 ((pk (qs.map zz) k+(quoted qs[k].1).length+1+qs[k].2.length:Nat):Int)) w))):=fun w=>(uh I k D w).2.2.2.2.2.1;have Z:Hid (∀ w,Calls prog 69 #[.string T,.int .i64 ((pk (qs.map zz) k:Nat):Int)] w (Rb (.tuple #[.string (zh qs[k].1),.int .i64 ((pk (qs.map zz) k+(quoted qs[k].1).length:Nat):Int),.bool true]) w)):=fun w=>(uh I k D w).2.2.2.2.2.2;have r:=ze k4;have Y:=ze k5;have tl:((pk (qs.map zz) k:Nat):Int)<(T.size:Int) - 1:=by omega
   obtain⟨x,len,y,rfl,hlv⟩:∃ x len y,u3= .slice x len y/\len=k:=by
    rcases j.2 with ⟨Q,h0'⟩ |⟨g,y,cur,Q,_⟩
    ·exact⟨_,_,_,Q,by omega⟩
    ·exact⟨_,_,_,Q,o⟩
   obtain rfl:=hlv;have HD:=ze (uh l len wr (by omega));generalize qs.take len=S at *;generalize pk (qs.map zz) len=P at *;generalize qs[len].2=t at *;generalize qs[len].1=z at *;obtain⟨M,hM⟩:∃ M,P+(quoted z).length=M:=⟨_,rfl⟩;rw[hM]at k3 k1 H r Z;have hPM:P<=M:=by omega
   have hM1:((M:Nat):Int)+1=((M+1:Nat):Int):=by omega
   obtain⟨J,A⟩:∃ J,M+1=J:=⟨_,rfl⟩;rw[A]at k3 k1 H r hM1;obtain⟨E,hE⟩:∃ E,J+t.length=E:=⟨_,rfl⟩;rw[hE]at k3 k1 H r;have hPE:J<=E:=by omega
   have hPM1:P<J:=by omega
   clear hE hM A k4 k5 I b l;go_wp2_with fail;refine (uh HD).mono ?_;rintro e w1 ⟨rfl,U⟩;have p1:=j.below U;have B1:=ze (zi (uh X) U);have hw1:=U.size;clear HD U j X;go_wp2_with fail;refine (uh Z _).mono ?_;rintro e w1' ⟨rfl,s⟩;have R:=p1.below s;have G:=ze (zi (uh B1) s);have hw1':=s.size;clear Z s p1 B1;go_wp2_with fail;refine (uh H _).mono ?_;rintro e w2 ⟨rfl,V⟩;have p2:=R.below V;have B2:=ze (zi (uh G) V);have hw2:=V.size;clear H V R G;have q:w2.ownsRow w.heap.size 97 2 (.slice x len y) S.length (S.flatMap Zm):=p2;have hal:S.length<=1000000:=by omega
   go_wp2_with (at_builtin;refine wpList_append_own _ rfl (.tmp 44) (.tmp 51) 94 rfl w.heap.size 97 i0 (.agg #[.string ByteArray.empty,.string ByteArray.empty]) 2 32 underlying94 hi0 hz0 hz1 hz2 rfl (by decide) _ _ _ rfl (q.alloc _) ⟨w2.heap.size,0,none⟩ 1 1 (Zm (z,t)) rfl rfl (Yt _ _ _ _) (fun u hu=>by {simp[Zm]at hu;rcases hu with rfl | rfl<;>rfl}) (by unfold maxLen;omega) (by omega) (by simp;omega) ?_);intro v3 w3 C L _;have P3:Hid (PR w3 w.heap.size v3 (S++[(z,t)])):=by
    show PR w3 w.heap.size v3 (S++[(z,t)])
    unfold PR;rw[yh,List.flatMap_append,o];simpa using C
   have B3:Hid (Bw w w3):=((uh B2).alloc (by omega) _).grown L (by simp;omega) (fun k F=>(q.lt k F).1);clear C L q p2 B2;go_wp2;go_roundw
   case rel=>exact⟨len+1,by omega,by rw[uh r];go_num,by rw[uh Y];exact uh P3,uh B3⟩
   case measure=>simp[intOf];omega
  ·have d:k=qs.length:=by omega
   have h2:=uh b;rw[← d]at h2;have tl:¬ ((pk (qs.map zz) k:Nat):Int)<(T.size:Int) - 1:=by omega
   have e:qs.take k=qs:=yr (by omega);rw[e]at j;have HP:=ze j;generalize pk (qs.map zz) k=P at *;clear I b l j e d o;go_wp2;go_ret;exact⟨_,rfl,uh HP,uh X⟩
theorem Ru{α β:Type}(f:α->β):∀ (l1:List β) (l2:List α),l1.Perm (l2.map f)->∃ l3:List α,l3.Perm l2/\l3.map f=l1
 | [],l2,h=>by
  have:=h.length_eq;simp at this;obtain rfl:=yO this.symm;exact⟨[],List.Perm.refl _,rfl⟩
 | a :: r,l2,h=>by
  have g:a∈l2.map f:=h.subset yq;obtain⟨b,i,rfl⟩:=yP.1 g;obtain⟨s,t,rfl⟩:=List.append_of_mem i;have j:r.Perm ((s++t).map f):=by
   rw[yx,yi]at h;rw[yx];exact (h.trans List.perm_middle).cons_inv
  obtain⟨l3,d,rfl⟩:=Ru f r (s++t) j;exact⟨b :: l3,(d.cons b).trans List.perm_middle.symm,rfl⟩
theorem TB{a b:List JV}(h:a.Perm b):dl a=dl b:=by
 induction h with
 | nil=>rfl
 | cons x _ ih=>simp[dl,ih]
 | swap x y l=>simp only[dl];omega
 | trans _ _ h1 h2=>exact h1.trans h2
theorem TC{a b:List JV}(h:a.Perm b):cl a=cl b:=by unfold cl;exact (h.map zj).sum_nat
def FH(v:JV):Prop:=(ct v).length<=1000000->zj v<=1000000->∀ w:Wo,Calls prog 32 #[.string (zh (ct v))] w fun e w'=>e= .returned (.tuple #[.int .i64 (zm v:Int),.int .i64 (zj v:Int)])/\Bw w w'
theorem Rv (T:Bs) (ps:List (List UInt8×List UInt8)) (vs:List JV) (w:Wo) (hpv:ps.map (·.2)=vs.map ct) (hc:cl vs<=1000000) (hd:dl vs<=1000000) (hn:ps.length<=1000000)
  (hp:Calls prog 74 #[.string T] w fun e w'=>∃ v,e= .returned v/\PR w' w.heap.size v ps/\Bw w w')
  (hs:∀ v∈vs,∀ w:Wo,Calls prog 32 #[.string (zh (ct v))] w fun e w'=>e= .returned (.tuple #[.int .i64 (zm v:Int),.int .i64 (zj v:Int)])/\Bw w w'):
  Calls prog 32 #[.string T] w fun e w'=>e= .returned (.tuple #[.int .i64 ((dl vs+1:Nat):Int),.int .i64 ((cl vs+1:Nat):Int)])/\Bw w w':=by
 have G:=ze hp;have X:ps.length=vs.length:=by have:=congrArg List.length hpv;simpa using this
 have d:Hid (∀ k (B:k<ps.length),∃ i z:Nat,dl (vs.take (k+1))=max (dl (vs.take k)) i/\cl (vs.take (k+1))=cl (vs.take k)+z/\i<=dl vs/\z<=cl vs/\∀ w:Wo,Calls prog 32 #[.string (zh ps[k].2)] w (Rb (.tuple #[.int .i64 (i:Int),.int .i64 (z:Int)]) w)):=fun k B=>by
  have b:k<vs.length:=by omega
  have e:ps[k].2=ct vs[k]:=by
   have:=congrArg (fun l=>l[k]?) hpv;simpa [B,b]using this
  refine⟨zm vs[k],zj vs[k],?_,?_,P8 vs k b,?_,?_⟩
  ·rw[yz b];exact PZ _ _
  ·rw[yz b];exact MK _ _
  ·have:=V2 (vs.map zj) k (by simpa using b);simpa [cl]using this
  ·rw[e];exact hs _ (yt b)
 have n:Hid (∀ k,dl (vs.take k)<=dl vs/\cl (vs.take k)<=cl vs):=fun k=>by
  refine⟨MM _ _,?_⟩;unfold cl;rw[List.map_take];exact Fu _ _
 have O:Hid (vs.take ps.length=vs):=yr (by omega);clear hp hs hpv X;go_in;go_wp2_with fail;refine (uh G).mono ?_;rintro e N ⟨Z,rfl,p1,H⟩;have A:=ze p1;have F:=ze H;obtain⟨x,len,o,rfl,u⟩:∃ x len o,Z= .slice x len o/\len=ps.length:=by
  rcases p1.2 with ⟨E,Q⟩ |⟨g,o,P,E,_⟩
  ·exact⟨_,_,_,E,Q.symm⟩
  ·exact⟨_,_,_,E,rfl⟩
 subst u;clear G p1 H;go_wp2_with fail;go_loopw [5,6,7] (fun dv cv iv wr=>∃ k:Nat,k<=ps.length/\iv= .int .i64 (k:Int)/\dv= .int .i64 ((dl (vs.take k):Nat):Int)/\cv= .int .i64 ((cl (vs.take k):Nat):Int)/\Bw N wr) (fun _ _ iv _=>ps.length - (intOf iv).toNat)
 case atStart=>exact⟨0,yu _,rfl,rfl,rfl,yI _ _⟩
 case round=>
  obtain⟨k,B,rfl,rfl,rfl,s⟩:=hrel;by_cases y:k<ps.length
  ·have L:(k:Int)<(ps.length:Int):=by omega
   obtain⟨g,I,U,V,W,c0,c1⟩:=((uh A).below s).cells k y;injection U with he1 he2 he3;subst he1;subst he3;obtain⟨i,z,J,K,S,R,f⟩:=uh d k y;obtain⟨x1,x2⟩:=uh n k;have a:=ze (f wr);have m:=ze J;have q:=ze K;have j:=ze s;generalize dl (vs.take k)=D at *;generalize cl (vs.take k)=C at *;generalize zh ps[k].2=tx at *;clear s f J K c0 d n A;by_cases M:D<i
   ·have Y:((D:Int)<(i:Int))=True:=eq_true (by omega);have h:max D i=i:=by omega
    rw[h]at m;clear M h;go_wp2_with fail;refine (uh a).mono ?_;rintro e w2 ⟨rfl,r⟩;have p:=ze ((uh j).trans (r.mono (uh j).size));clear a r c1;go_wp2;go_roundw
    case rel=>exact⟨k+1,by omega,by go_num,by rw[uh m],by rw[uh q];go_num,uh p⟩
    case measure=>simp[intOf];omega
   ·have Y:((D:Int)<(i:Int))=False:=yR (by omega);have h:max D i=D:=by omega
    rw[h]at m;clear M h;go_wp2_with fail;refine (uh a).mono ?_;rintro e w2 ⟨rfl,r⟩;have p:=ze ((uh j).trans (r.mono (uh j).size));clear a r c1;go_wp2;go_roundw
    case rel=>exact⟨k+1,by omega,by go_num,by rw[uh m],by rw[uh q];go_num,uh p⟩
    case measure=>simp[intOf];omega
  ·have b:k=ps.length:=by omega
   subst b;rw[uh O];have p:=zi (uh F) s;clear d n A F s;go_wp2;go_ret2;exact⟨by first | rfl | go_num,p⟩
mutual
def QR:JV->Nat
 | .arr l=>WL l+1
 | .obj m=>UP m+1
 | .nul=>0
 | .tt=>0
 | .ff=>0
 | .num _=>0
 | .str _=>0
def WL:JL->Nat
 | .nil=>0
 | .cons v r=>max (QR v) (WL r)
def UP:JM->Nat
 | .nil=>0
 | .cons _ v r=>max (QR v) (UP r)
end
mutual
theorem Rw:∀ v:JV,QR v<=zm v
 | .nul=>yu _
 | .tt=>yu _
 | .ff=>yu _
 | .num _=>yu _
 | .str _=>yu _
 | .arr l=>by rw[QR,zm];have:=TD l;omega
 | .obj m=>by rw[QR,zm];have:=TE m;omega
theorem TD:∀ l:JL,WL l<=Yb l
 | .nil=>ye _
 | .cons v r=>by rw[WL,Yb];have:=TD r;have:=Rw v;omega
theorem TE:∀ m:JM,UP m<=JC m
 | .nil=>ye _
 | .cons k v r=>by rw[UP,JC];have:=TE r;have:=Rw v;omega
end
def Vx:List JV->Nat
 | []=>0
 | v :: r=>max (QR v) (Vx r)
theorem zcw{a b:List JV}(h:a.Perm b):Vx a=Vx b:=by
 induction h with
 | nil=>rfl
 | cons x _ ih=>simp[Vx,ih]
 | swap x y l=>simp only[Vx];omega
 | trans _ _ h1 h2=>exact h1.trans h2
theorem TF:∀ m:JM,UP m=Vx (m.toL.map (·.2))
 | .nil=>rfl
 | .cons k v r=>by rw[UP,JM.toL,yi,Vx,TF r]
section
variable {T:Bs}
def ZH(T:Bs)(t:List UInt8)(d:Nat):Prop:=∀ op mo i m f r,op<=mo->T.data.toList.drop i=t++m->JZ T f op (max mo (op+d)) (i+t.length)=some r->∃ f',JZ T f' op mo i=some r
theorem ZH.nil:ZH T [] 0:=fun op mo _ _ f _ ho _ h=>⟨f,by rwa [show max mo (op+0)=mo by omega]at h⟩
theorem ZH.app{a b:List UInt8}{d e:Nat}(ha:ZH T a d)(hb:ZH T b e):ZH T (a++b) (max d e):=fun op mo i m f r ho h he=>by
 rw[List.append_assoc]at h;rw[yh,← Nat.add_assoc,show max mo (op+max d e)=max (max mo (op+d)) (op+e) by omega]at he;obtain⟨g,j⟩:=hb op _ (i+a.length) m f r (by omega) (Jc h) he;exact ha op mo i (b++m) g r ho h j
theorem ZH.one{c:UInt8}(hc:Y6 c):ZH T [c] 0:=fun op mo i m f r ho h he=>by
 obtain⟨b,a,_⟩:=ZA h;refine⟨f+1,?_⟩;rw[JZ,yg b,Vw a hc.1,a,Fv hc];exact he
theorem ZH.plain:∀ {t:List UInt8},(∀ c∈t,Y6 c)->ZH T t 0
 | [],_=>ZH.nil
 | c :: _,h=>ZH.app (a:=[c]) (d:=0) (e:=0) (ZH.one (h c yq)) (ZH.plain fun d hd=>h d (yw _ hd))
theorem ZH.quoted{l:List UInt8}(hv:Lib.validD l=true):ZH T (Go.Proofs.YtpaecnbdoljafaaGreatDoor.quoted l) 0:=fun op mo i m f r ho h he=>by
 obtain⟨b,a,d⟩:=Ra hv h;refine⟨f+1,?_⟩;rw[JZ,yg b,d,a,Rc];exact he
theorem ZH.wrap{t:List UInt8}{a b:UInt8}{d:Nat}(ha:V9 a.toNat=true)(hb:WH b.toNat=true)(ht:ZH T t d):ZH T (a ::(t++[b])) (d+1):=by
 have j:a.toNat≠34:=by intro e;rw[e]at ha;cases ha
 have k:b.toNat≠34:=by intro e;rw[e]at hb;cases hb
 have o:V9 b.toNat=false:=by
  simp only[WH,Bool.or_eq_true,yD]at hb;rcases hb with h | h<;>simp[V9,h]
 intro g s i m f r B h z;have x:T.data.toList.drop i=a ::(t++(b :: m)):=by rw[h];simp
 obtain⟨A,l,u⟩:=ZA x;obtain⟨q,n,y⟩:=ZA (Jc u);have v:JZ T (f+1) (g+1) (max (max s (g+1)) (g+1+d)) (i+1+t.length)=some r:=by
  rw[JZ,yg q,Vw n k,n];simp only[yB,Jd,o,hb,if_true,Bool.false_eq_true,if_false];rw[yf (by omega)];simp only[yB,Nat.add_sub_cancel];rw[show i+1+t.length+1=i+(a ::(t++[b])).length by simp;omega,show max (max (max s (g+1)) (g+1+d)) g=max s (g+(d+1)) by omega];exact z
 obtain⟨w,p⟩:=ht (g+1) _ (i+1) (b :: m) _ r (by omega) u v;refine⟨w+1,?_⟩;rw[JZ,yg A,Vw l j,l];simp only[yB,Jd,ha,if_true];exact p
theorem TG:Y6 44:=⟨by decide,by decide,by decide,by decide,by decide⟩
theorem zcx:Y6 58:=⟨by decide,by decide,by decide,by decide,by decide⟩
mutual
theorem FI:∀ v:JV,zD v->ZH T (ct v) (QR v)
 | .nul,_=>ZH.plain fun c hc=>((UM (l:=[110,117,108,108]) (by simp)).2 c hc).1
 | .tt,_=>ZH.plain fun c hc=>((UM (l:=[116,114,117,101]) (by simp)).2 c hc).1
 | .ff,_=>ZH.plain fun c hc=>((UM (l:=[102,97,108,115,101]) (by simp)).2 c hc).1
 | .num l,h=>ZH.plain fun c hc=>((UL h).2 c hc).1
 | .str l,h=>by rw[zD]at h;exact ZH.quoted h
 | .arr l,h=>by
  rw[zD]at h;rw[QR];refine ZH.wrap rfl rfl ?_
  cases l with
  | nil=>exact ZH.nil
  | cons v r=>
   rw[qJ]at h;exact ZH.app (FI v h.1) (TH r h.2)
 | .obj m,h=>by
  rw[zD]at h;rw[QR];refine ZH.wrap rfl rfl ?_;have hm:=TI m h;obtain⟨qs,hq,he⟩:=Ru (fun q:List UInt8×JV=>(q.1,ct q.2)) (zJ (zl m)) m.toL (by rw[← qh];exact qw _);rw[← he,TF,← zcw (hq.map (·.2))];have hall:∀ q∈qs,ZH T (zz (q.1,ct q.2)) (QR q.2):=fun q hqm=>hm q (hq.subset hqm);clear hm he hq;have hj:∀ qs:List (List UInt8×JV),(∀ q∈qs,ZH T (zz (q.1,ct q.2)) (QR q.2))->ZH T (joinT ((qs.map fun q=>(q.1,ct q.2)).map zz)) (Vx (qs.map (·.2))):=by
   intro qs;induction qs with
   | nil=>intro _;exact ZH.nil
   | cons q r ih=>
    intro hh;have:=ZH.app (a:=[44]) (d:=0) (ZH.one TG) (ZH.app (hh q yq) (ih fun x hx=>hh x (yw _ hx)));rw[show max 0 (max (QR q.2) (Vx (r.map (·.2))))=max (QR q.2) (Vx (r.map (·.2))) by omega]at this;exact this
  cases qs with
  | nil=>exact ZH.nil
  | cons q r=>exact ZH.app (hall q yq) (hj r fun x hx=>hall x (yw _ hx))
theorem TH:∀ l:JL,qJ l->ZH T (joinT (zF l)) (WL l)
 | .nil,_=>ZH.nil
 | .cons v r,h=>by
  rw[qJ]at h;have:=ZH.app (a:=[44]) (d:=0) (ZH.one (T:=T) TG) (ZH.app (FI v h.1) (TH r h.2));rw[show max 0 (max (QR v) (WL r))=max (QR v) (WL r) by omega]at this;exact this
theorem TI:∀ m:JM,qG m->∀ q∈m.toL,ZH T (zz (q.1,ct q.2)) (QR q.2)
 | .nil,_,q,hq=>by simp[JM.toL]at hq
 | .cons k v r,h,q,hq=>by
  rw[qG]at h;rw[JM.toL]at hq;rcases List.mem_cons.1 hq with e | hq
  ·rw[e];have:=ZH.app (ZH.quoted (T:=T) h.1) (ZH.app (a:=[58]) (d:=0) (ZH.one zcx) (FI v h.2.1));rw[show max 0 (max 0 (QR v))=QR v by omega]at this;exact this
  ·exact TI r h.2.2 q hq
end
end
theorem zcy(v:JV)(h:zD v):∃ f,JZ (zh (ct v)) f 0 0 0=some (QR v):=by
 refine FI (T:=zh (ct v)) v h 0 0 0 [] 1 (QR v) (ye _) (by rw[Za];simp) ?_;rw[JZ,yf (by rw[zN];omega)];simp
theorem TJ:∀ (b:Nat) (cs:List (List UInt8)),(qP b cs).map (·.2)=cs
 | _,[]=>rfl
 | b,t :: r=>by simp[qP,TJ (b+1) r]
theorem GJ{c:UInt8}{r:List UInt8}:0<(zh (c :: r)).size/\bt (zh (c :: r)) 0=c.toNat:=by
 refine⟨by rw[zN];simp,?_⟩;unfold bt;rw[Za];rfl
theorem KM(v:JV)(c:UInt8)(r:List UInt8)(hc:ct v=c :: r)(h1:c.toNat≠91)(h2:c.toNat≠123)(hd:zm v=1)(hn:zj v=1):FH v:=by
 intro _ _ w;rw[hd,hn];obtain⟨a,b⟩:=GJ (c:=c) (r:=r);refine Rv (zh (ct v)) [] [] w rfl (by simp[cl]) (by simp[dl]) (by simp) ?_ (fun v hv=>by simp at hv);rw[hc];exact Ty _ w a (by rw[b];exact h1) (by rw[b];exact h2)
mutual
theorem KN:∀ v:JV,zD v->FH v
 | .nul,_=>KM .nul 110 _ rfl (by decide) (by decide) rfl rfl
 | .tt,_=>KM .tt 116 _ rfl (by decide) (by decide) rfl rfl
 | .ff,_=>KM .ff 102 _ rfl (by decide) (by decide) rfl rfl
 | .num l,h=>by
  have hp:=UL h
  cases l with
  | nil=>exact absurd rfl hp.1
  | cons c r=>
   have:=(hp.2 c yq).1;exact KM (.num (c :: r)) c r rfl this.2.1 this.2.2.1 rfl rfl
 | .str l,_=>KM (.str l) 34 (qs l++[34]) rfl (by decide) (by decide) rfl rfl
 | .arr l,h=>by
  rw[zD]at h;intro hlen hcn w;have hs:=TK l h;have hd:=(qz (.arr l)).1;have hct:(ct (.arr l)).length=hold (zF l).length+nl (zF l):=by
   show (ZT (zF l)).length=_
   have:=UK (zF l);simp[ZT];omega
  have e1:zm (.arr l)=dl l.toL+1:=by rw[zm,Vu]
  have e2:zj (.arr l)=cl l.toL+1:=by rw[zj,Vv]
  rw[e1]at hd;rw[e2]at hd hcn;rw[e1,e2];refine Rv _ (qP 0 (zF l)) l.toL w (by rw[TJ,Z6]) (by omega) (by omega) (by rw[GF];unfold hold at hct;omega) (Tz l h w (by rw[zN];exact hlen)) (fun v hv=>?_);obtain⟨k,hk,rfl⟩:=List.getElem_of_mem hv;have c1:zj l.toL[k]<=cl l.toL:=by have:=V2 (l.toL.map zj) k (by simpa using hk);simpa [cl]using this
  have n1:(ct l.toL[k]).length<=nl (zF l):=by have:=V2 ((zF l).map List.length) k (by rw[Z6];simpa using hk);simpa [nl,Z6]using this
  exact hs _ hv (by omega) (by omega)
 | .obj m,h=>by
  rw[zD]at h;intro hlen hcn w;have hs:=TL m h;have hd:=(qz (.obj m)).1;have hct:=Jm m;have e1:zm (.obj m)=dl (m.toL.map (·.2))+1:=by rw[zm,JE]
  have e2:zj (.obj m)=cl (m.toL.map (·.2))+1:=by rw[zj,Ys];simp[cl,Function.comp_def]
  obtain⟨qs,hq,he⟩:=Ru (fun q:List UInt8×JV=>(q.1,ct q.2)) (zJ (zl m)) m.toL (by rw[← qh];exact qw _);have hp2:=hq.map (·.2);rw[e1]at hd;rw[e2]at hd hcn;rw[e1,e2,← TB hp2,← TC hp2];have hml:(zJ (zl m)).length=m.toL.length:=by rw[(qw _).length_eq,qh,yl]
  refine Rv _ (zJ (zl m)) (qs.map (·.2)) w (by rw[← he];simp) (by rw[TC hp2];omega) (by rw[TB hp2];omega) (by unfold hold at hct;omega) (TA m h w (by rw[zN];exact hlen)) (fun v hv=>?_);obtain⟨q,hqm,rfl⟩:=yP.1 hv;have hqm':=hq.subset hqm;have c1:zj q.2<=cl (m.toL.map (·.2)):=by
   have:=V8 (fun q=>zj q.2) hqm';simpa [cl,Function.comp_def]using this
  have n1:=V8 Zo hqm';simp only[Zo]at n1;exact hs q hqm' (by omega) (by omega)
theorem TK:∀ l:JL,qJ l->∀ v∈l.toL,FH v
 | .nil,_,v,hv=>by simp[JL.toL]at hv
 | .cons x r,h,v,hv=>by
  rw[qJ]at h;rw[JL.toL]at hv;rcases List.mem_cons.1 hv with e | hv
  ·rw[e];exact KN x h.1
  ·exact TK r h.2 v hv
theorem TL:∀ m:JM,qG m->∀ q∈m.toL,FH q.2
 | .nil,_,q,hq=>by simp[JM.toL]at hq
 | .cons k x r,h,q,hq=>by
  rw[qG]at h;rw[JM.toL]at hq;rcases List.mem_cons.1 hq with e | hq
  ·rw[e];exact KN x h.2.1
  ·exact TL r h.2.2 q hq
end
theorem zcz (T:Bs) (r f d c:Nat) (w:Wo) (hT:T.size<=1000000) (h:JZ T f 0 0 0=some r) (hrd:r<=d) (hd:d<=1000000) (hc:c<=1000000) (q:Bool) (hq0:q=decide (d<=100/\c<=3000))
  (hs:∀ w:Wo,Calls prog 32 #[.string T] w fun e w'=>e= .returned (.tuple #[.int .i64 (d:Int),.int .i64 (c:Int)])/\Bw w w'):
  Calls prog 28 #[.string T] w fun e w'=>e= .returned (.bool q)/\Bw w w':=by
 have i:=ze hq0;clear hq0;have k:Hid (∀ (j:Nat) (w:Wo),j<T.size->Calls prog 69 #[.string T,.int .i64 j] w (UN T w (Zz T j))):=fun j w hj=>UO T j w (by omega) (by omega);have p:=ze hs;have H0:=ze h;clear h hs;go_in;go_wp2;go_loopw [3,4,5] (fun ov mv iv wr=>∃ (z b j g:Nat),ov= .int .i64 (z:Int)/\mv= .int .i64 (b:Int)/\iv= .int .i64 (j:Int)/\j<=T.size/\z<=b/\b<=j/\JZ T g z b j=some r/\Bw w wr) (fun _ _ iv _=>T.size - (intOf iv).toNat)
 case atStart=>exact⟨0,0,0,f,rfl,rfl,rfl,yu _,ye _,ye _,uh H0,yI _ _⟩
 case round=>
  obtain⟨z,b,j,g,rfl,rfl,rfl,hj,hop,hmo,a,O⟩:=hrel;clear H0;obtain⟨g,rfl⟩:∃ g',g=g'+1:=by cases g with
   | zero=>simp[JZ]at a
   | succ g=>exact⟨g,rfl⟩
  rw[JZ]at a;by_cases L:j<T.size
  ·rw[yg L]at a;have hltI:(j:Int)<(T.size:Int):=by omega
   have E:=Zq T j L;obtain⟨n,I,o,v,X⟩:∃ j2,JY T j=some j2/\∃ o,Jd (bt T j) z=some o/\JZ T g o (max b o) j2=some r:=by
    cases I:JY T j with
    | none=>rw[I]at a;simp at a
    | some j2=>
     rw[I]at a;simp only[yB]at a
     cases v:Jd (bt T j) z with
     | none=>rw[v]at a;simp at a
     | some o=>rw[v]at a;exact⟨j2,rfl,o,rfl,by simpa using a⟩
   clear a;have H:=Tu I L;have G:=H.2;have hjn:=H.1;obtain⟨u,s⟩:=Tv I;have A:=ze O;clear I H O p;obtain⟨x,hx⟩:∃ x,bt T j=x:=⟨_,rfl⟩;have f34:((T[j].toNat:Int) ==34)=decide (x=34):=bI (E ▸ hx) 34;have f91:((T[j].toNat:Int) ==91)=decide (x=91):=bI (E ▸ hx) 91;have f123:((T[j].toNat:Int) ==123)=decide (x=123):=bI (E ▸ hx) 123;have f93:((T[j].toNat:Int) ==93)=decide (x=93):=bI (E ▸ hx) 93;have f125:((T[j].toNat:Int) ==125)=decide (x=125):=bI (E ▸ hx) 125;have hoj:=Tw v;obtain⟨Y,N,M⟩:∃ m,max b o=m/\(b<o/\m=o∨¬ b<o/\m=b):=⟨_,rfl,by omega⟩;rw[N]at X;have U:=ze X;clear X N;rw[hx]at u s v;by_cases K:x=34
   ·subst K;obtain⟨l,hq⟩:=s rfl;obtain rfl:z=o:=by injection v
    have D:=ze (uh k j wr L);rw[hq]at D;obtain rfl:Y=b:=by omega
    have R:¬ (Y:Int)<(z:Int):=by omega
    clear s u hq E hx k v M;go_wp2_with fail;refine (uh D).mono ?_;rintro e Z ⟨B,rfl⟩;have S:=ze (zi (uh A) B);clear D B;go_wp2;go_roundw
    case rel=>exact⟨z,Y,n,g,by go_num,by go_num,by go_num,G,by omega,by omega,uh U,uh S⟩
    case measure=>simp[intOf];omega
   ·have hnI:(j:Int)+1=(n:Int):=by have:=u K;omega
    have W:=Rs v;clear s u E hx k v;rcases W with ⟨rfl,y⟩ |⟨rfl,y⟩ |⟨rfl,y⟩ |⟨rfl,y⟩ |⟨c1,c2,c3,c4,y⟩
    all_goals (
     rcases M with ⟨Q,F⟩ |⟨Q,F⟩
     ·have R:(b:Int)<(o:Int):=by omega
      subst F;go_wp2
      all_goals (
       go_roundw
       case rel=>exact⟨_,_,n,g,by go_num,by go_num,by go_num,G,by omega,by omega,uh U,uh A⟩
       case measure=>simp[intOf];omega)
     ·have R:¬ (b:Int)<(o:Int):=by omega
      subst F;go_wp2
      all_goals (
       go_roundw
       case rel=>exact⟨_,_,n,g,by go_num,by go_num,by go_num,G,by omega,by omega,uh U,uh A⟩
       case measure=>simp[intOf];omega))
  ·rw[yf L]at a;injection a with a;subst a;have A:=ze O;have tl:¬ (j:Int)<(T.size:Int):=by omega
   clear O k;by_cases Q:100<b
   ·have R:(100:Int)<(b:Int):=by omega
    have C:Hid (q=false):=ze (by rw[uh i,decide_eq_false_iff_not];omega);clear Q p;go_wp2;go_ret;exact⟨by rw[uh C];rfl,uh A⟩
   ·have R:¬ (100:Int)<(b:Int):=by omega
    have HC:=ze (uh p wr);clear Q p;by_cases P:d<=100
    ·have t1:((d:Int)<=100)=True:=eq_true (by omega);have s1:decide ((d:Int)<=100)=true:=yj (by omega);by_cases V:c<=3000
     ·have t2:((c:Int)<=3000)=True:=eq_true (by omega);have s2:decide ((c:Int)<=3000)=true:=yj (by omega);have C:Hid (q=true):=ze (by rw[uh i,decide_eq_true_iff];exact⟨P,V⟩);clear P V;go_wp2_with fail;refine (uh HC).mono ?_;rintro e Z ⟨rfl,B⟩;have J:=zi (uh A) B;clear HC;go_wp2;go_ret;exact⟨by rw[uh C];rfl,J⟩
     ·have t2:((c:Int)<=3000)=False:=yR (by omega);have s2:decide ((c:Int)<=3000)=false:=yk (by omega);have C:Hid (q=false):=ze (by rw[uh i,decide_eq_false_iff_not];omega);clear P V;go_wp2_with fail;refine (uh HC).mono ?_;rintro e Z ⟨rfl,B⟩;have J:=zi (uh A) B;clear HC;go_wp2;go_ret;exact⟨by rw[uh C];rfl,J⟩
    ·have t1:((d:Int)<=100)=False:=yR (by omega);have s1:decide ((d:Int)<=100)=false:=yk (by omega);have C:Hid (q=false):=ze (by rw[uh i,decide_eq_false_iff_not];omega);clear P;go_wp2_with fail;refine (uh HC).mono ?_;rintro e Z ⟨rfl,B⟩;have J:=zi (uh A) B;clear HC;go_wp2;go_ret;exact⟨by rw[uh C];rfl,J⟩
theorem Rx(v:JV)(hok:zD v)(w:Wo)(hl:(ct v).length<=1000000)(hc:zj v<=1000000):
  Calls prog 28 #[.string (zh (ct v))] w fun e w'=>e= .returned (.bool (decide (zm v<=100/\zj v<=3000)))/\Bw w w':=by
 obtain⟨f,a⟩:=zcy v hok;have b:=(qz v).1;exact zcz _ (QR v) f (zm v) (zj v) w (by rw[zN];exact hl) a (Rw v) (by omega) hc _ rfl (fun w=>KN v hok hl hc w)
theorem zcA (s:Bs) (i:Nat) (w:Wo) (hs:s.size<=1048576) (hi:i<s.size) (h91:bt s i=91)
  (IH:∀ (j:Nat) (w:Wo),i<j->j<=s.size->Calls prog 26 #[.string s,.int .i64 j] w (GP w (val s j))):
  Calls prog 67 #[.string s,.int .i64 i] w (GP w (val s i)):=by
 have z:=ze (PM s hs);have g0:=z8 s (i+1);have g1:=(Q6 (s:=s) (i:=i+1) (by omega)).2;have HV:=ze (Fj h91);have HIH:=ze IH;clear IH;generalize hk0:sk s (i+1)=D at *;go_in;go_wp2_with fail;refine ((uh z).1 _ (i+1) _ (by omega)).mono ?_;rintro e w1 ⟨rfl,rfl⟩;rw[hk0];go_wp2_with fail;refine ((uh z).2 93 D _ (by decide)).mono ?_;rintro e w1 ⟨rfl,rfl⟩;clear hk0;by_cases h:bt s D=93
 ·rw[yj h];have HR:Hid (val s i=some (.arr .nil,D+1)):=by show _=_;rw[uh HV,yg h]
  clear h HV;go_wp2;go_returns;rw[uh HR];exact⟨(Z0 w _).trans ((yI _ _).alloc (by simp) _),rfl⟩
 ·rw[yk h];have HR:Hid (val s i=(elems s D).map fun q=>(.arr q.1,q.2)):=by show _=_;rw[uh HV,yf h]
  clear h HV h91;go_wp2_with fail;go_loopg [1] (s.size+1 - D) (fun g k wr=>∃ (j:Nat) (f:JL),g=s.size+1 - j/\k= .int .i64 (j:Int)/\D<=j/\j<=s.size/\Zf w.heap.size ⟨#[]⟩ 0 false false false wr/\Zf (w.heap.size+1) (zh (91 :: Qn f)) 0 true (qu f) (qd f) wr/\Bw w wr/\(Qn f).length<=31*j/\elems s D=(elems s j).map fun q=>(f.app q.1,q.2))
  case atStart=>
   refine⟨D,.nil,rfl,rfl,ye _,g1,?_,?_,(Z0 w _).trans ((yI _ _).alloc (by simp) _),by simp[Qn],by simp[JL.app]⟩
   ·show (World.alloc _ _).heap[_]?=_
    rw[Lib.alloc_old _ _ _ (by simp)];exact yH w _
   ·have:=yH (w.alloc (qX ⟨#[]⟩ 0 false false false)) (qX (zh [91]) 0 true false false);rw[show (w.alloc (qX ⟨#[]⟩ 0 false false false)).heap.size=w.heap.size+1 from by simp]at this;exact this
  case round=>
   obtain⟨j,f,hg,rfl,hj1,hj2,hr,B,hb,hpl,hst⟩:=hrel;have N:=ze hst;have HG:=ze B;have G:=ze hr;have HB:=ze hb;have hwsz:=hb.size;have hgl:=B.lt;clear hst B hr hb;have HC:=ze (uh HIH j wr (by omega) (by omega))
   cases hv:val s j with
   | none=>
    have HN:Hid (val s i=none):=by
     show _=_
     rw[uh HR,uh N,Wz,hv];rfl
    rw[hv]at HC;clear hv;go_wp2_with fail;refine (uh HC).mono ?_;rintro e J ⟨C,t,n,bb,tw,rfl⟩;have R2:=(uh G).below C;have B2:=zi (uh HB) C;have m:=R2.alloc (qX t n false bb tw);have S:Bw w (J.alloc (qX t n false bb tw)):=B2.alloc (by have:=C.size;omega) _;have c0:=m.c0;have c1:=m.c1;have c2:=m.c2;have c3:=m.c3;have c4:=m.c4;have f0:=m.fz 0;have f1:=m.fz 1;have f2:=m.fz 2;have f3:=m.fz 3;have f4:=m.fz 4;have Y:=ze (m.put ⟨#[]⟩ 0 0 rfl false false false);have T:=ze (YO S (ye _) (.string ⟨#[]⟩) (.int .i64 0) (.bool false) (.bool false) (.bool false));clear HC G R2 m B2 S;simp only[Qm];go_wp2;try simp only[Exit.inBlock,Exit.then]
    refine bodyPost_ret (YP rfl rfl (uh Y)) rfl ?_;exact GP.bad (uh HN) (uh T)
   | some q=>
    obtain⟨v,n⟩:=q;have hvo:=Y3 hv;have hvl:=Fp hv;have HPL:Hid ((Qn (f.app (.cons v .nil))).length<=31*n):=by
     show _<=_
     rw[PL];simp only[yh,yp,yE];omega
    have z1:(zh (91 :: Qn f)).size<=40000000:=by rw[zN];simp only[yp];omega
    have z2:(zh (ct v)).size<=40000000:=by rw[zN];omega
    have z3:(zh (91 ::(Qn f++ct v))).size<=80000000:=by rw[zN];simp only[yp,yh];omega
    have hn1:=z8 s n;have hn2:=(Q6 hvo.2).2;have x:Hid (elems s D=(if bt s (sk s n)=93 then some (JL.cons v .nil,sk s n+1)else if bt s (sk s n)=44 then (elems s (sk s (sk s n+1))).map fun r=>(JL.cons v r.1,r.2)else none).map fun q=>(f.app q.1,q.2)):=by
     show _=_
     rw[uh N,Wz,hv];rfl
    rw[hv]at HC;clear hv N;have P:zh (91 :: Qn f)++zh (ct v)=zh (91 ::(Qn f++ct v)):=Vs _ _;have F:Hid (zh (91 ::(Qn f++ct v))++⟨#[93]⟩=zh (ct (.arr (f.app (.cons v .nil))))):=by
     show _=_
     rw[show (⟨#[93]⟩:Bs)=zh [93]from rfl,Vs,ct,ZT,← zbw];simp
    have E:Hid (zh (91 ::(Qn f++ct v))++⟨#[44]⟩=zh (91 :: Qn (f.app (.cons v .nil)))):=by
     show _=_
     rw[show (⟨#[44]⟩:Bs)=zh [44]from rfl,Vs,PL];simp
    have U:Hid (qu (f.app (.cons v .nil))=(qu f || zV v)):=by show _=_;rw[PG];simp[qu]
    have X:Hid (qd (f.app (.cons v .nil))=(qd f || zw v)):=by show _=_;rw[PI];simp[qd]
    go_wp2_with fail;refine (uh HC).mono ?_;rintro e J ⟨C,rfl⟩;simp only[Qm];have m:=ze (((uh G).below C).alloc (qX (zh (ct v)) n true (zV v) (zw v)));have K:=((uh HG).below C).alloc (qX (zh (ct v)) n true (zV v) (zw v));have Z:Zf J.heap.size (zh (ct v)) n true (zV v) (zw v) (J.alloc (qX (zh (ct v)) n true (zV v) (zw v))):=yH J _;have S:Hid (Bw w (J.alloc (qX (zh (ct v)) n true (zV v) (zw v)))):=(zi (uh HB) C).alloc (by have:=C.size;omega) _;have hw2:=C.size;clear HC G HG HB C;simp only[qX]at K Z m S;generalize qu f=ba at *;generalize qd f=ta at *;generalize zV v=bv at *;generalize zw v=tv at *;generalize zh (91 :: Qn f)=sa at *;generalize zh (91 ::(Qn f++ct v))=sb at *;generalize zh (ct v)=sc at *;generalize hw3:J.alloc (.cells #[.string sc,.int .i64 (n:Int),.bool true,.bool bv,.bool tv] 51 (0,0))=w3 at *;have H:J.heap.size≠w.heap.size+1:=by omega
    have ok3:=Z.c2;have go0:=K.c0;have gf0:=K.fz 0;have gf3:=K.fz 3;have gf4:=K.fz 4;have v0:=Z.c0;have G4:=K.set0 sb;have V4:=Z.other (p:=⟨w.heap.size+1,0,none⟩) H (.string sb);have G5:=G4.set3 (ba || bv);have V5:=V4.other (p:=⟨w.heap.size+1,3,none⟩) H (.bool (ba || bv));have o:=G5.set4 (ta || tv);have V6:=V5.other (p:=⟨w.heap.size+1,4,none⟩) H (.bool (ta || tv));have g43:=G4.c3;have v43:=V4.c3;have f43:=G4.fz 3;have g54:=G5.c4;have v54:=V5.c4;have f54:=G5.fz 4;have v61:=V6.c1;have V:=ze o;clear K Z G4 V4 G5 V5 o V6;generalize hbb:(ba || bv)=bb at *;generalize htt:(ta || tv)=tt at *;have hb':ba=true/\bb=true∨ba=false/\bv=bb:=Mp _ _ _ hbb;have ht':ta=true/\tt=true∨ta=false/\tv=tt:=Mp _ _ _ htt;clear hbb htt hpl hvl;rcases hb' with ⟨rfl,rfl⟩ |⟨rfl,rfl⟩<;>rcases ht' with ⟨rfl,rfl⟩ |⟨rfl,rfl⟩
    all_goals
     go_wp2_with fail;refine ((uh z).1 _ n _ rfl).mono ?_;rintro e w6 ⟨rfl,I⟩;have o:=I ▸ uh V;have O:Zf w.heap.size ⟨#[]⟩ 0 false false false w6:=I ▸ (((uh m).other (p:=⟨w.heap.size+1,0,none⟩) (by show _≠w.heap.size+1;omega) _).other (p:=⟨w.heap.size+1,3,none⟩) (by show _≠w.heap.size+1;omega) _).other (p:=⟨w.heap.size+1,4,none⟩) (by show _≠w.heap.size+1;omega) _;have B6:Bw w w6:=I ▸ (((uh S).setCell (p:=⟨w.heap.size+1,0,none⟩) (by show _<=w.heap.size+1;omega) _).setCell (p:=⟨w.heap.size+1,3,none⟩) (by show _<=w.heap.size+1;omega) _).setCell (p:=⟨w.heap.size+1,4,none⟩) (by show _<=w.heap.size+1;omega) _;have u:=ze B6;have y:=ze O;have l:=ze o;clear ok3 go0 gf0 gf3 gf4 v0 g43 v43 f43 g54 v54 f54 v61 V m S I hw3 P o O B6 H hw2 w3;generalize sk s n=k at *;go_wp2_with fail;refine ((uh z).2 93 k _ (by decide)).mono ?_;rintro e w7 ⟨rfl,rfl⟩;by_cases h:bt s k=93
     ·rw[yj h];have HVV:Hid (val s i=some (.arr (f.app (.cons v .nil)),k+1)):=by
       show _=_
       rw[uh HR,uh x,yg h];rfl
      have hfi:=uh F;generalize hsf:zh (ct (.arr (f.app (.cons v .nil))))=R at *;have M:=ze hsf;have o:=uh l;have c0:=o.c0;have f0:=o.fz 0;have L:=o.set0 R;have c71:=L.c1;have f71:=L.fz 1;have G8:=L.set1 ((k:Int)+1) (k+1) (by omega);have R8:=((uh y).other (p:=⟨w.heap.size+1,0,none⟩) (by show _≠w.heap.size+1;omega) (.string R)).other (p:=⟨w.heap.size+1,1,none⟩) (by show _≠w.heap.size+1;omega) (.int .i64 ((k:Int)+1));have B8:=((uh u).setCell (p:=⟨w.heap.size+1,0,none⟩) (by show _<=w.heap.size+1;omega) (.string R)).setCell (p:=⟨w.heap.size+1,1,none⟩) (by show _<=w.heap.size+1;omega) (.int .i64 ((k:Int)+1));obtain⟨a0,aa,a2,a3,a4⟩:=G8.cells;have a1:=aa.trans (show _=some (Value.int .i64 ((k:Int)+1)) by rw[show ((k+1:Nat):Int)=(k:Int)+1 from by omega]);obtain⟨r0,r1,r2,r3,r4⟩:=R8.cells;obtain⟨q0,q1,q2,q3,q4⟩:=R8.fzs;have Y:=ze (R8.copyTo G8 ((k:Int)+1) (by omega));have T:=ze (fun a b c d e=>YO B8 (ye _) a b c d e);clear aa o L G8 R8 B8 l y u F hsf E x HR h;go_wp2;try simp only[Exit.inBlock,Exit.then]
      refine bodyPost_ret (YP rfl rfl (uh Y)) rfl ?_;rw[uh HVV];refine⟨uh T _ _ _ _ _,?_⟩;show _=Ending.returned (Qm (zh (ct (.arr (f.app (.cons v .nil))))) (k+1) true (qu (f.app (.cons v .nil))) (qd (f.app (.cons v .nil))))
      rw[uh M,uh U,uh X]
     ·rw[yk h];go_wp2_with fail;refine ((uh z).2 44 k _ (by decide)).mono ?_;rintro e w8 ⟨rfl,rfl⟩;by_cases A:bt s k=44
      ·rw[yj A];have hkl:k<s.size:=Zb (by omega);have W:Hid (elems s D=(elems s (sk s (k+1))).map fun q=>((f.app (.cons v .nil)).app q.1,q.2)):=by
        show _=_
        rw[uh x,yf h,yg A,Option.map_map];congr 1;funext q;simp[JL.app_assoc,JL.app]
       have hco:=uh E;generalize hsf:zh (91 :: Qn (f.app (.cons v .nil)))=R at *;have M:=ze hsf;have o:=uh l;have c0:=o.c0;have f0:=o.fz 0;have L:=ze (o.set0 R);have R7:=ze ((uh y).other (p:=⟨w.heap.size+1,0,none⟩) (by show _≠w.heap.size+1;omega) (.string R));have B7:=ze ((uh u).setCell (p:=⟨w.heap.size+1,0,none⟩) (by show _<=w.heap.size+1;omega) (.string R));clear o l y u F hsf E x h A;go_wp2_with fail;refine ((uh z).1 _ (k+1) _ (by omega)).mono ?_;rintro e w9 ⟨rfl,Q⟩;have G9:=Q ▸ uh L;have R9:=Q ▸ uh R7;have B9:=Q ▸ uh B7;have hs1:=z8 s (k+1);have hs2:=(Q6 (s:=s) (i:=k+1) (by omega)).2;clear L R7 B7 c0 f0;go_wp2;go_roundg (s.size+1 - sk s (k+1))
       case rel=>exact⟨sk s (k+1),f.app (.cons v .nil),rfl,rfl,by omega,hs2,R9,by rw[uh M,uh U,uh X];exact G9,B9,by have:=uh HPL;omega,uh W⟩
       case measure=>omega
      ·rw[yk A];have HN:Hid (val s i=none):=by
        show _=_
        rw[uh HR,uh x,yf h,yf A];rfl
       have O:=uh y;obtain⟨r0,r1,r2,r3,r4⟩:=O.cells;obtain⟨q0,q1,q2,q3,q4⟩:=O.fzs;have Y:=ze (O.put ⟨#[]⟩ 0 0 rfl false false false);have T:=ze (YO (uh u) (ye _) (.string ⟨#[]⟩) (.int .i64 0) (.bool false) (.bool false) (.bool false));clear O l y u F E x h A;go_wp2;try simp only[Exit.inBlock,Exit.then]
       refine bodyPost_ret (YP rfl rfl (uh Y)) rfl ?_;exact GP.bad (uh HN) (uh T)
theorem WM(s:Bs):∀ f i,(∀ v j,pv s f i=some (v,j)->zj v+i<=j)/\(∀ l j,pa s f i=some (l,j)->QD l+i<=j)/\(∀ m j,po s f i=some (m,j)->Qd m+i<=j)
 | 0,i=>⟨fun v j h=>by simp[pv]at h,fun v j h=>by simp[pa]at h,fun v j h=>by simp[po]at h⟩
 | f+1,i=>by
  refine⟨fun v j h=>?_,fun l j h=>?_,fun m j h=>?_⟩
  ·rw[pv]at h;have g:=z8 s (i+1);split at h
   ·split at h
    ·have:=Zb (s:=s) (i:=sk s (i+1)) (by omega);injection h with h;injection h with hv h;subst hv;(try simp only[zj]);(try simp only[QD]);(try simp only[Qd]);omega
    ·simp only[yA]at h;obtain⟨⟨l,k⟩,b,h⟩:=h;injection h with hv h;have:=(WM s f (sk s (i+1))).2.1 l k b;subst hv;simp only at h;(try simp only[zj]);(try simp only[QD]);(try simp only[Qd]);omega
   ·split at h
    ·split at h
     ·have:=Zb (s:=s) (i:=sk s (i+1)) (by omega);injection h with h;injection h with hv h;subst hv;(try simp only[zj]);(try simp only[QD]);(try simp only[Qd]);omega
     ·simp only[yA]at h;obtain⟨⟨l,k⟩,b,h⟩:=h;injection h with hv h;have:=(WM s f (sk s (i+1))).2.2 l k b;subst hv;simp only at h;(try simp only[zj]);(try simp only[QD]);(try simp only[Qd]);omega
    ·split at h
     ·simp only[yA]at h;obtain⟨⟨l,k⟩,b,h⟩:=h;injection h with hv h;have:=JX b;subst hv;simp only at h;(try simp only[zj]);(try simp only[QD]);(try simp only[Qd]);omega
     ·split at h
      ·rename_i hw;have:=UD hw;injection h with h;injection h with hv h;subst hv;(try simp only[zj]);(try simp only[QD]);(try simp only[Qd]);omega
      ·split at h
       ·rename_i hw;have:=UE hw;injection h with h;injection h with hv h;subst hv;(try simp only[zj]);(try simp only[QD]);(try simp only[Qd]);omega
       ·split at h
        ·rename_i hw;have:=Kz hw;injection h with h;injection h with hv h;subst hv;(try simp only[zj]);(try simp only[QD]);(try simp only[Qd]);omega
        ·simp only[yA]at h;obtain⟨⟨l,k⟩,b,h⟩:=h;injection h with hv h;have:=Ky b;subst hv;simp only at h;(try simp only[zj]);(try simp only[QD]);(try simp only[Qd]);omega
  ·rw[pa]at h;simp only[Option.bind_eq_some_iff]at h;obtain⟨⟨v,k⟩,b,h⟩:=h;have q:=(WM s f i).1 v k b;have o:=z8 s k;simp only at h;split at h
   ·have:=Zb (s:=s) (i:=sk s k) (by omega);injection h with h;injection h with hv h;subst hv;(try simp only[zj]);(try simp only[QD]);(try simp only[Qd]);omega
   ·split at h
    ·simp only[yA]at h;obtain⟨⟨l,n⟩,d,h⟩:=h;injection h with hv h;have:=(WM s f _).2.1 l n d;have p:=z8 s (sk s k+1);subst hv;simp only at h;(try simp only[QD]);(try simp only[Qd]);omega
    ·cases h
  ·rw[po]at h;simp only[Option.bind_eq_some_iff]at h;obtain⟨⟨u,a⟩,r,h⟩:=h;have y:=JX r;simp only at h;split at h
   ·simp only[Option.bind_eq_some_iff]at h;obtain⟨⟨v,k⟩,b,h⟩:=h;have q:=(WM s f _).1 v k b;have w:=z8 s a;have x:=z8 s (sk s a+1);have o:=z8 s k;simp only at h;split at h
    ·have:=Zb (s:=s) (i:=sk s k) (by omega);injection h with h;injection h with hv h;subst hv;(try simp only[zj]);(try simp only[QD]);(try simp only[Qd]);omega
    ·split at h
     ·simp only[yA]at h;obtain⟨⟨l,n⟩,d,h⟩:=h;injection h with hv h;have:=(WM s f _).2.2 l n d;have p:=z8 s (sk s k+1);subst hv;simp only at h;(try simp only[Qd]);omega
     ·cases h
   ·cases h
theorem TM{s:Bs}{i j:Nat}{v:JV}(h:val s i=some (v,j)):zj v+i<=j:=(WM s _ i).1 v j h
def Qa(s:Bs):Option JV:=(val s (sk s 0)).bind fun q=>if sk s q.2=s.size then some q.1 else none
def zI(s:Bs):Sum Nat JV:=
 if 20000<s.size then .inl 1 else
 match Qa s with
 | none=>.inl 2
 | some v=>if zV v then .inl 3 else if zw v then .inl 4 else if 100<zm v∨3000<zj v then .inl 5 else .inr v
theorem Vy{s:Bs}{v:JV}(h:Qa s=some v):zD v/\zj v<=s.size/\(ct v).length<=30*s.size:=by
 unfold Qa at h
 cases hv:val s (sk s 0)with
 | none=>rw[hv]at h;simp at h
 | some q=>
  obtain⟨u,j⟩:=q;have e:u=v:=by
   rw[hv]at h;simp only[yB]at h;split at h
   ·injection h
   ·cases h
  subst e;have a:=TM hv;have b:=Fp hv;have d:=Y3 hv;exact⟨MG hv,by omega,by omega⟩
def Zx(s:Bs):Value:=match zI s with
 | .inl c=>.tuple #[.string ⟨#[]⟩,.int .i64 (c:Int)]
 | .inr v=>.tuple #[.string (zh (ct v)),.int .i64 0]
theorem Y7{s:Bs}{v:JV}(h:zI s= .inr v):s.size<=20000/\Qa s=some v/\zw v=false/\zV v=false/\zm v<=100/\zj v<=3000:=by
 unfold zI at h;split at h
 ·cases h
 ·rename_i hs
  cases hd:Qa s with
  | none=>rw[hd]at h;simp at h
  | some u=>
   rw[hd]at h;simp only at h;split at h
   ·cases h
   ·rename_i hb;split at h
    ·cases h
    ·rename_i ht;split at h
     ·cases h
     ·rename_i hg;injection h with h;subst h;exact⟨by omega,rfl,by simpa using ht,by simpa using hb,by omega,by omega⟩
theorem GK{s:Bs}{c:Nat}(h:zI s= .inl c):1<=c/\c<=5:=by
 unfold zI at h;split at h
 ·injection h with h;omega
 ·split at h
  ·injection h with h;omega
  ·split at h
   ·injection h with h;omega
   ·split at h
    ·injection h with h;omega
    ·split at h
     ·injection h with h;omega
     ·cases h
def GL(t:List UInt8):Bool:=decide (1<=t.length) && decide (t.length<=6) && !(decide ((t.getD 0 0).toNat=48) && decide (1<t.length)) && t.all fun c=>zP c.toNat
def Z8(t:List UInt8):Option Nat:=if GL t=true then some (qE t)else none
theorem Yx{t:List UInt8}:GL t=true↔1<=t.length/\t.length<=6/\¬ ((t.getD 0 0).toNat=48/\1<t.length)/\∀ c∈t,zP c.toNat=true:=by
 unfold GL;simp only[Bool.and_eq_true,decide_eq_true_eq,Bool.not_eq_true',Bool.and_eq_false_iff,decide_eq_false_iff_not,List.all_eq_true];constructor
 ·rintro⟨⟨⟨a,b⟩,c⟩,d⟩;exact⟨a,b,fun ⟨x,y⟩=>c.elim (fun h=>h x) (fun h=>h y),d⟩
 ·rintro⟨a,b,c,d⟩;refine⟨⟨⟨a,b⟩,?_⟩,d⟩;by_cases h:(t.getD 0 0).toNat=48
  ·exact .inr fun y=>c ⟨h,y⟩
  ·exact .inl h
theorem zcB:∀ (n:Nat) (t:List UInt8),t.length=n->t≠[]->(t.getD 0 0).toNat≠48->(∀ c∈t,zP c.toNat=true)->1<=qE t:=by
 intro n;induction n with
 | zero=>intro t h j;exact absurd (yO h) j
 | succ n ih=>
  intro t h _ d f;rcases List.eq_nil_or_concat t with e |⟨a,c,e⟩
  ·subst e;simp at h
  ·rw[List.concat_eq_append]at e;subst e;rw[Ui];have k:=Qx.1 (f c (by simp));by_cases b:a=[]
   ·subst b;have g:c.toNat≠48:=d;simp[qE];omega
   ·have i:(a.getD 0 0).toNat≠48:=by
     cases a with
     | nil=>exact absurd rfl b
     | cons x r=>exact d
    have:=ih a (by simpa using h) b i (fun x hx=>f x (by simp[hx]));omega
theorem zcC:∀ (n:Nat) (t:List UInt8),t.length=n->t≠[]->¬ ((t.getD 0 0).toNat=48/\1<t.length)->(∀ c∈t,zP c.toNat=true)->zM (qE t)=t:=by
 intro n;induction n with
 | zero=>intro t h l;exact absurd (yO h) l
 | succ n ih=>
  intro t h _ j i;rcases List.eq_nil_or_concat t with e |⟨a,c,e⟩
  ·subst e;simp at h
  ·rw[List.concat_eq_append]at e;subst e;have m:=Qx.1 (i c (by simp));have f:UInt8.ofNat (48+(c.toNat - 48))=c:=by rw[show 48+(c.toNat - 48)=c.toNat by omega];exact UInt8.ofNat_toNat
   rw[Ui];by_cases b:a=[]
   ·subst b;simp only[qE,List.foldl_nil,Nat.zero_mul,Nat.zero_add,List.nil_append];rw[Jb (by omega),f]
   ·have k:1<=a.length:=by cases a with
     | nil=>exact absurd rfl b
     | cons _ _=>simp
    have g:(a.getD 0 0).toNat≠48:=by
     intro e;refine j ⟨?_,by simp;omega⟩
     cases a with
     | nil=>exact absurd rfl b
     | cons x r=>exact e
    have d:∀ x∈a,zP x.toNat=true:=fun x hx=>i x (by simp[hx]);have o:=zcB _ a rfl b g d;rw[GD (by omega),show (qE a*10+(c.toNat - 48)) / 10=qE a by omega,show (qE a*10+(c.toNat - 48)) % 10=c.toNat - 48 by omega,Jb (n:=c.toNat - 48) (by omega),f];rw[ih a (by simpa using h) b (fun e=>g e.1) d]
theorem UQ{t:List UInt8}{i:Nat}(h:Z8 t=some i):zM i=t:=by
 unfold Z8 at h;split at h
 ·rename_i hk;injection h with h;subst h;obtain⟨a,b,c,d⟩:=Yx.1 hk;exact zcC _ t rfl (by intro e;subst e;simp at a) c d
 ·cases h
theorem KO:∀ (n:Nat),zM n≠[]/\(∀ c∈zM n,zP c.toNat=true)/\qE (zM n)=n/\¬ (((zM n).getD 0 0).toNat=48/\1<(zM n).length):=by
 intro n;induction n using Nat.strongRecOn with
 | _ n ih=>
  by_cases h:n<10
  ·rw[Jb h];have e:(UInt8.ofNat (48+n)).toNat=48+n:=Yr (by omega);refine⟨by simp,fun c a=>?_,?_,by simp⟩
   ·rw[List.mem_singleton]at a;subst a;rw[e];exact Qx.2 ⟨by omega,by omega⟩
   ·simp only[qE,List.foldl_cons,List.foldl_nil,Nat.zero_mul,Nat.zero_add];rw[e];omega
  ·obtain⟨f,g,i,j⟩:=ih (n / 10) (by omega);rw[GD h,Jb (n:=n % 10) (by omega)];have e:(UInt8.ofNat (48+n % 10)).toNat=48+n % 10:=Yr (by omega);refine⟨by simp,fun c a=>?_,?_,?_⟩
   ·rcases List.mem_append.1 a with a | a
    ·exact g c a
    ·rw[List.mem_singleton]at a;subst a;rw[e];exact Qx.2 ⟨by omega,by omega⟩
   ·rw[Ui,i,e];omega
   ·rintro⟨d,_⟩;have l:((zM (n / 10)++[UInt8.ofNat (48+n % 10)]).getD 0 0)=(zM (n / 10)).getD 0 0:=by
     cases hd:zM (n / 10)with
     | nil=>exact absurd hd f
     | cons x r=>rfl
    rw[l]at d;by_cases b:n / 10<10
    ·rw[Jb b]at d;have k:(UInt8.ofNat (48+n / 10)).toNat=48+n / 10:=Yr (by omega);have:([UInt8.ofNat (48+n / 10)].getD 0 0).toNat=48+n / 10:=k;rw[this]at d;omega
    ·refine j ⟨d,?_⟩;rw[GD b,yh];have m:=(ih (n / 10 / 10) (by omega)).1;have o:1<=(zM (n / 10 / 10)).length:=by cases hq:zM (n / 10 / 10)with
      | nil=>exact absurd hq m
      | cons _ _=>simp
     rw[Jb (n:=n / 10 % 10) (by omega)];simp;omega
theorem WN{a b:Nat}(h:zM a=zM b):a=b:=by
 have d:=(KO a).2.2.1;have f:=(KO b).2.2.1;rw[h,f]at d;exact d.symm
def zn:JV->List UInt8->Option JV
 | .arr l,t=>(Z8 t).bind fun i=>l.toL[i]?
 | .obj m,t=>(m.toL.find? fun q=>q.1 ==t).map (·.2)
 | _,_=>none
def zr:JV->List (List UInt8)->Option JV
 | v,[]=>some v
 | v,t :: ts=>(zn v t).bind fun u=>zr u ts
theorem ql(l:JL)(t:List UInt8):zn (.arr l) t=(Z8 t).bind fun i=>l.toL[i]?:=rfl
theorem Qb(m:JM)(t:List UInt8):zn (.obj m) t=(m.toL.find? fun q=>q.1 ==t).map (·.2):=rfl
theorem Gc:∀ (a b:List (List UInt8)) (v:JV),zr v (a++b)=(zr v a).bind fun u=>zr u b
 | [],b,v=>rfl
 | t :: r,b,v=>by
  rw[List.cons_append,zr,zr]
  cases zn v t with
  | none=>rfl
  | some u=>simp only[yB];exact Gc r b u
theorem Ry{v u:JV}{ts:List (List UInt8)}{k:Nat}(h:k<ts.length)(hu:zr v (ts.take k)=some u):zr v (ts.take (k+1))=zn u ts[k]:=by
 rw[yz h,Gc,hu];simp only[yB,zr]
 cases zn u ts[k]<;>rfl
theorem TN{v u:JV}{ts:List (List UInt8)}{k:Nat}(h:k<ts.length)(hu:zr v (ts.take k)=some u)(hc:zn u ts[k]=none):zr v ts=none:=by
 have e:ts=ts.take (k+1)++ts.drop (k+1):=(List.take_append_drop _ _).symm;rw[e,Gc,Ry h hu,hc];rfl
theorem Rz:∀ (l:JL),qJ l->qd l=false->∀ v∈l.toL,zD v/\zw v=false
 | .nil,_,_,v,hv=>by simp[JL.toL]at hv
 | .cons x r,h,t,v,hv=>by
  rw[qJ]at h;rw[qd,Bool.or_eq_false_iff]at t;rw[JL.toL]at hv;rcases List.mem_cons.1 hv with e | hv
  ·rw[e];exact⟨h.1,t.1⟩
  ·exact Rz r h.2 t.2 v hv
theorem RA:∀ (m:JM) (ks:List (List UInt8)),qG m->ZW ks m=false->∀ q∈m.toL,zD q.2/\zw q.2=false
 | .nil,_,_,_,q,hq=>by simp[JM.toL]at hq
 | .cons k x r,ks,h,t,q,hq=>by
  rw[qG]at h;rw[ZW]at t;simp only[Bool.or_eq_false_iff]at t;rw[JM.toL]at hq;rcases List.mem_cons.1 hq with e | hq
  ·rw[e];exact⟨h.2.1,t.1.1⟩
  ·exact RA r (ks++[k]) h.2.2 t.2 q hq
theorem Y8{v u:JV}{t:List UInt8}(h:zn v t=some u)(hok:zD v)(htw:zw v=false):zD u/\zw u=false/\(ct u).length<=(ct v).length/\zj u<=zj v:=by
 cases v with
 | arr l=>
  rw[zD]at hok;rw[zw]at htw;rw[ql]at h
  cases hi:Z8 t with
  | none=>rw[hi]at h;simp at h
  | some i=>
   rw[hi]at h;simp only[yB]at h;obtain⟨g,rfl⟩:=List.getElem?_eq_some_iff.1 h;have d:=yt g;obtain⟨a,b⟩:=Rz l hok htw _ d;refine⟨a,b,?_,?_⟩
   ·have f:(ct (.arr l)).length=hold (zF l).length+nl (zF l):=by
     show (ZT (zF l)).length=_
     have:=UK (zF l);simp[ZT];omega
    have j:(ct l.toL[i]).length<=nl (zF l):=by have:=V2 ((zF l).map List.length) i (by rw[Z6];simpa using g);simpa [nl,Z6]using this
    omega
   ·rw[zj,Vv];have:=V2 (l.toL.map zj) i (by simpa using g);have c1:zj l.toL[i]<=cl l.toL:=by simpa [cl]using this
    omega
 | obj m=>
  rw[zD]at hok;rw[zw]at htw;rw[Qb]at h
  cases hf:m.toL.find? fun q=>q.1 ==t with
  | none=>rw[hf]at h;simp at h
  | some q=>
   rw[hf]at h;simp at h;subst h;have d:=List.mem_of_find?_eq_some hf;obtain⟨a,b⟩:=RA m [] hok htw _ d;refine⟨a,b,?_,?_⟩
   ·have f:=Jm m;have j:=V8 Zo d;simp only[Zo]at j;omega
   ·rw[zj,Ys];have:zj q.2<=_:=V8 (fun q=>zj q.2) d;omega
 | nul=>simp[zn]at h
 | tt=>simp[zn]at h
 | ff=>simp[zn]at h
 | num l=>simp[zn]at h
 | str l=>simp[zn]at h
theorem FJ:∀ (cs:List (List UInt8)) (b j:Nat) (h:j<(qP b cs).length),(qP b cs)[j]=(zM (b+j),cs[j]'(by rw[GF]at h;exact h))
 | [],b,j,h=>by simp[qP]at h
 | t :: r,b,0,h=>rfl
 | t :: r,b,j+1,h=>by
  simp only[qP,List.getElem_cons_succ];rw[FJ r (b+1) j];rw[show b+1+j=b+(j+1) by omega]
theorem TO{v:JV}{t:List UInt8}(hok:zD v)(htw:zw v=false)(hi:(∃ l,v= .arr l)->(Z8 t).isSome=true){j:Nat}(hj:j<(zt v).length)(hk:(zt v)[j].1=t):∃ u,zn v t=some u/\(zt v)[j].2=ct u:=by
 cases v with
 | arr l=>
  have k:zt (.arr l)=qP 0 (zF l):=rfl;have n:=hi ⟨l,rfl⟩
  cases hx:Z8 t with
  | none=>rw[hx]at n;simp at n
  | some i=>
   have o:=FJ (zF l) 0 j hj;have s:(zt (.arr l))[j]=(zM (0+j),(zF l)[j]'(by rw[k,GF]at hj;exact hj)):=o;rw[s]at hk ⊢;simp only[Nat.zero_add]at hk ⊢;have:j=i:=WN (hk.trans (UQ hx).symm);subst this;have y:j<l.toL.length:=by rw[k,GF,Z6,yl]at hj;exact hj
   refine⟨l.toL[j],?_,?_⟩
   ·rw[ql,hx];simp[y]
   ·simp[Z6]
 | obj m=>
  have g:(zt (.obj m))[j]∈zl m:=(qw _).subset (yt hj);generalize (zt (.obj m))[j]=p at *;rw[qh]at g;obtain⟨q,z,rfl⟩:=yP.1 g;simp only at hk;rw[zw]at htw;have d:(m.toL.map (·.1)).Nodup:=by rw[← Qs];exact (WD m [] htw).1
  refine⟨q.2,?_,rfl⟩;rw[Qb];have w:m.toL.find? (fun q=>q.1 ==t)=some q:=by
   have:∀ l:List (List UInt8×JV),(l.map (·.1)).Nodup->q∈l->l.find? (fun q=>q.1 ==t)=some q:=by
    intro l;induction l with
    | nil=>intro _ h;simp at h
    | cons x r ih=>
     intro b a;rw[yi,List.nodup_cons]at b;rw[List.find?_cons];rcases List.mem_cons.1 a with e | a
     ·subst e;simp[hk]
     ·have f:(x.1 ==t)=false:=by
       rw[yd];intro e;exact b.1 (by rw[e,← hk];exact yP.2 ⟨q,a,rfl⟩)
      rw[f];exact ih b.2 a
   exact this m.toL d z
  rw[w];rfl
 | nul=>simp[zt]at hj
 | tt=>simp[zt]at hj
 | ff=>simp[zt]at hj
 | num l=>simp[zt]at hj
 | str l=>simp[zt]at hj
theorem RB{v:JV}{t:List UInt8}(h:∀ j (hj:j<(zt v).length),(zt v)[j].1≠t):zn v t=none:=by
 cases v with
 | arr l=>
  rw[ql]
  cases hx:Z8 t with
  | none=>rfl
  | some i=>
   simp only[yB];by_cases f:i<l.toL.length
   ·exfalso;have hj:i<(zt (.arr l)).length:=by show i<(qP 0 (zF l)).length;rw[GF,Z6,yl];exact f
    refine h i hj ?_;have a:(zt (.arr l))[i]=_:=FJ (zF l) 0 i hj;rw[a];simp only[Nat.zero_add];exact UQ hx
   ·rw[List.getElem?_eq_none (by omega)]
 | obj m=>
  rw[Qb];have d:m.toL.find? (fun q=>q.1 ==t)=none:=by
   rw[List.find?_eq_none];intro q n e;have g:(q.1,ct q.2)∈zl m:=by rw[qh];exact yP.2 ⟨q,n,rfl⟩
   have k:(q.1,ct q.2)∈zt (.obj m):=(qw _).mem_iff.2 g;obtain⟨j,hj,b⟩:=List.getElem_of_mem k;refine h j hj ?_;rw[b];simpa using e
  rw[d];rfl
 | nul=>rfl
 | tt=>rfl
 | ff=>rfl
 | num l=>rfl
 | str l=>rfl
def GM(p:List UInt8×JV):List (List UInt8×JV)->List (List UInt8×JV)
 | []=>[p]
 | q :: r=>if p.1<q.1 then q :: GM p r else p :: q :: r
def JF(l:List (List UInt8×JV)):List (List UInt8×JV):=(l.foldl (fun acc p=>GM p acc) []).reverse
def ZX:Nat->List JV->List (List UInt8×JV)
 | _,[]=>[]
 | b,v :: r=>(zM b,v) :: ZX (b+1) r
def zu:JV->List (List UInt8×JV)
 | .arr l=>ZX 0 l.toL
 | .obj m=>JF m.toL
 | _=>[]
def kt(q:List UInt8×JV):List UInt8×List UInt8:=(q.1,ct q.2)
theorem TP(p:List UInt8×JV):∀ l:List (List UInt8×JV),(GM p l).map kt=qF (kt p) (l.map kt)
 | []=>rfl
 | q :: r=>by
  rw[GM,yi,qF];by_cases h:p.1<q.1
  ·have h':(kt p).1<(kt q).1:=h;rw[yg h,yg h',yi,TP p r]
  ·have h':¬ (kt p).1<(kt q).1:=h;rw[yf h,yf h',yi,yi]
theorem TQ:∀ (l acc:List (List UInt8×JV)),(l.foldl (fun acc p=>GM p acc) acc).map kt=(l.map kt).foldl (fun acc p=>qF p acc) (acc.map kt)
 | [],acc=>rfl
 | p :: l,acc=>by rw[List.foldl_cons,yi,List.foldl_cons,TQ l,TP]
theorem RC(l:List (List UInt8×JV)):(JF l).map kt=zJ (l.map kt):=by
 unfold JF zJ;rw[List.map_reverse,TQ];rfl
theorem TR(p:List UInt8×JV):∀ l,(GM p l).Perm (p :: l)
 | []=>List.Perm.refl _
 | q :: r=>by
  unfold GM;split
  ·exact ((TR p r).cons q).trans (List.Perm.swap p q r)
  ·exact List.Perm.refl _
theorem TS:∀ (l acc:List (List UInt8×JV)),(l.foldl (fun acc p=>GM p acc) acc).Perm (l++acc)
 | [],acc=>List.Perm.refl _
 | p :: l,acc=>by
  rw[List.foldl_cons];exact (TS l _).trans (((TR p acc).append_left l).trans (List.perm_middle))
theorem Yy(l:List (List UInt8×JV)):(JF l).Perm l:=by
 unfold JF;have:=TS l [];rw[yT]at this;exact (List.reverse_perm _).trans this
theorem TT:∀ (vs:List JV) (b:Nat),(ZX b vs).map kt=qP b (vs.map ct)
 | [],_=>rfl
 | v :: r,b=>by rw[ZX,yi,yi,qP,TT r];rfl
theorem Vz:∀ (vs:List JV) (b:Nat),(ZX b vs).length=vs.length
 | [],_=>rfl
 | v :: r,b=>by rw[ZX,yp,yp,Vz r]
theorem GN:∀ (vs:List JV) (b j:Nat) (h:j<(ZX b vs).length),(ZX b vs)[j]=(zM (b+j),vs[j]'(by rw[Vz]at h;exact h))
 | [],b,j,h=>by simp[ZX]at h
 | t :: r,b,0,h=>rfl
 | t :: r,b,j+1,h=>by
  simp only[ZX,List.getElem_cons_succ];rw[GN r (b+1) j];rw[show b+1+j=b+(j+1) by omega]
theorem FK:∀ (vs:List JV) (b:Nat),(ZX b vs).map (·.2)=vs
 | [],_=>rfl
 | v :: r,b=>by rw[ZX,yi,FK r]
theorem UR(v:JV):zt v=(zu v).map kt:=by
 cases v with
 | arr l=>show qP 0 (zF l)=(ZX 0 l.toL).map kt;rw[TT,Z6]
 | obj m=>show zJ (zl m)=(JF m.toL).map kt;rw[RC,qh];rfl
 | nul=>rfl
 | tt=>rfl
 | ff=>rfl
 | num l=>rfl
 | str l=>rfl
theorem KP:∀ (vs:List JV) (v:JV),v∈vs->zm v<=dl vs
 | [],v,h=>by simp at h
 | x :: r,v,h=>by
  rw[dl];rcases List.mem_cons.1 h with rfl | h
  ·omega
  ·have:=KP r v h;omega
theorem JG{v:JV}(hok:zD v)(htw:zw v=false){q:List UInt8×JV}(hq:q∈zu v):zD q.2/\zw q.2=false/\zm q.2+1<=zm v/\q.1.length+(ct q.2).length+1<=(ct v).length:=by
 cases v with
 | arr l=>
  rw[zD]at hok;rw[zw]at htw;have g:q∈ZX 0 l.toL:=hq;obtain⟨j,h,rfl⟩:=List.getElem_of_mem g;have i:j<l.toL.length:=by rw[Vz]at h;exact h
  rw[GN];simp only[Nat.zero_add];have d:=yt i;obtain⟨a,b⟩:=Rz l hok htw _ d;have n:=KP _ _ d;have e:=Vu l;have f:(ct (.arr l)).length=hold (zF l).length+nl (zF l):=by
   show (ZT (zF l)).length=_
   have:=UK (zF l);simp[ZT];omega
  have k:(ct l.toL[j]).length<=nl (zF l):=by have:=V2 ((zF l).map List.length) j (by rw[Z6];simpa using i);simpa [nl,Z6]using this
  have o:=Fq j;have p:(zF l).length=l.toL.length:=by rw[Z6,yl]
  refine⟨a,b,?_,?_⟩
  ·rw[zm];omega
  ·rw[f];unfold hold;omega
 | obj m=>
  rw[zD]at hok;rw[zw]at htw;have d:q∈m.toL:=(Yy _).subset hq;obtain⟨a,b⟩:=RA m [] hok htw _ d;have n:=KP (m.toL.map (·.2)) q.2 (yP.2 ⟨q,d,rfl⟩);have e:=JE m;have f:=Jm m;have k:=V8 Zo d;simp only[Zo]at k;have o:=KF q.1;refine⟨a,b,?_,?_⟩
  ·rw[zm];omega
  ·omega
 | nul=>simp[zu]at hq
 | tt=>simp[zu]at hq
 | ff=>simp[zu]at hq
 | num l=>simp[zu]at hq
 | str l=>simp[zu]at hq
theorem JH(v:JV):zj v=((zu v).map fun q=>zj q.2).sum+1:=by
 cases v with
 | arr l=>
  rw[zj,Vv];show cl l.toL+1=((ZX 0 l.toL).map fun q=>zj q.2).sum+1
  have e:((ZX 0 l.toL).map fun q=>zj q.2)=((ZX 0 l.toL).map (·.2)).map zj:=by rw[List.map_map];rfl
  rw[e,FK];rfl
 | obj m=>
  rw[zj,Ys];show _=((JF m.toL).map fun q=>zj q.2).sum+1
  rw[((Yy m.toL).map fun q=>zj q.2).sum_nat]
 | nul=>rfl
 | tt=>rfl
 | ff=>rfl
 | num l=>rfl
 | str l=>rfl
def Zp(p k:List UInt8):List UInt8:=p++47 :: zT k
theorem FL(p k:List UInt8):(Zp p k).length<=p.length+1+2*k.length:=by
 have:=Vg k;simp[Zp];omega
def ZV:Nat->List UInt8->JV->List (List UInt8×List UInt8)
 | 0,_,_=>[]
 | n+1,p,v=>(p,ct v) ::(zu v).flatMap fun q=>ZV n (Zp p q.1) q.2
theorem RD{α β:Type}(f:α->List β)(g:α->Nat):∀ l:List α,(∀ x∈l,(f x).length=g x)->(l.flatMap f).length=(l.map g).sum
 | [],_=>rfl
 | x :: r,h=>by
  rw[List.flatMap_cons,yh,yi,yM,h x yq,RD f g r (fun y hy=>h y (yw _ hy))]
theorem KQ:∀ (n:Nat) (p:List UInt8) (v:JV),zD v->zw v=false->zm v<=n->(ZV n p v).length=zj v
 | 0,p,v,_,_,h=>by have:=(qz v).2;omega
 | n+1,p,v,h1,h2,h=>by
  rw[ZV,yp,JH v];rw[RD _ (fun q=>zj q.2) (zu v) (fun q hq=>by
   obtain⟨a,b,c,_⟩:=JG h1 h2 hq;exact KQ n _ q.2 a b (by omega))]
theorem TU(v:JV)(k:Nat):(((zu v).take k).map fun q=>zj q.2).sum+1<=zj v:=by
 rw[JH v];have e:(zu v)=(zu v).take k++(zu v).drop k:=(List.take_append_drop _ _).symm;have a:((zu v).map fun q=>zj q.2).sum=(((zu v).take k).map fun q=>zj q.2).sum+(((zu v).drop k).map fun q=>zj q.2).sum:=by
  conv=>lhs;rw[e]
  rw[yx,List.sum_append]
 omega
theorem RE{α β:Type}(f:α->List β)(l:List α)(k:Nat)(h:k<l.length):(l.take (k+1)).flatMap f=(l.take k).flatMap f++f l[k]:=by
 rw[yz h,List.flatMap_append];simp
theorem zcD{w:Wo}{B B' e e' size size' n n':Nat}{v v':Value}{xs xs':List Value}(h:w.ownsRow B e size v n xs)(h':w.ownsRow B' e' size' v' n' xs')(hne:e≠e'):v.ownBlock=none∨v.ownBlock≠v'.ownBlock:=by
 rcases h.2 with ⟨d,_⟩ |⟨g,j,k,d,_,l,_⟩
 ·subst d;exact .inl rfl
 ·rcases h'.2 with ⟨a,_⟩ |⟨m,f,i,a,_,b,_⟩
  ·subst d;subst a;right;intro e;cases e
  ·subst d;subst a;right;intro e;injection e with e;simp only at e;subst e;rw[l]at b;injection b with e;injection e with _ e;exact hne e
theorem zcE{s:Bs}{i r n:Nat}(h:piece s i=some (r,n)):(enc r).length<=n:=by
 have a:∀ {r:Nat},r<128->(enc r).length<=1:=fun {r} hr=>by
  rw[enc,Lib.encodeRune,Lib.encodeRuneZ_one (by omega) (by omega)];simp
 have g:=Kx r;unfold piece at h;split at h
 ·unfold QQ at h;split at h
  ·rename_i v d;injection h with h;injection h with h1 h2;have:=Pw d;subst h1;have:=a this;omega
  ·simp only[Option.bind_eq_some_iff]at h;obtain⟨u,j,h⟩:=h;unfold q8 at h;split at h
   ·injection h with h;injection h with h1 h2;omega
   ·split at h
    ·cases h
    ·simp only[Option.bind_eq_some_iff]at h;obtain⟨v,d,h⟩:=h;split at h
     ·injection h with h;injection h with h1 h2;omega
     ·cases h
 ·split at h
  ·cases h
  ·have b:i<s.size:=Zb (by omega);split at h
   ·injection h with h;injection h with h1 h2;rename_i hb;subst h1;have:=a hb;omega
   ·split at h
    ·cases h
    ·rename_i hb hr;injection h with h;injection h with h1 h2;have f:=Zq s i b;obtain⟨e,_⟩:=Gy s i b hr (by omega);subst h1;subst h2;rw[enc,e,ym];omega
theorem zcF{s:Bs}:∀ {i j:Nat} {l:List UInt8},qN s i=some (l,j)->l.length+(i+1)<=j:=by
 intro i;generalize hn:s.size - i=n;induction n using Nat.strongRecOn generalizing i with
 | _ n ih=>
  intro j l h;by_cases a:bt s i=34
  ·rw[Gz a]at h;injection h with h;injection h with h1 h2;subst h1;simp;omega
  ·cases hp:piece s i with
   | none=>rw[GA a hp]at h;cases h
   | some p=>
    obtain⟨r,b⟩:=p;have f:=VT hp;have d:=zcE hp;rw[VV a hp]at h;rcases hq:qN s (i+b)with _ |⟨k,g⟩
    ·rw[hq]at h;cases h
    ·rw[hq]at h;injection h with h;injection h with h1 h2;have:=ih (s.size - (i+b)) (by omega) rfl hq;subst h1;simp only[yh];simp only at h2;omega
theorem zcG{s:Bs}{i j:Nat}{l:List UInt8}(h:Zz s i=some (l,j)):l.length+(i+2)<=j:=by
 unfold Zz at h;split at h
 ·have:=zcF h;omega
 ·cases h
mutual
def QL:JV->Nat
 | .arr l=>GO 0 l
 | .obj m=>GQ m
 | _=>0
def GO:Nat->JL->Nat
 | _,.nil=>0
 | k,.cons v r=>max (1+2*(zM k).length+QL v) (GO (k+1) r)
def GQ:JM->Nat
 | .nil=>0
 | .cons k v r=>max (1+2*k.length+QL v) (GQ r)
end
theorem TV:∀ (l:JL) (k:Nat) (q:List UInt8×JV),q∈ZX k l.toL->1+2*q.1.length+QL q.2<=GO k l
 | .nil,k,q,h=>by simp[JL.toL,ZX]at h
 | .cons v r,k,q,h=>by
  rw[JL.toL,ZX]at h;rw[GO];rcases List.mem_cons.1 h with h | h
  ·subst h;simp only;omega
  ·have:=TV r (k+1) q h;omega
theorem TW:∀ (m:JM) (q:List UInt8×JV),q∈m.toL->1+2*q.1.length+QL q.2<=GQ m
 | .nil,q,h=>by simp[JM.toL]at h
 | .cons k v r,q,h=>by
  rw[JM.toL]at h;rw[GQ];rcases List.mem_cons.1 h with h | h
  ·subst h;simp only;omega
  ·have:=TW r q h;omega
theorem zcH{v:JV}{q:List UInt8×JV}(h:q∈zu v):1+2*q.1.length+QL q.2<=QL v:=by
 cases v with
 | arr l=>rw[QL];exact TV l 0 q h
 | obj m=>rw[QL];exact TW m q ((Yy _).subset h)
 | nul=>simp[zu]at h
 | tt=>simp[zu]at h
 | ff=>simp[zu]at h
 | num l=>simp[zu]at h
 | str l=>simp[zu]at h
theorem RF:∀ (n:Nat) (p:List UInt8) (v:JV) (x:List UInt8×List UInt8),x∈ZV n p v->x.1.length<=p.length+QL v
 | 0,p,v,x,h=>by simp[ZV]at h
 | n+1,p,v,x,h=>by
  rw[ZV]at h;rcases List.mem_cons.1 h with h | h
  ·subst h;simp only;omega
  ·obtain⟨q,hq,hx⟩:=List.mem_flatMap.1 h;have a:=RF n _ _ x hx;have b:=zcH hq;have d:=FL p q.1;omega
theorem WO(s:Bs):∀ f i,(∀ v j,pv s f i=some (v,j)->QL v<=2*(j - i))/\(∀ l j,pa s f i=some (l,j)->∀ k,GO k l<=2*k+2*(j - i)+1)/\(∀ m j,po s f i=some (m,j)->GQ m<=2*(j - i))
 | 0,i=>⟨fun v j h=>by simp[pv]at h,fun v j h=>by simp[pa]at h,fun v j h=>by simp[po]at h⟩
 | f+1,i=>by
  refine⟨fun v j h=>?_,fun l j h=>?_,fun m j h=>?_⟩
  ·have hok:=(qO s (f+1) i).1 v j h;rw[pv]at h;have g:=z8 s (i+1);split at h
   ·split at h
    ·injection h with h;injection h with b h;subst b;simp[QL,GO]
    ·simp only[yA]at h;obtain⟨⟨l,k⟩,d,h⟩:=h;injection h with b h;have p:=(WO s f (sk s (i+1))).2.1 l k d 0;have r:=(qO s f (sk s (i+1))).2.1 l k d;subst b;rw[QL];simp only at h ⊢;omega
   ·split at h
    ·split at h
     ·injection h with h;injection h with b h;subst b;simp[QL,GQ]
     ·simp only[yA]at h;obtain⟨⟨l,k⟩,d,h⟩:=h;injection h with b h;have p:=(WO s f (sk s (i+1))).2.2 l k d;have r:=(qO s f (sk s (i+1))).2.2 l k d;subst b;rw[QL];simp only at h ⊢;omega
    ·split at h
     ·simp only[yA]at h;obtain⟨⟨l,k⟩,d,h⟩:=h;injection h with b h;subst b;simp[QL]
     ·split at h
      ·injection h with h;injection h with b h;subst b;simp[QL]
      ·split at h
       ·injection h with h;injection h with b h;subst b;simp[QL]
       ·split at h
        ·injection h with h;injection h with b h;subst b;simp[QL]
        ·simp only[yA]at h;obtain⟨⟨l,k⟩,d,h⟩:=h;injection h with b h;subst b;simp[QL]
  ·rw[pa]at h;simp only[Option.bind_eq_some_iff]at h;obtain⟨⟨v,k⟩,d,h⟩:=h;have p:=(qO s f i).1 v k d;have q:=(WO s f i).1 v k d;have x:=z8 s k;simp only at h;intro m;have D:=Fq m;split at h
   ·injection h with h;injection h with b h;subst b;simp only[GO];omega
   ·split at h
    ·simp only[yA]at h;obtain⟨⟨l,n⟩,o,h⟩:=h;injection h with b h;have r:=(qO s f _).2.1 l n o;have u:=(WO s f _).2.1 l n o (m+1);have y:=z8 s (sk s k+1);subst b;rw[GO];simp only at h ⊢;omega
    ·cases h
  ·rw[po]at h;simp only[Option.bind_eq_some_iff]at h;obtain⟨⟨A,a⟩,w,h⟩:=h;have b:=JX w;have z:=zcG w;simp only at h;split at h
   ·simp only[Option.bind_eq_some_iff]at h;obtain⟨⟨v,k⟩,d,h⟩:=h;have p:=(qO s f _).1 v k d;have q:=(WO s f _).1 v k d;have B:=z8 s a;have C:=z8 s (sk s a+1);have x:=z8 s k;simp only at h;split at h
    ·injection h with h;injection h with b h;subst b;simp only[GQ];omega
    ·split at h
     ·simp only[yA]at h;obtain⟨⟨l,n⟩,o,h⟩:=h;injection h with b h;have r:=(qO s f _).2.2 l n o;have u:=(WO s f _).2.2 l n o;have y:=z8 s (sk s k+1);subst b;rw[GQ];simp only at h ⊢;omega
     ·cases h
   ·cases h
theorem zcI{s:Bs}{i j:Nat}{v:JV}(h:val s i=some (v,j)):QL v<=2*(j - i):=(WO s _ i).1 v j h
theorem FM{s:Bs}{c:Nat}(h:zI s= .inl c):c≠0:=by
 unfold zI at h
 repeat' split at h
 all_goals first
  |(injection h with h;omega)
  | cases h
structure KR(v:JV):Prop where
 ok:zD v
 tw:zw v=false
 dep:zm v<=100
 len:(ct v).length<=600000
 cnt:zj v<=3000
 mx:QL v<=40000
theorem zcJ{s:Bs}{v:JV}(h:Qa s=some v):QL v<=2*s.size:=by
 unfold Qa at h
 cases hv:val s (sk s 0)with
 | none=>rw[hv]at h;simp at h
 | some q=>
  obtain⟨u,j⟩:=q;have e:u=v:=by
   rw[hv]at h;simp only[yB]at h;split at h
   ·injection h
   ·cases h
  subst e;have a:=zcI hv;have b:=Y3 hv;omega
theorem zcK{s:Bs}{v:JV}(h:zI s= .inr v):KR v:=by
 unfold zI at h;split at h
 ·cases h
 ·rename_i hs;split at h
  ·cases h
  ·rename_i v' hd;split at h
   ·cases h
   ·split at h
    ·cases h
    ·rename_i hb ht;split at h
     ·cases h
     ·rename_i hl;injection h with h;subst h;obtain⟨a,b,d⟩:=Vy hd;have f:=zcJ hd;exact⟨a,by simpa using ht,by omega,by omega,by omega,by omega⟩
def RG:JV:=.obj (.cons [97] (.arr (.cons (.num [49]) (.cons (.num [50]) (.cons (.obj (.cons [98] .nul .nil)) .nil)))) .nil)
theorem zcL:ct RG=[123,34,97,34,58,91,49,44,50,44,123,34,98,34,58,110,117,108,108,125,93,125]:=by rfl
theorem zcM:zI (zh [123,34,97,34,58,91,49,44,50,44,123,34,98,34,58,110,117,108,108,125,93,125])= .inr RG:=by rfl
def J2(t:List UInt8):Int:=match Z8 t with
 | some i=>(i:Int)
 | none=>-1
theorem TX(s:Bs)(w:Wo)(hs:s.size<=1048576):
  Calls prog 154 #[.string s] w fun e w'=>e= .returned (.int .i64 (J2 s.data.toList))/\w=w':=by
 have d:¬ GL s.data.toList=true->J2 s.data.toList= -1:=fun h=>by unfold J2 Z8;rw[yf h]
 have N:=Zg s;by_cases A:s.size<1
 ·have v:=ze (d (fun h=>by have:=(Yx.1 h).1;omega));have O:(s.size:Int)<1:=by omega
  clear d A;go_in;go_wp2;go_ret;exact⟨by rw[uh v];rfl,rfl⟩
 ·have O:¬ (s.size:Int)<1:=by omega
  by_cases F:6<s.size
  ·have v:=ze (d (fun h=>by have:=(Yx.1 h).2.1;omega));have P:(6:Int)<(s.size:Int):=by omega
   clear d A F;go_in;go_wp2;go_ret;exact⟨by rw[uh v];rfl,rfl⟩
  ·have P:¬ (6:Int)<(s.size:Int):=by omega
   have S:0<s.size:=by omega
   have n:(s.data.toList.getD 0 0)=s[0]:=by rw[List.getD,yy (by omega)];rfl
   have T:(0:Int)<(s.size:Int):=by omega
   by_cases B:s[0].toNat=48/\1<s.size
   ·have v:=ze (d (fun h=>(Yx.1 h).2.2.1 ⟨by rw[n];exact B.1,by omega⟩));have J:((s[0].toNat:Int) ==48)=true:=by rw[yD];omega
    have Q:(1:Int)<(s.size:Int):=by omega
    clear d A F B n;go_in;go_wp2;go_ret;exact⟨by rw[uh v];rfl,rfl⟩
   ·have z:Hid (∀ (k:Nat) (u:k<s.size) (w:Wo),Calls prog 90 #[.int .u8 (s[k].toNat:Int)] w (Rk (.bool (zP s[k].toNat)) w)):=fun k u w=>PK s[k].toNat w;have i:Hid (∀ k (u:k<s.size),zP s[k].toNat=false->J2 s.data.toList= -1):=fun k u hd=>d (fun h=>by
     have:=(Yx.1 h).2.2.2 s[k] (by rw[← Dk s k u];exact yt _);rw[hd]at this;cases this)
    have g:Hid ((∀ k (u:k<s.size),zP s[k].toNat=true)->J2 s.data.toList=(qE s.data.toList:Int)):=fun l=>by
     have G:GL s.data.toList=true:=Yx.2 ⟨by omega,by omega,fun ⟨a,b⟩=>B ⟨by rw[← n];exact a,by omega⟩,fun c hc=>by
      obtain⟨j,o,rfl⟩:=List.getElem_of_mem hc;exact l j (by omega)⟩
     unfold J2 Z8;rw[yg G]
    have H:((s[0].toNat:Int) ==48)=false∨((s[0].toNat:Int) ==48)=true/\¬ (1:Int)<(s.size:Int):=by
     by_cases e:s[0].toNat=48
     ·right;exact⟨by rw[yD];omega,by omega⟩
     ·left;rw[yd];omega
    have K:s.size<=6:=by omega
    clear d B n A F;rcases H with J |⟨J,Q⟩
    all_goals
     go_in;go_wp2;go_loopw [3,4] (fun vv iv wr=>∃ k:Nat,k<=s.size/\iv= .int .i64 (k:Int)/\vv= .int .i64 ((qE (s.data.toList.take k):Nat):Int)/\(∀ j (o:j<s.size),j<k->zP s[j].toNat=true)/\w=wr) (fun _ iv _=>s.size - (intOf iv).toNat)
     case atStart=>exact⟨0,yu _,rfl,rfl,fun j _ o=>by omega,rfl⟩
     case round=>
      obtain⟨k,u,rfl,rfl,l,rfl⟩:=hrel;have f:=ze l;clear l;by_cases q:k<s.size
      ·have I:(k:Int)<(s.size:Int):=by omega
       have m:=ze (uh z k q w);have r:s.data.toList.take (k+1)=s.data.toList.take k++[s[k]]:=Ua s k q;have x:Hid (qE (s.data.toList.take (k+1))=qE (s.data.toList.take k)*10+(s[k].toNat - 48)):=by show _=_;rw[r,Ui]
       have p:qE (s.data.toList.take k)<1000000∨¬ ∀ c∈s.data.toList.take k,zP c.toNat=true:=by
        rcases Dl k (s.data.toList.take k) (by rw[ym];omega)with h | h
        ·left;have:10 ^ k<=10 ^ 6:=Nat.pow_le_pow_right (by omega) (by omega);omega
        ·exact .inr h
       have y:qE (s.data.toList.take k)<1000000:=p.elim id fun h=>absurd (fun c hc=>by
        obtain⟨j,o,rfl⟩:=List.getElem_of_mem hc;rw[ym]at o;rw[List.getElem_take];exact uh f j (by omega) (by omega)) h
       cases hd:zP s[k].toNat with
       | false=>
        have E:=ze (uh i k q hd);rw[hd]at m;clear hd x r p y f i g z;go_wp2_with fail;refine (uh m).mono ?_;rintro e R ⟨rfl,rfl⟩;clear m;go_wp2;go_ret;exact⟨by rw[uh E];rfl,rfl⟩
       | true=>
        have U:=Qx.1 hd;have C:Hid (∀ j (o:j<s.size),j<k+1->zP s[j].toNat=true):=fun j o hjk=>by
         by_cases e:j=k
         ·subst e;exact hd
         ·exact uh f j o (by omega)
        rw[hd]at m;have L:(48:Int)<=(s[k].toNat:Int):=by omega
        have M:(s[k].toNat:Int)<=57:=by omega
        generalize qE (s.data.toList.take k)=D at *;clear hd r p f i g z;go_wp2_with fail;refine (uh m).mono ?_;rintro e R ⟨rfl,rfl⟩;clear m;go_wp2;go_roundw
        case rel=>exact⟨k+1,by omega,by go_num,by rw[uh x];go_num,uh C,trivial⟩
        case measure=>simp[intOf];omega
      ·have e:s.data.toList.take k=s.data.toList:=yr (by omega);rw[e];have E:=ze (uh g (fun j o=>uh f j o (by omega)));generalize qE s.data.toList=D at *;clear f i g z e;go_wp2;go_ret;exact⟨by rw[uh E];rfl,rfl⟩
def FN(l:List UInt8):Prop:=∃ (sg ds:List UInt8) (d:UInt8),l=sg++d :: ds/\(sg=[]∨sg=[45])/\zP d.toNat=true/\(∀ b∈ds,zP b.toNat=true)/\(d.toNat=48->ds=[]/\sg=[])
mutual
def ZP:JV->Prop
 | .nul=>True
 | .tt=>True
 | .ff=>True
 | .num l=>FN l
 | .str l=>Lib.validD l=true
 | .arr l=>QM l
 | .obj m=>QN m
def QM:JL->Prop
 | .nil=>True
 | .cons v r=>ZP v/\QM r
def QN:JM->Prop
 | .nil=>True
 | .cons k v r=>Lib.validD k=true/\ZP v/\QN r
end
mutual
def JI:JV->Prop
 | .arr l=>GR l
 | .obj m=>Yz m/\zJ (zl m)=zl m
 | _=>True
def GR:JL->Prop
 | .nil=>True
 | .cons v r=>JI v/\GR r
def Yz:JM->Prop
 | .nil=>True
 | .cons _ v r=>JI v/\Yz r
end
theorem TY{l:List UInt8}(h:FN l):∃ (c:UInt8) (r:List UInt8),l=c :: r/\(c.toNat=45∨zP c.toNat=true)/\∀ b∈r,zP b.toNat=true:=by
 obtain⟨k,g,d,rfl,j,i,a,_⟩:=h;rcases j with rfl | rfl
 ·exact⟨d,g,rfl,.inr i,a⟩
 ·refine⟨45,d :: g,rfl,.inl rfl,fun b f=>?_⟩;rcases List.mem_cons.1 f with rfl | f
  ·exact i
  ·exact a b f
mutual
theorem GT:∀ v:JV,ZP v->zD v
 | .nul,_=>by rw[zD];trivial
 | .tt,_=>by rw[zD];trivial
 | .ff,_=>by rw[zD];trivial
 | .num l,h=>by rw[ZP]at h;rw[zD];exact TY h
 | .str l,h=>by rw[ZP]at h;rw[zD];exact h
 | .arr l,h=>by rw[ZP]at h;rw[zD];exact TZ l h
 | .obj m,h=>by rw[ZP]at h;rw[zD];exact T0 m h
theorem TZ:∀ l:JL,QM l->qJ l
 | .nil,_=>by rw[qJ];trivial
 | .cons v r,h=>by rw[QM]at h;rw[qJ];exact⟨GT v h.1,TZ r h.2⟩
theorem T0:∀ m:JM,QN m->qG m
 | .nil,_=>by rw[qG];trivial
 | .cons k v r,h=>by rw[QN]at h;rw[qG];exact⟨h.1,GT v h.2.1,T0 r h.2.2⟩
end
theorem T2{T:Bs}:∀ (ds m:List UInt8) (i:Nat),T.data.toList.drop i=ds++m->(∀ b∈ds,zP b.toNat=true)->GE m->dg T i=i+ds.length
 | [],m,i,h,_,hm=>by
  rcases hm with rfl |⟨c,r,rfl,hc⟩
  ·rw[List.nil_append]at h;have:T.size<=i:=by
    have:=List.drop_eq_nil_iff.1 h;rw[Zg]at this;exact this
   rw[UC (by rw[Ya T i this];decide)];rfl
  ·obtain⟨_,a,_⟩:=ZA (T:=T) h;rw[UC (by rw[a,Qx];omega)];rfl
 | d :: ds,m,i,h,hd,hm=>by
  obtain⟨_,a,f⟩:=ZA (T:=T) h;rw[VW (by rw[a];exact hd d yq),T2 ds m (i+1) f (fun b a=>hd b (yw _ a)) hm,yp];omega
theorem zcN{T:Bs}{i:Nat}{l m:List UInt8}(h:T.data.toList.drop i=l++m):Zh T i (i+l.length)=l:=by
 unfold Zh;rw[h,show i+l.length - i=l.length by omega,List.take_left]
theorem zcO{T:Bs}{i:Nat}{l m:List UInt8}(hn:FN l)(h:T.data.toList.drop i=l++m)(hm:GE m):nm T i=some (l,i+l.length):=by
 have w:=zcN h;obtain⟨n,a,d,rfl,r,j,o,q⟩:=hn;have x:=Qx.1 j;have f:∀ k,zW T i=k->T.data.toList.drop k=d ::(a++m)->k+1+a.length=i+(n++d :: a).length->nm T i=some (n++d :: a,i+(n++d :: a).length):=by
  intro k p s u;obtain⟨_,b,g⟩:=ZA (T:=T) s;have v:qr T i=i+(n++d :: a).length:=by
   unfold qr;rw[p,b];split
   ·rename_i hz;obtain⟨y,z⟩:=q hz;subst y;simp only[yE]at u;omega
   ·rw[VW (by rw[b];exact j),T2 a m (k+1) g o hm];omega
  unfold nm;rw[p,b,yg j,v,w];unfold Qk;rw[yf];intro e;rcases r with rfl | rfl
  ·rw[List.nil_append]at e;injection e with e _;subst e;simp[zP]at j
  ·simp only[List.cons_append,List.nil_append,List.cons.injEq,true_and]at e;have:d.toNat=48:=by rw[e.1];rfl
   have:=(q this).2
   cases this
 rcases r with rfl | rfl
 ·rw[List.nil_append]at h;rw[List.cons_append]at h;obtain⟨_,b,g⟩:=ZA (T:=T) h;refine f i ?_ h (by simp;omega);unfold zW;rw[yf (by omega)]
 ·rw[List.cons_append,List.nil_append,List.cons_append]at h;obtain⟨_,b,g⟩:=ZA (T:=T) h;refine f (i+1) ?_ g (by simp;omega);unfold zW;rw[yg (by rw[b];rfl)]
theorem KS{v:JV}(h:zD v):∃ (c:UInt8) (r:List UInt8),ct v=c :: r/\c.toNat≠32/\c.toNat≠9/\c.toNat≠10/\c.toNat≠13/\c.toNat≠93/\c.toNat≠125:=by
 cases v with
 | nul=>exact⟨_,_,rfl,by decide,by decide,by decide,by decide,by decide,by decide⟩
 | tt=>exact⟨_,_,rfl,by decide,by decide,by decide,by decide,by decide,by decide⟩
 | ff=>exact⟨_,_,rfl,by decide,by decide,by decide,by decide,by decide,by decide⟩
 | num l=>
  rw[zD]at h;obtain⟨c,r,rfl,a,_⟩:=h;have:c.toNat=45∨(48<=c.toNat/\c.toNat<=57):=a.imp id Qx.1;exact⟨c,r,rfl,by omega,by omega,by omega,by omega,by omega,by omega⟩
 | str l=>exact⟨34,_,rfl,by decide,by decide,by decide,by decide,by decide,by decide⟩
 | arr l=>exact⟨91,_,rfl,by decide,by decide,by decide,by decide,by decide,by decide⟩
 | obj m=>exact⟨123,_,rfl,by decide,by decide,by decide,by decide,by decide,by decide⟩
theorem J3{T:Bs}{i:Nat}{c:UInt8}{r:List UInt8}(h:T.data.toList.drop i=c :: r)(h1:c.toNat≠32)(h2:c.toNat≠9)(h3:c.toNat≠10)(h4:c.toNat≠13):sk T i=i:=by
 obtain⟨_,a,_⟩:=ZA (T:=T) h;exact Kw (by omega)
mutual
theorem KT{T:Bs}:∀ v:JV,ZP v->JI v->∀ i m,T.data.toList.drop i=ct v++m->GE m->val T i=some (v,i+(ct v).length)
 | .nul,_,_,i,m,h,_=>by
  have h0:T.data.toList.drop i=110 :: 117 :: 108 :: 108 :: m:=h;obtain⟨_,b0,h1⟩:=ZA (T:=T) h0;obtain⟨_,b1,h2⟩:=ZA (T:=T) h1;obtain⟨_,b2,h3⟩:=ZA (T:=T) h2;obtain⟨_,b3,_⟩:=ZA (T:=T) h3;rw[VX (by rw[b0];decide) (by rw[b0];decide) (by rw[b0];decide),yg (by unfold QX;rw[b0,b1,b2,b3];rfl)];rfl
 | .tt,_,_,i,m,h,_=>by
  have h0:T.data.toList.drop i=116 :: 114 :: 117 :: 101 :: m:=h;obtain⟨_,b0,h1⟩:=ZA (T:=T) h0;obtain⟨_,b1,h2⟩:=ZA (T:=T) h1;obtain⟨_,b2,h3⟩:=ZA (T:=T) h2;obtain⟨_,b3,_⟩:=ZA (T:=T) h3;rw[VX (by rw[b0];decide) (by rw[b0];decide) (by rw[b0];decide),yf (by unfold QX;rw[b0];simp),yg (by unfold Ja;rw[b0,b1,b2,b3];rfl)];rfl
 | .ff,_,_,i,m,h,_=>by
  have h0:T.data.toList.drop i=102 :: 97 :: 108 :: 115 :: 101 :: m:=h;obtain⟨_,b0,h1⟩:=ZA (T:=T) h0;obtain⟨_,b1,h2⟩:=ZA (T:=T) h1;obtain⟨_,b2,h3⟩:=ZA (T:=T) h2;obtain⟨_,b3,h4⟩:=ZA (T:=T) h3;obtain⟨_,b4,_⟩:=ZA (T:=T) h4;rw[VX (by rw[b0];decide) (by rw[b0];decide) (by rw[b0];decide),yf (by unfold QX;rw[b0];simp),yf (by unfold Ja;rw[b0];simp),yg (by unfold Ju;rw[b0,b1,b2,b3,b4];rfl)];rfl
 | .num l,hr,_,i,m,h,hm=>by
  rw[ZP]at hr;have hn:=zcO hr h hm;obtain⟨c,r,rfl,hc,_⟩:=TY hr;obtain⟨_,b0,_⟩:=ZA (T:=T) (c:=c) (m:=r++m) h;have:c.toNat=45∨(48<=c.toNat/\c.toNat<=57):=hc.imp id Qx.1;rw[VX (by omega) (by omega) (by omega),yf (by unfold QX;simp;omega),yf (by unfold Ja;simp;omega),yf (by unfold Ju;simp;omega),hn];rfl
 | .str l,hr,_,i,m,h,_=>by
  rw[ZP]at hr;obtain⟨_,b0,_⟩:=ZA (T:=T) (c:=34) (m:=qs l++[34]++m) (by rw[h];simp[ct,quoted]);rw[PE (by rw[b0];rfl),VZ l T m hr i h];rfl
 | .arr .nil,_,_,i,m,h,_=>by
  have h0:T.data.toList.drop i=91 :: 93 :: m:=h;obtain⟨_,b0,h1⟩:=ZA (T:=T) h0;obtain⟨_,b1,_⟩:=ZA (T:=T) h1;rw[Fj (by rw[b0];rfl),J3 h1 (by decide) (by decide) (by decide) (by decide),yg (by rw[b1];rfl)];rfl
 | .arr (.cons v r),hr,hs,i,m,h,hm=>by
  rw[ZP]at hr;rw[JI]at hs;have h0:T.data.toList.drop i=91 ::(joinC (zF (.cons v r))++93 :: m):=by rw[h];simp[ct,ZT]
  obtain⟨_,b0,h1⟩:=ZA (T:=T) h0;have hrv:=hr;rw[QM]at hrv;obtain⟨c,q,e,c1,c2,c3,c4,c5,_⟩:=KS (GT v hrv.1);have h1':T.data.toList.drop (i+1)=c ::(q++(joinT (zF r)++93 :: m)):=by rw[h1,zF,joinC,e];simp
  obtain⟨_,b1,_⟩:=ZA (T:=T) h1';rw[Fj (by rw[b0];rfl),J3 h1' c1 c2 c3 c4,yf (by rw[b1];exact c5),T3 v r hr hs (i+1) m h1];have e2:(ct (.arr (.cons v r))).length=(joinC (zF (.cons v r))).length+2:=by simp[ct,ZT]
  rw[e2];simp only[Option.map_some,Option.some.injEq,Prod.mk.injEq,true_and];omega
 | .obj .nil,_,_,i,m,h,_=>by
  have h0:T.data.toList.drop i=123 :: 125 :: m:=h;obtain⟨_,b0,h1⟩:=ZA (T:=T) h0;obtain⟨_,b1,_⟩:=ZA (T:=T) h1;rw[Fk (by rw[b0];rfl),J3 h1 (by decide) (by decide) (by decide) (by decide),yg (by rw[b1];rfl)];rfl
 | .obj (.cons k v r),hr,hs,i,m,h,hm=>by
  rw[ZP]at hr;rw[JI]at hs;have hc:ct (.obj (.cons k v r))=123 ::(joinC ((zl (.cons k v r)).map zz)++[125]):=by rw[ct,hs.2];rfl
  have h0:T.data.toList.drop i=123 ::(joinC ((zl (.cons k v r)).map zz)++125 :: m):=by rw[h,hc];simp
  obtain⟨_,b0,h1⟩:=ZA (T:=T) h0;have h1':T.data.toList.drop (i+1)=34 ::(qs k++[34]++58 :: ct v++(joinT ((zl r).map zz)++125 :: m)):=by rw[h1,zl,yi,joinC];simp[zz,quoted]
  obtain⟨_,b1,_⟩:=ZA (T:=T) h1';rw[Fk (by rw[b0];rfl),J3 h1' (by decide) (by decide) (by decide) (by decide),yf (by rw[b1];decide),T4 k v r hr hs.1 (i+1) m h1];rw[hc];simp only[Option.map_some,Option.some.injEq,Prod.mk.injEq,true_and,yp,yh,yE];omega
termination_by v=>SizeOf.sizeOf v
decreasing_by all_goals simp_wf;all_goals omega
theorem T3{T:Bs}:∀ (v:JV) (r:JL),QM (.cons v r)->GR (.cons v r)->∀ i m,T.data.toList.drop i=joinC (zF (.cons v r))++93 :: m->elems T i=some (.cons v r,i+(joinC (zF (.cons v r))).length+1)
 | v,.nil,hr,hs,i,m,h=>by
  rw[QM]at hr;rw[GR]at hs;have h':T.data.toList.drop i=ct v++93 :: m:=by rw[h];simp[zF,joinC,joinT]
  have hv:=KT v hr.1 hs.1 i (93 :: m) h' (.inr ⟨93,m,rfl,.inr (.inl rfl)⟩);have h2:T.data.toList.drop (i+(ct v).length)=93 :: m:=Jc h';obtain⟨_,b2,_⟩:=ZA (T:=T) h2;rw[Wz,hv];simp only[yB];rw[J3 h2 (by decide) (by decide) (by decide) (by decide),yg (by rw[b2];rfl)];simp[zF,joinC,joinT]
 | v,.cons u r,hr,hs,i,m,h=>by
  rw[QM]at hr;rw[GR]at hs;have h':T.data.toList.drop i=ct v++44 ::(joinC (zF (.cons u r))++93 :: m):=by rw[h];simp[zF,joinC,joinT]
  have hv:=KT v hr.1 hs.1 i _ h' (.inr ⟨44,_,rfl,.inl rfl⟩);have h2:T.data.toList.drop (i+(ct v).length)=44 ::(joinC (zF (.cons u r))++93 :: m):=Jc h';obtain⟨_,b2,h3⟩:=ZA (T:=T) h2;have hru:=hr.2;rw[QM]at hru;obtain⟨c,q,e,c1,c2,c3,c4,_,_⟩:=KS (GT u hru.1);have h3':T.data.toList.drop (i+(ct v).length+1)=c ::(q++(joinT (zF r)++93 :: m)):=by rw[h3,zF,joinC,e];simp
  rw[Wz,hv];simp only[yB];rw[J3 h2 (by decide) (by decide) (by decide) (by decide),yf (by rw[b2];decide),yg (by rw[b2];rfl),J3 h3' c1 c2 c3 c4,T3 u r hr.2 hs.2 _ m h3];have e2:(joinC (zF (.cons v (.cons u r)))).length=(ct v).length+1+(joinC (zF (.cons u r))).length:=by simp[zF,joinC,joinT];omega
  rw[e2];simp only[Option.map_some,Option.some.injEq,Prod.mk.injEq,true_and];omega
termination_by v r=>SizeOf.sizeOf v+SizeOf.sizeOf r
decreasing_by all_goals simp_wf;all_goals omega
theorem T4{T:Bs}:∀ (k:List UInt8) (v:JV) (r:JM),QN (.cons k v r)->Yz (.cons k v r)->∀ i m,T.data.toList.drop i=joinC ((zl (.cons k v r)).map zz)++125 :: m->QB T i=some (.cons k v r,i+(joinC ((zl (.cons k v r)).map zz)).length+1)
 | k,v,.nil,hr,hs,i,m,h=>by
  rw[QN]at hr;rw[Yz]at hs;have h':T.data.toList.drop i=quoted k++(58 ::(ct v++125 :: m)):=by rw[h];simp[zl,joinC,joinT,zz]
  have hk:=VZ k T _ hr.1 i h';have h2:T.data.toList.drop (i+(quoted k).length)=58 ::(ct v++125 :: m):=Jc h';obtain⟨_,b2,h3⟩:=ZA (T:=T) h2;obtain⟨c,q,e,c1,c2,c3,c4,_,_⟩:=KS (GT v hr.2.1);have h3':T.data.toList.drop (i+(quoted k).length+1)=c ::(q++125 :: m):=by rw[h3,e];simp
  have hv:=KT v hr.2.1 hs.1 (i+(quoted k).length+1) (125 :: m) h3 (.inr ⟨125,m,rfl,.inr (.inr rfl)⟩);have h4:T.data.toList.drop (i+(quoted k).length+1+(ct v).length)=125 :: m:=Jc h3;obtain⟨_,b4,_⟩:=ZA (T:=T) h4;rw[KA,hk];simp only[yB];rw[J3 h2 (by decide) (by decide) (by decide) (by decide),yg (by rw[b2];rfl),J3 h3' c1 c2 c3 c4,hv];simp only[yB];rw[J3 h4 (by decide) (by decide) (by decide) (by decide),yg (by rw[b4];rfl)];have e2:(joinC ((zl (.cons k v .nil)).map zz)).length=(quoted k).length+1+(ct v).length:=by simp[zl,joinC,joinT,zz];omega
  rw[e2];simp only[Option.some.injEq,Prod.mk.injEq,true_and];omega
 | k,v,.cons k' u r,hr,hs,i,m,h=>by
  rw[QN]at hr;rw[Yz]at hs;have h':T.data.toList.drop i=quoted k++(58 ::(ct v++44 ::(joinC ((zl (.cons k' u r)).map zz)++125 :: m))):=by rw[h];simp[zl,joinC,joinT,zz]
  have hk:=VZ k T _ hr.1 i h';have h2:=Jc h';obtain⟨_,b2,h3⟩:=ZA (T:=T) h2;obtain⟨c,q,e,c1,c2,c3,c4,_,_⟩:=KS (GT v hr.2.1);have h3':T.data.toList.drop (i+(quoted k).length+1)=c ::(q++44 ::(joinC ((zl (.cons k' u r)).map zz)++125 :: m)):=by rw[h3,e];simp
  have hv:=KT v hr.2.1 hs.1 (i+(quoted k).length+1) _ h3 (.inr ⟨44,_,rfl,.inl rfl⟩);have h4:=Jc h3;obtain⟨_,b4,h5⟩:=ZA (T:=T) h4;have h5':T.data.toList.drop (i+(quoted k).length+1+(ct v).length+1)=34 ::(qs k'++[34]++58 :: ct u++(joinT ((zl r).map zz)++125 :: m)):=by rw[h5,zl,yi,joinC];simp[zz,quoted]
  rw[KA,hk];simp only[yB];rw[J3 h2 (by decide) (by decide) (by decide) (by decide),yg (by rw[b2];rfl),J3 h3' c1 c2 c3 c4,hv];simp only[yB];rw[J3 h4 (by decide) (by decide) (by decide) (by decide),yf (by rw[b4];decide),yg (by rw[b4];rfl),J3 h5' (by decide) (by decide) (by decide) (by decide),T4 k' u r hr.2.2 hs.2 _ m h5];have e2:(joinC ((zl (.cons k v (.cons k' u r))).map zz)).length=(quoted k).length+1+(ct v).length+1+(joinC ((zl (.cons k' u r)).map zz)).length:=by simp[zl,joinC,joinT,zz];omega
  rw[e2];simp only[Option.map_some,Option.some.injEq,Prod.mk.injEq,true_and];omega
termination_by _ v r=>SizeOf.sizeOf v+SizeOf.sizeOf r
decreasing_by all_goals simp_wf;all_goals omega
end
theorem zcP{v:JV}(h:ZP v)(hs:JI v):Qa (zh (ct v))=some v:=by
 obtain⟨c,r,e,c1,c2,c3,c4,_,_⟩:=KS (GT v h);have a:(zh (ct v)).data.toList.drop 0=ct v++[]:=by rw[Za];simp
 have b:(zh (ct v)).data.toList.drop 0=c :: r:=by rw[Za];simpa using e
 unfold Qa;rw[J3 b c1 c2 c3 c4,KT v h hs 0 [] a (.inl rfl)];simp only[yB,Nat.zero_add];rw[Fd (by rw[zN];exact ye _),yg (zN _).symm]
theorem T5:∀ (l acc:List (List UInt8×List UInt8)),l.Pairwise (fun a b=>a.1<=b.1)->(∀ a∈acc,∀ b∈l,a.1<=b.1)->l.foldl (fun acc p=>qF p acc) acc=l.reverse++acc
 | [],acc,_,_=>rfl
 | p :: l,acc,h,ha=>by
  rw[List.pairwise_cons]at h;have e:qF p acc=p :: acc:=by
   cases acc with
   | nil=>rfl
   | cons q r=>rw[qF,yf (List.not_lt.2 (ha q yq p yq))]
  rw[List.foldl_cons,e,T5 l (p :: acc) h.2 (fun a d b hb=>by
   rcases List.mem_cons.1 d with rfl | d
   ·exact h.1 b hb
   ·exact ha a d b (yw _ hb))]
  simp
theorem zcQ{l:List (List UInt8×List UInt8)}(h:l.Pairwise (fun a b=>a.1<=b.1)):zJ l=l:=by
 unfold zJ;rw[T5 l [] h (fun a ha=>by simp at ha)];simp
theorem T6(l:List (List UInt8×List UInt8)):zJ (zJ l)=zJ l:=zcQ (UJ l)
def JM.ofL:List (List UInt8×JV)->JM
 | []=>.nil
 |(k,v) :: r=>.cons k v (JM.ofL r)
theorem JM.toL_ofL:∀ l:List (List UInt8×JV),(JM.ofL l).toL=l
 | []=>rfl
 |(k,v) :: r=>by rw[JM.ofL,JM.toL,JM.toL_ofL r]
theorem FP:∀ m:JM,QN m↔∀ q∈m.toL,Lib.validD q.1=true/\ZP q.2
 | .nil=>by rw[QN];simp[JM.toL]
 | .cons k v r=>by rw[QN,FP r,JM.toL];simp[and_assoc]
theorem T7:∀ m:JM,Yz m↔∀ q∈m.toL,JI q.2
 | .nil=>by rw[Yz];simp[JM.toL]
 | .cons k v r=>by rw[Yz,T7 r,JM.toL];simp
theorem KU:∀ m:JM,ZZ m=true↔∃ q∈m.toL,zV q.2=true
 | .nil=>by rw[ZZ];simp[JM.toL]
 | .cons k v r=>by rw[ZZ,Bool.or_eq_true,KU r,JM.toL];simp
theorem KV:∀ (m:JM) (ks:List (List UInt8)),ZW ks m=false↔(∀ q∈m.toL,zw q.2=false)/\(m.toL.map (·.1)).Nodup/\∀ q∈m.toL,q.1 ∉ ks
 | .nil,ks=>by rw[ZW];simp[JM.toL]
 | .cons k v r,ks=>by
  rw[ZW,JM.toL];simp only[Bool.or_eq_false_iff,KV r,yi,List.nodup_cons,List.mem_cons,List.contains_eq_mem,decide_eq_false_iff_not,List.mem_append,yP];constructor
  ·rintro⟨⟨h1,h2⟩,h3,h4,h5⟩;refine⟨?_,⟨?_,h4⟩,?_⟩
   ·rintro q (rfl | hq)
    ·exact h1
    ·exact h3 q hq
   ·rintro⟨q,hq,e⟩;exact h5 q hq (.inr (by simp[e]))
   ·rintro q (rfl | hq)
    ·exact h2
    ·exact fun hk=>h5 q hq (.inl hk)
  ·rintro⟨h1,⟨h2,h3⟩,h4⟩;refine⟨⟨h1 _ (.inl rfl),h4 _ (.inl rfl)⟩,fun q hq=>h1 q (.inr hq),h3,fun q hq hk=>?_⟩;rcases hk with hk | hk
   ·exact h4 q (.inr hq) hk
   ·simp only[List.not_mem_nil,or_false]at hk;exact h2 ⟨q,hq,hk⟩
theorem YA:∀ (l:List JV) (n:Nat),dl l<=n↔∀ v∈l,zm v<=n
 | [],n=>by simp[dl]
 | v :: r,n=>by rw[dl,Nat.max_le,YA r];simp
theorem zcR{a b:List JV}(h:a.Perm b):dl a=dl b:=by
 have d:=(YA b (dl b)).1 (ye _);have f:=(YA a (dl a)).1 (ye _);exact Nat.le_antisymm ((YA _ _).2 fun v hv=>d v (h.subset hv)) ((YA _ _).2 fun v hv=>f v (h.symm.subset hv))
def Yd(m:JM):JM:=JM.ofL (JF m.toL)
theorem zcS(m:JM):(Yd m).toL.Perm m.toL:=by unfold Yd;rw[JM.toL_ofL];exact Yy _
theorem T8(m:JM):zl (Yd m)=zJ (zl m):=by
 have a:zl m=m.toL.map kt:=qh m;have b:zl (Yd m)=(Yd m).toL.map kt:=qh _;rw[a,b];unfold Yd;rw[JM.toL_ofL,RC]
theorem zcT{a b:Bool}(h:a=false↔b=false):a=b:=by
 cases a<;>cases b<;>simp at h<;>rfl
theorem zcU(m:JM):(QN m->QN (Yd m))/\(Yz m->Yz (Yd m))/\JC (Yd m)=JC m/\Qd (Yd m)=Qd m/\ZZ (Yd m)=ZZ m/\ZW [] (Yd m)=ZW [] m:=by
 have p:=zcS m;refine⟨fun h=>?_,fun h=>?_,?_,?_,?_,?_⟩
 ·rw[FP]at *;exact fun q hq=>h q (p.subset hq)
 ·rw[T7]at *;exact fun q hq=>h q (p.subset hq)
 ·rw[JE,JE];exact zcR (p.map _)
 ·rw[Ys,Ys];exact (p.map _).sum_nat
 ·have:ZZ (Yd m)=true↔ZZ m=true:=by
   rw[KU,KU];exact⟨fun ⟨q,h1,h2⟩=>⟨q,p.subset h1,h2⟩,fun ⟨q,h1,h2⟩=>⟨q,p.symm.subset h1,h2⟩⟩
  exact Bool.eq_iff_iff.2 this
 ·refine zcT ?_;rw[KV,KV];exact⟨fun ⟨h1,h2,h3⟩=>⟨fun q hq=>h1 q (p.symm.subset hq),((p.map _).nodup_iff).1 h2,fun q hq=>h3 q (p.symm.subset hq)⟩,fun ⟨h1,h2,h3⟩=>⟨fun q hq=>h1 q (p.subset hq),((p.map _).nodup_iff).2 h2,fun q hq=>h3 q (p.subset hq)⟩⟩
mutual
def nv:JV->JV
 | .arr l=>.arr (Y9 l)
 | .obj m=>.obj (Yd (YT m))
 | .nul=>.nul
 | .tt=>.tt
 | .ff=>.ff
 | .num l=>.num l
 | .str l=>.str l
def Y9:JL->JL
 | .nil=>.nil
 | .cons v r=>.cons (nv v) (Y9 r)
def YT:JM->JM
 | .nil=>.nil
 | .cons k v r=>.cons k (nv v) (YT r)
end
structure NF(a b:JV):Prop where
 ct:ct a=ct b
 rd:ZP b->ZP a
 sr:JI a
 dep:zm a=zm b
 cnt:zj a=zj b
 big:zV a=zV b
 tw:zw a=zw b
theorem NF.leaf{v:JV}(h:JI v):NF v v:=⟨rfl,id,h,rfl,rfl,rfl,rfl⟩
mutual
theorem VA:∀ v:JV,NF (nv v) v
 | .nul=>by rw[nv];exact NF.leaf (by rw[JI];trivial;all_goals simp)
 | .tt=>by rw[nv];exact NF.leaf (by rw[JI];trivial;all_goals simp)
 | .ff=>by rw[nv];exact NF.leaf (by rw[JI];trivial;all_goals simp)
 | .num l=>by rw[nv];exact NF.leaf (by rw[JI];trivial;all_goals simp)
 | .str l=>by rw[nv];exact NF.leaf (by rw[JI];trivial;all_goals simp)
 | .arr l=>by
  obtain⟨h1,h2,h3,h4,h5,h6,h7⟩:=T9 l;rw[nv];exact⟨by rw[Go.Proofs.YtpaecnbdoljafaaGreatDoor.ct,Go.Proofs.YtpaecnbdoljafaaGreatDoor.ct,h1],fun h=>by rw[ZP]at *;exact h2 h,by rw[JI];exact h3,by rw[zm,zm,h4],by rw[zj,zj,h5],by rw[zV,zV,h6],by rw[zw,zw,h7]⟩
 | .obj m=>by
  obtain⟨h1,h2,h3,h4,h5,h6,h7⟩:=Ba m;obtain⟨g1,g2,g3,g4,g5,g6⟩:=zcU (YT m);rw[nv];exact⟨by rw[Go.Proofs.YtpaecnbdoljafaaGreatDoor.ct,Go.Proofs.YtpaecnbdoljafaaGreatDoor.ct,T8,T6,h1],fun h=>by rw[ZP]at *;exact g1 (h2 h),by rw[JI,T8,T6];exact⟨g2 h3,rfl⟩,by rw[zm,zm,g3,h4],by rw[zj,zj,g4,h5],by rw[zV,zV,g5,h6],by rw[zw,zw,g6,h7]⟩
theorem T9:∀ l:JL,zF (Y9 l)=zF l/\(QM l->QM (Y9 l))/\GR (Y9 l)/\Yb (Y9 l)=Yb l/\QD (Y9 l)=QD l/\qu (Y9 l)=qu l/\qd (Y9 l)=qd l
 | .nil=>by rw[Y9,GR];exact⟨rfl,id,trivial,rfl,rfl,rfl,rfl⟩
 | .cons v r=>by
  have h:=VA v;obtain⟨h1,h2,h3,h4,h5,h6,h7⟩:=T9 r;rw[Y9];exact⟨by rw[zF,zF,h.ct,h1],fun q=>by rw[QM]at *;exact⟨h.rd q.1,h2 q.2⟩,by rw[GR];exact⟨h.sr,h3⟩,by rw[Yb,Yb,h.dep,h4],by rw[QD,QD,h.cnt,h5],by rw[qu,qu,h.big,h6],by rw[qd,qd,h.tw,h7]⟩
theorem Ba:∀ m:JM,zl (YT m)=zl m/\(QN m->QN (YT m))/\Yz (YT m)/\JC (YT m)=JC m/\Qd (YT m)=Qd m/\ZZ (YT m)=ZZ m/\∀ ks,ZW ks (YT m)=ZW ks m
 | .nil=>by rw[YT,Yz];exact⟨rfl,id,trivial,rfl,rfl,rfl,fun _=>rfl⟩
 | .cons k v r=>by
  have h:=VA v;obtain⟨h1,h2,h3,h4,h5,h6,h7⟩:=Ba r;rw[YT];exact⟨by rw[zl,zl,h.ct,h1],fun q=>by rw[QN]at *;exact⟨q.1,h.rd q.2.1,h2 q.2.2⟩,by rw[Yz];exact⟨h.sr,h3⟩,by rw[JC,JC,h.dep,h4],by rw[Qd,Qd,h.cnt,h5],by rw[ZZ,ZZ,h.big,h6],fun ks=>by rw[ZW,ZW,h.tw,h7]⟩
end
theorem Bb{v:JV}(h:ZP v):Qa (zh (ct v))=some (nv v):=by
 have f:=VA v;have:=zcP (f.rd h) f.sr
 rwa [f.ct]at this
theorem Bc{v:JV}(h:ZP v)(hb:zV v=false)(ht:zw v=false):zI (zh (ct v))=if 20000<(ct v).length then .inl 1 else if 100<zm v∨3000<zj v then .inl 5 else .inr (nv v):=by
 have f:=VA v;unfold zI;rw[zN,Bb h];simp only[f.big,f.tw,f.dep,f.cnt,hb,ht];rfl
theorem zcV{s:Bs}{i j:Nat}{l:List UInt8}(h:nm s i=some (l,j)):FN l:=by
 unfold nm at h;split at h
 ·rename_i hd;injection h with h;injection h with h1 h2;have q:zW s i<s.size:=Zb (by have:=Qx.1 hd;omega);have u:zW s i<qr s i:=by
   unfold qr;split
   ·omega
   ·rw[VW hd];have:=(Fi (s:=s) (i:=zW s i+1) (by omega)).1;omega
  have m:∀ k,zW s i<=k->k<qr s i->zP (bt s k)=true:=fun k h1 h2=>by
   unfold qr at h2;split at h2
   ·have:k=zW s i:=by omega
    rw[this];exact hd
   ·exact ME h1 h2
  have r:bt s (zW s i)=48->Zh s (zW s i+1) (qr s i)=[]:=fun e=>by
   unfold qr;rw[yg e];unfold Zh;simp
  have n:(s.data.toList.getD (zW s i) 0).toNat=bt s (zW s i):=rfl;have o:∀ b∈Zh s (zW s i+1) (qr s i),zP b.toNat=true:=fun b n=>by
   obtain⟨k,y,w,x⟩:=MF n;rw[x];exact m k (by omega) w
  have hcut:Zh s (zW s i) (qr s i)=s.data.toList.getD (zW s i) 0 :: Zh s (zW s i+1) (qr s i):=PV u q;by_cases d:bt s i=45
  ·have e:zW s i=i+1:=by unfold zW;rw[yg d]
   have g:Zh s i (qr s i)=[45]++s.data.toList.getD (zW s i) 0 :: Zh s (zW s i+1) (qr s i):=by
    rw[PV (by omega) (by omega),← e,hcut];have:s.data.toList.getD i 0=45:=UInt8.toNat_inj.1 d;rw[this];rfl
   by_cases f:bt s (zW s i)=48
   ·have v:l=[48]:=by
     rw[← h1,g,r f];have:s.data.toList.getD (zW s i) 0=48:=UInt8.toNat_inj.1 f;rw[this];rfl
    subst v;exact⟨[],[],48,rfl,.inl rfl,rfl,fun b n=>by simp at n,fun _=>⟨rfl,rfl⟩⟩
   ·refine⟨[45],_,_,?_,.inr rfl,hd,o,fun h=>absurd h f⟩;rw[← h1,g];unfold Qk;rw[yf];intro e;simp only[List.cons_append,List.nil_append,List.cons.injEq,true_and]at e;exact f (by rw[← n,e.1];rfl)
  ·have e:zW s i=i:=by unfold zW;rw[yf d]
   refine⟨[],Zh s (zW s i+1) (qr s i),s.data.toList.getD (zW s i) 0,?_,.inl rfl,hd,o,fun h=>⟨r h,rfl⟩⟩;rw[← h1,List.nil_append,← hcut];unfold Qk;rw[yf,e];intro p;have a:=hcut;rw[e]at a;rw[a]at p;injection p with p _;exact d (by show (s.data.toList.getD i 0).toNat=45;rw[p];rfl)
 ·cases h
theorem WP(s:Bs):∀ f i,(∀ v j,pv s f i=some (v,j)->ZP v)/\(∀ l j,pa s f i=some (l,j)->QM l)/\(∀ m j,po s f i=some (m,j)->QN m)
 | 0,i=>⟨fun v j h=>by simp[pv]at h,fun v j h=>by simp[pa]at h,fun v j h=>by simp[po]at h⟩
 | f+1,i=>by
  refine⟨fun v j h=>?_,fun l j h=>?_,fun m j h=>?_⟩
  ·rw[pv]at h;split at h
   ·split at h
    ·injection h with h;injection h with hv h;subst hv;rw[ZP,QM];trivial
    ·simp only[yA]at h;obtain⟨⟨l,k⟩,hk,h⟩:=h;injection h with hv h;subst hv;rw[ZP];exact (WP s f (sk s (i+1))).2.1 l k hk
   ·split at h
    ·split at h
     ·injection h with h;injection h with hv h;subst hv;rw[ZP,QN];trivial
     ·simp only[yA]at h;obtain⟨⟨l,k⟩,hk,h⟩:=h;injection h with hv h;subst hv;rw[ZP];exact (WP s f (sk s (i+1))).2.2 l k hk
    ·split at h
     ·simp only[yA]at h;obtain⟨⟨l,k⟩,hk,h⟩:=h;injection h with hv h;subst hv;rw[ZP];exact Fs hk
     ·split at h
      ·injection h with h;injection h with hv h;subst hv;rw[ZP];trivial
      ·split at h
       ·injection h with h;injection h with hv h;subst hv;rw[ZP];trivial
       ·split at h
        ·injection h with h;injection h with hv h;subst hv;rw[ZP];trivial
        ·simp only[yA]at h;obtain⟨⟨l,k⟩,hk,h⟩:=h;injection h with hv h;subst hv;rw[ZP];exact zcV hk
  ·rw[pa]at h;simp only[Option.bind_eq_some_iff]at h;obtain⟨⟨v,k⟩,hk,h⟩:=h;have b:=(WP s f i).1 v k hk;simp only at h;split at h
   ·injection h with h;injection h with hv h;subst hv;rw[QM,QM];exact⟨b,trivial⟩
   ·split at h
    ·simp only[yA]at h;obtain⟨⟨l,n⟩,d,h⟩:=h;injection h with hv h;subst hv;rw[QM];exact⟨b,(WP s f _).2.1 l n d⟩
    ·cases h
  ·rw[po]at h;simp only[Option.bind_eq_some_iff]at h;obtain⟨⟨p,a⟩,o,h⟩:=h;have g:=Fs o;simp only at h;split at h
   ·simp only[Option.bind_eq_some_iff]at h;obtain⟨⟨v,k⟩,hk,h⟩:=h;have b:=(WP s f _).1 v k hk;simp only at h;split at h
    ·injection h with h;injection h with hv h;subst hv;rw[QN,QN];exact⟨g,b,trivial⟩
    ·split at h
     ·simp only[yA]at h;obtain⟨⟨l,n⟩,d,h⟩:=h;injection h with hv h;subst hv;rw[QN];exact⟨g,b,(WP s f _).2.2 l n d⟩
     ·cases h
   ·cases h
theorem zcW{s:Bs}{i j:Nat}{v:JV}(h:val s i=some (v,j)):ZP v:=(WP s _ i).1 v j h
theorem zcX{s:Bs}{v:JV}(h:Qa s=some v):ZP v:=by
 unfold Qa at h
 cases hv:val s (sk s 0)with
 | none=>rw[hv]at h;simp at h
 | some q=>
  obtain⟨u,j⟩:=q;rw[hv]at h;simp only[yB]at h;split at h
  ·injection h with h;subst h;exact zcW hv
  ·cases h
theorem Bd{T:Bs}:∀ (f f' op i k k':Nat),qY T f op i=some k->qY T f' op i=some k'->k=k'
 | 0,_,_,_,_,_,h,_=>by simp[qY]at h
 | _+1,0,_,_,_,_,_,h=>by simp[qY]at h
 | f+1,f'+1,op,i,k,k',h,h'=>by
  rw[qY]at h h';by_cases hi:i<T.size
  ·rw[yg hi]at h h'
   cases hn:JY T i with
   | none=>rw[hn]at h;simp at h
   | some j=>
    rw[hn]at h h';simp only[yB]at h h'
    cases ho:Jd (bt T i) op with
    | none=>rw[ho]at h;simp at h
    | some o=>
     rw[ho]at h h';simp only[yB]at h h';by_cases hs:o=0/\Y5 T j=true
     ·rw[yg hs]at h h';injection h with h;injection h' with h';omega
     ·rw[yf hs]at h h';exact Bd f f' o j k k' h h'
  ·rw[yf hi]at h;cases h
def RI(T:Bs)(P:List UInt8->Prop):Prop:=∀ t t',P t->P t'->∀ i m m',T.data.toList.drop i=t++m->GE m->T.data.toList.drop i=t'++m'->GE m'->t=t'
theorem Be(T:Bs):RI T fun t=>Jv T t/\t≠[]:=fun t t' h h' i m m' d s d' s'=>by
 obtain⟨f,g⟩:=h.1 i m d s;obtain⟨b,a⟩:=h'.1 i m' d' s';have:=Bd f b 0 i _ _ g a;rw[d]at d';exact (List.append_inj d' (by omega)).1
theorem zcY(T:Bs):RI T fun t=>∃ p:List UInt8×List UInt8,t=zz p/\Jv T p.2/\p.2≠[]/\Lib.validD p.1=true:=by
 rintro t y ⟨p,rfl,n,o,r⟩ ⟨q,rfl,u,v,w⟩ i m f d s h x;have g:T.data.toList.drop i=quoted p.1++(58 ::(p.2++m)):=by rw[d];simp[zz]
 have b:T.data.toList.drop i=quoted q.1++(58 ::(q.2++f)):=by rw[h];simp[zz]
 have l:=VZ p.1 T _ r i g;have a:=VZ q.1 T _ w i b;rw[l]at a;injection a with a;injection a with a _;rw[← a]at b;have j:T.data.toList.drop (i+(quoted p.1).length+1)=p.2++m:=(ZA (T:=T) (c:=58) (Jc g)).2.2;have k:T.data.toList.drop (i+(quoted p.1).length+1)=q.2++f:=(ZA (T:=T) (c:=58) (Jc b)).2.2;have:=Be T p.2 q.2 ⟨n,o⟩ ⟨u,v⟩ _ m f j s k x;unfold zz;rw[a,this]
theorem Bf{T:Bs}{P:List UInt8->Prop}(hP:RI T P)(hne:∀ t,P t->t≠[]){cs ds:List (List UInt8)}{a a' c c':UInt8}(h:T.data.toList=a ::(joinC cs++[c]))(h':T.data.toList=a' ::(joinC ds++[c']))(hc:c.toNat=93∨c.toNat=125)(hc':c'.toNat=93∨c'.toNat=125)(t1:∀ t∈cs,P t)(t2:∀ t∈ds,P t):cs=ds:=by
 have i:∀ k,k<=cs.length->k<=ds.length->cs.take k=ds.take k:=by
  intro k;induction k with
  | zero=>intro _ _;simp
  | succ k ih=>
   intro w x;have e:=ih (by omega) (by omega);have p:=KG h k (by omega);have m:=KG h' k (by omega);have o:pk cs k=pk ds k:=by unfold pk;rw[e]
   rw[← o]at m;have:=hP _ _ (t1 _ (yt (by omega:k<cs.length))) (t2 _ (yt (by omega:k<ds.length))) _ _ _ p (Fz _ c hc) m (Fz _ c' hc');rw[yz (by omega),yz (by omega),e,this]
 have f:∀ {d g:List (List UInt8)} {b l e n:UInt8},T.data.toList=b ::(joinC d++[e])->T.data.toList=l ::(joinC g++[n])->(∀ t∈g,P t)->d.take d.length=g.take d.length->¬ d.length<g.length:=by
  intro d g b l e n hx s u q j;have p1:=KI hx;have A:=KH s d.length j;have o:pk d d.length=pk g d.length:=by unfold pk;rw[q]
  have r:=hne _ (u _ (yt j));have:1<=(g[d.length]).length:=by
   cases hq:g[d.length]with
   | nil=>exact absurd hq r
   | cons _ _=>simp
  omega
 have y:¬ cs.length<ds.length:=fun hl=>f h h' t2 (i _ (ye _) (by omega)) hl;have z:¬ ds.length<cs.length:=fun hl=>f h' h t1 (i _ (by omega) (ye _)).symm hl;have v:cs.length=ds.length:=by omega
 have:=i cs.length (ye _) (by omega)
 rwa [yr (ye _),yr (by omega)]at this
theorem KX{l m:JL}(hl:qJ l)(hm:qJ m)(h:ct (.arr l)=ct (.arr m)):zF l=zF m:=by
 have a:(zh (ct (.arr l))).data.toList=91 ::(joinC (zF l)++[93]):=by rw[Za];rfl
 have b:(zh (ct (.arr l))).data.toList=91 ::(joinC (zF m)++[93]):=by rw[Za,h];rfl
 exact Bf (Be _) (fun t ht=>ht.2) a b (.inl rfl) (.inl rfl) (Fx _ l hl) (Fx _ m hm)
theorem Bg{p q:List UInt8×List UInt8}(hp:Lib.validD p.1=true)(hq:Lib.validD q.1=true)(h:zz p=zz q):p=q:=by
 have d:(zh (zz p)).data.toList.drop 0=quoted p.1++(58 :: p.2):=by rw[Za];rfl
 have b:(zh (zz p)).data.toList.drop 0=quoted q.1++(58 :: q.2):=by rw[Za,h];rfl
 have f:=VZ p.1 _ _ hp 0 d;have a:=VZ q.1 _ _ hq 0 b;rw[f]at a;injection a with a;injection a with a _;rw[d,a]at b;have:=List.append_cancel_left b;injection this with _ this;exact Prod.ext a this
theorem Bh:∀ {ps qs:List (List UInt8×List UInt8)},(∀ p∈ps,Lib.validD p.1=true)->(∀ p∈qs,Lib.validD p.1=true)->ps.map zz=qs.map zz->ps=qs
 | [],[],_,_,_=>rfl
 | [],_ :: _,_,_,h=>by simp at h
 | _ :: _,[],_,_,h=>by simp at h
 | p :: ps,q :: qs,h1,h2,h=>by
  rw[yi,yi]at h;injection h with a b;rw[Bg (h1 p yq) (h2 q yq) a,Bh (fun x hx=>h1 x (yw _ hx)) (fun x hx=>h2 x (yw _ hx)) b]
theorem RJ{k m:JM}(hk:qG k)(hm:qG m)(h:ct (.obj k)=ct (.obj m)):zJ (zl k)=zJ (zl m):=by
 have f:(zh (ct (.obj k))).data.toList=123 ::(joinC ((zJ (zl k)).map zz)++[125]):=by rw[Za];rfl
 have g:(zh (ct (.obj k))).data.toList=123 ::(joinC ((zJ (zl m)).map zz)++[125]):=by rw[Za,h];rfl
 have b:=fun p (a:p∈zJ (zl k))=>Fy (zh (ct (.obj k))) k hk p ((qw _).subset a);have d:=fun p (a:p∈zJ (zl m))=>Fy (zh (ct (.obj k))) m hm p ((qw _).subset a);have:=Bf (zcY _) (fun t ht=>by obtain⟨p,rfl,_⟩:=ht;simp[zz,quoted]) f g (.inr rfl) (.inr rfl)
  (fun t ht=>by obtain⟨p,a,rfl⟩:=yP.1 ht;exact⟨p,rfl,b p a⟩) (fun t ht=>by obtain⟨p,a,rfl⟩:=yP.1 ht;exact⟨p,rfl,d p a⟩)
 exact Bh (fun p a=>(b p a).2.2) (fun p a=>(d p a).2.2) this
theorem zcZ{a b:List UInt8}(ha:Lib.validD a=true)(hb:Lib.validD b=true)(h:quoted a=quoted b):a=b:=by
 have:=Bg (p:=(a,[])) (q:=(b,[])) ha hb (by unfold zz;simp only;rw[h]);injection this
def kd:JV->Nat
 | .nul=>0 | .tt=>1 | .ff=>2 | .num _=>3 | .str _=>4 | .arr _=>5 | .obj _=>6
def fb(c:Nat):Nat:=if c=110 then 0 else if c=116 then 1 else if c=102 then 2 else if c=34 then 4 else if c=91 then 5 else if c=123 then 6 else 3
theorem KY{v:JV}(h:zD v):∃ c r,ct v=c :: r/\fb c.toNat=kd v:=by
 cases v with
 | nul=>exact⟨_,_,rfl,rfl⟩
 | tt=>exact⟨_,_,rfl,rfl⟩
 | ff=>exact⟨_,_,rfl,rfl⟩
 | num l=>
  rw[zD]at h;obtain⟨c,r,rfl,a,_⟩:=h;refine⟨c,r,rfl,?_⟩;have:c.toNat=45∨(48<=c.toNat/\c.toNat<=57):=a.imp id Qx.1;unfold fb kd
  repeat (rw[yf (by omega)])
 | str l=>exact⟨_,_,rfl,rfl⟩
 | arr l=>exact⟨_,_,rfl,rfl⟩
 | obj m=>exact⟨_,_,rfl,rfl⟩
theorem zc0{a b:JV}(ha:zD a)(hb:zD b)(h:ct a=ct b):kd a=kd b:=by
 obtain⟨c,r,e,f⟩:=KY ha;obtain⟨i,j,d,g⟩:=KY hb;rw[e,d]at h;injection h with h _;rw[← f,← g,h]
def Qo:JV->JV->Bool
 | .nul,.nul=>true
 | .tt,.tt=>true
 | .ff,.ff=>true
 | .num a,.num b=>a ==b
 | .str a,.str b=>a ==b
 | _,_=>false
theorem RK{a b:JV}(h:Qo a b=true):ct a=ct b:=by
 unfold Qo at h;split at h<;>first | rfl |(rw[yD]at h;rw[h]) | cases h
theorem KZ{a b:JV}(ha:zD a)(hb:zD b)(h:ct a=ct b):Qo a b=true∨(∃ l m,a= .arr l/\b= .arr m)∨∃ k m,a= .obj k/\b= .obj m:=by
 have d:=zc0 ha hb h
 cases a with
 | nul=>cases b<;>first | exact .inl rfl |(simp[kd]at d)
 | tt=>cases b<;>first | exact .inl rfl |(simp[kd]at d)
 | ff=>cases b<;>first | exact .inl rfl |(simp[kd]at d)
 | num l=>cases b with
  | num m=>left;have:l=m:=h;simp[Qo,this]
  | _=>simp[kd]at d
 | str l=>cases b with
  | str m=>left;rw[zD]at ha hb;have:l=m:=zcZ ha hb h;simp[Qo,this]
  | _=>simp[kd]at d
 | arr l=>cases b with
  | arr m=>exact .inr (.inl ⟨l,m,rfl,rfl⟩)
  | _=>simp[kd]at d
 | obj l=>cases b with
  | obj m=>exact .inr (.inr ⟨l,m,rfl,rfl⟩)
  | _=>simp[kd]at d
theorem zc1{c:UInt8}(h:128<=c.toNat):qB c=[c]:=by
 unfold qB;rw[yf (by omega),yf (by omega),yf (by omega),yf (by omega),yf (by omega),yf (by omega),yf (by omega)]
theorem RL:∀ {l:List UInt8},(∀ c∈l,128<=c.toNat)->qs l=l
 | [],_=>rfl
 | c :: r,h=>by
  have h1:=RL (l:=r) fun x hx=>h x (yw _ hx);have a:=zc1 (h c yq);show qB c++qs r=c :: r
  rw[h1,a];rfl
theorem FQ{x:Int}(h0:128<=x)(h1:x<=255):128<=(x.toNat.toUInt8).toNat:=by
 have:(x.toNat.toUInt8).toNat=x.toNat % 256:=rfl;rw[this];omega
theorem zc2{r:Nat}(h:128<=r)(h2:r<=1114111):(∀ c∈enc r,128<=c.toNat)/\(r<=2047->(enc r).length=2)/\(r<=65535->(enc r).length<=3):=by
 unfold enc Lib.encodeRune;by_cases a:r<=2047
 ·rw[Lib.encodeRuneZ_two (by omega) (by omega)];refine⟨fun c hc=>?_,fun _=>rfl,fun _=>by simp⟩;simp only[yi,List.map_nil,List.mem_cons,List.not_mem_nil,or_false]at hc;rcases hc with rfl | rfl<;>exact FQ (by omega) (by omega)
 ·by_cases b:(2048<=(r:Int)/\(r:Int)<55296)∨(57343<(r:Int)/\(r:Int)<=65535)
  ·rw[Lib.encodeRuneZ_three b];refine⟨fun c hc=>?_,fun h=>absurd h a,fun _=>by simp⟩;simp only[yi,List.map_nil,List.mem_cons,List.not_mem_nil,or_false]at hc;rcases hc with rfl | rfl | rfl<;>exact FQ (by omega) (by omega)
  ·by_cases d:65536<=r
   ·rw[Lib.encodeRuneZ_four (by omega) (by omega)];refine⟨fun c hc=>?_,fun h=>absurd h a,fun h=>by omega⟩;simp only[yi,List.map_nil,List.mem_cons,List.not_mem_nil,or_false]at hc;rcases hc with rfl | rfl | rfl | rfl<;>exact FQ (by omega) (by omega)
   ·have e:Lib.encodeRuneZ (r:Int)=[239,191,189]:=by
     unfold Lib.encodeRuneZ;rw[yf (by omega),yf (by omega),yf b,yf (by omega)]
    rw[e];refine⟨fun c hc=>?_,fun h=>absurd h a,fun _=>by simp⟩;simp only[yi,List.map_nil,List.mem_cons,List.not_mem_nil,or_false]at hc;rcases hc with rfl | rfl | rfl<;>exact FQ (by omega) (by omega)
theorem zc3{r:Nat}(h:r<=1114111):(qs (enc r)).length<=6/\(65536<=r->(qs (enc r)).length<=12):=by
 by_cases a:r<128
 ·rw[PT a];have:=Nb (UInt8.ofNat r);have e:qs [UInt8.ofNat r]=qB (UInt8.ofNat r):=by simp[qs]
  rw[e];omega
 ·obtain⟨b,_,d⟩:=zc2 (by omega) h;rw[RL b];have:=Kx r;omega
theorem zc4{s:Bs}{i r n:Nat}(h:piece s i=some (r,n))(h34:bt s i≠34):(qs (enc r)).length<=n:=by
 have b:=VT h;unfold piece at h;split at h
 ·unfold QQ at h;split at h
  ·rename_i v a;injection h with h;injection h with h1 h2;subst h1;subst h2;have d:v=34∨v=92∨v=47∨v=8∨v=12∨v=10∨v=13∨v=9:=by
    unfold Jt at a
    repeat' split at a
    all_goals first |(injection a with a;omega) | cases a
   rcases d with rfl | rfl | rfl | rfl | rfl | rfl | rfl | rfl<;>decide
  ·simp only[Option.bind_eq_some_iff]at h;obtain⟨u,o,h⟩:=h;have m:=(zc3 b.2.2).1;unfold q8 at h;split at h
   ·injection h with h;injection h with h1 h2;omega
   ·split at h
    ·cases h
    ·simp only[Option.bind_eq_some_iff]at h;obtain⟨v,a,h⟩:=h;split at h
     ·injection h with h;injection h with h1 h2;omega
     ·cases h
 ·split at h
  ·cases h
  ·split at h
   ·rename_i h92 h32 h128;injection h with h;injection h with h1 h2;subst h1;subst h2;rw[PT h128];have e:qs [UInt8.ofNat (bt s i)]=qB (UInt8.ofNat (bt s i)):=by simp[qs]
    have g:(UInt8.ofNat (bt s i)).toNat=bt s i:=by rw[UInt8.toNat_ofNat'];omega
    rw[e];unfold qB;rw[g,yf (by omega),yf (by omega),yf (by omega),yf (by omega),yf (by omega),yf (by omega),yf (by omega)];simp
   ·split at h
    ·cases h
    ·rename_i h92 h32 h128 hrl;injection h with h;injection h with h1 h2;have f:i<s.size:=Zb (by omega);have j:¬ s[i].toNat<128:=by rw[← Zq s i f];exact h128
     obtain⟨k,l,_,_⟩:=Gy s i f hrl j;subst h1;subst h2;unfold enc;rw[k,RL l,ym];omega
theorem zc5{s:Bs}:∀ {i j:Nat} {l:List UInt8},qN s i=some (l,j)->(qs l).length+i+1<=j:=by
 intro i;generalize hn:s.size - i=n;induction n using Nat.strongRecOn generalizing i with
 | _ n ih=>
  intro j l h;by_cases a:bt s i=34
  ·rw[Gz a]at h;injection h with h;injection h with h1 h2;subst h1;simp[qs];omega
  ·cases hp:piece s i with
   | none=>rw[GA a hp]at h;cases h
   | some p=>
    obtain⟨r,b⟩:=p;have g:=VT hp;have f:=zc4 hp a;rw[VV a hp]at h;rcases hq:qN s (i+b)with _ |⟨d,k⟩
    ·rw[hq]at h;cases h
    ·rw[hq]at h;injection h with h;injection h with h1 h2;have:=ih (s.size - (i+b)) (by omega) rfl hq;subst h1;show (qs (enc r++d)).length+i+1<=j
     rw[Nc,yh];simp only at h2;omega
theorem Bi{s:Bs}{i j:Nat}{l:List UInt8}(h:Zz s i=some (l,j)):(quoted l).length+i<=j:=by
 unfold Zz at h;split at h
 ·have:=zc5 h;unfold quoted;simp only[yp,yh,yE];omega
 ·cases h
theorem RM(l:List (List UInt8))(h:l≠[]):(joinC l).length+1=(l.map fun t=>t.length+1).sum:=by
 cases l with
 | nil=>exact absurd rfl h
 | cons t r=>
  rw[joinC,yh,PO,yi,yM];omega
theorem zc6(l:List (List UInt8×List UInt8))(h:l≠[]):(qb (zJ l)).length=sumT l+1:=by
 have b:=(qw l);have a:(zJ l).map zz≠[]:=by
  intro e;rw[List.map_eq_nil_iff]at e;rw[e]at b;exact h b.symm.eq_nil
 have d:=RM ((zJ l).map zz) a;have f:=KE l;unfold sumT at *;rw[List.map_map]at d;unfold qb;simp only[yp,yh,yE];have g:((zJ l).map ((fun t=>t.length+1)∘zz)).sum=((zJ l).map fun p=>(zz p).length+1).sum:=rfl;omega
theorem WQ(s:Bs):∀ f i,(∀ v j,pv s f i=some (v,j)->(ct v).length+i<=j)/\(∀ l j,pa s f i=some (l,j)->zF l≠[]/\((zF l).map fun t=>t.length+1).sum+i<=j)/\(∀ m j,po s f i=some (m,j)->zl m≠[]/\sumT (zl m)+i<=j)
 | 0,i=>⟨fun v j h=>by simp[pv]at h,fun v j h=>by simp[pa]at h,fun v j h=>by simp[po]at h⟩
 | f+1,i=>by
  refine⟨fun v j h=>?_,fun l j h=>?_,fun m j h=>?_⟩
  ·have hok:=(qO s (f+1) i).1 v j h;rw[pv]at h;have g:=z8 s (i+1);split at h
   ·split at h
    ·injection h with h;injection h with b h;subst b;simp[ct,zF,ZT,joinC];omega
    ·simp only[yA]at h;obtain⟨⟨l,k⟩,d,h⟩:=h;injection h with b h;have o:=(WQ s f (sk s (i+1))).2.1 l k d;have u:=(qO s f (sk s (i+1))).2.1 l k d;have B:=RM (zF l) o.1;have o:=o.2;subst b;simp only[ct,ZT,yp,yh,yE];simp only at h;omega
   ·split at h
    ·split at h
     ·injection h with h;injection h with b h;subst b;simp[ct,zl,qb,zJ,joinC];omega
     ·simp only[yA]at h;obtain⟨⟨l,k⟩,d,h⟩:=h;injection h with b h;have o:=(WQ s f (sk s (i+1))).2.2 l k d;have u:=(qO s f (sk s (i+1))).2.2 l k d;have B:=zc6 (zl l) o.1;have o:=o.2;subst b;simp only[ct];simp only at h;omega
    ·split at h
     ·simp only[yA]at h;obtain⟨⟨l,k⟩,d,h⟩:=h;injection h with b h;have o:=Bi d;subst b;simp only[ct];simp only at h;omega
     ·split at h
      ·injection h with h;injection h with b h;subst b;simp[ct];omega
      ·split at h
       ·injection h with h;injection h with b h;subst b;simp[ct];omega
       ·split at h
        ·injection h with h;injection h with b h;subst b;simp[ct];omega
        ·simp only[yA]at h;obtain⟨⟨l,k⟩,d,h⟩:=h;injection h with b h;have o:=Mr d;subst b;simp only[ct];simp only at h;omega
  ·rw[pa]at h;simp only[Option.bind_eq_some_iff]at h;obtain⟨⟨v,k⟩,d,h⟩:=h;have o:=(qO s f i).1 v k d;have r:=(WQ s f i).1 v k d;have y:=z8 s k;simp only at h;split at h
   ·injection h with h;injection h with b h;subst b;refine⟨by simp[zF],?_⟩;simp[zF];omega
   ·split at h
    ·simp only[yA]at h;obtain⟨⟨l,n⟩,q,h⟩:=h;injection h with b h;have u:=(qO s f _).2.1 l n q;have w:=(WQ s f _).2.1 l n q;have z:=z8 s (sk s k+1);subst b;refine⟨by simp[zF],?_⟩;simp only[zF,yi,yM];simp only at h;omega
    ·cases h
  ·rw[po]at h;simp only[Option.bind_eq_some_iff]at h;obtain⟨⟨p,a⟩,x,h⟩:=h;have b:=JX x;have A:=Bi x;simp only at h;split at h
   ·simp only[Option.bind_eq_some_iff]at h;obtain⟨⟨v,k⟩,d,h⟩:=h;have o:=(qO s f _).1 v k d;have r:=(WQ s f _).1 v k d;have D:=z8 s a;have E:=z8 s (sk s a+1);have y:=z8 s k;simp only at h;split at h
    ·injection h with h;injection h with b h;subst b;refine⟨by simp[zl],?_⟩;simp[zl,sumT,zz];omega
    ·split at h
     ·simp only[yA]at h;obtain⟨⟨l,n⟩,q,h⟩:=h;injection h with b h;have u:=(qO s f _).2.2 l n q;have w:=(WQ s f _).2.2 l n q;have z:=z8 s (sk s k+1);subst b;have e:sumT (zl (.cons p v l))=(zz (p,ct v)).length+1+sumT (zl l):=by simp[zl,sumT]
      have C:(zz (p,ct v)).length=(quoted p).length+1+(ct v).length:=by simp[zz];omega
      refine⟨by simp[zl],?_⟩;simp only at h ⊢;omega
     ·cases h
   ·cases h
theorem zc7{s:Bs}{i j:Nat}{v:JV}(h:val s i=some (v,j)):(ct v).length+i<=j:=(WQ s _ i).1 v j h
theorem zc8{s:Bs}{v:JV}(h:Qa s=some v):(ct v).length<=s.size:=by
 unfold Qa at h
 cases hv:val s (sk s 0)with
 | none=>rw[hv]at h;simp at h
 | some q=>
  rw[hv]at h;simp only[yB]at h;split at h
  ·rename_i hs;injection h with h;subst h;have a:=zc7 (v:=q.1) (j:=q.2) hv;have b:=z8 s q.2;omega
  ·cases h
end Go.Proofs.YtpaecnbdoljafaaGreatDoor
