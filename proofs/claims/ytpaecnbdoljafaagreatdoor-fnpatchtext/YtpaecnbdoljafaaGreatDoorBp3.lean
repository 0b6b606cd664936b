import Derived.Test.YtpaecnbdoljafaaGreatDoorBp2
set_option maxRecDepth 100000
set_option maxHeartbeats 8000000
namespace Go.Proofs.YtpaecnbdoljafaaGreatDoor
open Go.RowKit Go.Proofs.Tryz
theorem Ef{s:Bs}{i:Nat}(h:s.size<i+6):qO s i=none:=by
 cases e:qO s i with
 | none=>rfl
 | some u=>have:=FP e;omega
theorem Eg(s:Bs)(i:Nat)(hs:s.size<=1048576)(hi:i<=2000000)(w:Wo):
  Calls prog 160 #[.string s,.int .i64 i] w fun e w'=>w=w'/\e= .returned (.int .i64 (YI (qO s i))):=by
 by_cases r:i+6<=s.size
 ·have g:¬ (s.size:Int)<(i:Int)+6:=by omega
  have o:=Zg s i (by omega);have p:=Zg s (i+1) (by omega);by_cases f:bt s i=92
  ·have y:((s[i]'(by omega)).toNat:Int)=92:=by omega
   have z:(((s[i]'(by omega)).toNat:Int) !=92)=false:=by rw[bne_eq_false_iff_eq];omega
   by_cases m:bt s (i+1)=117
   ·have A:(((s[i+1]'(by omega)).toNat:Int) !=117)=false:=by rw[bne_eq_false_iff_eq];omega
    have b:Hid (qO s i=qe s (i+2) 4):=by show _=_;unfold qO;rw[yf ⟨f,m⟩]
    have dl:decide ((s.size:Int)<(i:Int)+6)=false:=by simp;omega
    clear f m o p y;go_in;go_wp2;clear z A dl g;go_loopw [5,6] (fun v k wr=>∃ j u:Nat,j<=4/\k= .int .i64 ((j+2:Nat):Int)/\u<16 ^ j/\v= .int .i64 (u:Int)/\qe s (i+2) j=some u/\w=wr) (fun _ k _=>6 - (intOf k).toNat)
    case atStart=>exact⟨0,0,by omega,rfl,by decide,rfl,rfl,rfl⟩
    case round=>
     obtain⟨j,u,G,rfl,H,rfl,hx,rfl⟩:=hrel;have q:=zh hx;clear hx;by_cases E:j<4
     ·have x:u<65536:=by
       have:(16:Nat) ^ j<=16 ^ 3:=Nat.pow_le_pow_right (by decide) (by omega);omega
      have a:i+(j+2)<s.size:=by omega
      have HC:=zh (BU ((s[i+(j+2)]'a).toNat) (UInt8.toNat_lt _) w);have l:bt s (i+2+j)=(s[i+(j+2)]'a).toNat:=by rw[show i+2+j=i+(j+2)from by omega];exact Zg s _ a
      cases hx1:hx ((s[i+(j+2)]'a).toNat)with
      | some d=>
       have F:=FL hx1;have n:=zh (Ws (uh q) (by rw[l];exact hx1));rw[hx1]at HC;have C:¬ ((d:Int)<0):=by omega
       clear hx1 l;go_wp2_with fail;refine (uh HC).mono ?_;rintro e D ⟨rfl,rfl⟩;clear HC;simp only[YI,Option.elim];go_wp2;go_roundw
       case rel=>exact⟨j+1,u*16+d,by omega,by go_num,by rw[Nat.pow_succ];omega,by go_num,uh n,trivial⟩
       case measure=>simp[intOf];omega
      | none=>
       have n:Hid (qe s (i+2) 4=none):=FM (KK (by rw[l];exact hx1)) (by omega);rw[hx1]at HC;clear hx1 l;go_wp2_with fail;refine (uh HC).mono ?_;rintro e D ⟨rfl,rfl⟩;clear HC;simp only[YI,Option.elim];go_wp2;go_ret;exact⟨rfl,by rw[uh b,uh n];rfl⟩
     ·have B:j=4:=by omega
      subst B;go_wp2;go_ret;exact⟨rfl,by rw[uh b,uh q];rfl⟩
   ·have A:(((s[i+1]'(by omega)).toNat:Int) !=117)=true:=by rw[bne_iff_ne];omega
    have b:Hid (qO s i=none):=by show _=_;unfold qO;rw[ye (fun h=>m h.2)]
    clear f m o p y;go_in;go_wp2;go_ret;exact⟨rfl,by rw[uh b];rfl⟩
  ·have z:(((s[i]'(by omega)).toNat:Int) !=92)=true:=by rw[bne_iff_ne];omega
   have b:Hid (qO s i=none):=by show _=_;unfold qO;rw[ye (fun h=>f h.1)]
   clear f o p;go_in;go_wp2;go_ret;exact⟨rfl,by rw[uh b];rfl⟩
 ·have g:(s.size:Int)<(i:Int)+6:=by omega
  have b:=zh (Ef (s:=s) (i:=i) (by omega));go_in;go_wp2;go_ret;exact⟨rfl,by rw[uh b];rfl⟩
theorem Eh{b:Bs}{l:List UInt8}(h:b.data.toList=l):b=zi l:=by
 subst h
 cases b with
 | mk d=>simp[zi]
theorem Dl(s:Bs)(i n:Nat)(l:List UInt8)(h:(s.data.toList.drop i).take n=l):s.extract i (i+n)=zi l:=by
 refine Eh ?_;rw[Lib.extract_data,show i+n - i=n from by omega,h]
theorem Ei{r:Nat}(h:r<128):Zw r=[UInt8.ofNat r]:=by
 unfold Zw;rw[← KL (by omega) (by omega)];unfold Zu ZN;rw[yf h];rfl
theorem Dm{r:Nat}(h:r<=1114111)(h':r<55296∨57344<=r):Zu r=Zw r:=KL h h'
abbrev Ej(w:Wo)(e:Ending)(w':Wo):Prop:=(∃ t,e= .returned (.tuple #[.string t,.int .i64 0]))/\Bw w w'
abbrev Ek(w:Wo)(t:Bs)(n:Nat)(e:Ending)(w':Wo):Prop:=e= .returned (.tuple #[.string t,.int .i64 (n:Int)])/\Bw w w'
def El(w:Wo)(o:Option (Nat×Nat))(e:Ending)(w':Wo):Prop:=o.elim (Ej w e w') fun p=>Ek w (zi (Zw p.1)) p.2 e w'
theorem Em(s:Bs)(i:Nat)(w:Wo)(hs:s.size<=1048576)(hi:i<s.size)(hq:bt s i≠34):
  Calls prog 116 #[.string s,.int .i64 i] w (El w (piece s i)):=by
 have H:=Zg s i hi;have o:piece s i=if bt s i=92 then Qf s i else if bt s i<32 then none else if bt s i<128 then some (bt s i,1)else if rl s i=0 then none else some ((Utf8.decode s i).1,rl s i):=rfl
 by_cases j:128<=bt s i
 ·rw[ye (by omega),ye (by omega),ye (by omega)]at o;have HR:=zh (Rw s i w hi hs);have ab:=Gg s i hi;have J:Hid (¬ rl s i=0->s.extract i (i+rl s i)=zi (Zw (Utf8.decode s i).1)):=fun h=>Dl s i (rl s i) _ (Vt s i hi h (by omega)).1.symm;have h':(128:Int)<=(s[i].toNat:Int):=by omega
  have d:=zh o;clear o hq j H;generalize rl s i=n at *;go_in;go_wp2_with fail;refine (uh HR).mono ?_;rintro e R ⟨rfl,l⟩;clear HR;go_wp2;go_ret2;rw[uh d];by_cases P:n=0
  ·subst P;exact⟨⟨_,rfl⟩,l⟩
  ·rw[ye P];exact⟨by rw[← uh J P];rfl,l⟩
 have N:¬ (128:Int)<=(s[i].toNat:Int):=by omega
 by_cases m:bt s i=92
 ·rw[yf m]at o;have O:((s[i].toNat:Int) !=92)=false:=by rw[bne_eq_false_iff_eq];omega
  have K:=zh o;clear o H m hq j;go_in;go_upto_region 8 with fail;go_cut [54]from 42 to 54 (fun x wx=>∃ b:Bool,x= .bool b/\Bw w wx/\(b=true->i+1<s.size/\∃ v,QO (bt s (i+1))=some v)/\(b=false->Qf s i=(qO s i).bind (qp s i)))
  case first=>
   have F:Hid (QO (bt s (i+1))=none->Qf s i=(qO s i).bind (qp s i)):=fun h=>by unfold Qf;rw[h]
   by_cases B:i+1<s.size
   ·have W:(i:Int)+1<(s.size:Int):=by omega
    have k:Hid (Calls prog 159 #[.int .u8 (s[i+1].toNat:Int)] w (Rb (.int .i64 (YI (QO (bt s (i+1))))) w)):=by
     rw[Zg s (i+1) B];exact RN _ (UInt8.toNat_lt _) w
    cases p:QO (bt s (i+1))with
    | none=>
     have k:Hid (Calls prog 159 #[.int .u8 (s[i+1].toNat:Int)] w (Rb (.int .i64 (-1)) w)):=by rw[p]at k;exact k
     have F:=zh (uh F p);clear p;go_wp2_with fail;refine (uh k).mono ?_;rintro e R ⟨rfl,l⟩;go_wp2;go_meet
     case rel=>exact⟨false,rfl,l,nofun,fun _=>uh F⟩
    | some v=>
     have k:Hid (Calls prog 159 #[.int .u8 (s[i+1].toNat:Int)] w (Rb (.int .i64 (v:Int)) w)):=by rw[p]at k;exact k
     have Q:(0:Int)<=(v:Int):=by omega
     have r:=zh p;clear p;go_wp2_with fail;refine (uh k).mono ?_;rintro e R ⟨rfl,l⟩;go_wp2;go_meet
     case rel=>exact⟨true,rfl,l,fun _=>⟨B,v,uh r⟩,nofun⟩
   ·have W:¬ (i:Int)+1<(s.size:Int):=by omega
    have di:decide ((i:Int)+1<(s.size:Int))=false:=by simp;omega
    have F:=zh (uh F (by rw[Jr s (i+1) (by omega)];rfl));go_wp2;go_meet
    case rel=>exact⟨false,rfl,yG _ _,nofun,fun _=>uh F⟩
  obtain⟨b,rfl,l,D,E⟩:=hcut
  cases b with
  | true=>
   obtain⟨B,v,p⟩:=D rfl;have M:=Zg s (i+1) B;have d:=zh (YG rfl p);have k:Hid (∀ w,Calls prog 159 #[.int .u8 (s[i+1].toNat:Int)] w (Rb (.int .i64 (v:Int)) w)):=fun w=>by
    have c:=RN s[i+1].toNat (UInt8.toNat_lt _) w;rw[← M,p]at c;rw[← M];exact c
   have q:=FN p;have y:Zu v=Zw v:=Dm (by omega) (by omega);have G:Hid (∀ w:Wo,(convert 22 9 (.slice (some ⟨w.heap.size,0,none⟩) 1 1)).run prog (w.alloc (.cells #[.int .u8 (v:Int)] 5))= .ok (.string (zi (Zw v))) (w.alloc (.cells #[.int .u8 (v:Int)] 5))):=fun w=>by
    rw[← y];exact VW w (Zu v) #[.int .u8 (v:Int)] 1 (by simp[Zu,ZN,q]) (by simp[Zu,ZN,q,Lib.byteCells];omega)
   have Q:(0:Int)<=(v:Int):=by omega
   have W:(i:Int)+1<(s.size:Int):=by omega
   have f:=zh l;clear y p D E M l;go_wp2_with fail;refine (uh k _).mono ?_;rintro e S ⟨rfl,U⟩;have T:=zj (uh f) U;have aa:=uh G S;clear k G U;go_wp2;go_ret2;rw[uh K,uh d];exact⟨rfl,T.alloc T.size _⟩
  | false=>
   have d:=zh (E rfl);have L:=zh fun i (h:i<=2000000) w=>Eg s i hs h w;have f:=zh l;clear D E l;go_wp2_with fail;refine (uh L i (by omega) _).mono ?_;rintro e S ⟨rfl,rfl⟩
   cases y:qO s i with
   | none=>
    rw[y]at d;clear y;rw[show YI none= -1 from rfl];go_wp2;go_ret2;rw[uh K,uh d];exact⟨⟨_,rfl⟩,uh f⟩
   | some u=>
    have V:=RB y;have a:piece s i=qp s i u:=by rw[uh K,uh d,y];rfl
    have r:Hid (∀ (z:Int) (u:Nat) w,z=u->u<=1114111->u<55296∨57344<=u->Calls prog 161 #[.int .i64 z] w (Rb (.string (zi (Zw u))) w)):=fun z u w hz N O=>by
     subst hz;have c:=Nz u w N;rw[Dm N O]at c;exact c
    rw[show YI (some u)=(u:Int)from rfl];have u0:((u:Int)<0)=False:=yP (by omega);unfold qp at a;by_cases g:u<55296∨57344<=u
    ·rw[yf g]at a;have r:=zh fun w=>uh r u u w rfl (by omega) g;have d:=zh a;clear y a;have g:u<55296/\((56320:Int)<=(u:Int))=False/\((u:Int)<55296)=True/\((57344:Int)<=(u:Int))=False∨((56320:Int)<=(u:Int))=True/\((u:Int)<57344)=False/\((u:Int)<55296)=False/\((57344:Int)<=(u:Int))=True:=by
      rcases g with h | h
      ·exact .inl ⟨h,yP (by omega),eq_true (by omega),yP (by omega)⟩
      ·exact .inr ⟨eq_true (by omega),yP (by omega),yP (by omega),eq_true (by omega)⟩
     rcases g with ⟨_,_,_,_⟩ |⟨_,_,_,_⟩
     all_goals
      go_wp2_with fail;refine (uh r _).mono ?_;rintro e X ⟨rfl,Y⟩;clear r;go_wp2;go_ret2;rw[uh d];exact⟨rfl,zj (uh f) Y⟩
    ·rw[ye g]at a;by_cases I:56320<=u
     ·rw[yf I]at a;have u1:((56320:Int)<=(u:Int))=True:=eq_true (by omega);have u2:((u:Int)<57344)=True:=eq_true (by omega);have d:=zh a;clear y a;go_wp2;go_ret2;rw[uh d];exact⟨⟨_,rfl⟩,uh f⟩
     ·rw[ye I]at a;have u1:((56320:Int)<=(u:Int))=False:=yP (by omega);have u2:((u:Int)<55296)=False:=yP (by omega);have u3:((57344:Int)<=(u:Int))=False:=yP (by omega);have d:=zh a;clear y a;go_wp2_with fail;refine (uh L (i+6) (by omega) _).mono ?_;rintro e X ⟨rfl,rfl⟩;clear L
      cases hu2:qO s (i+6)with
      | none=>
       rw[show YI none= -1 from rfl];rw[hu2]at d;clear hu2;go_wp2;go_ret2;rw[uh d];exact⟨⟨_,rfl⟩,uh f⟩
      | some v=>
       rw[show YI (some v)=(v:Int)from rfl];rw[hu2,yz]at d;clear hu2;by_cases C:56320<=v/\v<57344
       ·have v1:((v:Int)<56320)=False:=yP (by omega);have v2:((57344:Int)<=(v:Int))=False:=yP (by omega);have r:=zh fun w=>uh r (65536+((u:Int) - 55296)*1024+(v:Int) - 56320) (65536+(u - 55296)*1024+(v - 56320)) w (by omega) (by omega) (by omega);rw[yf C]at d;have R:55296<=u:=by omega
        have S:u<=56319:=by omega
        have X:56320<=v:=C.1;have w4:v<=57343:=by omega
        clear C g I;go_wp2_with fail;refine (uh r _).mono ?_;rintro e w4 ⟨rfl,Z⟩;clear r;go_wp2;go_ret2;rw[uh d];exact⟨rfl,zj (uh f) Z⟩
       ·rw[ye C]at d;have C:((v:Int)<56320)=True∨((v:Int)<56320)=False/\((57344:Int)<=(v:Int))=True:=by
         by_cases h:v<56320
         ·exact .inl (eq_true (by omega))
         ·exact .inr ⟨yP (by omega),eq_true (by omega)⟩
        rcases C with _ |⟨_,_⟩<;>(go_wp2;go_ret2;rw[uh d];exact⟨⟨_,rfl⟩,uh f⟩)
 ·rw[ye m]at o;have O:((s[i].toNat:Int) !=92)=true:=by rw[bne_iff_ne];omega
  by_cases A:bt s i<32
  ·rw[o,yf A];have I:(s[i].toNat:Int)<32:=by omega
   clear o H m hq j A;go_in;go_wp2;go_ret2;exact⟨⟨_,rfl⟩,yG _ _⟩
  ·rw[o,ye A,yf (by omega),H];have I:¬ (s[i].toNat:Int)<32:=by omega
   have C:((s[i].toNat:Int) ==34)=false:=by rw[yb];omega
   have d3:decide ((s[i].toNat:Int)<32)=false:=by simp;omega
   have J:Hid (s.extract i (i+1)=zi (Zw s[i].toNat)):=Dl s i 1 _ (by rw[Ei (by omega),Rt,qT s i hi];rfl);clear o H m hq j A;go_in;go_wp2;go_ret2;exact⟨by rw[← uh J];rfl,yG _ _⟩
def UH(s:Bs)(w:Wo)(o:Option (List UInt8×Nat))(e:Ending)(w':Wo):Prop:=
 Bw w w'/\o.elim (∃ (t:Bs) (k:Nat),k<=s.size+1/\t.size<=4*s.size+4/\e= .returned (.tuple #[.string t,.int .i64 (k:Int),.bool false])) fun q=>e= .returned (.tuple #[.string (zi q.1),.int .i64 (q.2:Int),.bool true])
theorem UI(s:Bs)(i:Nat)(w:Wo)(hs:s.size<=1048576)(hi:i<=s.size+1):
  Calls prog 69 #[.string s,.int .i64 i] w (UH s w (Zq s i)):=by
 obtain⟨i0,R,S,T,U⟩:=info_parts VR;by_cases f:bt s i=34
 ·have g:i<s.size:=zQ (by rw[f];decide);have F:Hid (Zq s i=qa s (i+1)):=by show _=_;unfold Zq;rw[yf f]
  have I:QT s i 34=true:=by rw[Yr g,yB,← Zg s i g,f];rfl
  have z:=zh (Vi s (i:Int) i rfl 34 w);rw[I]at z;clear f I;go_in;go_wp2_with fail;refine (uh z).mono ?_;rintro e w1 ⟨rfl,rfl⟩;clear z;go_wp2;go_loopw [1,7] (fun k v wr=>∃ (j:Nat) (b:List UInt8),j<=s.size/\k= .int .i64 (j:Int)/\b.length<=4*j/\wr.ownsRow w.heap.size 5 1 v (Lib.byteCells b).length (Lib.byteCells b)/\Bw w wr/\qa s (i+1)=(qa s j).map fun q=>(b++q.1,q.2)) (fun k _ _=>s.size - (intOf k).toNat)
  case atStart=>
   exact⟨i+1,[],by omega,by go_num,by simp,⟨rfl,.inr ⟨w.heap.size,0,#[],rfl,yd _,yF w _,yd _,by unfold maxLen;omega,rfl,rfl⟩⟩,(yG _ _).alloc (yd _) _,by simp⟩
  case round=>
   obtain⟨j,b,hj,rfl,hal,a,Q,N⟩:=hrel;have u:=zh N;have D:=zh Q;have Z:=Q.size;clear N Q;by_cases K:j<s.size
   ·have P:=Zg s j K;have L:(j:Int)<(s.size:Int):=by omega
    by_cases d:bt s j=34
    ·have t1:((s[j].toNat:Int) !=34)=false:=by rw[bne_eq_false_iff_eq];omega
     have E:Hid (Zq s i=some (b,j+1)):=by
      show _=_
      rw[uh F,uh u,Vu d];simp
     have A:=VS a;clear a d P;go_wp2;go_ret3;exact⟨uh D,by rw[uh E];rfl⟩
    ·have t1:((s[j].toNat:Int) !=34)=true:=by rw[bne_iff_ne];omega
     have HC:=zh (Em s j wr hs K d)
     cases hp:piece s j with
     | none=>
      have E:Hid (Zq s i=none):=by
       show _=_
       rw[uh F,uh u,Vv d hp];rfl
      rw[hp]at HC;clear a d P hp;go_wp2_with fail;refine (uh HC).mono ?_;rintro e V ⟨⟨t,rfl⟩,H⟩;have C:=zj (uh D) H;clear HC;go_wp2;go_ret3;exact⟨C,by rw[uh E];exact⟨_,j,by omega,yr _,rfl⟩⟩
     | some p=>
      obtain⟨r,n⟩:=p;obtain⟨p1,p2,p3⟩:=Y2 hp;have hel:=Ul r;have G:Hid (qa s (i+1)=(qa s (j+n)).map fun q=>(b++Zw r++q.1,q.2)):=by
       show _=_
       rw[uh u,Y4 d hp,Option.map_map];congr 1;funext q;simp
      rw[hp]at HC;have t0:((n:Int) ==0)=false:=by rw[yb];omega
      clear d P hp;go_wp2_with fail;refine (uh HC).mono ?_;rintro e V ⟨rfl,H⟩;have C:=zj (uh D) H;have x:=ZI a H;obtain⟨O,W3,A,l,X,M,hs3⟩:=G1 V (Zw r);have o:=M _ _ _ _ _ x;have W:=zj C X;have h:=zh l;have Y:=C.size;clear HC l M x a H X D C;go_wp2_with (at_builtin;refine wpList_append_own _ rfl (.tmp 37) (.tmp 39) 22 rfl w.heap.size 5 i0 (.int .u8 0) 1 1 underlying22 R S T U rfl (by decide) _ _ _ rfl o ⟨V.heap.size,0,none⟩ (Zw r).length O (Lib.byteCells (Zw r)) rfl (by rw[yJ];omega) (uh h) (GZ (Zw r)) (by rw[yJ];unfold maxLen;omega) (by rw[yJ];omega) (by omega) ?_);intro v4 w4 y J _;have B4:Bw w w4:=W.grown J (by omega) (fun k hk=>(o.lt k hk).1);have B:=qh (m:=(Zw r)) y rfl rfl;clear y J o h W A;go_wp2;go_roundw
      case rel=>exact⟨j+n,b++(Zw r),by omega,by go_num,by rw[yg];omega,B,B4,uh G⟩
      case measure=>simp[intOf];omega
   ·have L:¬ (j:Int)<(s.size:Int):=by omega
    have d1:decide ((j:Int)<(s.size:Int))=false:=by simp;omega
    have E:Hid (Zq s i=none):=by
     show _=_
     rw[uh F,uh u,BP (by omega)];rfl
    have A:=VS a;clear a;go_wp2;go_ret3;exact⟨uh D,by rw[uh E];exact⟨_,j+1,by omega,by show b.toArray.size<=_;simp;omega,rfl⟩⟩
 ·have F:Hid (Zq s i=none):=by show _=_;unfold Zq;rw[ye f]
  have I:QT s i 34=false:=by
   by_cases g:i<s.size
   ·rw[Yr g,yb,← Zg s i g];omega
   ·exact GY g
  have z:=zh (Vi s (i:Int) i rfl 34 w);rw[I]at z;clear f I;go_in;go_wp2_with fail;refine (uh z).mono ?_;rintro e w1 ⟨rfl,rfl⟩;clear z;go_wp2;go_ret3;exact⟨yG _ _,by rw[uh F];exact⟨_,i,hi,yr _,rfl⟩⟩
theorem Dn{T:Bs}{j j2:Nat}(h:Jw T j=some j2)(hj:j<T.size):j<j2/\j2<=T.size:=by
 unfold Jw at h;split at h
 ·cases hq:Zq T j with
  | none=>rw[hq]at h;simp at h
  | some q=>
   obtain⟨l,n⟩:=q;rw[hq]at h;simp at h;have:=Js hq;omega
 ·injection h with h;omega
theorem En{T:Bs}{o n k g:Nat}(hj:n<=T.size)(h:(if o=0/\YK T n=true then some n else qR T g o n)=some k):
  ((¬ o=0∨o=0/\n<T.size/\¬ bt T n=44/\¬ bt T n=93/\¬ bt T n=125)/\qR T g o n=some k)∨((o=0/\n=T.size∨o=0/\n<T.size/\(bt T n=44∨bt T n=93∨bt T n=125))/\n=k):=by
 by_cases b:o=0
 ·by_cases a:YK T n=true
  ·rw[yf ⟨b,a⟩]at h;injection h with h;refine .inr ⟨?_,h⟩;by_cases e:n=T.size
   ·exact .inl ⟨b,e⟩
   ·unfold YK at a;simp[e]at a;exact .inr ⟨b,by omega,by omega⟩
  ·rw[ye (fun x=>a x.2)]at h;unfold YK at a;simp at a;exact .inl ⟨.inr ⟨b,by omega,a.1.1.2,a.1.2,a.2⟩,h⟩
 ·rw[ye (fun x=>b x.1)]at h;exact .inl ⟨.inl b,h⟩
theorem Do{T:Bs}{j n:Nat}(hn:Jw T j=some n):(bt T j≠34->j+1=n)/\(bt T j=34->∃ l,Zq T j=some (l,n)):=by
 unfold Jw at hn;refine⟨fun h=>by rw[ye h]at hn;injection hn,fun h=>?_⟩;rw[yf h]at hn
 cases hq:Zq T j with
 | none=>rw[hq]at hn;simp at hn
 | some q=>rw[hq]at hn;simp at hn;exact⟨q.1,by rw[← hn]⟩
theorem Oy{c op o:Nat}(ho:QF c op=some o):(c=91/\(op:Int)+1=(o:Int))∨(c=123/\(op:Int)+1=(o:Int))∨(c=93/\(op:Int) - 1=(o:Int))∨(c=125/\(op:Int) - 1=(o:Int))∨(¬ c=91/\¬ c=123/\¬ c=93/\¬ c=125/\op=o):=by
 unfold QF Va Gq at ho;by_cases a:c=91
 ·subst a;simp at ho;omega
 ·by_cases b:c=123
  ·subst b;simp at ho;omega
  ·by_cases d:c=93
   ·subst d;simp at ho;omega
   ·by_cases f:c=125
    ·subst f;simp at ho;omega
    ·simp[a,b,d,f]at ho;omega
theorem Dp{c op o:Nat}(ho:QF c op=some o):o<=op+1:=by
 rcases Oy ho with h | h | h | h | h<;>omega
theorem bI{a c:Nat}(h:a=c)(x:Nat):((a:Int) ==(x:Int))=decide (c=x):=by rw[Bool.eq_iff_iff,yB,decide_eq_true_iff];omega
theorem Dq(T:Bs)(i k f:Nat)(w:Wo)(hT:T.size<=1048576)(h:qR T f 0 i=some k):
  Calls prog 120 #[.string T,.int .i64 (i:Int)] w fun e w'=>e= .returned (.int .i64 (k:Int))/\Bw w w':=by
 have y:Hid (∀ (j:Nat) (w:Wo),j<T.size->Calls prog 69 #[.string T,.int .i64 j] w (UH T w (Zq T j))):=fun j w hj=>UI T j w hT (by omega);have hi0:i<T.size:=by
  cases f with
  | zero=>simp[qR]at h
  | succ f=>
   rw[qR]at h;split at h
   ·assumption
   ·cases h
 have P:=zh h;clear h;go_in;go_wp2;go_loopw [1,5] (fun iv ov wr=>∃ (j v g:Nat),iv= .int .i64 (j:Int)/\ov= .int .i64 (v:Int)/\j<=T.size/\v<=j/\qR T g v j=some k/\Bw w wr) (fun iv _ _=>T.size - (intOf iv).toNat)
 case atStart=>exact⟨i,0,f,rfl,rfl,by omega,by omega,uh P,yG _ _⟩
 case round=>
  obtain⟨j,v,g,rfl,rfl,hj,hop,d,R⟩:=hrel;clear P;obtain⟨g,rfl⟩:∃ g',g=g'+1:=by cases g with
   | zero=>simp[qR]at d
   | succ g=>exact⟨g,rfl⟩
  rw[qR]at d;by_cases L:j<T.size
  ·rw[yf L]at d;have V:(j:Int)<(T.size:Int):=by omega
   have D:=Zg T j L;obtain⟨n,J,o,s,X⟩:∃ j2,Jw T j=some j2/\∃ o,QF (bt T j) v=some o/\(if o=0/\YK T j2=true then some j2 else qR T g o j2)=some k:=by
    cases J:Jw T j with
    | none=>rw[J]at d;simp at d
    | some j2=>
     rw[J]at d;simp only[yz]at d
     cases s:QF (bt T j) v with
     | none=>rw[s]at d;simp at d
     | some o=>rw[s]at d;exact⟨j2,rfl,o,rfl,by simpa using d⟩
   clear d;have G:=Dn J L;have F:=G.2;have hjn:=G.1;obtain⟨r,q⟩:=Do J;have p:=En F X;have I:=zh R;clear J X G R;obtain⟨c,u⟩:∃ c,bt T j=c:=⟨_,rfl⟩;have Y:((T[j].toNat:Int) ==34)=decide (c=34):=bI (D ▸ u) 34;have Z:((T[j].toNat:Int) ==91)=decide (c=91):=bI (D ▸ u) 91;have S:((T[j].toNat:Int) ==123)=decide (c=123):=bI (D ▸ u) 123;have aa:((T[j].toNat:Int) ==93)=decide (c=93):=bI (D ▸ u) 93;have U:((T[j].toNat:Int) ==125)=decide (c=125):=bI (D ▸ u) 125;have tz:((o:Int) ==0)=decide (o=0):=bI rfl 0;have te:((n:Int) ==(T.size:Int))=decide (n=T.size):=bI rfl _;have hoj:=Dp s;rw[u]at r q s;by_cases K:c=34
   ·subst K;obtain⟨l,W⟩:=q rfl;obtain rfl:v=o:=by injection s
    have x:=zh (uh y j wr L);rw[W]at x;clear q r W D u y s;go_wp2_with fail;refine (uh x).mono ?_;rintro e w2 ⟨Q,rfl⟩
    replace I:=zh (zj (uh I) Q)
    clear x Q;rcases p with ⟨p,b⟩ |⟨p,b⟩
    ·have M:=zh b;clear b;rcases p with B |⟨B,b,C,h4,h5⟩
     all_goals (
      try (
         have a:=(Zg T n b).symm;have E:(n:Int)<(T.size:Int):=by omega
         have z:((T[n].toNat:Int) ==44)=decide (bt T n=44):=bI a 44;have A:((T[n].toNat:Int) ==93)=decide (bt T n=93):=bI a 93;have m:((T[n].toNat:Int) ==125)=decide (bt T n=125):=bI a 125;clear a)
      go_wp2
      all_goals (
       go_roundw
       case rel=>exact⟨n,v,g,by go_num,by go_num,F,by omega,uh M,uh I⟩
       case measure=>simp[intOf];omega))
    ·have N:=zh b;clear b;rcases p with ⟨B,b⟩ |⟨B,b,C | C | C⟩
     all_goals (
      try (
         have a:=(Zg T n b).symm;have E:(n:Int)<(T.size:Int):=by omega
         have z:((T[n].toNat:Int) ==44)=decide (bt T n=44):=bI a 44;have A:((T[n].toNat:Int) ==93)=decide (bt T n=93):=bI a 93;have m:((T[n].toNat:Int) ==125)=decide (bt T n=125):=bI a 125;clear a)
      go_wp2
      all_goals (
       go_ret;exact⟨by rw[← uh N];first | rfl | go_num,uh I⟩))
   ·have hnI:(j:Int)+1=(n:Int):=by have:=r K;omega
    have O:=Oy s;clear q r D u y s;rcases O with ⟨rfl,H⟩ |⟨rfl,H⟩ |⟨rfl,H⟩ |⟨rfl,H⟩ |⟨c1,c2,c3,c4,rfl⟩
    all_goals (
     rcases p with ⟨p,b⟩ |⟨p,b⟩
     ·have M:=zh b;clear b;rcases p with B |⟨B,b,C,h4,h5⟩
      all_goals (
       try (
          have a:=(Zg T n b).symm;have E:(n:Int)<(T.size:Int):=by omega
          have z:((T[n].toNat:Int) ==44)=decide (bt T n=44):=bI a 44;have A:((T[n].toNat:Int) ==93)=decide (bt T n=93):=bI a 93;have m:((T[n].toNat:Int) ==125)=decide (bt T n=125):=bI a 125;clear a)
       go_wp2
       all_goals (
        go_roundw
        case rel=>exact⟨n,_,g,by go_num,by go_num,F,by omega,uh M,uh I⟩
        case measure=>simp[intOf];omega))
     ·have N:=zh b;clear b;rcases p with ⟨B,b⟩ |⟨B,b,C | C | C⟩
      all_goals (
       try (
          have a:=(Zg T n b).symm;have E:(n:Int)<(T.size:Int):=by omega
          have z:((T[n].toNat:Int) ==44)=decide (bt T n=44):=bI a 44;have A:((T[n].toNat:Int) ==93)=decide (bt T n=93):=bI a 93;have m:((T[n].toNat:Int) ==125)=decide (bt T n=125):=bI a 125;clear a)
       go_wp2
       all_goals (
        go_ret;exact⟨by rw[← uh N];first | rfl | go_num,uh I⟩)))
  ·rw[ye L]at d;cases d
theorem Dr(T:Bs)(w:Wo)(h0:0<T.size)(h1:bt T 0≠91)(h2:bt T 0≠123):
  Calls prog 74 #[.string T] w fun e w'=>∃ v,e= .returned v/\PR w' w.heap.size v []/\Bw w w':=by
 rw[Zg T 0 h0]at h1 h2;have a:((T[0].toNat:Int) !=91)=true:=by rw[bne_iff_ne];omega
 have b:((T[0].toNat:Int) !=123)=true:=by rw[bne_iff_ne];omega
 have d:(0:Int)<(T.size:Int):=by omega
 clear h1 h2;go_in;go_wp2;go_ret;exact⟨_,rfl,World.ownsRow_lit (base:=w.heap.size) (e:=97) (size:=2) w #[] 0 (yd _) (by unfold maxLen;omega) rfl,(yG _ _).alloc (yd _) _⟩
theorem Ds(l:JL)(hok:Z8 l)(w:Wo)(hT:(zi (ct (.arr l))).size<=1000000):
  Calls prog 74 #[.string (zi (ct (.arr l)))] w fun e w'=>∃ v,e= .returned v/\PR w' w.heap.size v (qk 0 (zu l))/\Bw w w':=by
 obtain⟨i0,R,W,X,Y⟩:=info_parts Y9;have b:(zi (ct (.arr l))).data.toList=91 ::(joinC (zu l)++[93]):=by rw[Zd];rfl
 have y:=Sy (zi (ct (.arr l))) l hok;generalize zi (ct (.arr l))=T at *;generalize zu l=a at *;have h0:0<T.size:=by have:=congrArg List.length b;rw[Zb]at this;simp at this;omega
 have Q:T[0].toNat=91:=by rw[← Zg T 0 h0];unfold bt;rw[b];rfl
 have f1:((T[0].toNat:Int) !=91)=false:=by rw[bne_eq_false_iff_eq];omega
 have f2:((T[0].toNat:Int) ==123)=false:=by rw[yb];omega
 have hI:(0:Int)<(T.size:Int):=by omega
 have hn:a.length<=T.size:=by
  have h1:=Uz b;have:∀ k,k<=a.length->k<=pk a k:=by
   intro k;induction k with
   | zero=>intro _;omega
   | succ k ih=>intro d;rw[K6 a k (by omega)];have:=ih (by omega);omega
  cases hl:a.length with
  | zero=>omega
  | succ m=>
   have h2:=Uy b m (by omega);have h3:=this m (by omega);omega
 have I:Hid (∀ k (d:k<a.length) (w:Wo),pk a k+a[k].length+1<=T.size/\1<=a[k].length/\T.extract (pk a k) (pk a k+a[k].length)=zi a[k]/\pk a (k+1)=pk a k+a[k].length+1/\qk 0 (a.take (k+1))=qk 0 (a.take k)++[(zP k,a[k])] /\
   Calls prog 120 #[.string T,.int .i64 ((pk a k:Nat):Int)] w (Rb (.int .i64 ((pk a k+a[k].length:Nat):Int)) w)):=fun k d w=>by
  have hd:=Ux b k d;obtain⟨ht,U⟩:=y a[k] (yq d);obtain⟨f,hf⟩:=ht _ _ hd (K0 _ 93 (.inl rfl));refine⟨Uy b k d,?_,SB hd,K6 a k d,?_,Dq T _ _ f w (by omega) hf⟩
  ·cases h:a[k]with
   | nil=>exact absurd h U
   | cons _ _=>simp
  ·rw[yx d,Sx];simp[Nat.min_eq_left (Nat.le_of_lt d)]
 have p:=zh (Uz b);have F:∀ k,k<=a.length->(qk 0 (a.take k)).length=k:=fun k d=>by rw[Vz,yl];omega
 have A:=zh F;have o:Hid (∀ (n:Nat) (w:Wo),n<=1000000->Calls prog 119 #[.int .i64 (n:Int)] w (Rb (.string (zi (zP n))) w)):=fun n w hn=>WB n n w (yd _) (by omega);clear b y Q F hok;go_in;go_wp2;go_loopw [3,4] (fun v i wr=>∃ k:Nat,k<=a.length/\i= .int .i64 ((pk a k:Nat):Int)/\PR wr w.heap.size v (qk 0 (a.take k))/\Bw w wr) (fun _ i _=>T.size+1 - (intOf i).toNat)
 case atStart=>exact⟨0,yr _,rfl,World.ownsRow_lit (base:=w.heap.size) (e:=97) (size:=2) w #[] 0 (yd _) (by unfold maxLen;omega) rfl,(yG _ _).alloc (yd _) _⟩
 case round=>
  obtain⟨k,d,rfl,j,O⟩:=hrel;have q:=uh A k d;have L:=zh O;have hwsz:=O.size;clear O;by_cases G:k<a.length
  ·obtain⟨k1,k2,k3,k4,k5,_⟩:=uh I k G w;have M:Hid (∀ w,Calls prog 120 #[.string T,.int .i64 ((pk a k:Nat):Int)] w (Rb (.int .i64 ((pk a k+a[k].length:Nat):Int)) w)):=fun w=>(uh I k G w).2.2.2.2.2;have B:=zh k4;have N:=zh k5;have tl:((pk a k:Nat):Int)<(T.size:Int) - 1:=by omega
   obtain⟨x,len,s,rfl,S⟩:∃ x len s,u3= .slice x len s/\len=k:=by
    rcases j.2 with ⟨V,h0'⟩ |⟨g,s,cur,V,_⟩
    ·exact⟨_,_,_,V,by omega⟩
    ·exact⟨_,_,_,V,q⟩
   obtain rfl:=S;have HD:=zh (uh o len wr (by omega));generalize qk 0 (a.take len)=H at *;generalize pk a len=P at *;generalize a[len]=t at *;obtain⟨E,hE⟩:∃ E,P+t.length=E:=⟨_,rfl⟩;rw[hE]at k3 k1 M B;have hPE:P<=E:=by omega
   clear hE k4 k5 I p o A;go_wp2_with fail;refine (uh HD).mono ?_;rintro e w1 ⟨rfl,J⟩;have p1:=j.below J;have B1:=zh (zj (uh L) J);have hw1:=J.size;clear HD J j L;go_wp2_with fail;refine (uh M _).mono ?_;rintro e w2 ⟨rfl,K⟩;have p2:=p1.below K;have B2:=zh (zj (uh B1) K);have hw2:=K.size;clear M K p1 B1;have r:w2.ownsRow w.heap.size 97 2 (.slice x len s) H.length (H.flatMap zF):=p2;have hal:H.length<=1000000:=by omega
   go_wp2_with (at_builtin;refine wpList_append_own _ rfl (.tmp 44) (.tmp 51) 94 rfl w.heap.size 97 i0 (.agg #[.string ByteArray.empty,.string ByteArray.empty]) 2 32 underlying94 R W X Y rfl (by decide) _ _ _ rfl (r.alloc _) ⟨w2.heap.size,0,none⟩ 1 1 (zF (zP len,t)) rfl rfl (QE _ _ _ _) (fun u hu=>by {simp[zF]at hu;rcases hu with rfl | rfl<;>rfl}) (by unfold maxLen;omega) (by omega) (by simp;omega) ?_);intro v3 Z z C _;have P3:Hid (PR Z w.heap.size v3 (H++[(zP len,t)])):=by
    show PR Z w.heap.size v3 (H++[(zP len,t)])
    unfold PR;rw[yg,List.flatMap_append,q];simpa using z
   have B3:Hid (Bw w Z):=((uh B2).alloc (by omega) _).grown C (by simp;omega) (fun k d=>(r.lt k d).1);clear z C r p2 B2;go_wp2;go_roundw
   case rel=>exact⟨len+1,by omega,by rw[uh B];go_num,by rw[uh N];exact uh P3,uh B3⟩
   case measure=>simp[intOf];omega
  ·have D:k=a.length:=by omega
   have h2:=uh p;rw[← D]at h2;have tl:¬ ((pk a k:Nat):Int)<(T.size:Int) - 1:=by omega
   have e:a.take k=a:=yp (by omega);rw[e]at j;have HP:=zh j;generalize pk a k=P at *;clear I p o A j e D q;go_wp2;go_ret;exact⟨_,rfl,uh HP,uh L⟩
theorem Oz{T:Bs}{cs:List (List UInt8)}{a c:UInt8}(hTL:T.data.toList=a ::(joinC cs++[c])):cs.length<=T.size:=by
 have b:=Uz hTL;have:∀ k,k<=cs.length->k<=pk cs k:=by
  intro k;induction k with
  | zero=>intro _;omega
  | succ k ih=>intro g;rw[K6 cs k (by omega)];have:=ih (by omega);omega
 cases hl:cs.length with
 | zero=>omega
 | succ m=>
  have d:=Uy hTL m (by omega);have f:=this m (by omega);omega
theorem Dt(m:JM)(hok:Z6 m)(w:Wo)(hT:(zi (ct (.obj m))).size<=1000000):
  Calls prog 74 #[.string (zi (ct (.obj m)))] w fun e w'=>∃ v,e= .returned v/\PR w' w.heap.size v (zz (zn m))/\Bw w w':=by
 obtain⟨i0,hi0,hz0,hz1,hz2⟩:=info_parts Y9;have a:(zi (ct (.obj m))).data.toList=123 ::(joinC ((zz (zn m)).map zt)++[125]):=by rw[Zd];rfl
 have B:∀ p∈zz (zn m),Q9 (zi (ct (.obj m))) p.2/\p.2≠[]/\Lib.validD p.1=true:=fun p hp=>Sz _ m hok p ((qj _).subset hp);generalize zi (ct (.obj m))=T at *;generalize zz (zn m)=qs at *;have hml:(qs.map zt).length=qs.length:=yk _;have h0:0<T.size:=by have:=congrArg List.length a;rw[Zb]at this;simp at this;omega
 have hb0:T[0].toNat=123:=by rw[← Zg T 0 h0];unfold bt;rw[a];rfl
 have f1:((T[0].toNat:Int) !=91)=true:=by rw[bne_iff_ne];omega
 have f1':((T[0].toNat:Int) !=123)=false:=by rw[bne_eq_false_iff_eq];omega
 have f2:((T[0].toNat:Int) ==123)=true:=by rw[yB];omega
 have hI:(0:Int)<(T.size:Int):=by omega
 have hn:qs.length<=T.size:=by have:=Oz a;omega
 have I:Hid (∀ k (F:k<qs.length) (w:Wo),pk (qs.map zt) k+(quoted qs[k].1).length+1+qs[k].2.length+1<=T.size/\1<=qs[k].2.length/\T.extract (pk (qs.map zt) k+(quoted qs[k].1).length+1) (pk (qs.map zt) k+(quoted qs[k].1).length+1+qs[k].2.length)=zi qs[k].2/\pk (qs.map zt) (k+1)=pk (qs.map zt) k+(quoted qs[k].1).length+1+qs[k].2.length+1/\qs.take (k+1)=qs.take k++[(qs[k].1,qs[k].2)] /\
   Calls prog 120 #[.string T,.int .i64 ((pk (qs.map zt) k+(quoted qs[k].1).length+1:Nat):Int)] w ((Rb (.int .i64 ((pk (qs.map zt) k+(quoted qs[k].1).length+1+qs[k].2.length:Nat):Int)) w)) /\
   Calls prog 69 #[.string T,.int .i64 ((pk (qs.map zt) k:Nat):Int)] w (Rb (.tuple #[.string (zi qs[k].1),.int .i64 ((pk (qs.map zt) k+(quoted qs[k].1).length:Nat):Int),.bool true]) w)):=fun k F w=>by
  have d:k<(qs.map zt).length:=by omega
  have W:=Ux a k d;have N:=Uy a k d;have O:=K6 (qs.map zt) k d;have em:(qs.map zt)[k]=quoted qs[k].1++58 :: qs[k].2:=by simp[zt]
  rw[em]at W N O;rw[List.append_assoc]at W;simp only[yg,ym]at N O;obtain⟨ht,hne,Q⟩:=B qs[k] (yq F);have K:T.data.toList.drop (pk (qs.map zt) k+(quoted qs[k].1).length+1)=qs[k].2++(joinT ((qs.map zt).drop (k+1))++[125]):=by
   have h1:=QQ W;have h2:=Zr (T:=T) (c:=58) (m:=qs[k].2++(joinT ((qs.map zt).drop (k+1))++[125])) (by rw[h1];rfl);exact h2.2.2
  obtain⟨f,hf⟩:=ht _ _ K (K0 _ 125 (.inr rfl));have hs:=Ut qs[k].1 T _ Q (pk (qs.map zt) k) W;refine⟨by omega,?_,SB K,by omega,yx F,Dq T _ _ f w (by omega) hf,?_⟩
  ·cases h:qs[k].2 with
   | nil=>exact absurd h hne
   | cons _ _=>simp
  ·have:=UI T (pk (qs.map zt) k) w (by omega) (by omega);rw[hs]at this;exact this.mono fun e w' h=>⟨h.2,h.1⟩
 have b:=zh (Uz a);have l:Hid (∀ (n:Nat) (w:Wo),n<=1000000->Calls prog 119 #[.int .i64 (n:Int)] w (Rb (.string (zi (zP n))) w)):=fun n w hn=>WB n n w (yd _) (by omega);clear a B hb0 hok;rw[hml]at b;go_in;go_wp2;go_loopw [3,4] (fun v i wr=>∃ k:Nat,k<=qs.length/\i= .int .i64 ((pk (qs.map zt) k:Nat):Int)/\PR wr w.heap.size v (qs.take k)/\Bw w wr) (fun _ i _=>T.size+1 - (intOf i).toNat)
 case atStart=>exact⟨0,yr _,rfl,World.ownsRow_lit (base:=w.heap.size) (e:=97) (size:=2) w #[] 0 (yd _) (by unfold maxLen;omega) rfl,(yG _ _).alloc (yd _) _⟩
 case round=>
  obtain⟨k,F,rfl,j,hb⟩:=hrel;have o:(qs.take k).length=k:=by rw[yl];omega
  have X:=zh hb;have hwsz:=hb.size;clear hb;by_cases D:k<qs.length
  ·obtain⟨k1,k2,k3,k4,k5,_,_⟩:=uh I k D w;have H:Hid (∀ w,Calls prog 120 #[.string T,.int .i64 ((pk (qs.map zt) k+(quoted qs[k].1).length+1:Nat):Int)] w ((Rb (.int .i64 ((pk (qs.map zt) k+(quoted qs[k].1).length+1+qs[k].2.length:Nat):Int)) w))):=fun w=>(uh I k D w).2.2.2.2.2.1;have Z:Hid (∀ w,Calls prog 69 #[.string T,.int .i64 ((pk (qs.map zt) k:Nat):Int)] w (Rb (.tuple #[.string (zi qs[k].1),.int .i64 ((pk (qs.map zt) k+(quoted qs[k].1).length:Nat):Int),.bool true]) w)):=fun w=>(uh I k D w).2.2.2.2.2.2;have r:=zh k4;have Y:=zh k5;have tl:((pk (qs.map zt) k:Nat):Int)<(T.size:Int) - 1:=by omega
   obtain⟨x,len,y,rfl,hlv⟩:∃ x len y,u3= .slice x len y/\len=k:=by
    rcases j.2 with ⟨Q,h0'⟩ |⟨g,y,cur,Q,_⟩
    ·exact⟨_,_,_,Q,by omega⟩
    ·exact⟨_,_,_,Q,o⟩
   obtain rfl:=hlv;have HD:=zh (uh l len wr (by omega));generalize qs.take len=S at *;generalize pk (qs.map zt) len=P at *;generalize qs[len].2=t at *;generalize qs[len].1=z at *;obtain⟨M,hM⟩:∃ M,P+(quoted z).length=M:=⟨_,rfl⟩;rw[hM]at k3 k1 H r Z;have hPM:P<=M:=by omega
   have hM1:((M:Nat):Int)+1=((M+1:Nat):Int):=by omega
   obtain⟨J,A⟩:∃ J,M+1=J:=⟨_,rfl⟩;rw[A]at k3 k1 H r hM1;obtain⟨E,hE⟩:∃ E,J+t.length=E:=⟨_,rfl⟩;rw[hE]at k3 k1 H r;have hPE:J<=E:=by omega
   have hPM1:P<J:=by omega
   clear hE hM A k4 k5 I b l;go_wp2_with fail;refine (uh HD).mono ?_;rintro e w1 ⟨rfl,U⟩;have p1:=j.below U;have B1:=zh (zj (uh X) U);have hw1:=U.size;clear HD U j X;go_wp2_with fail;refine (uh Z _).mono ?_;rintro e w1' ⟨rfl,s⟩;have R:=p1.below s;have G:=zh (zj (uh B1) s);have hw1':=s.size;clear Z s p1 B1;go_wp2_with fail;refine (uh H _).mono ?_;rintro e w2 ⟨rfl,V⟩;have p2:=R.below V;have B2:=zh (zj (uh G) V);have hw2:=V.size;clear H V R G;have q:w2.ownsRow w.heap.size 97 2 (.slice x len y) S.length (S.flatMap zF):=p2;have hal:S.length<=1000000:=by omega
   go_wp2_with (at_builtin;refine wpList_append_own _ rfl (.tmp 44) (.tmp 51) 94 rfl w.heap.size 97 i0 (.agg #[.string ByteArray.empty,.string ByteArray.empty]) 2 32 underlying94 hi0 hz0 hz1 hz2 rfl (by decide) _ _ _ rfl (q.alloc _) ⟨w2.heap.size,0,none⟩ 1 1 (zF (z,t)) rfl rfl (QE _ _ _ _) (fun u hu=>by {simp[zF]at hu;rcases hu with rfl | rfl<;>rfl}) (by unfold maxLen;omega) (by omega) (by simp;omega) ?_);intro v3 w3 C L _;have P3:Hid (PR w3 w.heap.size v3 (S++[(z,t)])):=by
    show PR w3 w.heap.size v3 (S++[(z,t)])
    unfold PR;rw[yg,List.flatMap_append,o];simpa using C
   have B3:Hid (Bw w w3):=((uh B2).alloc (by omega) _).grown L (by simp;omega) (fun k F=>(q.lt k F).1);clear C L q p2 B2;go_wp2;go_roundw
   case rel=>exact⟨len+1,by omega,by rw[uh r];go_num,by rw[uh Y];exact uh P3,uh B3⟩
   case measure=>simp[intOf];omega
  ·have d:k=qs.length:=by omega
   have h2:=uh b;rw[← d]at h2;have tl:¬ ((pk (qs.map zt) k:Nat):Int)<(T.size:Int) - 1:=by omega
   have e:qs.take k=qs:=yp (by omega);rw[e]at j;have HP:=zh j;generalize pk (qs.map zt) k=P at *;clear I b l j e d o;go_wp2;go_ret;exact⟨_,rfl,uh HP,uh X⟩
theorem OA{α β:Type}(f:α->β):∀ (l1:List β) (l2:List α),l1.Perm (l2.map f)->∃ l3:List α,l3.Perm l2/\l3.map f=l1
 | [],l2,h=>by
  have:=h.length_eq;simp at this;obtain rfl:=yM this.symm;exact⟨[],List.Perm.refl _,rfl⟩
 | a :: r,l2,h=>by
  have g:a∈l2.map f:=h.subset yo;obtain⟨b,i,rfl⟩:=yN.1 g;obtain⟨s,t,rfl⟩:=List.append_of_mem i;have j:r.Perm ((s++t).map f):=by
   rw[yv,yh]at h;rw[yv];exact (h.trans List.perm_middle).cons_inv
  obtain⟨l3,d,rfl⟩:=OA f r (s++t) j;exact⟨b :: l3,(d.cons b).trans List.perm_middle.symm,rfl⟩
theorem Du{a b:List JV}(h:a.Perm b):dl a=dl b:=by
 induction h with
 | nil=>rfl
 | cons x _ ih=>simp[dl,ih]
 | swap x y l=>simp only[dl];omega
 | trans _ _ h1 h2=>exact h1.trans h2
theorem Dv{a b:List JV}(h:a.Perm b):cl a=cl b:=by unfold cl;exact (h.map zo).sum_nat
def Xi(v:JV):Prop:=(ct v).length<=1000000->zo v<=1000000->∀ w:Wo,Calls prog 32 #[.string (zi (ct v))] w fun e w'=>e= .returned (.tuple #[.int .i64 (zE v:Int),.int .i64 (zo v:Int)])/\Bw w w'
theorem OB (T:Bs) (ps:List (List UInt8×List UInt8)) (vs:List JV) (w:Wo) (hpv:ps.map (·.2)=vs.map ct) (hc:cl vs<=1000000) (hd:dl vs<=1000000) (hn:ps.length<=1000000)
  (hp:Calls prog 74 #[.string T] w fun e w'=>∃ v,e= .returned v/\PR w' w.heap.size v ps/\Bw w w')
  (hs:∀ v∈vs,∀ w:Wo,Calls prog 32 #[.string (zi (ct v))] w fun e w'=>e= .returned (.tuple #[.int .i64 (zE v:Int),.int .i64 (zo v:Int)])/\Bw w w'):
  Calls prog 32 #[.string T] w fun e w'=>e= .returned (.tuple #[.int .i64 ((dl vs+1:Nat):Int),.int .i64 ((cl vs+1:Nat):Int)])/\Bw w w':=by
 have G:=zh hp;have X:ps.length=vs.length:=by have:=congrArg List.length hpv;simpa using this
 have d:Hid (∀ k (B:k<ps.length),∃ i z:Nat,dl (vs.take (k+1))=max (dl (vs.take k)) i/\cl (vs.take (k+1))=cl (vs.take k)+z/\i<=dl vs/\z<=cl vs/\∀ w:Wo,Calls prog 32 #[.string (zi ps[k].2)] w (Rb (.tuple #[.int .i64 (i:Int),.int .i64 (z:Int)]) w)):=fun k B=>by
  have b:k<vs.length:=by omega
  have e:ps[k].2=ct vs[k]:=by
   have:=congrArg (fun l=>l[k]?) hpv;simpa [B,b]using this
  refine⟨zE vs[k],zo vs[k],?_,?_,F8 vs k b,?_,?_⟩
  ·rw[yx b];exact Sn _ _
  ·rw[yx b];exact So _ _
  ·have:=Y8 (vs.map zo) k (by simpa using b);simpa [cl]using this
  ·rw[e];exact hs _ (yq b)
 have n:Hid (∀ k,dl (vs.take k)<=dl vs/\cl (vs.take k)<=cl vs):=fun k=>by
  refine⟨Sp _ _,?_⟩;unfold cl;rw[List.map_take];exact KX _ _
 have O:Hid (vs.take ps.length=vs):=yp (by omega);clear hp hs hpv X;go_in;go_wp2_with fail;refine (uh G).mono ?_;rintro e N ⟨Z,rfl,p1,H⟩;have A:=zh p1;have F:=zh H;obtain⟨x,len,o,rfl,u⟩:∃ x len o,Z= .slice x len o/\len=ps.length:=by
  rcases p1.2 with ⟨E,Q⟩ |⟨g,o,P,E,_⟩
  ·exact⟨_,_,_,E,Q.symm⟩
  ·exact⟨_,_,_,E,rfl⟩
 subst u;clear G p1 H;go_wp2_with fail;go_loopw [5,6,7] (fun dv cv iv wr=>∃ k:Nat,k<=ps.length/\iv= .int .i64 (k:Int)/\dv= .int .i64 ((dl (vs.take k):Nat):Int)/\cv= .int .i64 ((cl (vs.take k):Nat):Int)/\Bw N wr) (fun _ _ iv _=>ps.length - (intOf iv).toNat)
 case atStart=>exact⟨0,yr _,rfl,rfl,rfl,yG _ _⟩
 case round=>
  obtain⟨k,B,rfl,rfl,rfl,s⟩:=hrel;by_cases y:k<ps.length
  ·have L:(k:Int)<(ps.length:Int):=by omega
   obtain⟨g,I,U,V,W,c0,c1⟩:=((uh A).below s).cells k y;injection U with he1 he2 he3;subst he1;subst he3;obtain⟨i,z,J,K,S,R,f⟩:=uh d k y;obtain⟨x1,x2⟩:=uh n k;have a:=zh (f wr);have m:=zh J;have q:=zh K;have j:=zh s;generalize dl (vs.take k)=D at *;generalize cl (vs.take k)=C at *;generalize zi ps[k].2=tx at *;clear s f J K c0 d n A;by_cases M:D<i
   ·have Y:((D:Int)<(i:Int))=True:=eq_true (by omega);have h:max D i=i:=by omega
    rw[h]at m;clear M h;go_wp2_with fail;refine (uh a).mono ?_;rintro e w2 ⟨rfl,r⟩;have p:=zh ((uh j).trans (r.mono (uh j).size));clear a r c1;go_wp2;go_roundw
    case rel=>exact⟨k+1,by omega,by go_num,by rw[uh m],by rw[uh q];go_num,uh p⟩
    case measure=>simp[intOf];omega
   ·have Y:((D:Int)<(i:Int))=False:=yP (by omega);have h:max D i=D:=by omega
    rw[h]at m;clear M h;go_wp2_with fail;refine (uh a).mono ?_;rintro e w2 ⟨rfl,r⟩;have p:=zh ((uh j).trans (r.mono (uh j).size));clear a r c1;go_wp2;go_roundw
    case rel=>exact⟨k+1,by omega,by go_num,by rw[uh m],by rw[uh q];go_num,uh p⟩
    case measure=>simp[intOf];omega
  ·have b:k=ps.length:=by omega
   subst b;rw[uh O];have p:=zj (uh F) s;clear d n A F s;go_wp2;go_ret2;exact⟨by first | rfl | go_num,p⟩
mutual
def Qh:JV->Nat
 | .arr l=>Gu l+1
 | .obj m=>WF m+1
 | .nul=>0
 | .tt=>0
 | .ff=>0
 | .num _=>0
 | .str _=>0
def Gu:JL->Nat
 | .nil=>0
 | .cons v r=>max (Qh v) (Gu r)
def WF:JM->Nat
 | .nil=>0
 | .cons _ v r=>max (Qh v) (WF r)
end
mutual
theorem OC:∀ v:JV,Qh v<=zE v
 | .nul=>yr _
 | .tt=>yr _
 | .ff=>yr _
 | .num _=>yr _
 | .str _=>yr _
 | .arr l=>by rw[Qh,zE];have:=Dw l;omega
 | .obj m=>by rw[Qh,zE];have:=Dx m;omega
theorem Dw:∀ l:JL,Gu l<=Jt l
 | .nil=>yd _
 | .cons v r=>by rw[Gu,Jt];have:=Dw r;have:=OC v;omega
theorem Dx:∀ m:JM,WF m<=Ju m
 | .nil=>yd _
 | .cons k v r=>by rw[WF,Ju];have:=Dx r;have:=OC v;omega
end
def YM:List JV->Nat
 | []=>0
 | v :: r=>max (Qh v) (YM r)
theorem Eo{a b:List JV}(h:a.Perm b):YM a=YM b:=by
 induction h with
 | nil=>rfl
 | cons x _ ih=>simp[YM,ih]
 | swap x y l=>simp only[YM];omega
 | trans _ _ h1 h2=>exact h1.trans h2
theorem Dy:∀ m:JM,WF m=YM (m.toL.map (·.2))
 | .nil=>rfl
 | .cons k v r=>by rw[WF,JM.toL,yh,YM,Dy r]
section
variable {T:Bs}
def Zt(T:Bs)(t:List UInt8)(d:Nat):Prop:=∀ op mo i m f r,op<=mo->T.data.toList.drop i=t++m->Q6 T f op (max mo (op+d)) (i+t.length)=some r->∃ f',Q6 T f' op mo i=some r
theorem Zt.nil:Zt T [] 0:=fun op mo _ _ f _ ho _ h=>⟨f,by rwa [show max mo (op+0)=mo by omega]at h⟩
theorem Zt.app{a b:List UInt8}{d e:Nat}(ha:Zt T a d)(hb:Zt T b e):Zt T (a++b) (max d e):=fun op mo i m f r ho h he=>by
 rw[List.append_assoc]at h;rw[yg,← Nat.add_assoc,show max mo (op+max d e)=max (max mo (op+d)) (op+e) by omega]at he;obtain⟨g,j⟩:=hb op _ (i+a.length) m f r (by omega) (QQ h) he;exact ha op mo i (b++m) g r ho h j
theorem Zt.one{c:UInt8}(hc:Yn c):Zt T [c] 0:=fun op mo i m f r ho h he=>by
 obtain⟨b,a,_⟩:=Zr h;refine⟨f+1,?_⟩;rw[Q6,yf b,YL a hc.1,a,KY hc];exact he
theorem Zt.plain:∀ {t:List UInt8},(∀ c∈t,Yn c)->Zt T t 0
 | [],_=>Zt.nil
 | c :: _,h=>Zt.app (a:=[c]) (d:=0) (e:=0) (Zt.one (h c yo)) (Zt.plain fun d hd=>h d (yu _ hd))
theorem Zt.quoted{l:List UInt8}(hv:Lib.validD l=true):Zt T (Go.Proofs.YtpaecnbdoljafaaGreatDoor.quoted l) 0:=fun op mo i m f r ho h he=>by
 obtain⟨b,a,d⟩:=Ob hv h;refine⟨f+1,?_⟩;rw[Q6,yf b,d,a,Oc];exact he
theorem Zt.wrap{t:List UInt8}{a b:UInt8}{d:Nat}(ha:Va a.toNat=true)(hb:Gq b.toNat=true)(ht:Zt T t d):Zt T (a ::(t++[b])) (d+1):=by
 have j:a.toNat≠34:=by intro e;rw[e]at ha;cases ha
 have k:b.toNat≠34:=by intro e;rw[e]at hb;cases hb
 have o:Va b.toNat=false:=by
  simp only[Gq,Bool.or_eq_true,yB]at hb;rcases hb with h | h<;>simp[Va,h]
 intro g s i m f r B h z;have x:T.data.toList.drop i=a ::(t++(b :: m)):=by rw[h];simp
 obtain⟨A,l,u⟩:=Zr x;obtain⟨q,n,y⟩:=Zr (QQ u);have v:Q6 T (f+1) (g+1) (max (max s (g+1)) (g+1+d)) (i+1+t.length)=some r:=by
  rw[Q6,yf q,YL n k,n];simp only[yz,QF,o,hb,if_true,Bool.false_eq_true,if_false];rw[ye (by omega)];simp only[yz,Nat.add_sub_cancel];rw[show i+1+t.length+1=i+(a ::(t++[b])).length by simp;omega,show max (max (max s (g+1)) (g+1+d)) g=max s (g+(d+1)) by omega];exact z
 obtain⟨w,p⟩:=ht (g+1) _ (i+1) (b :: m) _ r (by omega) u v;refine⟨w+1,?_⟩;rw[Q6,yf A,YL l j,l];simp only[yz,QF,ha,if_true];exact p
theorem Dz:Yn 44:=⟨by decide,by decide,by decide,by decide,by decide⟩
theorem Ep:Yn 58:=⟨by decide,by decide,by decide,by decide,by decide⟩
mutual
theorem Xj:∀ v:JV,zy v->Zt T (ct v) (Qh v)
 | .nul,_=>Zt.plain fun c hc=>((WE (l:=[110,117,108,108]) (by simp)).2 c hc).1
 | .tt,_=>Zt.plain fun c hc=>((WE (l:=[116,114,117,101]) (by simp)).2 c hc).1
 | .ff,_=>Zt.plain fun c hc=>((WE (l:=[102,97,108,115,101]) (by simp)).2 c hc).1
 | .num l,h=>Zt.plain fun c hc=>((WD h).2 c hc).1
 | .str l,h=>by rw[zy]at h;exact Zt.quoted h
 | .arr l,h=>by
  rw[zy]at h;rw[Qh];refine Zt.wrap rfl rfl ?_
  cases l with
  | nil=>exact Zt.nil
  | cons v r=>
   rw[Z8]at h;exact Zt.app (Xj v h.1) (DA r h.2)
 | .obj m,h=>by
  rw[zy]at h;rw[Qh];refine Zt.wrap rfl rfl ?_;have hm:=DC m h;obtain⟨qs,hq,he⟩:=OA (fun q:List UInt8×JV=>(q.1,ct q.2)) (zz (zn m)) m.toL (by rw[← Qg];exact qj _);rw[← he,Dy,← Eo (hq.map (·.2))];have hall:∀ q∈qs,Zt T (zt (q.1,ct q.2)) (Qh q.2):=fun q hqm=>hm q (hq.subset hqm);clear hm he hq;have hj:∀ qs:List (List UInt8×JV),(∀ q∈qs,Zt T (zt (q.1,ct q.2)) (Qh q.2))->Zt T (joinT ((qs.map fun q=>(q.1,ct q.2)).map zt)) (YM (qs.map (·.2))):=by
   intro qs;induction qs with
   | nil=>intro _;exact Zt.nil
   | cons q r ih=>
    intro hh;have:=Zt.app (a:=[44]) (d:=0) (Zt.one Dz) (Zt.app (hh q yo) (ih fun x hx=>hh x (yu _ hx)));rw[show max 0 (max (Qh q.2) (YM (r.map (·.2))))=max (Qh q.2) (YM (r.map (·.2))) by omega]at this;exact this
  cases qs with
  | nil=>exact Zt.nil
  | cons q r=>exact Zt.app (hall q yo) (hj r fun x hx=>hall x (yu _ hx))
theorem DA:∀ l:JL,Z8 l->Zt T (joinT (zu l)) (Gu l)
 | .nil,_=>Zt.nil
 | .cons v r,h=>by
  rw[Z8]at h;have:=Zt.app (a:=[44]) (d:=0) (Zt.one (T:=T) Dz) (Zt.app (Xj v h.1) (DA r h.2));rw[show max 0 (max (Qh v) (Gu r))=max (Qh v) (Gu r) by omega]at this;exact this
theorem DC:∀ m:JM,Z6 m->∀ q∈m.toL,Zt T (zt (q.1,ct q.2)) (Qh q.2)
 | .nil,_,q,hq=>by simp[JM.toL]at hq
 | .cons k v r,h,q,hq=>by
  rw[Z6]at h;rw[JM.toL]at hq;rcases List.mem_cons.1 hq with e | hq
  ·rw[e];have:=Zt.app (Zt.quoted (T:=T) h.1) (Zt.app (a:=[58]) (d:=0) (Zt.one Ep) (Xj v h.2.1));rw[show max 0 (max 0 (Qh v))=Qh v by omega]at this;exact this
  ·exact DC r h.2.2 q hq
end
end
theorem Eq(v:JV)(h:zy v):∃ f,Q6 (zi (ct v)) f 0 0 0=some (Qh v):=by
 refine Xj (T:=zi (ct v)) v h 0 0 0 [] 1 (Qh v) (yd _) (by rw[Zd];simp) ?_;rw[Q6,ye (by rw[zS];omega)];simp
theorem DE:∀ (b:Nat) (cs:List (List UInt8)),(qk b cs).map (·.2)=cs
 | _,[]=>rfl
 | b,t :: r=>by simp[qk,DE (b+1) r]
theorem VD{c:UInt8}{r:List UInt8}:0<(zi (c :: r)).size/\bt (zi (c :: r)) 0=c.toNat:=by
 refine⟨by rw[zS];simp,?_⟩;unfold bt;rw[Zd];rfl
theorem UJ(v:JV)(c:UInt8)(r:List UInt8)(hc:ct v=c :: r)(h1:c.toNat≠91)(h2:c.toNat≠123)(hd:zE v=1)(hn:zo v=1):Xi v:=by
 intro _ _ w;rw[hd,hn];obtain⟨a,b⟩:=VD (c:=c) (r:=r);refine OB (zi (ct v)) [] [] w rfl (by simp[cl]) (by simp[dl]) (by simp) ?_ (fun v hv=>by simp at hv);rw[hc];exact Dr _ w a (by rw[b];exact h1) (by rw[b];exact h2)
mutual
theorem OD:∀ v:JV,zy v->Xi v
 | .nul,_=>UJ .nul 110 _ rfl (by decide) (by decide) rfl rfl
 | .tt,_=>UJ .tt 116 _ rfl (by decide) (by decide) rfl rfl
 | .ff,_=>UJ .ff 102 _ rfl (by decide) (by decide) rfl rfl
 | .num l,h=>by
  have hp:=WD h
  cases l with
  | nil=>exact absurd rfl hp.1
  | cons c r=>
   have:=(hp.2 c yo).1;exact UJ (.num (c :: r)) c r rfl this.2.1 this.2.2.1 rfl rfl
 | .str l,_=>UJ (.str l) 34 (qs l++[34]) rfl (by decide) (by decide) rfl rfl
 | .arr l,h=>by
  rw[zy]at h;intro hlen hcn w;have hs:=DF l h;have hd:=(Jv (.arr l)).1;have hct:(ct (.arr l)).length=hold (zu l).length+nl (zu l):=by
   show (Zi (zu l)).length=_
   have:=Vw (zu l);simp[Zi];omega
  have e1:zE (.arr l)=dl l.toL+1:=by rw[zE,Uv]
  have e2:zo (.arr l)=cl l.toL+1:=by rw[zo,Uw]
  rw[e1]at hd;rw[e2]at hd hcn;rw[e1,e2];refine OB _ (qk 0 (zu l)) l.toL w (by rw[DE,qH]) (by omega) (by omega) (by rw[Vz];unfold hold at hct;omega) (Ds l h w (by rw[zS];exact hlen)) (fun v hv=>?_);obtain⟨k,hk,rfl⟩:=List.getElem_of_mem hv;have c1:zo l.toL[k]<=cl l.toL:=by have:=Y8 (l.toL.map zo) k (by simpa using hk);simpa [cl]using this
  have n1:(ct l.toL[k]).length<=nl (zu l):=by have:=Y8 ((zu l).map List.length) k (by rw[qH];simpa using hk);simpa [nl,qH]using this
  exact hs _ hv (by omega) (by omega)
 | .obj m,h=>by
  rw[zy]at h;intro hlen hcn w;have hs:=DG m h;have hd:=(Jv (.obj m)).1;have hct:=Ym m;have e1:zE (.obj m)=dl (m.toL.map (·.2))+1:=by rw[zE,Gn]
  have e2:zo (.obj m)=cl (m.toL.map (·.2))+1:=by rw[zo,Gp];simp[cl,Function.comp_def]
  obtain⟨qs,hq,he⟩:=OA (fun q:List UInt8×JV=>(q.1,ct q.2)) (zz (zn m)) m.toL (by rw[← Qg];exact qj _);have hp2:=hq.map (·.2);rw[e1]at hd;rw[e2]at hd hcn;rw[e1,e2,← Du hp2,← Dv hp2];have hml:(zz (zn m)).length=m.toL.length:=by rw[(qj _).length_eq,Qg,yk]
  refine OB _ (zz (zn m)) (qs.map (·.2)) w (by rw[← he];simp) (by rw[Dv hp2];omega) (by rw[Du hp2];omega) (by unfold hold at hct;omega) (Dt m h w (by rw[zS];exact hlen)) (fun v hv=>?_);obtain⟨q,hqm,rfl⟩:=yN.1 hv;have hqm':=hq.subset hqm;have c1:zo q.2<=cl (m.toL.map (·.2)):=by
   have:=Vx (fun q=>zo q.2) hqm';simpa [cl,Function.comp_def]using this
  have n1:=Vx ZV hqm';simp only[ZV]at n1;exact hs q hqm' (by omega) (by omega)
theorem DF:∀ l:JL,Z8 l->∀ v∈l.toL,Xi v
 | .nil,_,v,hv=>by simp[JL.toL]at hv
 | .cons x r,h,v,hv=>by
  rw[Z8]at h;rw[JL.toL]at hv;rcases List.mem_cons.1 hv with e | hv
  ·rw[e];exact OD x h.1
  ·exact DF r h.2 v hv
theorem DG:∀ m:JM,Z6 m->∀ q∈m.toL,Xi q.2
 | .nil,_,q,hq=>by simp[JM.toL]at hq
 | .cons k x r,h,q,hq=>by
  rw[Z6]at h;rw[JM.toL]at hq;rcases List.mem_cons.1 hq with e | hq
  ·rw[e];exact OD x h.2.1
  ·exact DG r h.2.2 q hq
end
theorem Er (T:Bs) (r f d c:Nat) (w:Wo) (hT:T.size<=1000000) (h:Q6 T f 0 0 0=some r) (hrd:r<=d) (hd:d<=1000000) (hc:c<=1000000) (q:Bool) (hq0:q=decide (d<=100/\c<=3000))
  (hs:∀ w:Wo,Calls prog 32 #[.string T] w fun e w'=>e= .returned (.tuple #[.int .i64 (d:Int),.int .i64 (c:Int)])/\Bw w w'):
  Calls prog 28 #[.string T] w fun e w'=>e= .returned (.bool q)/\Bw w w':=by
 have i:=zh hq0;clear hq0;have k:Hid (∀ (j:Nat) (w:Wo),j<T.size->Calls prog 69 #[.string T,.int .i64 j] w (UH T w (Zq T j))):=fun j w hj=>UI T j w (by omega) (by omega);have p:=zh hs;have H0:=zh h;clear h hs;go_in;go_wp2;go_loopw [3,4,5] (fun ov mv iv wr=>∃ (z b j g:Nat),ov= .int .i64 (z:Int)/\mv= .int .i64 (b:Int)/\iv= .int .i64 (j:Int)/\j<=T.size/\z<=b/\b<=j/\Q6 T g z b j=some r/\Bw w wr) (fun _ _ iv _=>T.size - (intOf iv).toNat)
 case atStart=>exact⟨0,0,0,f,rfl,rfl,rfl,yr _,yd _,yd _,uh H0,yG _ _⟩
 case round=>
  obtain⟨z,b,j,g,rfl,rfl,rfl,hj,hop,hmo,a,O⟩:=hrel;clear H0;obtain⟨g,rfl⟩:∃ g',g=g'+1:=by cases g with
   | zero=>simp[Q6]at a
   | succ g=>exact⟨g,rfl⟩
  rw[Q6]at a;by_cases L:j<T.size
  ·rw[yf L]at a;have hltI:(j:Int)<(T.size:Int):=by omega
   have E:=Zg T j L;obtain⟨n,I,o,v,X⟩:∃ j2,Jw T j=some j2/\∃ o,QF (bt T j) z=some o/\Q6 T g o (max b o) j2=some r:=by
    cases I:Jw T j with
    | none=>rw[I]at a;simp at a
    | some j2=>
     rw[I]at a;simp only[yz]at a
     cases v:QF (bt T j) z with
     | none=>rw[v]at a;simp at a
     | some o=>rw[v]at a;exact⟨j2,rfl,o,rfl,by simpa using a⟩
   clear a;have H:=Dn I L;have G:=H.2;have hjn:=H.1;obtain⟨u,s⟩:=Do I;have A:=zh O;clear I H O p;obtain⟨x,hx⟩:∃ x,bt T j=x:=⟨_,rfl⟩;have f34:((T[j].toNat:Int) ==34)=decide (x=34):=bI (E ▸ hx) 34;have f91:((T[j].toNat:Int) ==91)=decide (x=91):=bI (E ▸ hx) 91;have f123:((T[j].toNat:Int) ==123)=decide (x=123):=bI (E ▸ hx) 123;have f93:((T[j].toNat:Int) ==93)=decide (x=93):=bI (E ▸ hx) 93;have f125:((T[j].toNat:Int) ==125)=decide (x=125):=bI (E ▸ hx) 125;have hoj:=Dp v;obtain⟨Y,N,M⟩:∃ m,max b o=m/\(b<o/\m=o∨¬ b<o/\m=b):=⟨_,rfl,by omega⟩;rw[N]at X;have U:=zh X;clear X N;rw[hx]at u s v;by_cases K:x=34
   ·subst K;obtain⟨l,hq⟩:=s rfl;obtain rfl:z=o:=by injection v
    have D:=zh (uh k j wr L);rw[hq]at D;obtain rfl:Y=b:=by omega
    have R:¬ (Y:Int)<(z:Int):=by omega
    clear s u hq E hx k v M;go_wp2_with fail;refine (uh D).mono ?_;rintro e Z ⟨B,rfl⟩;have S:=zh (zj (uh A) B);clear D B;go_wp2;go_roundw
    case rel=>exact⟨z,Y,n,g,by go_num,by go_num,by go_num,G,by omega,by omega,uh U,uh S⟩
    case measure=>simp[intOf];omega
   ·have hnI:(j:Int)+1=(n:Int):=by have:=u K;omega
    have W:=Oy v;clear s u E hx k v;rcases W with ⟨rfl,y⟩ |⟨rfl,y⟩ |⟨rfl,y⟩ |⟨rfl,y⟩ |⟨c1,c2,c3,c4,y⟩
    all_goals (
     rcases M with ⟨Q,F⟩ |⟨Q,F⟩
     ·have R:(b:Int)<(o:Int):=by omega
      subst F;go_wp2
      all_goals (
       go_roundw
       case rel=>exact⟨_,_,n,g,by go_num,by go_num,by go_num,G,by omega,by omega,uh U,uh A⟩
       case measure=>simp[intOf];omega)
     ·have R:¬ (b:Int)<(o:Int):=by omega
      subst F;go_wp2
      all_goals (
       go_roundw
       case rel=>exact⟨_,_,n,g,by go_num,by go_num,by go_num,G,by omega,by omega,uh U,uh A⟩
       case measure=>simp[intOf];omega))
  ·rw[ye L]at a;injection a with a;subst a;have A:=zh O;have tl:¬ (j:Int)<(T.size:Int):=by omega
   clear O k;by_cases Q:100<b
   ·have R:(100:Int)<(b:Int):=by omega
    have C:Hid (q=false):=zh (by rw[uh i,decide_eq_false_iff_not];omega);clear Q p;go_wp2;go_ret;exact⟨by rw[uh C];rfl,uh A⟩
   ·have R:¬ (100:Int)<(b:Int):=by omega
    have HC:=zh (uh p wr);clear Q p;by_cases P:d<=100
    ·have t1:((d:Int)<=100)=True:=eq_true (by omega);have s1:decide ((d:Int)<=100)=true:=yi (by omega);by_cases V:c<=3000
     ·have t2:((c:Int)<=3000)=True:=eq_true (by omega);have s2:decide ((c:Int)<=3000)=true:=yi (by omega);have C:Hid (q=true):=zh (by rw[uh i,decide_eq_true_iff];exact⟨P,V⟩);clear P V;go_wp2_with fail;refine (uh HC).mono ?_;rintro e Z ⟨rfl,B⟩;have J:=zj (uh A) B;clear HC;go_wp2;go_ret;exact⟨by rw[uh C];rfl,J⟩
     ·have t2:((c:Int)<=3000)=False:=yP (by omega);have s2:decide ((c:Int)<=3000)=false:=yj (by omega);have C:Hid (q=false):=zh (by rw[uh i,decide_eq_false_iff_not];omega);clear P V;go_wp2_with fail;refine (uh HC).mono ?_;rintro e Z ⟨rfl,B⟩;have J:=zj (uh A) B;clear HC;go_wp2;go_ret;exact⟨by rw[uh C];rfl,J⟩
    ·have t1:((d:Int)<=100)=False:=yP (by omega);have s1:decide ((d:Int)<=100)=false:=yj (by omega);have C:Hid (q=false):=zh (by rw[uh i,decide_eq_false_iff_not];omega);clear P;go_wp2_with fail;refine (uh HC).mono ?_;rintro e Z ⟨rfl,B⟩;have J:=zj (uh A) B;clear HC;go_wp2;go_ret;exact⟨by rw[uh C];rfl,J⟩
theorem DH(v:JV)(hok:zy v)(w:Wo)(hl:(ct v).length<=1000000)(hc:zo v<=1000000):
  Calls prog 28 #[.string (zi (ct v))] w fun e w'=>e= .returned (.bool (decide (zE v<=100/\zo v<=3000)))/\Bw w w':=by
 obtain⟨f,a⟩:=Eq v hok;have b:=(Jv v).1;exact Er _ (Qh v) f (zE v) (zo v) w (by rw[zS];exact hl) a (OC v) (by omega) hc _ rfl (fun w=>OD v hok hl hc w)
theorem Es (s:Bs) (i:Nat) (w:Wo) (hs:s.size<=1048576) (hi:i<s.size) (h91:bt s i=91)
  (IH:∀ (j:Nat) (w:Wo),i<j->j<=s.size->Calls prog 26 #[.string s,.int .i64 j] w (GP w (val s j))):
  Calls prog 67 #[.string s,.int .i64 i] w (GP w (val s i)):=by
 have z:=zh (F0 s hs);have g0:=zO s (i+1);have g1:=(Qu (s:=s) (i:=i+1) (by omega)).2;have HV:=zh (KN h91);have HIH:=zh IH;clear IH;generalize hk0:sk s (i+1)=D at *;go_in;go_wp2_with fail;refine ((uh z).1 _ (i+1) _ (by omega)).mono ?_;rintro e w1 ⟨rfl,rfl⟩;rw[hk0];go_wp2_with fail;refine ((uh z).2 93 D _ (by decide)).mono ?_;rintro e w1 ⟨rfl,rfl⟩;clear hk0;by_cases h:bt s D=93
 ·rw[yi h];have HR:Hid (val s i=some (.arr .nil,D+1)):=by show _=_;rw[uh HV,yf h]
  clear h HV;go_wp2;go_returns;rw[uh HR];exact⟨(ZJ w _).trans ((yG _ _).alloc (by simp) _),rfl⟩
 ·rw[yj h];have HR:Hid (val s i=(elems s D).map fun q=>(.arr q.1,q.2)):=by show _=_;rw[uh HV,ye h]
  clear h HV h91;go_wp2_with fail;go_loopg [1] (s.size+1 - D) (fun g k wr=>∃ (j:Nat) (f:JL),g=s.size+1 - j/\k= .int .i64 (j:Int)/\D<=j/\j<=s.size/\zU w.heap.size ⟨#[]⟩ 0 false false false wr/\zU (w.heap.size+1) (zi (91 :: qG f)) 0 true (ZU f) (ZG f) wr/\Bw w wr/\(qG f).length<=31*j/\elems s D=(elems s j).map fun q=>(f.app q.1,q.2))
  case atStart=>
   refine⟨D,.nil,rfl,rfl,yd _,g1,?_,?_,(ZJ w _).trans ((yG _ _).alloc (by simp) _),by simp[qG],by simp[JL.app]⟩
   ·show (World.alloc _ _).heap[_]?=_
    rw[Lib.alloc_old _ _ _ (by simp)];exact yF w _
   ·have:=yF (w.alloc (qf ⟨#[]⟩ 0 false false false)) (qf (zi [91]) 0 true false false);rw[show (w.alloc (qf ⟨#[]⟩ 0 false false false)).heap.size=w.heap.size+1 from by simp]at this;exact this
  case round=>
   obtain⟨j,f,hg,rfl,hj1,hj2,hr,B,hb,hpl,hst⟩:=hrel;have N:=zh hst;have HG:=zh B;have G:=zh hr;have HB:=zh hb;have hwsz:=hb.size;have hgl:=B.lt;clear hst B hr hb;have HC:=zh (uh HIH j wr (by omega) (by omega))
   cases hv:val s j with
   | none=>
    have HN:Hid (val s i=none):=by
     show _=_
     rw[uh HR,uh N,Gh,hv];rfl
    rw[hv]at HC;clear hv;go_wp2_with fail;refine (uh HC).mono ?_;rintro e J ⟨C,t,n,bb,tw,rfl⟩;have R2:=(uh G).below C;have B2:=zj (uh HB) C;have m:=R2.alloc (qf t n false bb tw);have S:Bw w (J.alloc (qf t n false bb tw)):=B2.alloc (by have:=C.size;omega) _;have c0:=m.c0;have c1:=m.c1;have c2:=m.c2;have c3:=m.c3;have c4:=m.c4;have f0:=m.fz 0;have f1:=m.fz 1;have f2:=m.fz 2;have f3:=m.fz 3;have f4:=m.fz 4;have Y:=zh (m.put ⟨#[]⟩ 0 0 rfl false false false);have T:=zh (J2 S (yd _) (.string ⟨#[]⟩) (.int .i64 0) (.bool false) (.bool false) (.bool false));clear HC G R2 m B2 S;simp only[qF];go_wp2;try simp only[Exit.inBlock,Exit.then]
    refine bodyPost_ret (J3 rfl rfl (uh Y)) rfl ?_;exact GP.bad (uh HN) (uh T)
   | some q=>
    obtain⟨v,n⟩:=q;have hvo:=Yj hv;have hvl:=KR hv;have HPL:Hid ((qG (f.app (.cons v .nil))).length<=31*n):=by
     show _<=_
     rw[FZ];simp only[yg,ym,yC];omega
    have z1:(zi (91 :: qG f)).size<=40000000:=by rw[zS];simp only[ym];omega
    have z2:(zi (ct v)).size<=40000000:=by rw[zS];omega
    have z3:(zi (91 ::(qG f++ct v))).size<=80000000:=by rw[zS];simp only[ym,yg];omega
    have hn1:=zO s n;have hn2:=(Qu hvo.2).2;have x:Hid (elems s D=(if bt s (sk s n)=93 then some (JL.cons v .nil,sk s n+1)else if bt s (sk s n)=44 then (elems s (sk s (sk s n+1))).map fun r=>(JL.cons v r.1,r.2)else none).map fun q=>(f.app q.1,q.2)):=by
     show _=_
     rw[uh N,Gh,hv];rfl
    rw[hv]at HC;clear hv N;have P:zi (91 :: qG f)++zi (ct v)=zi (91 ::(qG f++ct v)):=Y7 _ _;have F:Hid (zi (91 ::(qG f++ct v))++⟨#[93]⟩=zi (ct (.arr (f.app (.cons v .nil))))):=by
     show _=_
     rw[show (⟨#[93]⟩:Bs)=zi [93]from rfl,Y7,ct,Zi,← Ca];simp
    have E:Hid (zi (91 ::(qG f++ct v))++⟨#[44]⟩=zi (91 :: qG (f.app (.cons v .nil)))):=by
     show _=_
     rw[show (⟨#[44]⟩:Bs)=zi [44]from rfl,Y7,FZ];simp
    have U:Hid (ZU (f.app (.cons v .nil))=(ZU f || zD v)):=by show _=_;rw[FV];simp[ZU]
    have X:Hid (ZG (f.app (.cons v .nil))=(ZG f || zw v)):=by show _=_;rw[FX];simp[ZG]
    go_wp2_with fail;refine (uh HC).mono ?_;rintro e J ⟨C,rfl⟩;simp only[qF];have m:=zh (((uh G).below C).alloc (qf (zi (ct v)) n true (zD v) (zw v)));have K:=((uh HG).below C).alloc (qf (zi (ct v)) n true (zD v) (zw v));have Z:zU J.heap.size (zi (ct v)) n true (zD v) (zw v) (J.alloc (qf (zi (ct v)) n true (zD v) (zw v))):=yF J _;have S:Hid (Bw w (J.alloc (qf (zi (ct v)) n true (zD v) (zw v)))):=(zj (uh HB) C).alloc (by have:=C.size;omega) _;have hw2:=C.size;clear HC G HG HB C;simp only[qf]at K Z m S;generalize ZU f=ba at *;generalize ZG f=ta at *;generalize zD v=bv at *;generalize zw v=tv at *;generalize zi (91 :: qG f)=sa at *;generalize zi (91 ::(qG f++ct v))=sb at *;generalize zi (ct v)=sc at *;generalize hw3:J.alloc (.cells #[.string sc,.int .i64 (n:Int),.bool true,.bool bv,.bool tv] 51 (0,0))=w3 at *;have H:J.heap.size≠w.heap.size+1:=by omega
    have ok3:=Z.c2;have go0:=K.c0;have gf0:=K.fz 0;have gf3:=K.fz 3;have gf4:=K.fz 4;have v0:=Z.c0;have G4:=K.set0 sb;have V4:=Z.other (p:=⟨w.heap.size+1,0,none⟩) H (.string sb);have G5:=G4.set3 (ba || bv);have V5:=V4.other (p:=⟨w.heap.size+1,3,none⟩) H (.bool (ba || bv));have o:=G5.set4 (ta || tv);have V6:=V5.other (p:=⟨w.heap.size+1,4,none⟩) H (.bool (ta || tv));have g43:=G4.c3;have v43:=V4.c3;have f43:=G4.fz 3;have g54:=G5.c4;have v54:=V5.c4;have f54:=G5.fz 4;have v61:=V6.c1;have V:=zh o;clear K Z G4 V4 G5 V5 o V6;generalize hbb:(ba || bv)=bb at *;generalize htt:(ta || tv)=tt at *;have hb':ba=true/\bb=true∨ba=false/\bv=bb:=RQ _ _ _ hbb;have ht':ta=true/\tt=true∨ta=false/\tv=tt:=RQ _ _ _ htt;clear hbb htt hpl hvl;rcases hb' with ⟨rfl,rfl⟩ |⟨rfl,rfl⟩<;>rcases ht' with ⟨rfl,rfl⟩ |⟨rfl,rfl⟩
    all_goals
     go_wp2_with fail;refine ((uh z).1 _ n _ rfl).mono ?_;rintro e w6 ⟨rfl,I⟩;have o:=I ▸ uh V;have O:zU w.heap.size ⟨#[]⟩ 0 false false false w6:=I ▸ (((uh m).other (p:=⟨w.heap.size+1,0,none⟩) (by show _≠w.heap.size+1;omega) _).other (p:=⟨w.heap.size+1,3,none⟩) (by show _≠w.heap.size+1;omega) _).other (p:=⟨w.heap.size+1,4,none⟩) (by show _≠w.heap.size+1;omega) _;have B6:Bw w w6:=I ▸ (((uh S).setCell (p:=⟨w.heap.size+1,0,none⟩) (by show _<=w.heap.size+1;omega) _).setCell (p:=⟨w.heap.size+1,3,none⟩) (by show _<=w.heap.size+1;omega) _).setCell (p:=⟨w.heap.size+1,4,none⟩) (by show _<=w.heap.size+1;omega) _;have u:=zh B6;have y:=zh O;have l:=zh o;clear ok3 go0 gf0 gf3 gf4 v0 g43 v43 f43 g54 v54 f54 v61 V m S I hw3 P o O B6 H hw2 w3;generalize sk s n=k at *;go_wp2_with fail;refine ((uh z).2 93 k _ (by decide)).mono ?_;rintro e w7 ⟨rfl,rfl⟩;by_cases h:bt s k=93
     ·rw[yi h];have HVV:Hid (val s i=some (.arr (f.app (.cons v .nil)),k+1)):=by
       show _=_
       rw[uh HR,uh x,yf h];rfl
      have hfi:=uh F;generalize hsf:zi (ct (.arr (f.app (.cons v .nil))))=R at *;have M:=zh hsf;have o:=uh l;have c0:=o.c0;have f0:=o.fz 0;have L:=o.set0 R;have c71:=L.c1;have f71:=L.fz 1;have G8:=L.set1 ((k:Int)+1) (k+1) (by omega);have R8:=((uh y).other (p:=⟨w.heap.size+1,0,none⟩) (by show _≠w.heap.size+1;omega) (.string R)).other (p:=⟨w.heap.size+1,1,none⟩) (by show _≠w.heap.size+1;omega) (.int .i64 ((k:Int)+1));have B8:=((uh u).setCell (p:=⟨w.heap.size+1,0,none⟩) (by show _<=w.heap.size+1;omega) (.string R)).setCell (p:=⟨w.heap.size+1,1,none⟩) (by show _<=w.heap.size+1;omega) (.int .i64 ((k:Int)+1));obtain⟨a0,aa,a2,a3,a4⟩:=G8.cells;have a1:=aa.trans (show _=some (Value.int .i64 ((k:Int)+1)) by rw[show ((k+1:Nat):Int)=(k:Int)+1 from by omega]);obtain⟨r0,r1,r2,r3,r4⟩:=R8.cells;obtain⟨q0,q1,q2,q3,q4⟩:=R8.fzs;have Y:=zh (R8.copyTo G8 ((k:Int)+1) (by omega));have T:=zh (fun a b c d e=>J2 B8 (yd _) a b c d e);clear aa o L G8 R8 B8 l y u F hsf E x HR h;go_wp2;try simp only[Exit.inBlock,Exit.then]
      refine bodyPost_ret (J3 rfl rfl (uh Y)) rfl ?_;rw[uh HVV];refine⟨uh T _ _ _ _ _,?_⟩;show _=Ending.returned (qF (zi (ct (.arr (f.app (.cons v .nil))))) (k+1) true (ZU (f.app (.cons v .nil))) (ZG (f.app (.cons v .nil))))
      rw[uh M,uh U,uh X]
     ·rw[yj h];go_wp2_with fail;refine ((uh z).2 44 k _ (by decide)).mono ?_;rintro e w8 ⟨rfl,rfl⟩;by_cases A:bt s k=44
      ·rw[yi A];have hkl:k<s.size:=zQ (by omega);have W:Hid (elems s D=(elems s (sk s (k+1))).map fun q=>((f.app (.cons v .nil)).app q.1,q.2)):=by
        show _=_
        rw[uh x,ye h,yf A,Option.map_map];congr 1;funext q;simp[JL.app_assoc,JL.app]
       have hco:=uh E;generalize hsf:zi (91 :: qG (f.app (.cons v .nil)))=R at *;have M:=zh hsf;have o:=uh l;have c0:=o.c0;have f0:=o.fz 0;have L:=zh (o.set0 R);have R7:=zh ((uh y).other (p:=⟨w.heap.size+1,0,none⟩) (by show _≠w.heap.size+1;omega) (.string R));have B7:=zh ((uh u).setCell (p:=⟨w.heap.size+1,0,none⟩) (by show _<=w.heap.size+1;omega) (.string R));clear o l y u F hsf E x h A;go_wp2_with fail;refine ((uh z).1 _ (k+1) _ (by omega)).mono ?_;rintro e w9 ⟨rfl,Q⟩;have G9:=Q ▸ uh L;have R9:=Q ▸ uh R7;have B9:=Q ▸ uh B7;have hs1:=zO s (k+1);have hs2:=(Qu (s:=s) (i:=k+1) (by omega)).2;clear L R7 B7 c0 f0;go_wp2;go_roundg (s.size+1 - sk s (k+1))
       case rel=>exact⟨sk s (k+1),f.app (.cons v .nil),rfl,rfl,by omega,hs2,R9,by rw[uh M,uh U,uh X];exact G9,B9,by have:=uh HPL;omega,uh W⟩
       case measure=>omega
      ·rw[yj A];have HN:Hid (val s i=none):=by
        show _=_
        rw[uh HR,uh x,ye h,ye A];rfl
       have O:=uh y;obtain⟨r0,r1,r2,r3,r4⟩:=O.cells;obtain⟨q0,q1,q2,q3,q4⟩:=O.fzs;have Y:=zh (O.put ⟨#[]⟩ 0 0 rfl false false false);have T:=zh (J2 (uh u) (yd _) (.string ⟨#[]⟩) (.int .i64 0) (.bool false) (.bool false) (.bool false));clear O l y u F E x h A;go_wp2;try simp only[Exit.inBlock,Exit.then]
       refine bodyPost_ret (J3 rfl rfl (uh Y)) rfl ?_;exact GP.bad (uh HN) (uh T)
theorem Gv(s:Bs):∀ f i,(∀ v j,pv s f i=some (v,j)->zo v+i<=j)/\(∀ l j,pa s f i=some (l,j)->q7 l+i<=j)/\(∀ m j,po s f i=some (m,j)->qy m+i<=j)
 | 0,i=>⟨fun v j h=>by simp[pv]at h,fun v j h=>by simp[pa]at h,fun v j h=>by simp[po]at h⟩
 | f+1,i=>by
  refine⟨fun v j h=>?_,fun l j h=>?_,fun m j h=>?_⟩
  ·rw[pv]at h;have g:=zO s (i+1);split at h
   ·split at h
    ·have:=zQ (s:=s) (i:=sk s (i+1)) (by omega);injection h with h;injection h with hv h;subst hv;(try simp only[zo]);(try simp only[q7]);(try simp only[qy]);omega
    ·simp only[yy]at h;obtain⟨⟨l,k⟩,b,h⟩:=h;injection h with hv h;have:=(Gv s f (sk s (i+1))).2.1 l k b;subst hv;simp only at h;(try simp only[zo]);(try simp only[q7]);(try simp only[qy]);omega
   ·split at h
    ·split at h
     ·have:=zQ (s:=s) (i:=sk s (i+1)) (by omega);injection h with h;injection h with hv h;subst hv;(try simp only[zo]);(try simp only[q7]);(try simp only[qy]);omega
     ·simp only[yy]at h;obtain⟨⟨l,k⟩,b,h⟩:=h;injection h with hv h;have:=(Gv s f (sk s (i+1))).2.2 l k b;subst hv;simp only at h;(try simp only[zo]);(try simp only[q7]);(try simp only[qy]);omega
    ·split at h
     ·simp only[yy]at h;obtain⟨⟨l,k⟩,b,h⟩:=h;injection h with hv h;have:=Js b;subst hv;simp only at h;(try simp only[zo]);(try simp only[q7]);(try simp only[qy]);omega
     ·split at h
      ·rename_i hw;have:=Wu hw;injection h with h;injection h with hv h;subst hv;(try simp only[zo]);(try simp only[q7]);(try simp only[qy]);omega
      ·split at h
       ·rename_i hw;have:=Wv hw;injection h with h;injection h with hv h;subst hv;(try simp only[zo]);(try simp only[q7]);(try simp only[qy]);omega
       ·split at h
        ·rename_i hw;have:=Un hw;injection h with h;injection h with hv h;subst hv;(try simp only[zo]);(try simp only[q7]);(try simp only[qy]);omega
        ·simp only[yy]at h;obtain⟨⟨l,k⟩,b,h⟩:=h;injection h with hv h;have:=Um b;subst hv;simp only at h;(try simp only[zo]);(try simp only[q7]);(try simp only[qy]);omega
  ·rw[pa]at h;simp only[Option.bind_eq_some_iff]at h;obtain⟨⟨v,k⟩,b,h⟩:=h;have q:=(Gv s f i).1 v k b;have o:=zO s k;simp only at h;split at h
   ·have:=zQ (s:=s) (i:=sk s k) (by omega);injection h with h;injection h with hv h;subst hv;(try simp only[zo]);(try simp only[q7]);(try simp only[qy]);omega
   ·split at h
    ·simp only[yy]at h;obtain⟨⟨l,n⟩,d,h⟩:=h;injection h with hv h;have:=(Gv s f _).2.1 l n d;have p:=zO s (sk s k+1);subst hv;simp only at h;(try simp only[q7]);(try simp only[qy]);omega
    ·cases h
  ·rw[po]at h;simp only[Option.bind_eq_some_iff]at h;obtain⟨⟨u,a⟩,r,h⟩:=h;have y:=Js r;simp only at h;split at h
   ·simp only[Option.bind_eq_some_iff]at h;obtain⟨⟨v,k⟩,b,h⟩:=h;have q:=(Gv s f _).1 v k b;have w:=zO s a;have x:=zO s (sk s a+1);have o:=zO s k;simp only at h;split at h
    ·have:=zQ (s:=s) (i:=sk s k) (by omega);injection h with h;injection h with hv h;subst hv;(try simp only[zo]);(try simp only[q7]);(try simp only[qy]);omega
    ·split at h
     ·simp only[yy]at h;obtain⟨⟨l,n⟩,d,h⟩:=h;injection h with hv h;have:=(Gv s f _).2.2 l n d;have p:=zO s (sk s k+1);subst hv;simp only at h;(try simp only[qy]);omega
     ·cases h
   ·cases h
theorem DI{s:Bs}{i j:Nat}{v:JV}(h:val s i=some (v,j)):zo v+i<=j:=(Gv s _ i).1 v j h
def qu(s:Bs):Option JV:=(val s (sk s 0)).bind fun q=>if sk s q.2=s.size then some q.1 else none
def Zo(s:Bs):Sum Nat JV:=
 if 20000<s.size then .inl 1 else
 match qu s with
 | none=>.inl 2
 | some v=>if zD v then .inl 3 else if zw v then .inl 4 else if 100<zE v∨3000<zo v then .inl 5 else .inr v
theorem Gw{s:Bs}{v:JV}(h:qu s=some v):zy v/\zo v<=s.size/\(ct v).length<=30*s.size:=by
 unfold qu at h
 cases hv:val s (sk s 0)with
 | none=>rw[hv]at h;simp at h
 | some q=>
  obtain⟨u,j⟩:=q;have e:u=v:=by
   rw[hv]at h;simp only[yz]at h;split at h
   ·injection h
   ·cases h
  subst e;have a:=DI hv;have b:=KR hv;have d:=Yj hv;exact⟨Sj hv,by omega,by omega⟩
def ZY(s:Bs):Value:=match Zo s with
 | .inl c=>.tuple #[.string ⟨#[]⟩,.int .i64 (c:Int)]
 | .inr v=>.tuple #[.string (zi (ct v)),.int .i64 0]
theorem UK{s:Bs}{v:JV}(h:Zo s= .inr v):s.size<=20000/\qu s=some v/\zw v=false/\zD v=false/\zE v<=100/\zo v<=3000:=by
 unfold Zo at h;split at h
 ·cases h
 ·rename_i hs
  cases hd:qu s with
  | none=>rw[hd]at h;simp at h
  | some u=>
   rw[hd]at h;simp only at h;split at h
   ·cases h
   ·rename_i hb;split at h
    ·cases h
    ·rename_i ht;split at h
     ·cases h
     ·rename_i hg;injection h with h;subst h;exact⟨by omega,rfl,by simpa using ht,by simpa using hb,by omega,by omega⟩
theorem OE{s:Bs}{c:Nat}(h:Zo s= .inl c):1<=c/\c<=5:=by
 unfold Zo at h;split at h
 ·injection h with h;omega
 ·split at h
  ·injection h with h;omega
  ·split at h
   ·injection h with h;omega
   ·split at h
    ·injection h with h;omega
    ·split at h
     ·injection h with h;omega
     ·cases h
def Gx(t:List UInt8):Bool:=decide (1<=t.length) && decide (t.length<=6) && !(decide ((t.getD 0 0).toNat=48) && decide (1<t.length)) && t.all fun c=>zT c.toNat
def qJ(t:List UInt8):Option Nat:=if Gx t=true then some (Z0 t)else none
theorem Yo{t:List UInt8}:Gx t=true↔1<=t.length/\t.length<=6/\¬ ((t.getD 0 0).toNat=48/\1<t.length)/\∀ c∈t,zT c.toNat=true:=by
 unfold Gx;simp only[Bool.and_eq_true,decide_eq_true_eq,Bool.not_eq_true',Bool.and_eq_false_iff,decide_eq_false_iff_not,List.all_eq_true];constructor
 ·rintro⟨⟨⟨a,b⟩,c⟩,d⟩;exact⟨a,b,fun ⟨x,y⟩=>c.elim (fun h=>h x) (fun h=>h y),d⟩
 ·rintro⟨a,b,c,d⟩;refine⟨⟨⟨a,b⟩,?_⟩,d⟩;by_cases h:(t.getD 0 0).toNat=48
  ·exact .inr fun y=>c ⟨h,y⟩
  ·exact .inl h
theorem Et:∀ (n:Nat) (t:List UInt8),t.length=n->t≠[]->(t.getD 0 0).toNat≠48->(∀ c∈t,zT c.toNat=true)->1<=Z0 t:=by
 intro n;induction n with
 | zero=>intro t h j;exact absurd (yM h) j
 | succ n ih=>
  intro t h _ d f;rcases List.eq_nil_or_concat t with e |⟨a,c,e⟩
  ·subst e;simp at h
  ·rw[List.concat_eq_append]at e;subst e;rw[GU];have k:=qL.1 (f c (by simp));by_cases b:a=[]
   ·subst b;have g:c.toNat≠48:=d;simp[Z0];omega
   ·have i:(a.getD 0 0).toNat≠48:=by
     cases a with
     | nil=>exact absurd rfl b
     | cons x r=>exact d
    have:=ih a (by simpa using h) b i (fun x hx=>f x (by simp[hx]));omega
theorem Eu:∀ (n:Nat) (t:List UInt8),t.length=n->t≠[]->¬ ((t.getD 0 0).toNat=48/\1<t.length)->(∀ c∈t,zT c.toNat=true)->zP (Z0 t)=t:=by
 intro n;induction n with
 | zero=>intro t h l;exact absurd (yM h) l
 | succ n ih=>
  intro t h _ j i;rcases List.eq_nil_or_concat t with e |⟨a,c,e⟩
  ·subst e;simp at h
  ·rw[List.concat_eq_append]at e;subst e;have m:=qL.1 (i c (by simp));have f:UInt8.ofNat (48+(c.toNat - 48))=c:=by rw[show 48+(c.toNat - 48)=c.toNat by omega];exact UInt8.ofNat_toNat
   rw[GU];by_cases b:a=[]
   ·subst b;simp only[Z0,List.foldl_nil,Nat.zero_mul,Nat.zero_add,List.nil_append];rw[Q5 (by omega),f]
   ·have k:1<=a.length:=by cases a with
     | nil=>exact absurd rfl b
     | cons _ _=>simp
    have g:(a.getD 0 0).toNat≠48:=by
     intro e;refine j ⟨?_,by simp;omega⟩
     cases a with
     | nil=>exact absurd rfl b
     | cons x r=>exact e
    have d:∀ x∈a,zT x.toNat=true:=fun x hx=>i x (by simp[hx]);have o:=Et _ a rfl b g d;rw[WA (by omega),show (Z0 a*10+(c.toNat - 48)) / 10=Z0 a by omega,show (Z0 a*10+(c.toNat - 48)) % 10=c.toNat - 48 by omega,Q5 (n:=c.toNat - 48) (by omega),f];rw[ih a (by simpa using h) b (fun e=>g e.1) d]
theorem Xk{t:List UInt8}{i:Nat}(h:qJ t=some i):zP i=t:=by
 unfold qJ at h;split at h
 ·rename_i hk;injection h with h;subst h;obtain⟨a,b,c,d⟩:=Yo.1 hk;exact Eu _ t rfl (by intro e;subst e;simp at a) c d
 ·cases h
theorem DJ:∀ (n:Nat),zP n≠[]/\(∀ c∈zP n,zT c.toNat=true)/\Z0 (zP n)=n/\¬ (((zP n).getD 0 0).toNat=48/\1<(zP n).length):=by
 intro n;induction n using Nat.strongRecOn with
 | _ n ih=>
  by_cases h:n<10
  ·rw[Q5 h];have e:(UInt8.ofNat (48+n)).toNat=48+n:=JH (by omega);refine⟨by simp,fun c a=>?_,?_,by simp⟩
   ·rw[List.mem_singleton]at a;subst a;rw[e];exact qL.2 ⟨by omega,by omega⟩
   ·simp only[Z0,List.foldl_cons,List.foldl_nil,Nat.zero_mul,Nat.zero_add];rw[e];omega
  ·obtain⟨f,g,i,j⟩:=ih (n / 10) (by omega);rw[WA h,Q5 (n:=n % 10) (by omega)];have e:(UInt8.ofNat (48+n % 10)).toNat=48+n % 10:=JH (by omega);refine⟨by simp,fun c a=>?_,?_,?_⟩
   ·rcases List.mem_append.1 a with a | a
    ·exact g c a
    ·rw[List.mem_singleton]at a;subst a;rw[e];exact qL.2 ⟨by omega,by omega⟩
   ·rw[GU,i,e];omega
   ·rintro⟨d,_⟩;have l:((zP (n / 10)++[UInt8.ofNat (48+n % 10)]).getD 0 0)=(zP (n / 10)).getD 0 0:=by
     cases hd:zP (n / 10)with
     | nil=>exact absurd hd f
     | cons x r=>rfl
    rw[l]at d;by_cases b:n / 10<10
    ·rw[Q5 b]at d;have k:(UInt8.ofNat (48+n / 10)).toNat=48+n / 10:=JH (by omega);have:([UInt8.ofNat (48+n / 10)].getD 0 0).toNat=48+n / 10:=k;rw[this]at d;omega
    ·refine j ⟨d,?_⟩;rw[WA b,yg];have m:=(ih (n / 10 / 10) (by omega)).1;have o:1<=(zP (n / 10 / 10)).length:=by cases hq:zP (n / 10 / 10)with
      | nil=>exact absurd hq m
      | cons _ _=>simp
     rw[Q5 (n:=n / 10 % 10) (by omega)];simp;omega
theorem OG{a b:Nat}(h:zP a=zP b):a=b:=by
 have d:=(DJ a).2.2.1;have f:=(DJ b).2.2.1;rw[h,f]at d;exact d.symm
def zL:JV->List UInt8->Option JV
 | .arr l,t=>(qJ t).bind fun i=>l.toL[i]?
 | .obj m,t=>(m.toL.find? fun q=>q.1 ==t).map (·.2)
 | _,_=>none
def Za:JV->List (List UInt8)->Option JV
 | v,[]=>some v
 | v,t :: ts=>(zL v t).bind fun u=>Za u ts
theorem Ja(l:JL)(t:List UInt8):zL (.arr l) t=(qJ t).bind fun i=>l.toL[i]?:=rfl
theorem YN(m:JM)(t:List UInt8):zL (.obj m) t=(m.toL.find? fun q=>q.1 ==t).map (·.2):=rfl
theorem WG:∀ (a b:List (List UInt8)) (v:JV),Za v (a++b)=(Za v a).bind fun u=>Za u b
 | [],b,v=>rfl
 | t :: r,b,v=>by
  rw[List.cons_append,Za,Za]
  cases zL v t with
  | none=>rfl
  | some u=>simp only[yz];exact WG r b u
theorem DK{v u:JV}{ts:List (List UInt8)}{k:Nat}(h:k<ts.length)(hu:Za v (ts.take k)=some u):Za v (ts.take (k+1))=zL u ts[k]:=by
 rw[yx h,WG,hu];simp only[yz,Za]
 cases zL u ts[k]<;>rfl
theorem Ev{v u:JV}{ts:List (List UInt8)}{k:Nat}(h:k<ts.length)(hu:Za v (ts.take k)=some u)(hc:zL u ts[k]=none):Za v ts=none:=by
 have e:ts=ts.take (k+1)++ts.drop (k+1):=(List.take_append_drop _ _).symm;rw[e,WG,DK h hu,hc];rfl
theorem OH:∀ (l:JL),Z8 l->ZG l=false->∀ v∈l.toL,zy v/\zw v=false
 | .nil,_,_,v,hv=>by simp[JL.toL]at hv
 | .cons x r,h,t,v,hv=>by
  rw[Z8]at h;rw[ZG,Bool.or_eq_false_iff]at t;rw[JL.toL]at hv;rcases List.mem_cons.1 hv with e | hv
  ·rw[e];exact⟨h.1,t.1⟩
  ·exact OH r h.2 t.2 v hv
theorem OI:∀ (m:JM) (ks:List (List UInt8)),Z6 m->ZC ks m=false->∀ q∈m.toL,zy q.2/\zw q.2=false
 | .nil,_,_,_,q,hq=>by simp[JM.toL]at hq
 | .cons k x r,ks,h,t,q,hq=>by
  rw[Z6]at h;rw[ZC]at t;simp only[Bool.or_eq_false_iff]at t;rw[JM.toL]at hq;rcases List.mem_cons.1 hq with e | hq
  ·rw[e];exact⟨h.2.1,t.1.1⟩
  ·exact OI r (ks++[k]) h.2.2 t.2 q hq
theorem UL{v u:JV}{t:List UInt8}(h:zL v t=some u)(hok:zy v)(htw:zw v=false):zy u/\zw u=false/\(ct u).length<=(ct v).length/\zo u<=zo v:=by
 cases v with
 | arr l=>
  rw[zy]at hok;rw[zw]at htw;rw[Ja]at h
  cases hi:qJ t with
  | none=>rw[hi]at h;simp at h
  | some i=>
   rw[hi]at h;simp only[yz]at h;obtain⟨g,rfl⟩:=List.getElem?_eq_some_iff.1 h;have d:=yq g;obtain⟨a,b⟩:=OH l hok htw _ d;refine⟨a,b,?_,?_⟩
   ·have f:(ct (.arr l)).length=hold (zu l).length+nl (zu l):=by
     show (Zi (zu l)).length=_
     have:=Vw (zu l);simp[Zi];omega
    have j:(ct l.toL[i]).length<=nl (zu l):=by have:=Y8 ((zu l).map List.length) i (by rw[qH];simpa using g);simpa [nl,qH]using this
    omega
   ·rw[zo,Uw];have:=Y8 (l.toL.map zo) i (by simpa using g);have c1:zo l.toL[i]<=cl l.toL:=by simpa [cl]using this
    omega
 | obj m=>
  rw[zy]at hok;rw[zw]at htw;rw[YN]at h
  cases hf:m.toL.find? fun q=>q.1 ==t with
  | none=>rw[hf]at h;simp at h
  | some q=>
   rw[hf]at h;simp at h;subst h;have d:=List.mem_of_find?_eq_some hf;obtain⟨a,b⟩:=OI m [] hok htw _ d;refine⟨a,b,?_,?_⟩
   ·have f:=Ym m;have j:=Vx ZV d;simp only[ZV]at j;omega
   ·rw[zo,Gp];have:zo q.2<=_:=Vx (fun q=>zo q.2) d;omega
 | nul=>simp[zL]at h
 | tt=>simp[zL]at h
 | ff=>simp[zL]at h
 | num l=>simp[zL]at h
 | str l=>simp[zL]at h
theorem Xl:∀ (cs:List (List UInt8)) (b j:Nat) (h:j<(qk b cs).length),(qk b cs)[j]=(zP (b+j),cs[j]'(by rw[Vz]at h;exact h))
 | [],b,j,h=>by simp[qk]at h
 | t :: r,b,0,h=>rfl
 | t :: r,b,j+1,h=>by
  simp only[qk,List.getElem_cons_succ];rw[Xl r (b+1) j];rw[show b+1+j=b+(j+1) by omega]
theorem DM{v:JV}{t:List UInt8}(hok:zy v)(htw:zw v=false)(hi:(∃ l,v= .arr l)->(qJ t).isSome=true){j:Nat}(hj:j<(zm v).length)(hk:(zm v)[j].1=t):∃ u,zL v t=some u/\(zm v)[j].2=ct u:=by
 cases v with
 | arr l=>
  have k:zm (.arr l)=qk 0 (zu l):=rfl;have n:=hi ⟨l,rfl⟩
  cases hx:qJ t with
  | none=>rw[hx]at n;simp at n
  | some i=>
   have o:=Xl (zu l) 0 j hj;have s:(zm (.arr l))[j]=(zP (0+j),(zu l)[j]'(by rw[k,Vz]at hj;exact hj)):=o;rw[s]at hk ⊢;simp only[Nat.zero_add]at hk ⊢;have:j=i:=OG (hk.trans (Xk hx).symm);subst this;have y:j<l.toL.length:=by rw[k,Vz,qH,yk]at hj;exact hj
   refine⟨l.toL[j],?_,?_⟩
   ·rw[Ja,hx];simp[y]
   ·simp[qH]
 | obj m=>
  have g:(zm (.obj m))[j]∈zn m:=(qj _).subset (yq hj);generalize (zm (.obj m))[j]=p at *;rw[Qg]at g;obtain⟨q,z,rfl⟩:=yN.1 g;simp only at hk;rw[zw]at htw;have d:(m.toL.map (·.1)).Nodup:=by rw[← Gk];exact (Us m [] htw).1
  refine⟨q.2,?_,rfl⟩;rw[YN];have w:m.toL.find? (fun q=>q.1 ==t)=some q:=by
   have:∀ l:List (List UInt8×JV),(l.map (·.1)).Nodup->q∈l->l.find? (fun q=>q.1 ==t)=some q:=by
    intro l;induction l with
    | nil=>intro _ h;simp at h
    | cons x r ih=>
     intro b a;rw[yh,List.nodup_cons]at b;rw[List.find?_cons];rcases List.mem_cons.1 a with e | a
     ·subst e;simp[hk]
     ·have f:(x.1 ==t)=false:=by
       rw[yb];intro e;exact b.1 (by rw[e,← hk];exact yN.2 ⟨q,a,rfl⟩)
      rw[f];exact ih b.2 a
   exact this m.toL d z
  rw[w];rfl
 | nul=>simp[zm]at hj
 | tt=>simp[zm]at hj
 | ff=>simp[zm]at hj
 | num l=>simp[zm]at hj
 | str l=>simp[zm]at hj
theorem DN{v:JV}{t:List UInt8}(h:∀ j (hj:j<(zm v).length),(zm v)[j].1≠t):zL v t=none:=by
 cases v with
 | arr l=>
  rw[Ja]
  cases hx:qJ t with
  | none=>rfl
  | some i=>
   simp only[yz];by_cases f:i<l.toL.length
   ·exfalso;have hj:i<(zm (.arr l)).length:=by show i<(qk 0 (zu l)).length;rw[Vz,qH,yk];exact f
    refine h i hj ?_;have a:(zm (.arr l))[i]=_:=Xl (zu l) 0 i hj;rw[a];simp only[Nat.zero_add];exact Xk hx
   ·rw[List.getElem?_eq_none (by omega)]
 | obj m=>
  rw[YN];have d:m.toL.find? (fun q=>q.1 ==t)=none:=by
   rw[List.find?_eq_none];intro q n e;have g:(q.1,ct q.2)∈zn m:=by rw[Qg];exact yN.2 ⟨q,n,rfl⟩
   have k:(q.1,ct q.2)∈zm (.obj m):=(qj _).mem_iff.2 g;obtain⟨j,hj,b⟩:=List.getElem_of_mem k;refine h j hj ?_;rw[b];simpa using e
  rw[d];rfl
 | nul=>rfl
 | tt=>rfl
 | ff=>rfl
 | num l=>rfl
 | str l=>rfl
def VE(p:List UInt8×JV):List (List UInt8×JV)->List (List UInt8×JV)
 | []=>[p]
 | q :: r=>if p.1<q.1 then q :: VE p r else p :: q :: r
def VF(l:List (List UInt8×JV)):List (List UInt8×JV):=(l.foldl (fun acc p=>VE p acc) []).reverse
def qS:Nat->List JV->List (List UInt8×JV)
 | _,[]=>[]
 | b,v :: r=>(zP b,v) :: qS (b+1) r
def zZ:JV->List (List UInt8×JV)
 | .arr l=>qS 0 l.toL
 | .obj m=>VF m.toL
 | _=>[]
def kt(q:List UInt8×JV):List UInt8×List UInt8:=(q.1,ct q.2)
theorem DP(p:List UInt8×JV):∀ l:List (List UInt8×JV),(VE p l).map kt=Z4 (kt p) (l.map kt)
 | []=>rfl
 | q :: r=>by
  rw[VE,yh,Z4];by_cases h:p.1<q.1
  ·have h':(kt p).1<(kt q).1:=h;rw[yf h,yf h',yh,DP p r]
  ·have h':¬ (kt p).1<(kt q).1:=h;rw[ye h,ye h',yh,yh]
theorem DQ:∀ (l acc:List (List UInt8×JV)),(l.foldl (fun acc p=>VE p acc) acc).map kt=(l.map kt).foldl (fun acc p=>Z4 p acc) (acc.map kt)
 | [],acc=>rfl
 | p :: l,acc=>by rw[List.foldl_cons,yh,List.foldl_cons,DQ l,DP]
theorem DR(l:List (List UInt8×JV)):(VF l).map kt=zz (l.map kt):=by
 unfold VF zz;rw[List.map_reverse,DQ];rfl
theorem DU(p:List UInt8×JV):∀ l,(VE p l).Perm (p :: l)
 | []=>List.Perm.refl _
 | q :: r=>by
  unfold VE;split
  ·exact ((DU p r).cons q).trans (List.Perm.swap p q r)
  ·exact List.Perm.refl _
theorem DV:∀ (l acc:List (List UInt8×JV)),(l.foldl (fun acc p=>VE p acc) acc).Perm (l++acc)
 | [],acc=>List.Perm.refl _
 | p :: l,acc=>by
  rw[List.foldl_cons];exact (DV l _).trans (((DU p acc).append_left l).trans (List.perm_middle))
theorem UM(l:List (List UInt8×JV)):(VF l).Perm l:=by
 unfold VF;have:=DV l [];rw[List.append_nil]at this;exact (List.reverse_perm _).trans this
theorem DY:∀ (vs:List JV) (b:Nat),(qS b vs).map kt=qk b (vs.map ct)
 | [],_=>rfl
 | v :: r,b=>by rw[qS,yh,yh,qk,DY r];rfl
theorem Xm:∀ (vs:List JV) (b:Nat),(qS b vs).length=vs.length
 | [],_=>rfl
 | v :: r,b=>by rw[qS,ym,ym,Xm r]
theorem OJ:∀ (vs:List JV) (b j:Nat) (h:j<(qS b vs).length),(qS b vs)[j]=(zP (b+j),vs[j]'(by rw[Xm]at h;exact h))
 | [],b,j,h=>by simp[qS]at h
 | t :: r,b,0,h=>rfl
 | t :: r,b,j+1,h=>by
  simp only[qS,List.getElem_cons_succ];rw[OJ r (b+1) j];rw[show b+1+j=b+(j+1) by omega]
theorem Xn:∀ (vs:List JV) (b:Nat),(qS b vs).map (·.2)=vs
 | [],_=>rfl
 | v :: r,b=>by rw[qS,yh,Xn r]
theorem OK(v:JV):zm v=(zZ v).map kt:=by
 cases v with
 | arr l=>show qk 0 (zu l)=(qS 0 l.toL).map kt;rw[DY,qH]
 | obj m=>show zz (zn m)=(VF m.toL).map kt;rw[DR,Qg];rfl
 | nul=>rfl
 | tt=>rfl
 | ff=>rfl
 | num l=>rfl
 | str l=>rfl
theorem UN:∀ (vs:List JV) (v:JV),v∈vs->zE v<=dl vs
 | [],v,h=>by simp at h
 | x :: r,v,h=>by
  rw[dl];rcases List.mem_cons.1 h with rfl | h
  ·omega
  ·have:=UN r v h;omega
theorem WH{v:JV}(hok:zy v)(htw:zw v=false){q:List UInt8×JV}(hq:q∈zZ v):zy q.2/\zw q.2=false/\zE q.2+1<=zE v/\q.1.length+(ct q.2).length+1<=(ct v).length:=by
 cases v with
 | arr l=>
  rw[zy]at hok;rw[zw]at htw;have g:q∈qS 0 l.toL:=hq;obtain⟨j,h,rfl⟩:=List.getElem_of_mem g;have i:j<l.toL.length:=by rw[Xm]at h;exact h
  rw[OJ];simp only[Nat.zero_add];have d:=yq i;obtain⟨a,b⟩:=OH l hok htw _ d;have n:=UN _ _ d;have e:=Uv l;have f:(ct (.arr l)).length=hold (zu l).length+nl (zu l):=by
   show (Zi (zu l)).length=_
   have:=Vw (zu l);simp[Zi];omega
  have k:(ct l.toL[j]).length<=nl (zu l):=by have:=Y8 ((zu l).map List.length) j (by rw[qH];simpa using i);simpa [nl,qH]using this
  have o:=KS j;have n3:(zu l).length=l.toL.length:=by rw[qH,yk]
  refine⟨a,b,?_,?_⟩
  ·rw[zE];omega
  ·rw[f];unfold hold;omega
 | obj m=>
  rw[zy]at hok;rw[zw]at htw;have d:q∈m.toL:=(UM _).subset hq;obtain⟨a,b⟩:=OI m [] hok htw _ d;have n:=UN (m.toL.map (·.2)) q.2 (yN.2 ⟨q,d,rfl⟩);have e:=Gn m;have f:=Ym m;have k:=Vx ZV d;simp only[ZV]at k;have o:=Uu q.1;refine⟨a,b,?_,?_⟩
  ·rw[zE];omega
  ·omega
 | nul=>simp[zZ]at hq
 | tt=>simp[zZ]at hq
 | ff=>simp[zZ]at hq
 | num l=>simp[zZ]at hq
 | str l=>simp[zZ]at hq
theorem WI(v:JV):zo v=((zZ v).map fun q=>zo q.2).sum+1:=by
 cases v with
 | arr l=>
  rw[zo,Uw];show cl l.toL+1=((qS 0 l.toL).map fun q=>zo q.2).sum+1
  have e:((qS 0 l.toL).map fun q=>zo q.2)=((qS 0 l.toL).map (·.2)).map zo:=by rw[List.map_map];rfl
  rw[e,Xn];rfl
 | obj m=>
  rw[zo,Gp];show _=((VF m.toL).map fun q=>zo q.2).sum+1
  rw[((UM m.toL).map fun q=>zo q.2).sum_nat]
 | nul=>rfl
 | tt=>rfl
 | ff=>rfl
 | num l=>rfl
 | str l=>rfl
def Z7(p k:List UInt8):List UInt8:=p++47 :: Zz k
theorem DZ(p k:List UInt8):(Z7 p k).length<=p.length+1+2*k.length:=by
 have:=VQ k;simp[Z7];omega
def zX:Nat->List UInt8->JV->List (List UInt8×List UInt8)
 | 0,_,_=>[]
 | n+1,p,v=>(p,ct v) ::(zZ v).flatMap fun q=>zX n (Z7 p q.1) q.2
theorem OL{α β:Type}(f:α->List β)(g:α->Nat):∀ l:List α,(∀ x∈l,(f x).length=g x)->(l.flatMap f).length=(l.map g).sum
 | [],_=>rfl
 | x :: r,h=>by
  rw[List.flatMap_cons,yg,yh,yK,h x yo,OL f g r (fun y hy=>h y (yu _ hy))]
theorem UO:∀ (n:Nat) (p:List UInt8) (v:JV),zy v->zw v=false->zE v<=n->(zX n p v).length=zo v
 | 0,p,v,_,_,h=>by have:=(Jv v).2;omega
 | n+1,p,v,h1,h2,h=>by
  rw[zX,ym,WI v];rw[OL _ (fun q=>zo q.2) (zZ v) (fun q hq=>by
   obtain⟨a,b,c,_⟩:=WH h1 h2 hq;exact UO n _ q.2 a b (by omega))]
theorem D1(v:JV)(k:Nat):(((zZ v).take k).map fun q=>zo q.2).sum+1<=zo v:=by
 rw[WI v];have e:(zZ v)=(zZ v).take k++(zZ v).drop k:=(List.take_append_drop _ _).symm;have a:((zZ v).map fun q=>zo q.2).sum=(((zZ v).take k).map fun q=>zo q.2).sum+(((zZ v).drop k).map fun q=>zo q.2).sum:=by
  conv=>lhs;rw[e]
  rw[yv,List.sum_append]
 omega
theorem Ew{α β:Type}(f:α->List β)(l:List α)(k:Nat)(h:k<l.length):(l.take (k+1)).flatMap f=(l.take k).flatMap f++f l[k]:=by
 rw[yx h,List.flatMap_append];simp
theorem Ex{w:Wo}{B B' e e' size size' n n':Nat}{v v':Value}{xs xs':List Value}(h:w.ownsRow B e size v n xs)(h':w.ownsRow B' e' size' v' n' xs')(hne:e≠e'):v.ownBlock=none∨v.ownBlock≠v'.ownBlock:=by
 rcases h.2 with ⟨d,_⟩ |⟨g,j,k,d,_,l,_⟩
 ·subst d;exact .inl rfl
 ·rcases h'.2 with ⟨a,_⟩ |⟨m,f,i,a,_,b,_⟩
  ·subst d;subst a;right;intro e;cases e
  ·subst d;subst a;right;intro e;injection e with e;simp only at e;subst e;rw[l]at b;injection b with e;injection e with _ e;exact hne e
theorem Ey{s:Bs}{i r n:Nat}(h:piece s i=some (r,n)):(Zw r).length<=n:=by
 have a:∀ {r:Nat},r<128->(Zw r).length<=1:=fun {r} hr=>by
  rw[Zw,Lib.encodeRune,Lib.encodeRuneZ_one (by omega) (by omega)];simp
 have g:=Ul r;unfold piece at h;split at h
 ·unfold Qf at h;split at h
  ·rename_i v d;injection h with h;injection h with h1 h2;have:=FN d;subst h1;have:=a this;omega
  ·simp only[Option.bind_eq_some_iff]at h;obtain⟨u,j,h⟩:=h;unfold qp at h;split at h
   ·injection h with h;injection h with h1 h2;omega
   ·split at h
    ·cases h
    ·simp only[Option.bind_eq_some_iff]at h;obtain⟨v,d,h⟩:=h;split at h
     ·injection h with h;injection h with h1 h2;omega
     ·cases h
 ·split at h
  ·cases h
  ·have b:i<s.size:=zQ (by omega);split at h
   ·injection h with h;injection h with h1 h2;rename_i hb;subst h1;have:=a hb;omega
   ·split at h
    ·cases h
    ·rename_i hb hr;injection h with h;injection h with h1 h2;have f:=Zg s i b;obtain⟨e,_⟩:=Vt s i b hr (by omega);subst h1;subst h2;rw[Zw,e,yl];omega
theorem Ez{s:Bs}:∀ {i j:Nat} {l:List UInt8},qa s i=some (l,j)->l.length+(i+1)<=j:=by
 intro i;generalize hn:s.size - i=n;induction n using Nat.strongRecOn generalizing i with
 | _ n ih=>
  intro j l h;by_cases a:bt s i=34
  ·rw[Vu a]at h;injection h with h;injection h with h1 h2;subst h1;simp;omega
  ·cases hp:piece s i with
   | none=>rw[Vv a hp]at h;cases h
   | some p=>
    obtain⟨r,b⟩:=p;have f:=Y2 hp;have d:=Ey hp;rw[Y4 a hp]at h;rcases hq:qa s (i+b)with _ |⟨k,g⟩
    ·rw[hq]at h;cases h
    ·rw[hq]at h;injection h with h;injection h with h1 h2;have:=ih (s.size - (i+b)) (by omega) rfl hq;subst h1;simp only[yg];simp only at h2;omega
theorem EA{s:Bs}{i j:Nat}{l:List UInt8}(h:Zq s i=some (l,j)):l.length+(i+2)<=j:=by
 unfold Zq at h;split at h
 ·have:=Ez h;omega
 ·cases h
mutual
def Qa:JV->Nat
 | .arr l=>VG 0 l
 | .obj m=>VH m
 | _=>0
def VG:Nat->JL->Nat
 | _,.nil=>0
 | k,.cons v r=>max (1+2*(zP k).length+Qa v) (VG (k+1) r)
def VH:JM->Nat
 | .nil=>0
 | .cons k v r=>max (1+2*k.length+Qa v) (VH r)
end
theorem D2:∀ (l:JL) (k:Nat) (q:List UInt8×JV),q∈qS k l.toL->1+2*q.1.length+Qa q.2<=VG k l
 | .nil,k,q,h=>by simp[JL.toL,qS]at h
 | .cons v r,k,q,h=>by
  rw[JL.toL,qS]at h;rw[VG];rcases List.mem_cons.1 h with h | h
  ·subst h;simp only;omega
  ·have:=D2 r (k+1) q h;omega
theorem D3:∀ (m:JM) (q:List UInt8×JV),q∈m.toL->1+2*q.1.length+Qa q.2<=VH m
 | .nil,q,h=>by simp[JM.toL]at h
 | .cons k v r,q,h=>by
  rw[JM.toL]at h;rw[VH];rcases List.mem_cons.1 h with h | h
  ·subst h;simp only;omega
  ·have:=D3 r q h;omega
theorem EB{v:JV}{q:List UInt8×JV}(h:q∈zZ v):1+2*q.1.length+Qa q.2<=Qa v:=by
 cases v with
 | arr l=>rw[Qa];exact D2 l 0 q h
 | obj m=>rw[Qa];exact D3 m q ((UM _).subset h)
 | nul=>simp[zZ]at h
 | tt=>simp[zZ]at h
 | ff=>simp[zZ]at h
 | num l=>simp[zZ]at h
 | str l=>simp[zZ]at h
theorem Xo:∀ (n:Nat) (p:List UInt8) (v:JV) (x:List UInt8×List UInt8),x∈zX n p v->x.1.length<=p.length+Qa v
 | 0,p,v,x,h=>by simp[zX]at h
 | n+1,p,v,x,h=>by
  rw[zX]at h;rcases List.mem_cons.1 h with h | h
  ·subst h;simp only;omega
  ·obtain⟨q,hq,hx⟩:=List.mem_flatMap.1 h;have a:=Xo n _ _ x hx;have b:=EB hq;have d:=DZ p q.1;omega
theorem Gy(s:Bs):∀ f i,(∀ v j,pv s f i=some (v,j)->Qa v<=2*(j - i))/\(∀ l j,pa s f i=some (l,j)->∀ k,VG k l<=2*k+2*(j - i)+1)/\(∀ m j,po s f i=some (m,j)->VH m<=2*(j - i))
 | 0,i=>⟨fun v j h=>by simp[pv]at h,fun v j h=>by simp[pa]at h,fun v j h=>by simp[po]at h⟩
 | f+1,i=>by
  refine⟨fun v j h=>?_,fun l j h=>?_,fun m j h=>?_⟩
  ·have hok:=(qb s (f+1) i).1 v j h;rw[pv]at h;have g:=zO s (i+1);split at h
   ·split at h
    ·injection h with h;injection h with b h;subst b;simp[Qa,VG]
    ·simp only[yy]at h;obtain⟨⟨l,k⟩,d,h⟩:=h;injection h with b h;have p:=(Gy s f (sk s (i+1))).2.1 l k d 0;have r:=(qb s f (sk s (i+1))).2.1 l k d;subst b;rw[Qa];simp only at h ⊢;omega
   ·split at h
    ·split at h
     ·injection h with h;injection h with b h;subst b;simp[Qa,VH]
     ·simp only[yy]at h;obtain⟨⟨l,k⟩,d,h⟩:=h;injection h with b h;have p:=(Gy s f (sk s (i+1))).2.2 l k d;have r:=(qb s f (sk s (i+1))).2.2 l k d;subst b;rw[Qa];simp only at h ⊢;omega
    ·split at h
     ·simp only[yy]at h;obtain⟨⟨l,k⟩,d,h⟩:=h;injection h with b h;subst b;simp[Qa]
     ·split at h
      ·injection h with h;injection h with b h;subst b;simp[Qa]
      ·split at h
       ·injection h with h;injection h with b h;subst b;simp[Qa]
       ·split at h
        ·injection h with h;injection h with b h;subst b;simp[Qa]
        ·simp only[yy]at h;obtain⟨⟨l,k⟩,d,h⟩:=h;injection h with b h;subst b;simp[Qa]
  ·rw[pa]at h;simp only[Option.bind_eq_some_iff]at h;obtain⟨⟨v,k⟩,d,h⟩:=h;have p:=(qb s f i).1 v k d;have q:=(Gy s f i).1 v k d;have x:=zO s k;simp only at h;intro m;have D:=KS m;split at h
   ·injection h with h;injection h with b h;subst b;simp only[VG];omega
   ·split at h
    ·simp only[yy]at h;obtain⟨⟨l,n⟩,o,h⟩:=h;injection h with b h;have r:=(qb s f _).2.1 l n o;have u:=(Gy s f _).2.1 l n o (m+1);have y:=zO s (sk s k+1);subst b;rw[VG];simp only at h ⊢;omega
    ·cases h
  ·rw[po]at h;simp only[Option.bind_eq_some_iff]at h;obtain⟨⟨A,a⟩,w,h⟩:=h;have b:=Js w;have z:=EA w;simp only at h;split at h
   ·simp only[Option.bind_eq_some_iff]at h;obtain⟨⟨v,k⟩,d,h⟩:=h;have p:=(qb s f _).1 v k d;have q:=(Gy s f _).1 v k d;have B:=zO s a;have C:=zO s (sk s a+1);have x:=zO s k;simp only at h;split at h
    ·injection h with h;injection h with b h;subst b;simp only[VH];omega
    ·split at h
     ·simp only[yy]at h;obtain⟨⟨l,n⟩,o,h⟩:=h;injection h with b h;have r:=(qb s f _).2.2 l n o;have u:=(Gy s f _).2.2 l n o;have y:=zO s (sk s k+1);subst b;rw[VH];simp only at h ⊢;omega
     ·cases h
   ·cases h
theorem EC{s:Bs}{i j:Nat}{v:JV}(h:val s i=some (v,j)):Qa v<=2*(j - i):=(Gy s _ i).1 v j h
theorem D4{s:Bs}{c:Nat}(h:Zo s= .inl c):c≠0:=by
 unfold Zo at h
 repeat' split at h
 all_goals first
  |(injection h with h;omega)
  | cases h
structure VI(v:JV):Prop where
 ok:zy v
 tw:zw v=false
 dep:zE v<=100
 len:(ct v).length<=600000
 cnt:zo v<=3000
 mx:Qa v<=40000
theorem ED{s:Bs}{v:JV}(h:qu s=some v):Qa v<=2*s.size:=by
 unfold qu at h
 cases hv:val s (sk s 0)with
 | none=>rw[hv]at h;simp at h
 | some q=>
  obtain⟨u,j⟩:=q;have e:u=v:=by
   rw[hv]at h;simp only[yz]at h;split at h
   ·injection h
   ·cases h
  subst e;have a:=EC hv;have b:=Yj hv;omega
theorem D5{s:Bs}{v:JV}(h:Zo s= .inr v):VI v:=by
 unfold Zo at h;split at h
 ·cases h
 ·rename_i hs;split at h
  ·cases h
  ·rename_i v' hd;split at h
   ·cases h
   ·split at h
    ·cases h
    ·rename_i hb ht;split at h
     ·cases h
     ·rename_i hl;injection h with h;subst h;obtain⟨a,b,d⟩:=Gw hd;have f:=ED hd;exact⟨a,by simpa using ht,by omega,by omega,by omega,by omega⟩
def Xp:JV:=.obj (.cons [97] (.arr (.cons (.num [49]) (.cons (.num [50]) (.cons (.obj (.cons [98] .nul .nil)) .nil)))) .nil)
theorem EE:ct Xp=[123,34,97,34,58,91,49,44,50,44,123,34,98,34,58,110,117,108,108,125,93,125]:=by rfl
def Jb(t:List UInt8):Int:=match qJ t with
 | some i=>(i:Int)
 | none=>-1
theorem D6(s:Bs)(w:Wo)(hs:s.size<=1048576):
  Calls prog 154 #[.string s] w fun e w'=>e= .returned (.int .i64 (Jb s.data.toList))/\w=w':=by
 have d:¬ Gx s.data.toList=true->Jb s.data.toList= -1:=fun h=>by unfold Jb qJ;rw[ye h]
 have N:=Zb s;by_cases A:s.size<1
 ·have v:=zh (d (fun h=>by have:=(Yo.1 h).1;omega));have O:(s.size:Int)<1:=by omega
  clear d A;go_in;go_wp2;go_ret;exact⟨by rw[uh v];rfl,rfl⟩
 ·have O:¬ (s.size:Int)<1:=by omega
  by_cases F:6<s.size
  ·have v:=zh (d (fun h=>by have:=(Yo.1 h).2.1;omega));have P:(6:Int)<(s.size:Int):=by omega
   clear d A F;go_in;go_wp2;go_ret;exact⟨by rw[uh v];rfl,rfl⟩
  ·have P:¬ (6:Int)<(s.size:Int):=by omega
   have S:0<s.size:=by omega
   have n:(s.data.toList.getD 0 0)=s[0]:=by rw[List.getD,yw (by omega)];rfl
   have T:(0:Int)<(s.size:Int):=by omega
   by_cases B:s[0].toNat=48/\1<s.size
   ·have v:=zh (d (fun h=>(Yo.1 h).2.2.1 ⟨by rw[n];exact B.1,by omega⟩));have J:((s[0].toNat:Int) ==48)=true:=by rw[yB];omega
    have Q:(1:Int)<(s.size:Int):=by omega
    clear d A F B n;go_in;go_wp2;go_ret;exact⟨by rw[uh v];rfl,rfl⟩
   ·have z:Hid (∀ (k:Nat) (u:k<s.size) (w:Wo),Calls prog 90 #[.int .u8 (s[k].toNat:Int)] w (Rk (.bool (zT s[k].toNat)) w)):=fun k u w=>RO s[k].toNat w;have i:Hid (∀ k (u:k<s.size),zT s[k].toNat=false->Jb s.data.toList= -1):=fun k u hd=>d (fun h=>by
     have:=(Yo.1 h).2.2.2 s[k] (by rw[← Nx s k u];exact yq _);rw[hd]at this;cases this)
    have g:Hid ((∀ k (u:k<s.size),zT s[k].toNat=true)->Jb s.data.toList=(Z0 s.data.toList:Int)):=fun l=>by
     have G:Gx s.data.toList=true:=Yo.2 ⟨by omega,by omega,fun ⟨a,b⟩=>B ⟨by rw[← n];exact a,by omega⟩,fun c hc=>by
      obtain⟨j,o,rfl⟩:=List.getElem_of_mem hc;exact l j (by omega)⟩
     unfold Jb qJ;rw[yf G]
    have H:((s[0].toNat:Int) ==48)=false∨((s[0].toNat:Int) ==48)=true/\¬ (1:Int)<(s.size:Int):=by
     by_cases e:s[0].toNat=48
     ·right;exact⟨by rw[yB];omega,by omega⟩
     ·left;rw[yb];omega
    have K:s.size<=6:=by omega
    clear d B n A F;rcases H with J |⟨J,Q⟩
    all_goals
     go_in;go_wp2;go_loopw [3,4] (fun vv iv wr=>∃ k:Nat,k<=s.size/\iv= .int .i64 (k:Int)/\vv= .int .i64 ((Z0 (s.data.toList.take k):Nat):Int)/\(∀ j (o:j<s.size),j<k->zT s[j].toNat=true)/\w=wr) (fun _ iv _=>s.size - (intOf iv).toNat)
     case atStart=>exact⟨0,yr _,rfl,rfl,fun j _ o=>by omega,rfl⟩
     case round=>
      obtain⟨k,u,rfl,rfl,l,rfl⟩:=hrel;have f:=zh l;clear l;by_cases q:k<s.size
      ·have I:(k:Int)<(s.size:Int):=by omega
       have m:=zh (uh z k q w);have r:s.data.toList.take (k+1)=s.data.toList.take k++[s[k]]:=WT s k q;have x:Hid (Z0 (s.data.toList.take (k+1))=Z0 (s.data.toList.take k)*10+(s[k].toNat - 48)):=by show _=_;rw[r,GU]
       have p:Z0 (s.data.toList.take k)<1000000∨¬ ∀ c∈s.data.toList.take k,zT c.toNat=true:=by
        rcases Ny k (s.data.toList.take k) (by rw[yl];omega)with h | h
        ·left;have:10 ^ k<=10 ^ 6:=Nat.pow_le_pow_right (by omega) (by omega);omega
        ·exact .inr h
       have y:Z0 (s.data.toList.take k)<1000000:=p.elim id fun h=>absurd (fun c hc=>by
        obtain⟨j,o,rfl⟩:=List.getElem_of_mem hc;rw[yl]at o;rw[List.getElem_take];exact uh f j (by omega) (by omega)) h
       cases hd:zT s[k].toNat with
       | false=>
        have E:=zh (uh i k q hd);rw[hd]at m;clear hd x r p y f i g z;go_wp2_with fail;refine (uh m).mono ?_;rintro e R ⟨rfl,rfl⟩;clear m;go_wp2;go_ret;exact⟨by rw[uh E];rfl,rfl⟩
       | true=>
        have U:=qL.1 hd;have C:Hid (∀ j (o:j<s.size),j<k+1->zT s[j].toNat=true):=fun j o hjk=>by
         by_cases e:j=k
         ·subst e;exact hd
         ·exact uh f j o (by omega)
        rw[hd]at m;have L:(48:Int)<=(s[k].toNat:Int):=by omega
        have M:(s[k].toNat:Int)<=57:=by omega
        generalize Z0 (s.data.toList.take k)=D at *;clear hd r p f i g z;go_wp2_with fail;refine (uh m).mono ?_;rintro e R ⟨rfl,rfl⟩;clear m;go_wp2;go_roundw
        case rel=>exact⟨k+1,by omega,by go_num,by rw[uh x];go_num,uh C,trivial⟩
        case measure=>simp[intOf];omega
      ·have e:s.data.toList.take k=s.data.toList:=yp (by omega);rw[e];have E:=zh (uh g (fun j o=>uh f j o (by omega)));generalize Z0 s.data.toList=D at *;clear f i g z e;go_wp2;go_ret;exact⟨by rw[uh E];rfl,rfl⟩
def Xq(l:List UInt8):Prop:=∃ (sg ds:List UInt8) (d:UInt8),l=sg++d :: ds/\(sg=[]∨sg=[45])/\zT d.toNat=true/\(∀ b∈ds,zT b.toNat=true)/\(d.toNat=48->ds=[]/\sg=[])
mutual
def Zj:JV->Prop
 | .nul=>True
 | .tt=>True
 | .ff=>True
 | .num l=>Xq l
 | .str l=>Lib.validD l=true
 | .arr l=>Qb l
 | .obj m=>Qm m
def Qb:JL->Prop
 | .nil=>True
 | .cons v r=>Zj v/\Qb r
def Qm:JM->Prop
 | .nil=>True
 | .cons k v r=>Lib.validD k=true/\Zj v/\Qm r
end
mutual
def QX:JV->Prop
 | .arr l=>VJ l
 | .obj m=>JK m/\zz (zn m)=zn m
 | _=>True
def VJ:JL->Prop
 | .nil=>True
 | .cons v r=>QX v/\VJ r
def JK:JM->Prop
 | .nil=>True
 | .cons _ v r=>QX v/\JK r
end
theorem D7{l:List UInt8}(h:Xq l):∃ (c:UInt8) (r:List UInt8),l=c :: r/\(c.toNat=45∨zT c.toNat=true)/\∀ b∈r,zT b.toNat=true:=by
 obtain⟨k,g,d,rfl,j,i,a,_⟩:=h;rcases j with rfl | rfl
 ·exact⟨d,g,rfl,.inr i,a⟩
 ·refine⟨45,d :: g,rfl,.inl rfl,fun b f=>?_⟩;rcases List.mem_cons.1 f with rfl | f
  ·exact i
  ·exact a b f
mutual
theorem Vc:∀ v:JV,Zj v->zy v
 | .nul,_=>by rw[zy];trivial
 | .tt,_=>by rw[zy];trivial
 | .ff,_=>by rw[zy];trivial
 | .num l,h=>by rw[Zj]at h;rw[zy];exact D7 h
 | .str l,h=>by rw[Zj]at h;rw[zy];exact h
 | .arr l,h=>by rw[Zj]at h;rw[zy];exact D8 l h
 | .obj m,h=>by rw[Zj]at h;rw[zy];exact D9 m h
theorem D8:∀ l:JL,Qb l->Z8 l
 | .nil,_=>by rw[Z8];trivial
 | .cons v r,h=>by rw[Qb]at h;rw[Z8];exact⟨Vc v h.1,D8 r h.2⟩
theorem D9:∀ m:JM,Qm m->Z6 m
 | .nil,_=>by rw[Z6];trivial
 | .cons k v r,h=>by rw[Qm]at h;rw[Z6];exact⟨h.1,Vc v h.2.1,D9 r h.2.2⟩
end
theorem La{T:Bs}:∀ (ds m:List UInt8) (i:Nat),T.data.toList.drop i=ds++m->(∀ b∈ds,zT b.toNat=true)->Vy m->dg T i=i+ds.length
 | [],m,i,h,_,hm=>by
  rcases hm with rfl |⟨c,r,rfl,hc⟩
  ·rw[List.nil_append]at h;have:T.size<=i:=by
    have:=List.drop_eq_nil_iff.1 h;rw[Zb]at this;exact this
   rw[Wt (by rw[Jr T i this];decide)];rfl
  ·obtain⟨_,a,_⟩:=Zr (T:=T) h;rw[Wt (by rw[a,qL];omega)];rfl
 | d :: ds,m,i,h,hd,hm=>by
  obtain⟨_,a,f⟩:=Zr (T:=T) h;rw[Y5 (by rw[a];exact hd d yo),La ds m (i+1) f (fun b a=>hd b (yu _ a)) hm,ym];omega
theorem EF{T:Bs}{i:Nat}{l m:List UInt8}(h:T.data.toList.drop i=l++m):zW T i (i+l.length)=l:=by
 unfold zW;rw[h,show i+l.length - i=l.length by omega,List.take_left]
theorem EG{T:Bs}{i:Nat}{l m:List UInt8}(hn:Xq l)(h:T.data.toList.drop i=l++m)(hm:Vy m):nm T i=some (l,i+l.length):=by
 have w:=EF h;obtain⟨n,a,d,rfl,r,j,o,q⟩:=hn;have x:=qL.1 j;have f:∀ k,zK T i=k->T.data.toList.drop k=d ::(a++m)->k+1+a.length=i+(n++d :: a).length->nm T i=some (n++d :: a,i+(n++d :: a).length):=by
  intro k p s u;obtain⟨_,b,g⟩:=Zr (T:=T) s;have v:ZT T i=i+(n++d :: a).length:=by
   unfold ZT;rw[p,b];split
   ·rename_i hz;obtain⟨y,z⟩:=q hz;subst y;simp only[yC]at u;omega
   ·rw[Y5 (by rw[b];exact j),La a m (k+1) g o hm];omega
  unfold nm;rw[p,b,yf j,v,w];unfold qE;rw[ye];intro e;rcases r with rfl | rfl
  ·rw[List.nil_append]at e;injection e with e _;subst e;simp[zT]at j
  ·simp only[List.cons_append,List.nil_append,List.cons.injEq,true_and]at e;have:d.toNat=48:=by rw[e.1];rfl
   have:=(q this).2
   cases this
 rcases r with rfl | rfl
 ·rw[List.nil_append]at h;rw[List.cons_append]at h;obtain⟨_,b,g⟩:=Zr (T:=T) h;refine f i ?_ h (by simp;omega);unfold zK;rw[ye (by omega)]
 ·rw[List.cons_append,List.nil_append,List.cons_append]at h;obtain⟨_,b,g⟩:=Zr (T:=T) h;refine f (i+1) ?_ g (by simp;omega);unfold zK;rw[yf (by rw[b];rfl)]
theorem UP{v:JV}(h:zy v):∃ (c:UInt8) (r:List UInt8),ct v=c :: r/\c.toNat≠32/\c.toNat≠9/\c.toNat≠10/\c.toNat≠13/\c.toNat≠93/\c.toNat≠125:=by
 cases v with
 | nul=>exact⟨_,_,rfl,by decide,by decide,by decide,by decide,by decide,by decide⟩
 | tt=>exact⟨_,_,rfl,by decide,by decide,by decide,by decide,by decide,by decide⟩
 | ff=>exact⟨_,_,rfl,by decide,by decide,by decide,by decide,by decide,by decide⟩
 | num l=>
  rw[zy]at h;obtain⟨c,r,rfl,a,_⟩:=h;have:c.toNat=45∨(48<=c.toNat/\c.toNat<=57):=a.imp id qL.1;exact⟨c,r,rfl,by omega,by omega,by omega,by omega,by omega,by omega⟩
 | str l=>exact⟨34,_,rfl,by decide,by decide,by decide,by decide,by decide,by decide⟩
 | arr l=>exact⟨91,_,rfl,by decide,by decide,by decide,by decide,by decide,by decide⟩
 | obj m=>exact⟨123,_,rfl,by decide,by decide,by decide,by decide,by decide,by decide⟩
theorem Jc{T:Bs}{i:Nat}{c:UInt8}{r:List UInt8}(h:T.data.toList.drop i=c :: r)(h1:c.toNat≠32)(h2:c.toNat≠9)(h3:c.toNat≠10)(h4:c.toNat≠13):sk T i=i:=by
 obtain⟨_,a,_⟩:=Zr (T:=T) h;exact Uk (by omega)
mutual
theorem UQ{T:Bs}:∀ v:JV,Zj v->QX v->∀ i m,T.data.toList.drop i=ct v++m->Vy m->val T i=some (v,i+(ct v).length)
 | .nul,_,_,i,m,h,_=>by
  have h0:T.data.toList.drop i=110 :: 117 :: 108 :: 108 :: m:=h;obtain⟨_,b0,h1⟩:=Zr (T:=T) h0;obtain⟨_,b1,h2⟩:=Zr (T:=T) h1;obtain⟨_,b2,h3⟩:=Zr (T:=T) h2;obtain⟨_,b3,_⟩:=Zr (T:=T) h3;rw[Y6 (by rw[b0];decide) (by rw[b0];decide) (by rw[b0];decide),yf (by unfold Ql;rw[b0,b1,b2,b3];rfl)];rfl
 | .tt,_,_,i,m,h,_=>by
  have h0:T.data.toList.drop i=116 :: 114 :: 117 :: 101 :: m:=h;obtain⟨_,b0,h1⟩:=Zr (T:=T) h0;obtain⟨_,b1,h2⟩:=Zr (T:=T) h1;obtain⟨_,b2,h3⟩:=Zr (T:=T) h2;obtain⟨_,b3,_⟩:=Zr (T:=T) h3;rw[Y6 (by rw[b0];decide) (by rw[b0];decide) (by rw[b0];decide),ye (by unfold Ql;rw[b0];simp),yf (by unfold Qw;rw[b0,b1,b2,b3];rfl)];rfl
 | .ff,_,_,i,m,h,_=>by
  have h0:T.data.toList.drop i=102 :: 97 :: 108 :: 115 :: 101 :: m:=h;obtain⟨_,b0,h1⟩:=Zr (T:=T) h0;obtain⟨_,b1,h2⟩:=Zr (T:=T) h1;obtain⟨_,b2,h3⟩:=Zr (T:=T) h2;obtain⟨_,b3,h4⟩:=Zr (T:=T) h3;obtain⟨_,b4,_⟩:=Zr (T:=T) h4;rw[Y6 (by rw[b0];decide) (by rw[b0];decide) (by rw[b0];decide),ye (by unfold Ql;rw[b0];simp),ye (by unfold Qw;rw[b0];simp),yf (by unfold QP;rw[b0,b1,b2,b3,b4];rfl)];rfl
 | .num l,hr,_,i,m,h,hm=>by
  rw[Zj]at hr;have hn:=EG hr h hm;obtain⟨c,r,rfl,hc,_⟩:=D7 hr;obtain⟨_,b0,_⟩:=Zr (T:=T) (c:=c) (m:=r++m) h;have:c.toNat=45∨(48<=c.toNat/\c.toNat<=57):=hc.imp id qL.1;rw[Y6 (by omega) (by omega) (by omega),ye (by unfold Ql;simp;omega),ye (by unfold Qw;simp;omega),ye (by unfold QP;simp;omega),hn];rfl
 | .str l,hr,_,i,m,h,_=>by
  rw[Zj]at hr;obtain⟨_,b0,_⟩:=Zr (T:=T) (c:=34) (m:=qs l++[34]++m) (by rw[h];simp[ct,quoted]);rw[FT (by rw[b0];rfl),Ut l T m hr i h];rfl
 | .arr .nil,_,_,i,m,h,_=>by
  have h0:T.data.toList.drop i=91 :: 93 :: m:=h;obtain⟨_,b0,h1⟩:=Zr (T:=T) h0;obtain⟨_,b1,_⟩:=Zr (T:=T) h1;rw[KN (by rw[b0];rfl),Jc h1 (by decide) (by decide) (by decide) (by decide),yf (by rw[b1];rfl)];rfl
 | .arr (.cons v r),hr,hs,i,m,h,hm=>by
  rw[Zj]at hr;rw[QX]at hs;have h0:T.data.toList.drop i=91 ::(joinC (zu (.cons v r))++93 :: m):=by rw[h];simp[ct,Zi]
  obtain⟨_,b0,h1⟩:=Zr (T:=T) h0;have hrv:=hr;rw[Qb]at hrv;obtain⟨c,q,e,c1,c2,c3,c4,c5,_⟩:=UP (Vc v hrv.1);have h1':T.data.toList.drop (i+1)=c ::(q++(joinT (zu r)++93 :: m)):=by rw[h1,zu,joinC,e];simp
  obtain⟨_,b1,_⟩:=Zr (T:=T) h1';rw[KN (by rw[b0];rfl),Jc h1' c1 c2 c3 c4,ye (by rw[b1];exact c5),Lb v r hr hs (i+1) m h1];have e2:(ct (.arr (.cons v r))).length=(joinC (zu (.cons v r))).length+2:=by simp[ct,Zi]
  rw[e2];simp only[Option.map_some,Option.some.injEq,Prod.mk.injEq,true_and];omega
 | .obj .nil,_,_,i,m,h,_=>by
  have h0:T.data.toList.drop i=123 :: 125 :: m:=h;obtain⟨_,b0,h1⟩:=Zr (T:=T) h0;obtain⟨_,b1,_⟩:=Zr (T:=T) h1;rw[KO (by rw[b0];rfl),Jc h1 (by decide) (by decide) (by decide) (by decide),yf (by rw[b1];rfl)];rfl
 | .obj (.cons k v r),hr,hs,i,m,h,hm=>by
  rw[Zj]at hr;rw[QX]at hs;have hc:ct (.obj (.cons k v r))=123 ::(joinC ((zn (.cons k v r)).map zt)++[125]):=by rw[ct,hs.2];rfl
  have h0:T.data.toList.drop i=123 ::(joinC ((zn (.cons k v r)).map zt)++125 :: m):=by rw[h,hc];simp
  obtain⟨_,b0,h1⟩:=Zr (T:=T) h0;have h1':T.data.toList.drop (i+1)=34 ::(qs k++[34]++58 :: ct v++(joinT ((zn r).map zt)++125 :: m)):=by rw[h1,zn,yh,joinC];simp[zt,quoted]
  obtain⟨_,b1,_⟩:=Zr (T:=T) h1';rw[KO (by rw[b0];rfl),Jc h1' (by decide) (by decide) (by decide) (by decide),ye (by rw[b1];decide),Lc k v r hr hs.1 (i+1) m h1];rw[hc];simp only[Option.map_some,Option.some.injEq,Prod.mk.injEq,true_and,ym,yg,yC];omega
termination_by v=>SizeOf.sizeOf v
decreasing_by all_goals simp_wf;all_goals omega
theorem Lb{T:Bs}:∀ (v:JV) (r:JL),Qb (.cons v r)->VJ (.cons v r)->∀ i m,T.data.toList.drop i=joinC (zu (.cons v r))++93 :: m->elems T i=some (.cons v r,i+(joinC (zu (.cons v r))).length+1)
 | v,.nil,hr,hs,i,m,h=>by
  rw[Qb]at hr;rw[VJ]at hs;have h':T.data.toList.drop i=ct v++93 :: m:=by rw[h];simp[zu,joinC,joinT]
  have hv:=UQ v hr.1 hs.1 i (93 :: m) h' (.inr ⟨93,m,rfl,.inr (.inl rfl)⟩);have h2:T.data.toList.drop (i+(ct v).length)=93 :: m:=QQ h';obtain⟨_,b2,_⟩:=Zr (T:=T) h2;rw[Gh,hv];simp only[yz];rw[Jc h2 (by decide) (by decide) (by decide) (by decide),yf (by rw[b2];rfl)];simp[zu,joinC,joinT]
 | v,.cons u r,hr,hs,i,m,h=>by
  rw[Qb]at hr;rw[VJ]at hs;have h':T.data.toList.drop i=ct v++44 ::(joinC (zu (.cons u r))++93 :: m):=by rw[h];simp[zu,joinC,joinT]
  have hv:=UQ v hr.1 hs.1 i _ h' (.inr ⟨44,_,rfl,.inl rfl⟩);have h2:T.data.toList.drop (i+(ct v).length)=44 ::(joinC (zu (.cons u r))++93 :: m):=QQ h';obtain⟨_,b2,h3⟩:=Zr (T:=T) h2;have hru:=hr.2;rw[Qb]at hru;obtain⟨c,q,e,c1,c2,c3,c4,_,_⟩:=UP (Vc u hru.1);have h3':T.data.toList.drop (i+(ct v).length+1)=c ::(q++(joinT (zu r)++93 :: m)):=by rw[h3,zu,joinC,e];simp
  rw[Gh,hv];simp only[yz];rw[Jc h2 (by decide) (by decide) (by decide) (by decide),ye (by rw[b2];decide),yf (by rw[b2];rfl),Jc h3' c1 c2 c3 c4,Lb u r hr.2 hs.2 _ m h3];have e2:(joinC (zu (.cons v (.cons u r)))).length=(ct v).length+1+(joinC (zu (.cons u r))).length:=by simp[zu,joinC,joinT];omega
  rw[e2];simp only[Option.map_some,Option.some.injEq,Prod.mk.injEq,true_and];omega
termination_by v r=>SizeOf.sizeOf v+SizeOf.sizeOf r
decreasing_by all_goals simp_wf;all_goals omega
theorem Lc{T:Bs}:∀ (k:List UInt8) (v:JV) (r:JM),Qm (.cons k v r)->JK (.cons k v r)->∀ i m,T.data.toList.drop i=joinC ((zn (.cons k v r)).map zt)++125 :: m->qY T i=some (.cons k v r,i+(joinC ((zn (.cons k v r)).map zt)).length+1)
 | k,v,.nil,hr,hs,i,m,h=>by
  rw[Qm]at hr;rw[JK]at hs;have h':T.data.toList.drop i=quoted k++(58 ::(ct v++125 :: m)):=by rw[h];simp[zn,joinC,joinT,zt]
  have hk:=Ut k T _ hr.1 i h';have h2:T.data.toList.drop (i+(quoted k).length)=58 ::(ct v++125 :: m):=QQ h';obtain⟨_,b2,h3⟩:=Zr (T:=T) h2;obtain⟨c,q,e,c1,c2,c3,c4,_,_⟩:=UP (Vc v hr.2.1);have h3':T.data.toList.drop (i+(quoted k).length+1)=c ::(q++125 :: m):=by rw[h3,e];simp
  have hv:=UQ v hr.2.1 hs.1 (i+(quoted k).length+1) (125 :: m) h3 (.inr ⟨125,m,rfl,.inr (.inr rfl)⟩);have h4:T.data.toList.drop (i+(quoted k).length+1+(ct v).length)=125 :: m:=QQ h3;obtain⟨_,b4,_⟩:=Zr (T:=T) h4;rw[Uo,hk];simp only[yz];rw[Jc h2 (by decide) (by decide) (by decide) (by decide),yf (by rw[b2];rfl),Jc h3' c1 c2 c3 c4,hv];simp only[yz];rw[Jc h4 (by decide) (by decide) (by decide) (by decide),yf (by rw[b4];rfl)];have e2:(joinC ((zn (.cons k v .nil)).map zt)).length=(quoted k).length+1+(ct v).length:=by simp[zn,joinC,joinT,zt];omega
  rw[e2];simp only[Option.some.injEq,Prod.mk.injEq,true_and];omega
 | k,v,.cons k' u r,hr,hs,i,m,h=>by
  rw[Qm]at hr;rw[JK]at hs;have h':T.data.toList.drop i=quoted k++(58 ::(ct v++44 ::(joinC ((zn (.cons k' u r)).map zt)++125 :: m))):=by rw[h];simp[zn,joinC,joinT,zt]
  have hk:=Ut k T _ hr.1 i h';have h2:=QQ h';obtain⟨_,b2,h3⟩:=Zr (T:=T) h2;obtain⟨c,q,e,c1,c2,c3,c4,_,_⟩:=UP (Vc v hr.2.1);have h3':T.data.toList.drop (i+(quoted k).length+1)=c ::(q++44 ::(joinC ((zn (.cons k' u r)).map zt)++125 :: m)):=by rw[h3,e];simp
  have hv:=UQ v hr.2.1 hs.1 (i+(quoted k).length+1) _ h3 (.inr ⟨44,_,rfl,.inl rfl⟩);have h4:=QQ h3;obtain⟨_,b4,h5⟩:=Zr (T:=T) h4;have h5':T.data.toList.drop (i+(quoted k).length+1+(ct v).length+1)=34 ::(qs k'++[34]++58 :: ct u++(joinT ((zn r).map zt)++125 :: m)):=by rw[h5,zn,yh,joinC];simp[zt,quoted]
  rw[Uo,hk];simp only[yz];rw[Jc h2 (by decide) (by decide) (by decide) (by decide),yf (by rw[b2];rfl),Jc h3' c1 c2 c3 c4,hv];simp only[yz];rw[Jc h4 (by decide) (by decide) (by decide) (by decide),ye (by rw[b4];decide),yf (by rw[b4];rfl),Jc h5' (by decide) (by decide) (by decide) (by decide),Lc k' u r hr.2.2 hs.2 _ m h5];have e2:(joinC ((zn (.cons k v (.cons k' u r))).map zt)).length=(quoted k).length+1+(ct v).length+1+(joinC ((zn (.cons k' u r)).map zt)).length:=by simp[zn,joinC,joinT,zt];omega
  rw[e2];simp only[Option.map_some,Option.some.injEq,Prod.mk.injEq,true_and];omega
termination_by _ v r=>SizeOf.sizeOf v+SizeOf.sizeOf r
decreasing_by all_goals simp_wf;all_goals omega
end
theorem EH{v:JV}(h:Zj v)(hs:QX v):qu (zi (ct v))=some v:=by
 obtain⟨c,r,e,c1,c2,c3,c4,_,_⟩:=UP (Vc v h);have a:(zi (ct v)).data.toList.drop 0=ct v++[]:=by rw[Zd];simp
 have b:(zi (ct v)).data.toList.drop 0=c :: r:=by rw[Zd];simpa using e
 unfold qu;rw[Jc b c1 c2 c3 c4,UQ v h hs 0 [] a (.inl rfl)];simp only[yz,Nat.zero_add];rw[KH (by rw[zS];exact yd _),yf (zS _).symm]
theorem Ld:∀ (l acc:List (List UInt8×List UInt8)),l.Pairwise (fun a b=>a.1<=b.1)->(∀ a∈acc,∀ b∈l,a.1<=b.1)->l.foldl (fun acc p=>Z4 p acc) acc=l.reverse++acc
 | [],acc,_,_=>rfl
 | p :: l,acc,h,ha=>by
  rw[List.pairwise_cons]at h;have e:Z4 p acc=p :: acc:=by
   cases acc with
   | nil=>rfl
   | cons q r=>rw[Z4,ye (List.not_lt.2 (ha q yo p yo))]
  rw[List.foldl_cons,e,Ld l (p :: acc) h.2 (fun a d b hb=>by
   rcases List.mem_cons.1 d with rfl | d
   ·exact h.1 b hb
   ·exact ha a d b (yu _ hb))]
  simp
theorem EI{l:List (List UInt8×List UInt8)}(h:l.Pairwise (fun a b=>a.1<=b.1)):zz l=l:=by
 unfold zz;rw[Ld l [] h (fun a ha=>by simp at ha)];simp
theorem Le(l:List (List UInt8×List UInt8)):zz (zz l)=zz l:=EI (KT l)
def JM.ofL:List (List UInt8×JV)->JM
 | []=>.nil
 |(k,v) :: r=>.cons k v (JM.ofL r)
theorem JM.toL_ofL:∀ l:List (List UInt8×JV),(JM.ofL l).toL=l
 | []=>rfl
 |(k,v) :: r=>by rw[JM.ofL,JM.toL,JM.toL_ofL r]
theorem UR:∀ m:JM,Qm m↔∀ q∈m.toL,Lib.validD q.1=true/\Zj q.2
 | .nil=>by rw[Qm];simp[JM.toL]
 | .cons k v r=>by rw[Qm,UR r,JM.toL];simp[and_assoc]
theorem Lf:∀ m:JM,JK m↔∀ q∈m.toL,QX q.2
 | .nil=>by rw[JK];simp[JM.toL]
 | .cons k v r=>by rw[JK,Lf r,JM.toL];simp
theorem WJ:∀ m:JM,ZF m=true↔∃ q∈m.toL,zD q.2=true
 | .nil=>by rw[ZF];simp[JM.toL]
 | .cons k v r=>by rw[ZF,Bool.or_eq_true,WJ r,JM.toL];simp
theorem WK:∀ (m:JM) (ks:List (List UInt8)),ZC ks m=false↔(∀ q∈m.toL,zw q.2=false)/\(m.toL.map (·.1)).Nodup/\∀ q∈m.toL,q.1 ∉ ks
 | .nil,ks=>by rw[ZC];simp[JM.toL]
 | .cons k v r,ks=>by
  rw[ZC,JM.toL];simp only[Bool.or_eq_false_iff,WK r,yh,List.nodup_cons,List.mem_cons,List.contains_eq_mem,decide_eq_false_iff_not,List.mem_append,yN];constructor
  ·rintro⟨⟨h1,h2⟩,h3,h4,h5⟩;refine⟨?_,⟨?_,h4⟩,?_⟩
   ·rintro q (rfl | hq)
    ·exact h1
    ·exact h3 q hq
   ·rintro⟨q,hq,e⟩;exact h5 q hq (.inr (by simp[e]))
   ·rintro q (rfl | hq)
    ·exact h2
    ·exact fun hk=>h5 q hq (.inl hk)
  ·rintro⟨h1,⟨h2,h3⟩,h4⟩;refine⟨⟨h1 _ (.inl rfl),h4 _ (.inl rfl)⟩,fun q hq=>h1 q (.inr hq),h3,fun q hq hk=>?_⟩;rcases hk with hk | hk
   ·exact h4 q (.inr hq) hk
   ·simp only[List.not_mem_nil,or_false]at hk;exact h2 ⟨q,hq,hk⟩
theorem US:∀ (l:List JV) (n:Nat),dl l<=n↔∀ v∈l,zE v<=n
 | [],n=>by simp[dl]
 | v :: r,n=>by rw[dl,Nat.max_le,US r];simp
theorem EJ{a b:List JV}(h:a.Perm b):dl a=dl b:=by
 have d:=(US b (dl b)).1 (yd _);have f:=(US a (dl a)).1 (yd _);exact Nat.le_antisymm ((US _ _).2 fun v hv=>d v (h.subset hv)) ((US _ _).2 fun v hv=>f v (h.symm.subset hv))
def Jz(m:JM):JM:=JM.ofL (VF m.toL)
theorem EK(m:JM):(Jz m).toL.Perm m.toL:=by unfold Jz;rw[JM.toL_ofL];exact UM _
theorem Lg(m:JM):zn (Jz m)=zz (zn m):=by
 have a:zn m=m.toL.map kt:=Qg m;have b:zn (Jz m)=(Jz m).toL.map kt:=Qg _;rw[a,b];unfold Jz;rw[JM.toL_ofL,DR]
theorem EL{a b:Bool}(h:a=false↔b=false):a=b:=by
 cases a<;>cases b<;>simp at h<;>rfl
theorem EM(m:JM):(Qm m->Qm (Jz m))/\(JK m->JK (Jz m))/\Ju (Jz m)=Ju m/\qy (Jz m)=qy m/\ZF (Jz m)=ZF m/\ZC [] (Jz m)=ZC [] m:=by
 have p:=EK m;refine⟨fun h=>?_,fun h=>?_,?_,?_,?_,?_⟩
 ·rw[UR]at *;exact fun q hq=>h q (p.subset hq)
 ·rw[Lf]at *;exact fun q hq=>h q (p.subset hq)
 ·rw[Gn,Gn];exact EJ (p.map _)
 ·rw[Gp,Gp];exact (p.map _).sum_nat
 ·have:ZF (Jz m)=true↔ZF m=true:=by
   rw[WJ,WJ];exact⟨fun ⟨q,h1,h2⟩=>⟨q,p.subset h1,h2⟩,fun ⟨q,h1,h2⟩=>⟨q,p.symm.subset h1,h2⟩⟩
  exact Bool.eq_iff_iff.2 this
 ·refine EL ?_;rw[WK,WK];exact⟨fun ⟨h1,h2,h3⟩=>⟨fun q hq=>h1 q (p.symm.subset hq),((p.map _).nodup_iff).1 h2,fun q hq=>h3 q (p.symm.subset hq)⟩,fun ⟨h1,h2,h3⟩=>⟨fun q hq=>h1 q (p.subset hq),((p.map _).nodup_iff).2 h2,fun q hq=>h3 q (p.subset hq)⟩⟩
mutual
def nv:JV->JV
 | .arr l=>.arr (J6 l)
 | .obj m=>.obj (Jz (JN m))
 | .nul=>.nul
 | .tt=>.tt
 | .ff=>.ff
 | .num l=>.num l
 | .str l=>.str l
def J6:JL->JL
 | .nil=>.nil
 | .cons v r=>.cons (nv v) (J6 r)
def JN:JM->JM
 | .nil=>.nil
 | .cons k v r=>.cons k (nv v) (JN r)
end
structure NF(a b:JV):Prop where
 ct:ct a=ct b
 rd:Zj b->Zj a
 sr:QX a
 dep:zE a=zE b
 cnt:zo a=zo b
 big:zD a=zD b
 tw:zw a=zw b
theorem NF.leaf{v:JV}(h:QX v):NF v v:=⟨rfl,id,h,rfl,rfl,rfl,rfl⟩
mutual
theorem VK:∀ v:JV,NF (nv v) v
 | .nul=>by rw[nv];exact NF.leaf (by rw[QX];trivial;all_goals simp)
 | .tt=>by rw[nv];exact NF.leaf (by rw[QX];trivial;all_goals simp)
 | .ff=>by rw[nv];exact NF.leaf (by rw[QX];trivial;all_goals simp)
 | .num l=>by rw[nv];exact NF.leaf (by rw[QX];trivial;all_goals simp)
 | .str l=>by rw[nv];exact NF.leaf (by rw[QX];trivial;all_goals simp)
 | .arr l=>by
  obtain⟨h1,h2,h3,h4,h5,h6,h7⟩:=Lh l;rw[nv];exact⟨by rw[Go.Proofs.YtpaecnbdoljafaaGreatDoor.ct,Go.Proofs.YtpaecnbdoljafaaGreatDoor.ct,h1],fun h=>by rw[Zj]at *;exact h2 h,by rw[QX];exact h3,by rw[zE,zE,h4],by rw[zo,zo,h5],by rw[zD,zD,h6],by rw[zw,zw,h7]⟩
 | .obj m=>by
  obtain⟨h1,h2,h3,h4,h5,h6,h7⟩:=Li m;obtain⟨g1,g2,g3,g4,g5,g6⟩:=EM (JN m);rw[nv];exact⟨by rw[Go.Proofs.YtpaecnbdoljafaaGreatDoor.ct,Go.Proofs.YtpaecnbdoljafaaGreatDoor.ct,Lg,Le,h1],fun h=>by rw[Zj]at *;exact g1 (h2 h),by rw[QX,Lg,Le];exact⟨g2 h3,rfl⟩,by rw[zE,zE,g3,h4],by rw[zo,zo,g4,h5],by rw[zD,zD,g5,h6],by rw[zw,zw,g6,h7]⟩
theorem Lh:∀ l:JL,zu (J6 l)=zu l/\(Qb l->Qb (J6 l))/\VJ (J6 l)/\Jt (J6 l)=Jt l/\q7 (J6 l)=q7 l/\ZU (J6 l)=ZU l/\ZG (J6 l)=ZG l
 | .nil=>by rw[J6,VJ];exact⟨rfl,id,trivial,rfl,rfl,rfl,rfl⟩
 | .cons v r=>by
  have h:=VK v;obtain⟨h1,h2,h3,h4,h5,h6,h7⟩:=Lh r;rw[J6];exact⟨by rw[zu,zu,h.ct,h1],fun q=>by rw[Qb]at *;exact⟨h.rd q.1,h2 q.2⟩,by rw[VJ];exact⟨h.sr,h3⟩,by rw[Jt,Jt,h.dep,h4],by rw[q7,q7,h.cnt,h5],by rw[ZU,ZU,h.big,h6],by rw[ZG,ZG,h.tw,h7]⟩
theorem Li:∀ m:JM,zn (JN m)=zn m/\(Qm m->Qm (JN m))/\JK (JN m)/\Ju (JN m)=Ju m/\qy (JN m)=qy m/\ZF (JN m)=ZF m/\∀ ks,ZC ks (JN m)=ZC ks m
 | .nil=>by rw[JN,JK];exact⟨rfl,id,trivial,rfl,rfl,rfl,fun _=>rfl⟩
 | .cons k v r=>by
  have h:=VK v;obtain⟨h1,h2,h3,h4,h5,h6,h7⟩:=Li r;rw[JN];exact⟨by rw[zn,zn,h.ct,h1],fun q=>by rw[Qm]at *;exact⟨q.1,h.rd q.2.1,h2 q.2.2⟩,by rw[JK];exact⟨h.sr,h3⟩,by rw[Ju,Ju,h.dep,h4],by rw[qy,qy,h.cnt,h5],by rw[ZF,ZF,h.big,h6],fun ks=>by rw[ZC,ZC,h.tw,h7]⟩
end
theorem Lj{v:JV}(h:Zj v):qu (zi (ct v))=some (nv v):=by
 have f:=VK v;have:=EH (f.rd h) f.sr
 rwa [f.ct]at this
theorem OM{v:JV}(h:Zj v)(hb:zD v=false)(ht:zw v=false):Zo (zi (ct v))=if 20000<(ct v).length then .inl 1 else if 100<zE v∨3000<zo v then .inl 5 else .inr (nv v):=by
 have f:=VK v;unfold Zo;rw[zS,Lj h];simp only[f.big,f.tw,f.dep,f.cnt,hb,ht];rfl
theorem EN{s:Bs}{i j:Nat}{l:List UInt8}(h:nm s i=some (l,j)):Xq l:=by
 unfold nm at h;split at h
 ·rename_i hd;injection h with h;injection h with h1 h2;have q:zK s i<s.size:=zQ (by have:=qL.1 hd;omega);have u:zK s i<ZT s i:=by
   unfold ZT;split
   ·omega
   ·rw[Y5 hd];have:=(KM (s:=s) (i:=zK s i+1) (by omega)).1;omega
  have m:∀ k,zK s i<=k->k<ZT s i->zT (bt s k)=true:=fun k h1 h2=>by
   unfold ZT at h2;split at h2
   ·have:k=zK s i:=by omega
    rw[this];exact hd
   ·exact Sh h1 h2
  have r:bt s (zK s i)=48->zW s (zK s i+1) (ZT s i)=[]:=fun e=>by
   unfold ZT;rw[yf e];unfold zW;simp
  have n:(s.data.toList.getD (zK s i) 0).toNat=bt s (zK s i):=rfl;have o:∀ b∈zW s (zK s i+1) (ZT s i),zT b.toNat=true:=fun b n=>by
   obtain⟨k,y,w,x⟩:=Si n;rw[x];exact m k (by omega) w
  have hcut:zW s (zK s i) (ZT s i)=s.data.toList.getD (zK s i) 0 :: zW s (zK s i+1) (ZT s i):=F7 u q;by_cases d:bt s i=45
  ·have e:zK s i=i+1:=by unfold zK;rw[yf d]
   have g:zW s i (ZT s i)=[45]++s.data.toList.getD (zK s i) 0 :: zW s (zK s i+1) (ZT s i):=by
    rw[F7 (by omega) (by omega),← e,hcut];have:s.data.toList.getD i 0=45:=UInt8.toNat_inj.1 d;rw[this];rfl
   by_cases f:bt s (zK s i)=48
   ·have v:l=[48]:=by
     rw[← h1,g,r f];have:s.data.toList.getD (zK s i) 0=48:=UInt8.toNat_inj.1 f;rw[this];rfl
    subst v;exact⟨[],[],48,rfl,.inl rfl,rfl,fun b n=>by simp at n,fun _=>⟨rfl,rfl⟩⟩
   ·refine⟨[45],_,_,?_,.inr rfl,hd,o,fun h=>absurd h f⟩;rw[← h1,g];unfold qE;rw[ye];intro e;simp only[List.cons_append,List.nil_append,List.cons.injEq,true_and]at e;exact f (by rw[← n,e.1];rfl)
  ·have e:zK s i=i:=by unfold zK;rw[ye d]
   refine⟨[],zW s (zK s i+1) (ZT s i),s.data.toList.getD (zK s i) 0,?_,.inl rfl,hd,o,fun h=>⟨r h,rfl⟩⟩;rw[← h1,List.nil_append,← hcut];unfold qE;rw[ye,e];intro p;have a:=hcut;rw[e]at a;rw[a]at p;injection p with p _;exact d (by show (s.data.toList.getD i 0).toNat=45;rw[p];rfl)
 ·cases h
theorem Gz(s:Bs):∀ f i,(∀ v j,pv s f i=some (v,j)->Zj v)/\(∀ l j,pa s f i=some (l,j)->Qb l)/\(∀ m j,po s f i=some (m,j)->Qm m)
 | 0,i=>⟨fun v j h=>by simp[pv]at h,fun v j h=>by simp[pa]at h,fun v j h=>by simp[po]at h⟩
 | f+1,i=>by
  refine⟨fun v j h=>?_,fun l j h=>?_,fun m j h=>?_⟩
  ·rw[pv]at h;split at h
   ·split at h
    ·injection h with h;injection h with hv h;subst hv;rw[Zj,Qb];trivial
    ·simp only[yy]at h;obtain⟨⟨l,k⟩,hk,h⟩:=h;injection h with hv h;subst hv;rw[Zj];exact (Gz s f (sk s (i+1))).2.1 l k hk
   ·split at h
    ·split at h
     ·injection h with h;injection h with hv h;subst hv;rw[Zj,Qm];trivial
     ·simp only[yy]at h;obtain⟨⟨l,k⟩,hk,h⟩:=h;injection h with hv h;subst hv;rw[Zj];exact (Gz s f (sk s (i+1))).2.2 l k hk
    ·split at h
     ·simp only[yy]at h;obtain⟨⟨l,k⟩,hk,h⟩:=h;injection h with hv h;subst hv;rw[Zj];exact KU hk
     ·split at h
      ·injection h with h;injection h with hv h;subst hv;rw[Zj];trivial
      ·split at h
       ·injection h with h;injection h with hv h;subst hv;rw[Zj];trivial
       ·split at h
        ·injection h with h;injection h with hv h;subst hv;rw[Zj];trivial
        ·simp only[yy]at h;obtain⟨⟨l,k⟩,hk,h⟩:=h;injection h with hv h;subst hv;rw[Zj];exact EN hk
  ·rw[pa]at h;simp only[Option.bind_eq_some_iff]at h;obtain⟨⟨v,k⟩,hk,h⟩:=h;have b:=(Gz s f i).1 v k hk;simp only at h;split at h
   ·injection h with h;injection h with hv h;subst hv;rw[Qb,Qb];exact⟨b,trivial⟩
   ·split at h
    ·simp only[yy]at h;obtain⟨⟨l,n⟩,d,h⟩:=h;injection h with hv h;subst hv;rw[Qb];exact⟨b,(Gz s f _).2.1 l n d⟩
    ·cases h
  ·rw[po]at h;simp only[Option.bind_eq_some_iff]at h;obtain⟨⟨p,a⟩,o,h⟩:=h;have g:=KU o;simp only at h;split at h
   ·simp only[Option.bind_eq_some_iff]at h;obtain⟨⟨v,k⟩,hk,h⟩:=h;have b:=(Gz s f _).1 v k hk;simp only at h;split at h
    ·injection h with h;injection h with hv h;subst hv;rw[Qm,Qm];exact⟨g,b,trivial⟩
    ·split at h
     ·simp only[yy]at h;obtain⟨⟨l,n⟩,d,h⟩:=h;injection h with hv h;subst hv;rw[Qm];exact⟨g,b,(Gz s f _).2.2 l n d⟩
     ·cases h
   ·cases h
theorem EO{s:Bs}{i j:Nat}{v:JV}(h:val s i=some (v,j)):Zj v:=(Gz s _ i).1 v j h
theorem Lk{s:Bs}{v:JV}(h:qu s=some v):Zj v:=by
 unfold qu at h
 cases hv:val s (sk s 0)with
 | none=>rw[hv]at h;simp at h
 | some q=>
  obtain⟨u,j⟩:=q;rw[hv]at h;simp only[yz]at h;split at h
  ·injection h with h;subst h;exact EO hv
  ·cases h
theorem EQ(b:Nat):(Lib.firstT b % 8=2∨Lib.firstT b % 8=3∨Lib.firstT b % 8=4)->128<=Lib.accLo (Lib.firstT b / 16):=by
 unfold Lib.firstT
 repeat' split
 all_goals decide
theorem ER (n N b1 b2 b3 c1 c2 c3 sz lo hi:Nat) (hn:1<=n) (hN:n<N) (hlo:(sz=2∨sz=3∨sz=4)->128<=lo)
  (h1:(1<n->b1=c1)/\(n=1->b1<128)) (h2:(2<n->b2=c2)/\(n=2->b2<128)) (h3:(3<n->b3=c3)/\(n=3->b3<128)):
  Lib.checkN N b1 b2 b3 sz lo hi=Lib.checkN n c1 c2 c3 sz lo hi/\∀ k,Lib.checkN n c1 c2 c3 sz lo hi=some k->k<=n/\2<=k:=by
 unfold Lib.checkN;by_cases a:sz=2
 ·rw[yf a,yf a];have f:=hlo (.inl a);by_cases q:n<2∨c1<lo∨hi<c1
  ·rw[yf q,yf (by omega)];exact⟨rfl,fun k h=>by cases h⟩
  ·rw[ye q,ye (by omega)];exact⟨rfl,fun k h=>by injection h with h;omega⟩
 ·rw[ye a,ye a];by_cases b:sz=3
  ·rw[yf b,yf b];have f:=hlo (.inr (.inl b));by_cases q:n<3∨c1<lo∨hi<c1∨c2<128∨191<c2
   ·rw[yf q,yf (by omega)];exact⟨rfl,fun k h=>by cases h⟩
   ·rw[ye q,ye (by omega)];exact⟨rfl,fun k h=>by injection h with h;omega⟩
  ·rw[ye b,ye b];by_cases d:sz=4
   ·rw[yf d,yf d];have f:=hlo (.inr (.inr d));by_cases q:n<4∨c1<lo∨hi<c1∨c2<128∨191<c2∨c3<128∨191<c3
    ·rw[yf q,yf (by omega)];exact⟨rfl,fun k h=>by cases h⟩
    ·rw[ye q,ye (by omega)];exact⟨rfl,fun k h=>by injection h with h;omega⟩
   ·rw[ye d,ye d];exact⟨rfl,fun k h=>by cases h⟩
theorem ON(a b:List UInt8)(c:UInt8)(hc:c.toNat<128)(k:Nat):(k<a.length->((a++c :: b).getD k 0).toNat=(a.getD k 0).toNat)/\(a.length=k->((a++c :: b).getD k 0).toNat<128):=by
 refine⟨fun h=>?_,fun h=>?_⟩
 ·simp only[List.getD];rw[List.getElem?_append_left h]
 ·subst h;simp only[List.getD];rw[List.getElem?_append_right (yd _)];simpa using hc
theorem OO(b:List UInt8)(c:UInt8)(hc:c.toNat<128):∀ (n:Nat) (a:List UInt8),a.length<=n->Lib.validD (a++c :: b)=(Lib.validD a && Lib.validD b)
 | n,[],_=>by rw[List.nil_append,Lib.validD_cons c b hc,Lib.validD_nil];rfl
 | 0,x :: a,h=>by simp at h
 | n+1,x :: a,h=>by
  by_cases hx:x.toNat<128
  ·rw[List.cons_append,Lib.validD_cons x _ hx,Lib.validD_cons x _ hx];exact OO b c hc n a (by simpa using h)
  ·have e0:(((x :: a)++c :: b).getD 0 0)=x:=rfl;have d:((x :: a).getD 0 0)=x:=rfl;rw[Lib.validD_lead ((x :: a)++c :: b) (by simp) (by rw[e0];omega),Lib.validD_lead (x :: a) (by simp) (by rw[d];omega),e0,d];have f:=ON (x :: a) b c hc 1;have g:=ON (x :: a) b c hc 2;have i:=ON (x :: a) b c hc 3;have j:(x :: a).length<((x :: a)++c :: b).length:=by rw[yg,ym (a:=c)];omega
   have l:1<=(x :: a).length:=by simp
   obtain⟨m,o⟩:=ER (x :: a).length ((x :: a)++c :: b).length _ _ _ _ _ _ (Lib.firstT x.toNat % 8) (Lib.accLo (Lib.firstT x.toNat / 16)) (Lib.accHi (Lib.firstT x.toNat / 16)) l j (EQ x.toNat) f g i;rw[m]
   cases hk:Lib.checkN (x :: a).length ((x :: a).getD 1 0).toNat ((x :: a).getD 2 0).toNat ((x :: a).getD 3 0).toNat (Lib.firstT x.toNat % 8) (Lib.accLo (Lib.firstT x.toNat / 16)) (Lib.accHi (Lib.firstT x.toNat / 16))with
   | none=>rfl
   | some k=>
    obtain⟨p,q⟩:=o k hk;simp only;rw[List.drop_append_of_le_length p];exact OO b c hc n ((x :: a).drop k) (by rw[yt];omega)
theorem GA(a b:List UInt8)(c:UInt8)(hc:c.toNat<128):Lib.validD (a++c :: b)=(Lib.validD a && Lib.validD b):=OO b c hc a.length a (yd _)
theorem Ll:∀ k:Fin 16,(QJ.getD k.val 0).toNat<128:=by decide
theorem ET{c:UInt8}(h:c.toNat<128):∃ x ys,qB c=x :: ys/\x.toNat<128/\∀ y∈ys,y.toNat<128:=by
 unfold qB
 repeat' split
 ·exact⟨_,_,rfl,by decide,fun y hy=>by simp at hy;subst hy;exact h⟩
 ·exact⟨_,_,rfl,by decide,by decide⟩
 ·exact⟨_,_,rfl,by decide,by decide⟩
 ·exact⟨_,_,rfl,by decide,by decide⟩
 ·exact⟨_,_,rfl,by decide,by decide⟩
 ·exact⟨_,_,rfl,by decide,by decide⟩
 ·rename_i h32;have a:=Ll ⟨c.toNat / 16,by omega⟩;have b:=Ll ⟨c.toNat % 16,by omega⟩;refine⟨_,_,rfl,by decide,fun y hy=>?_⟩;simp only[List.mem_cons,List.not_mem_nil,or_false]at hy;rcases hy with rfl | rfl | rfl | rfl | rfl
  ·decide
  ·decide
  ·decide
  ·exact a
  ·exact b
 ·exact⟨c,[],rfl,h,fun y hy=>by simp at hy⟩
theorem Lm:∀ l:List UInt8,∃ a r:List UInt8,l=a++r/\(∀ c∈a,128<=c.toNat)/\(r=[]∨∃ c b,r=c :: b/\c.toNat<128)
 | []=>⟨[],[],rfl,fun c hc=>by simp at hc,.inl rfl⟩
 | x :: l=>by
  by_cases hx:x.toNat<128
  ·exact⟨[],x :: l,rfl,fun c hc=>by simp at hc,.inr ⟨x,l,rfl,hx⟩⟩
  ·obtain⟨a,r,e,ha,hr⟩:=Lm l;refine⟨x :: a,r,by rw[e];rfl,fun c hc=>?_,hr⟩;rcases List.mem_cons.1 hc with rfl | hc
   ·omega
   ·exact ha c hc
theorem Ln:∀ (n:Nat) (l:List UInt8),l.length<=n->Lib.validD (qs l)=Lib.validD l
 | _,[],_=>rfl
 | 0,x :: l,h=>by simp at h
 | n+1,x :: l,h=>by
  obtain⟨a,r,e,ha,hr⟩:=Lm (x :: l);rw[e,U9,Kc a ha];rcases hr with rfl |⟨c,b,rfl,g⟩
  ·rw[show qs ([]:List UInt8)=[]from rfl,List.append_nil]
  ·obtain⟨y,f,q,k,d⟩:=ET g;have i:qs (c :: b)=y ::(f++qs b):=by show qB c++qs b=_;rw[q];rfl
   have j:b.length<=n:=by have:=congrArg List.length e;rw[yg,ym,ym]at this;rw[ym]at h;omega
   rw[i,GA a _ y k,GA a b c g,Lib.validD_ascii f.length (f++qs b) (by rw[List.take_left];exact d),List.drop_left,Ln n b j]
theorem Xr(l:List UInt8):Lib.validD (quoted l)=Lib.validD l:=by
 unfold quoted;rw[Lib.validD_cons 34 _ (by decide),GA (qs l) [] 34 (by decide),Lib.validD_nil,Bool.and_true,Ln l.length l (yd _)]
theorem Lo:∀ (r:List (List UInt8)) (t:List UInt8),Lib.validD (t++joinT r)=(Lib.validD t && r.all Lib.validD)
 | [],t=>by simp[joinT]
 | u :: r,t=>by rw[joinT,GA t _ 44 (by decide),Lo r u,List.all_cons]
theorem Lp(ts:List (List UInt8)):Lib.validD (joinC ts)=ts.all Lib.validD:=by
 cases ts with
 | nil=>rfl
 | cons t r=>rw[joinC,Lo,List.all_cons]
theorem Lq(ts:List (List UInt8)):Lib.validD (Zi ts)=ts.all Lib.validD:=by
 unfold Zi;rw[Lib.validD_cons 91 _ (by decide),GA (joinC ts) [] 93 (by decide),Lib.validD_nil,Bool.and_true,Lp]
theorem EU(p:List UInt8×List UInt8):Lib.validD (zt p)=(Lib.validD p.1 && Lib.validD p.2):=by
 unfold zt;rw[GA (quoted p.1) p.2 58 (by decide),Xr]
theorem Lr(ps:List (List UInt8×List UInt8)):Lib.validD (ZD ps)=ps.all fun p=>Lib.validD p.1 && Lib.validD p.2:=by
 unfold ZD;rw[Lib.validD_cons 123 _ (by decide),GA (joinC (ps.map zt)) [] 125 (by decide),Lib.validD_nil,Bool.and_true,Lp,List.all_map];congr 1;funext p;exact EU p
mutual
theorem OP:∀ v:JV,zy v->Lib.validD (ct v)=true
 | .nul,_=>by rfl
 | .tt,_=>by rfl
 | .ff,_=>by rfl
 | .num l,h=>by
  rw[zy]at h;obtain⟨c,r,rfl,hc,hr⟩:=h;have hc':c.toNat=45∨(48<=c.toNat/\c.toNat<=57):=hc.imp id qL.1;show Lib.validD (c :: r)=true
  rw[Lib.validD_cons c r (by omega),Lib.validD_ascii r.length r (fun b hb=>by have:=qL.1 (hr b (List.mem_of_mem_take hb));omega),List.drop_length,Lib.validD_nil]
 | .str l,h=>by rw[zy]at h;show Lib.validD (quoted l)=true;rw[Xr];exact h
 | .arr l,h=>by rw[zy]at h;show Lib.validD (Zi (zu l))=true;rw[Lq,List.all_eq_true];exact Ls l h
 | .obj m,h=>by
  rw[zy]at h;show Lib.validD (ZD (zz (zn m)))=true
  rw[Lr,List.all_eq_true];exact fun p hp=>Lt m h p ((qj _).subset hp)
theorem Ls:∀ l:JL,Z8 l->∀ t∈zu l,Lib.validD t=true
 | .nil,_,t,ht=>by simp[zu]at ht
 | .cons v r,h,t,ht=>by
  rw[Z8]at h;rw[zu]at ht;rcases List.mem_cons.1 ht with rfl | ht
  ·exact OP v h.1
  ·exact Ls r h.2 t ht
theorem Lt:∀ m:JM,Z6 m->∀ p∈zn m,(Lib.validD p.1 && Lib.validD p.2)=true
 | .nil,_,t,ht=>by simp[zn]at ht
 | .cons k v r,h,t,ht=>by
  rw[Z6]at h;rw[zn]at ht;rcases List.mem_cons.1 ht with rfl | ht
  ·rw[Bool.and_eq_true];exact⟨h.1,OP v h.2.1⟩
  ·exact Lt r h.2.2 t ht
end
def EW(T:Bs)(P:List UInt8->Prop):Prop:=∀ t t',P t->P t'->∀ i m m',T.data.toList.drop i=t++m->Vy m->T.data.toList.drop i=t'++m'->Vy m'->t=t'
theorem EX{T:Bs}{P:List UInt8->Prop}(hP:EW T P)(hne:∀ t,P t->t≠[]){cs ds:List (List UInt8)}{a a' c c':UInt8}(h:T.data.toList=a ::(joinC cs++[c]))(h':T.data.toList=a' ::(joinC ds++[c']))(hc:c.toNat=93∨c.toNat=125)(hc':c'.toNat=93∨c'.toNat=125)(t1:∀ t∈cs,P t)(t2:∀ t∈ds,P t):cs=ds:=by
 have i:∀ k,k<=cs.length->k<=ds.length->cs.take k=ds.take k:=by
  intro k;induction k with
  | zero=>intro _ _;simp
  | succ k ih=>
   intro w x;have e:=ih (by omega) (by omega);have p:=Ux h k (by omega);have m:=Ux h' k (by omega);have o:pk cs k=pk ds k:=by unfold pk;rw[e]
   rw[← o]at m;have:=hP _ _ (t1 _ (yq (by omega:k<cs.length))) (t2 _ (yq (by omega:k<ds.length))) _ _ _ p (K0 _ c hc) m (K0 _ c' hc');rw[yx (by omega),yx (by omega),e,this]
 have f:∀ {d g:List (List UInt8)} {b l e n:UInt8},T.data.toList=b ::(joinC d++[e])->T.data.toList=l ::(joinC g++[n])->(∀ t∈g,P t)->d.take d.length=g.take d.length->¬ d.length<g.length:=by
  intro d g b l e n hx s u q j;have p1:=Uz hx;have A:=Uy s d.length j;have o:pk d d.length=pk g d.length:=by unfold pk;rw[q]
  have r:=hne _ (u _ (yq j));have:1<=(g[d.length]).length:=by
   cases hq:g[d.length]with
   | nil=>exact absurd hq r
   | cons _ _=>simp
  omega
 have y:¬ cs.length<ds.length:=fun hl=>f h h' t2 (i _ (yd _) (by omega)) hl;have z:¬ ds.length<cs.length:=fun hl=>f h' h t1 (i _ (by omega) (yd _)).symm hl;have v:cs.length=ds.length:=by omega
 have:=i cs.length (yd _) (by omega)
 rwa [yp (yd _),yp (by omega)]at this
def kd:JV->Nat
 | .nul=>0 | .tt=>1 | .ff=>2 | .num _=>3 | .str _=>4 | .arr _=>5 | .obj _=>6
def fb(c:Nat):Nat:=if c=110 then 0 else if c=116 then 1 else if c=102 then 2 else if c=34 then 4 else if c=91 then 5 else if c=123 then 6 else 3
theorem OQ{v:JV}(h:zy v):∃ c r,ct v=c :: r/\fb c.toNat=kd v:=by
 cases v with
 | nul=>exact⟨_,_,rfl,rfl⟩
 | tt=>exact⟨_,_,rfl,rfl⟩
 | ff=>exact⟨_,_,rfl,rfl⟩
 | num l=>
  rw[zy]at h;obtain⟨c,r,rfl,a,_⟩:=h;refine⟨c,r,rfl,?_⟩;have:c.toNat=45∨(48<=c.toNat/\c.toNat<=57):=a.imp id qL.1;unfold fb kd
  repeat (rw[ye (by omega)])
 | str l=>exact⟨_,_,rfl,rfl⟩
 | arr l=>exact⟨_,_,rfl,rfl⟩
 | obj m=>exact⟨_,_,rfl,rfl⟩
def EY:JV->JV->Bool
 | .nul,.nul=>true
 | .tt,.tt=>true
 | .ff,.ff=>true
 | .num a,.num b=>a ==b
 | .str a,.str b=>a ==b
 | _,_=>false
theorem E2{c:UInt8}(h:128<=c.toNat):qB c=[c]:=by
 unfold qB;rw[ye (by omega),ye (by omega),ye (by omega),ye (by omega),ye (by omega),ye (by omega),ye (by omega)]
theorem OR:∀ {l:List UInt8},(∀ c∈l,128<=c.toNat)->qs l=l
 | [],_=>rfl
 | c :: r,h=>by
  have h1:=OR (l:=r) fun x hx=>h x (yu _ hx);have a:=E2 (h c yo);show qB c++qs r=c :: r
  rw[h1,a];rfl
theorem Xs{x:Int}(h0:128<=x)(h1:x<=255):128<=(x.toNat.toUInt8).toNat:=by
 have:(x.toNat.toUInt8).toNat=x.toNat % 256:=rfl;rw[this];omega
theorem E3{r:Nat}(h:128<=r)(h2:r<=1114111):(∀ c∈Zw r,128<=c.toNat)/\(r<=2047->(Zw r).length=2)/\(r<=65535->(Zw r).length<=3):=by
 unfold Zw Lib.encodeRune;by_cases a:r<=2047
 ·rw[Lib.encodeRuneZ_two (by omega) (by omega)];refine⟨fun c hc=>?_,fun _=>rfl,fun _=>by simp⟩;simp only[yh,List.map_nil,List.mem_cons,List.not_mem_nil,or_false]at hc;rcases hc with rfl | rfl<;>exact Xs (by omega) (by omega)
 ·by_cases b:(2048<=(r:Int)/\(r:Int)<55296)∨(57343<(r:Int)/\(r:Int)<=65535)
  ·rw[Lib.encodeRuneZ_three b];refine⟨fun c hc=>?_,fun h=>absurd h a,fun _=>by simp⟩;simp only[yh,List.map_nil,List.mem_cons,List.not_mem_nil,or_false]at hc;rcases hc with rfl | rfl | rfl<;>exact Xs (by omega) (by omega)
  ·by_cases d:65536<=r
   ·rw[Lib.encodeRuneZ_four (by omega) (by omega)];refine⟨fun c hc=>?_,fun h=>absurd h a,fun h=>by omega⟩;simp only[yh,List.map_nil,List.mem_cons,List.not_mem_nil,or_false]at hc;rcases hc with rfl | rfl | rfl | rfl<;>exact Xs (by omega) (by omega)
   ·have e:Lib.encodeRuneZ (r:Int)=[239,191,189]:=by
     unfold Lib.encodeRuneZ;rw[ye (by omega),ye (by omega),ye b,ye (by omega)]
    rw[e];refine⟨fun c hc=>?_,fun h=>absurd h a,fun _=>by simp⟩;simp only[yh,List.map_nil,List.mem_cons,List.not_mem_nil,or_false]at hc;rcases hc with rfl | rfl | rfl<;>exact Xs (by omega) (by omega)
theorem E4{r:Nat}(h:r<=1114111):(qs (Zw r)).length<=6/\(65536<=r->(qs (Zw r)).length<=12):=by
 by_cases a:r<128
 ·rw[F5 a];have:=XN (UInt8.ofNat r);have e:qs [UInt8.ofNat r]=qB (UInt8.ofNat r):=by simp[qs]
  rw[e];omega
 ·obtain⟨b,_,d⟩:=E3 (by omega) h;rw[OR b];have:=Ul r;omega
theorem E5{s:Bs}{i r n:Nat}(h:piece s i=some (r,n))(h34:bt s i≠34):(qs (Zw r)).length<=n:=by
 have b:=Y2 h;unfold piece at h;split at h
 ·unfold Qf at h;split at h
  ·rename_i v a;injection h with h;injection h with h1 h2;subst h1;subst h2;have d:v=34∨v=92∨v=47∨v=8∨v=12∨v=10∨v=13∨v=9:=by
    unfold QO at a
    repeat' split at a
    all_goals first |(injection a with a;omega) | cases a
   rcases d with rfl | rfl | rfl | rfl | rfl | rfl | rfl | rfl<;>decide
  ·simp only[Option.bind_eq_some_iff]at h;obtain⟨u,o,h⟩:=h;have m:=(E4 b.2.2).1;unfold qp at h;split at h
   ·injection h with h;injection h with h1 h2;omega
   ·split at h
    ·cases h
    ·simp only[Option.bind_eq_some_iff]at h;obtain⟨v,a,h⟩:=h;split at h
     ·injection h with h;injection h with h1 h2;omega
     ·cases h
 ·split at h
  ·cases h
  ·split at h
   ·rename_i h92 h32 h128;injection h with h;injection h with h1 h2;subst h1;subst h2;rw[F5 h128];have e:qs [UInt8.ofNat (bt s i)]=qB (UInt8.ofNat (bt s i)):=by simp[qs]
    have g:(UInt8.ofNat (bt s i)).toNat=bt s i:=by rw[UInt8.toNat_ofNat'];omega
    rw[e];unfold qB;rw[g,ye (by omega),ye (by omega),ye (by omega),ye (by omega),ye (by omega),ye (by omega),ye (by omega)];simp
   ·split at h
    ·cases h
    ·rename_i h92 h32 h128 hrl;injection h with h;injection h with h1 h2;have f:i<s.size:=zQ (by omega);have j:¬ s[i].toNat<128:=by rw[← Zg s i f];exact h128
     obtain⟨k,l,_,_⟩:=Vt s i f hrl j;subst h1;subst h2;unfold Zw;rw[k,OR l,yl];omega
theorem E6{s:Bs}:∀ {i j:Nat} {l:List UInt8},qa s i=some (l,j)->(qs l).length+i+1<=j:=by
 intro i;generalize hn:s.size - i=n;induction n using Nat.strongRecOn generalizing i with
 | _ n ih=>
  intro j l h;by_cases a:bt s i=34
  ·rw[Vu a]at h;injection h with h;injection h with h1 h2;subst h1;simp[qs];omega
  ·cases hp:piece s i with
   | none=>rw[Vv a hp]at h;cases h
   | some p=>
    obtain⟨r,b⟩:=p;have g:=Y2 hp;have f:=E5 hp a;rw[Y4 a hp]at h;rcases hq:qa s (i+b)with _ |⟨d,k⟩
    ·rw[hq]at h;cases h
    ·rw[hq]at h;injection h with h;injection h with h1 h2;have:=ih (s.size - (i+b)) (by omega) rfl hq;subst h1;show (qs (Zw r++d)).length+i+1<=j
     rw[U9,yg];simp only at h2;omega
theorem Lu{s:Bs}{i j:Nat}{l:List UInt8}(h:Zq s i=some (l,j)):(quoted l).length+i<=j:=by
 unfold Zq at h;split at h
 ·have:=E6 h;unfold quoted;simp only[ym,yg,yC];omega
 ·cases h
theorem Lv(l:List (List UInt8))(h:l≠[]):(joinC l).length+1=(l.map fun t=>t.length+1).sum:=by
 cases l with
 | nil=>exact absurd rfl h
 | cons t r=>
  rw[joinC,yg,F2,yh,yK];omega
theorem E7(l:List (List UInt8×List UInt8))(h:l≠[]):(ZD (zz l)).length=sumT l+1:=by
 have b:=(qj l);have a:(zz l).map zt≠[]:=by
  intro e;rw[List.map_eq_nil_iff]at e;rw[e]at b;exact h b.symm.eq_nil
 have d:=Lv ((zz l).map zt) a;have f:=Wz l;unfold sumT at *;rw[List.map_map]at d;unfold ZD;simp only[ym,yg,yC];have g:((zz l).map ((fun t=>t.length+1)∘zt)).sum=((zz l).map fun p=>(zt p).length+1).sum:=rfl;omega
theorem GC(s:Bs):∀ f i,(∀ v j,pv s f i=some (v,j)->(ct v).length+i<=j)/\(∀ l j,pa s f i=some (l,j)->zu l≠[]/\((zu l).map fun t=>t.length+1).sum+i<=j)/\(∀ m j,po s f i=some (m,j)->zn m≠[]/\sumT (zn m)+i<=j)
 | 0,i=>⟨fun v j h=>by simp[pv]at h,fun v j h=>by simp[pa]at h,fun v j h=>by simp[po]at h⟩
 | f+1,i=>by
  refine⟨fun v j h=>?_,fun l j h=>?_,fun m j h=>?_⟩
  ·have hok:=(qb s (f+1) i).1 v j h;rw[pv]at h;have g:=zO s (i+1);split at h
   ·split at h
    ·injection h with h;injection h with b h;subst b;simp[ct,zu,Zi,joinC];omega
    ·simp only[yy]at h;obtain⟨⟨l,k⟩,d,h⟩:=h;injection h with b h;have o:=(GC s f (sk s (i+1))).2.1 l k d;have u:=(qb s f (sk s (i+1))).2.1 l k d;have B:=Lv (zu l) o.1;have o:=o.2;subst b;simp only[ct,Zi,ym,yg,yC];simp only at h;omega
   ·split at h
    ·split at h
     ·injection h with h;injection h with b h;subst b;simp[ct,zn,ZD,zz,joinC];omega
     ·simp only[yy]at h;obtain⟨⟨l,k⟩,d,h⟩:=h;injection h with b h;have o:=(GC s f (sk s (i+1))).2.2 l k d;have u:=(qb s f (sk s (i+1))).2.2 l k d;have B:=E7 (zn l) o.1;have o:=o.2;subst b;simp only[ct];simp only at h;omega
    ·split at h
     ·simp only[yy]at h;obtain⟨⟨l,k⟩,d,h⟩:=h;injection h with b h;have o:=Lu d;subst b;simp only[ct];simp only at h;omega
     ·split at h
      ·injection h with h;injection h with b h;subst b;simp[ct];omega
      ·split at h
       ·injection h with h;injection h with b h;subst b;simp[ct];omega
       ·split at h
        ·injection h with h;injection h with b h;subst b;simp[ct];omega
        ·simp only[yy]at h;obtain⟨⟨l,k⟩,d,h⟩:=h;injection h with b h;have o:=RT d;subst b;simp only[ct];simp only at h;omega
  ·rw[pa]at h;simp only[Option.bind_eq_some_iff]at h;obtain⟨⟨v,k⟩,d,h⟩:=h;have o:=(qb s f i).1 v k d;have r:=(GC s f i).1 v k d;have y:=zO s k;simp only at h;split at h
   ·injection h with h;injection h with b h;subst b;refine⟨by simp[zu],?_⟩;simp[zu];omega
   ·split at h
    ·simp only[yy]at h;obtain⟨⟨l,n⟩,q,h⟩:=h;injection h with b h;have u:=(qb s f _).2.1 l n q;have w:=(GC s f _).2.1 l n q;have z:=zO s (sk s k+1);subst b;refine⟨by simp[zu],?_⟩;simp only[zu,yh,yK];simp only at h;omega
    ·cases h
  ·rw[po]at h;simp only[Option.bind_eq_some_iff]at h;obtain⟨⟨p,a⟩,x,h⟩:=h;have b:=Js x;have A:=Lu x;simp only at h;split at h
   ·simp only[Option.bind_eq_some_iff]at h;obtain⟨⟨v,k⟩,d,h⟩:=h;have o:=(qb s f _).1 v k d;have r:=(GC s f _).1 v k d;have D:=zO s a;have E:=zO s (sk s a+1);have y:=zO s k;simp only at h;split at h
    ·injection h with h;injection h with b h;subst b;refine⟨by simp[zn],?_⟩;simp[zn,sumT,zt];omega
    ·split at h
     ·simp only[yy]at h;obtain⟨⟨l,n⟩,q,h⟩:=h;injection h with b h;have u:=(qb s f _).2.2 l n q;have w:=(GC s f _).2.2 l n q;have z:=zO s (sk s k+1);subst b;have e:sumT (zn (.cons p v l))=(zt (p,ct v)).length+1+sumT (zn l):=by simp[zn,sumT]
      have C:(zt (p,ct v)).length=(quoted p).length+1+(ct v).length:=by simp[zt];omega
      refine⟨by simp[zn],?_⟩;simp only at h ⊢;omega
     ·cases h
   ·cases h
theorem E8{s:Bs}{i j:Nat}{v:JV}(h:val s i=some (v,j)):(ct v).length+i<=j:=(GC s _ i).1 v j h
theorem E9{s:Bs}{v:JV}(h:qu s=some v):(ct v).length<=s.size:=by
 unfold qu at h
 cases hv:val s (sk s 0)with
 | none=>rw[hv]at h;simp at h
 | some q=>
  rw[hv]at h;simp only[yz]at h;split at h
  ·rename_i hs;injection h with h;subst h;have a:=E8 (v:=q.1) (j:=q.2) hv;have b:=zO s q.2;omega
  ·cases h
def Lw(x:List UInt8):List (List UInt8)->List (List UInt8)
 | []=>[x]
 | y :: r=>if y<x then y :: Lw x r else if y=x then y :: r else x :: y :: r
def Aa(l:List (List UInt8)):List (List UInt8):=l.foldl (fun acc x=>Lw x acc) []
def UT(K:List (List UInt8×JV))(key:List UInt8):Option JV:=(K.find? fun q=>q.1 ==key).map (·.2)
def Ab:JV->JV->Bool
 | .arr l,.arr m=>l.toL.length ==m.toL.length
 | .obj _,.obj _=>true
 | _,_=>false
def Lx(a b:JV):List (List UInt8):=match a with
 | .arr _=>(zZ a).map (·.1)
 | _=>Aa ((zZ a).map (·.1)++(zZ b).map (·.1))
def Ly:Nat->List UInt8->JV->JV->List (List UInt8)
 | 0,_,_,_=>[]
 | n+1,p,a,b=>if Ab a b=true then (Lx a b).flatMap fun key=>match UT (zZ a) key,UT (zZ b) key with
   | some u,some v=>Ly n (Z7 p key) u v
   | _,_=>[Z7 p key]
  else if EY a b=true then []else [p]
def Ac(n:Nat)(p:List UInt8)(a b:JV)(key:List UInt8):List (List UInt8):=match UT (zZ a) key,UT (zZ b) key with
 | some u,some v=>Ly n (Z7 p key) u v
 | _,_=>[Z7 p key]
end Go.Proofs.YtpaecnbdoljafaaGreatDoor
