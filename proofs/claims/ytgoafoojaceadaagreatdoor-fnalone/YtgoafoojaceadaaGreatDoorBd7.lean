import Derived.Test.YtgoafoojaceadaaGreatDoorBd4
import Derived.Test.YtgoafoojaceadaaGreatDoorBd6
set_option maxRecDepth 100000
set_option maxHeartbeats 8000000
namespace Go.Proofs.YtgoafoojaceadaaGreatDoor
open Go.RowKit Go.Sort Go.Proofs.Tryz
variable{rb B:Nat}{w w':Wo}
theorem PS(s:Bs)(i:Nat)(h:i<s.size):Lib.decodeGo (s.extract i s.size)=Utf8.decode s i:=by
 have b:(s.extract i s.size).size=s.size - i:=sm;unfold Lib.decodeGo;rw[yf om,Vc,Vc,b];have a:∀ k,bt (s.extract i s.size) k=bt s (i+k):=by
  intro k;unfold bt;rw[Lib.extract_data,List.getD_eq_getElem?_getD,List.getD_eq_getElem?_getD,List.getElem?_take,List.getElem?_drop];split
  .rfl
  .rw[List.getElem?_eq_none (by rw[Zo];omega)]
 rw[a,a,a,a];rfl
theorem zkt(s:Bs)(i:Nat)(h:i=s.size):Lib.decodeGo (s.extract i s.size)=(65533,0):=by
 have a:(s.extract i s.size).size=0:=so;unfold Lib.decodeGo;rw[yg a]
theorem zbc (rb:Nat) (s:Bs) (i:Nat) (tb kt:Bool) (w:Wo) (h:zr rb s i tb kt w) (hs:s.size<=1048576) (hi:i<=s.size) (hn:bt s i≠92∨i=s.size) (B:Nat) (hT:Qg B w) (hB:B<=rb)
  (r n:Nat) (hd:Lib.decodeGo (s.extract i s.size)=(r,n)) (h32:32<=r) (hr:r<=1114111) (hn2:r=65533->2<=n) (hin:i+n<=s.size):
  Calls prog 212 #[rb] w fun e w'=>e= .returned (.int .i32 r)/\zr rb s (i+n) tb kt w'/\KB rb w w':=by
 have m:=zb (Gz rb s i tb kt w h hi 92 hn);have o:=zb hT;have v:=h.lt;go_in;go_wp2_with fail;go_call m as e w1 ⟨rfl,r1,k1⟩;have u:=o.next (k1.below hB om) (ye _);have k:Hid (∀ d os,Calls prog 239 #[(s.extract i s.size)] (grow (redrawn w1 d) os) fun e w''=>e= .returned (.tuple #[.int .i32 r,.int .i64 n])/\∃ p:Regrown,w''=grow (redrawn w1 p.d) p.os):=fun d os=>by
  have c:=Any.utf8_DecodeRuneInString Tryz.laysDecode (s.extract i s.size) (grow (redrawn w1 d) os) ((u.tabs).below (below_regrown w1 d os));rw[hd]at c;exact Calls.regrown_of c
 have c0:=fun d os=>cell_regrown r1.text d os;have c1:=fun d os=>cell_regrown r1.at d os;have q:=zb r1;go_wp2_with fail;refine wp_region_quiet_below kr kr ?_
 repeat (first | go_big_quiet_step ((go_at_call 239;exact uh k _ _)) | quiet_step ((go_at_call 239;exact uh k _ _)))
 refine wpQuiet_nil ?_;intro _ j;obtain⟨⟨g,a⟩,b⟩:=j;subst b;have f:=q.below (below_regrown w1 g a);have l:=k1.trans (KB.of_below (below_regrown w1 g a));generalize grow (redrawn w1 g) a=A at *;have c1:=f.at;have y:=f.frozen;have RR:=zb f;by_cases e:r=65533
 .have x:((r:Int) ==65533)=true:=by rw[yD];omega
  have z:¬ (n:Int)<=1:=by have:=hn2 e;omega
  go_wp2;go_ret;exact⟨rfl,RR.set _ _ om,l.set 1 _⟩
 .have x:((r:Int) ==65533)=false:=by rw[yd];omega
  go_wp2;go_ret;exact⟨rfl,RR.set _ _ om,l.set 1 _⟩
theorem LT (rb:Nat) (s:Bs) (i:Nat) (tb kt:Bool) (w:Wo) (h:zr rb s i tb kt w) (hi:i<=s.size) (hn:bt s i≠92∨i=s.size) (B:Nat) (hT:Qg B w) (hB:B<=rb)
  (r n:Nat) (hd:Lib.decodeGo (s.extract i s.size)=(r,n)) (hbad:(r=65533/\n<=1)∨r<32):
  Calls prog 212 #[rb] w fun e w'=>e=JZ/\KB rb w w':=by
 have l:=zb (Gz rb s i tb kt w h hi 92 hn);have m:=zb hT;have q:=h.lt;go_in;go_wp2_with fail;go_call l as e w1 ⟨rfl,r1,k1⟩;have o:=m.next (k1.below hB om) (ye _);have g:Hid (∀ d os,Calls prog 239 #[(s.extract i s.size)] (grow (redrawn w1 d) os) fun e w''=>e= .returned (.tuple #[.int .i32 r,.int .i64 n])/\∃ p:Regrown,w''=grow (redrawn w1 p.d) p.os):=fun d os=>by
  have c:=Any.utf8_DecodeRuneInString Tryz.laysDecode (s.extract i s.size) (grow (redrawn w1 d) os) ((o.tabs).below (below_regrown w1 d os));rw[hd]at c;exact Calls.regrown_of c
 have c0:=fun d os=>cell_regrown r1.text d os;have c1:=fun d os=>cell_regrown r1.at d os;go_wp2_with fail;refine wp_region_quiet_below kr kr ?_
 repeat (first | go_big_quiet_step ((go_at_call 239;exact uh g _ _)) | quiet_step ((go_at_call 239;exact uh g _ _)))
 refine wpQuiet_nil ?_;intro _ f;obtain⟨⟨k,b⟩,a⟩:=f;subst a;have j:=k1.trans (KB.of_below (below_regrown w1 k b));generalize grow (redrawn w1 k) b=x at *;rcases hbad with ⟨e,v⟩ | e
 .have u:((r:Int) ==65533)=true:=by rw[yD];omega
  go_wp2;exact⟨rfl,rfl,j⟩
 .have u:((r:Int) ==65533)=false:=by rw[yd];omega
  go_wp2;exact⟨rfl,rfl,j⟩
theorem zku(rb:Nat)(s:Bs)(i:Nat)(tb kt:Bool)(w:Wo)(h:zr rb s i tb kt w)(hs:s.size<=1048576)(h0:bt s i=92):
  Calls prog 212 #[rb] w (VM rb s tb kt w ((Js s i).map fun p=>(.int .i32 (p.1:Int),i+p.2))):=by
 have g:=Zi (by rw[h0];decide);have d:=zb (Wj rb s i tb kt w h hs 92 h0 g);have b:=zb fun w (h:zr rb s (i+1) tb kt w)=>zjB rb s i tb kt w h hs om h0;generalize Js s i=o at *
 cases o with
 | none=>
  go_in;go_wp2_with fail;go_call d as e w1 ⟨rfl,r1,k1⟩;have a:=zb r1;go_wp2_with fail;go_call uh b _ (uh a) as e w2 ⟨k2,rfl⟩;exact⟨rfl,k1.trans k2,rfl⟩
 | some p=>
  go_in;go_wp2_with fail;go_call d as e w1 ⟨rfl,r1,k1⟩;have a:=zb r1;go_wp2_with fail;go_call uh b _ (uh a) as e w2 ⟨k2,rfl,r2⟩;have f:=zb r2;go_wp2;go_ret;exact⟨k1.trans k2,rfl,f⟩
theorem zbd(s:Bs)(i:Nat)(hb:bt s i<128):Utf8.decode s i=(bt s i,1):=by
 rw[Vc];unfold Lib.decodeN;rw[yg hb]
theorem zkv(rb:Nat)(s:Bs)(i:Nat)(tb kt:Bool)(w:Wo)(h:zr rb s i tb kt w)(hs:s.size<=1048576)(hi:i<=s.size)(B:Nat)(hT:Qg B w)(hB:B<=rb):
  Calls prog 212 #[rb] w (VM rb s tb kt w ((piece s i).map fun p=>(.int .i32 (p.1:Int),i+p.2))):=by
 by_cases f:bt s i=92
 .have e:piece s i=Js s i:=by unfold piece;rw[yg f]
  rw[e];exact zku rb s i tb kt w h hs f
 by_cases j:i=s.size
 .exact (LT rb s i tb kt w h hi (.inr j) B hT hB 65533 0 (zkt s i j) (.inl ⟨rfl,om⟩)).mono fun e w' hh=>F1 (by rw[DQ om];rfl) hh
 have b:i<s.size:=om;by_cases d:bt s i<32
 .have e:piece s i=none:=by unfold piece;rw[yf f,yg d]
  exact (LT rb s i tb kt w h hi (.inl f) B hT hB (bt s i) 1 (by rw[PS s i b,zbd s i om]) (.inr d)).mono fun _ w' hh=>F1 (by rw[e];rfl) hh
 by_cases a:bt s i<128
 .have e:piece s i=some (bt s i,1):=by unfold piece;rw[yf f,yf d,yg a]
  exact (zbc rb s i tb kt w h hs hi (.inl f) B hT hB (bt s i) 1 (by rw[PS s i b,zbd s i a]) om om om om).mono fun _ w' hh=>GM (by rw[e];rfl) hh
 by_cases k:rl s i=0
 .have e:piece s i=none:=by unfold piece;rw[yf f,yf d,yf a,yg k]
  exact (LT rb s i tb kt w h hi (.inl f) B hT hB 65533 1 (by rw[PS s i b,Vc];exact EA k) (.inl ⟨rfl,om⟩)).mono fun _ w' hh=>F1 (by rw[e];rfl) hh
 .have e:piece s i=some ((Utf8.decode s i).1,rl s i):=by unfold piece;rw[yf f,yf d,yf a,yf k]
  have n:=WU s i b k (by rw[← Zx s i b];exact a);have m:=DI k;have q:Utf8.decode s i=((Utf8.decode s i).1,rl s i):=by rw[← n.2.2.2]
  have l:=UQ s i b;exact (zbc rb s i tb kt w h hs hi (.inl f) B hT hB (Utf8.decode s i).1 (rl s i) (by rw[PS s i b];exact q) (by have:=n.2.2.1;omega) (EH s i) (fun e1=>by
   rcases Nat.lt_or_ge (rl s i) 2 with g | g
   .exfalso;have o:rl s i=1:=om;refine m.2 ⟨?_,?_⟩
    .rw[Vc]at e1;exact e1
    .exact m.1.trans o
   .exact g) l).mono fun _ w' hh=>GM (by rw[e];rfl) hh
theorem zZ.kb{b:Nat}{l:List UInt8}(h:zZ B b l w)(hr:rb<B)(k:KB rb w w'):zZ B b l w':=by
 have g:∀ p,Lib.BuilderAt 173 5 B b p (Lib.byteCells l) w->Lib.BuilderAt 173 5 B b p (Lib.byteCells l) w':=by
  rintro p ⟨s,v,q,a,o⟩;have n:=(yC.1 q).1;refine⟨s,v,(k.block b n om).trans q,⟨a.1,?_⟩,o⟩;rcases a.2 with u |⟨g,f,i,y,j,r,d⟩
  .exact .inl u
  .have m:=(yC.1 r).1;exact .inr ⟨g,f,i,y,j,(k.block g m om).trans r,d⟩
 exact h.elim (fun x=>.inl (g _ x)) (fun x=>.inr (g _ x))
theorem KB.then_below{w1 w2:Wo}(h:KB rb w w1)(b:Below w w1 w2):KB rb w w2:=
 ⟨b.os.trans h.os,b.tape.trans h.tape,b.output.trans h.output,yQ h.size b.size,fun k hk hn=>(b.block k hk).trans (h.block k hk hn)⟩
theorem zr.below'{s:Bs}{i:Nat}{tb kt:Bool}(h:zr rb s i tb kt w)(hb:Below B w w')(hB:rb<B):zr rb s i tb kt w':=(hb.block rb hB).trans h
theorem zbe(rb:Nat)(s:Bs)(i:Nat)(tb kt:Bool)(w:Wo)(h:zr rb s i tb kt w)(hs:s.size<=1048576)(hi:i<=s.size)(B:Nat)(hT:Qg B w)(hB:B<=rb):
  Calls prog 176 #[rb] w (VM rb s tb kt w ((ZT s i).map fun q=>(.string (ze q.1),q.2))):=by
 have b:=h.lt;have o:zr rb s i tb kt (w.alloc (.cells #[.pointer none,.slice none 0 0] 173)):=h.below ((yI _ _).alloc (ye _) _);by_cases a:bt s i=34
 .have v:=Zi (by rw[a];decide);have A:=zb (WT rb s i tb kt _ o hs 34 a v);have y:Hid (ZT s i=qX s (i+1)):=by show _=_;unfold ZT;rw[yg a]
  go_in;go_wp2_with fail;go_call A as e w1 ⟨rfl,r1,k1⟩;have Q:=zb r1;go_wp2_with fail;go_loopg [] (s.size+1 - (i+1)) (fun g wr=>∃ (j:Nat) (l:List UInt8),g=s.size+1 - j/\j<=s.size/\l.length<=4*j/\zZ w w l wr/\zr rb s j tb kt wr/\KB rb w wr/\qX s (i+1)=(qX s j).map fun q=>(l++q.1,q.2))
  case atStart=>
   exact⟨i+1,[],rfl,om,sm,zZ.kb (l:=[]) (Lib.fresh_isBuilder _ _ w) b k1,Q,(KB.of_below ((yI _ _).alloc (ye _) _)).trans k1,sm⟩
  case round=>
   obtain⟨j,l,V,H,W,S,I,u,F⟩:=hrel;have U:=u.size;have J:=I.lt;have G:=zb S;have HR:=zb I;have d:=zb F;by_cases a:bt s j=34
   .have E:=Zi (by rw[a];decide);have z:=zb (Wj rb s j tb kt wr HR hs 34 a E);have C:Hid (ZT s i=some (l,j+1)):=by
     show _=_
     rw[uh y,uh d,WV a];simp
    go_wp2_with fail;go_call z as e w2 ⟨rfl,r2,k2⟩;have k:=zb r2;have K:=zb (XY w w l w2 (G.kb b k2) (by have:=k2.size;omega));go_wp2_with fail;go_call K as e w3 ⟨rfl,b3⟩;have D:=zb (k.below' b3 b);have O:=(u.trans k2).then_below b3;go_wp2;go_ret;exact⟨O,by rw[uh C];exact⟨rfl,D⟩⟩
   .have z:=zb (Gz rb s j tb kt wr HR H 34 (.inl a));have x:Hid (∀ w1,zr rb s j tb kt w1->KB rb wr w1->Calls prog 212 #[rb] w1 (VM rb s tb kt w1 ((piece s j).map fun p=>(.int .i32 (p.1:Int),j+p.2)))):=fun w1 h1 k1=>
     zkv rb s j tb kt w1 h1 hs H B (hT.next ((u.trans k1).below hB om) (ye _)) hB
    cases hp:piece s j with
    | none=>
     have C:Hid (ZT s i=none):=by
      show _=_
      rw[uh y,uh d,WW a hp];rfl
     rw[hp]at x;go_wp2_with fail;go_call z as e w2 ⟨rfl,r2,k2⟩;have k:=zb r2;go_wp2_with fail;go_call uh x _ (uh k) k2 as e w3 ⟨k3,rfl⟩;exact⟨rfl,(u.trans k2).trans k3,by rw[uh C];rfl⟩
    | some p=>
     obtain⟨r,n⟩:=p;obtain⟨p1,X,Y⟩:=Wk hp;have T:=FC r;have f:Hid (qX s (i+1)=(qX s (j+n)).map fun q=>(l++enc r++q.1,q.2)):=by
      show _=_
      rw[uh d,Wm a hp,Option.map_map];congr 1;funext q;simp
     rw[hp]at x;go_wp2_with fail;go_call z as e w2 ⟨rfl,r2,k2⟩;have k:=zb r2;go_wp2_with fail;go_call uh x _ (uh k) k2 as e w3 ⟨k3,rfl,r3⟩;have D:=zb r3;have M:=(G.kb b k2).kb b k3;have L:=zb (za5 w w (Lib.byteCells l) (r:Int) om om w3 M (by rw[yL];omega) (by have:=k2.size;have:=k3.size;omega));go_wp2_with fail;go_call L as e w4 ⟨⟨nn,rfl⟩,h4,b4,_⟩;have N:=zb (zZ.cells (m:=enc r) (Lib.byteCells_encodeRune (r:Int)).symm h4);have R:=zb (D.below' b4 b);have P:=((u.trans k2).trans k3).then_below b4;go_wp2;go_roundg (s.size+1 - (j+n))
     case rel=>exact⟨j+n,l++enc r,rfl,om,by rw[yh];omega,N,R,P,f⟩
     case measure=>omega
 .have A:=zb (FA rb s i tb kt _ o hs hi 34 (.inl a));have y:Hid (ZT s i=none):=by show _=_;unfold ZT;rw[yf a]
  go_in;go_wp2_with fail;go_call A as e w1 ⟨rfl,k1⟩;refine⟨rfl,(KB.of_below ((yI _ _).alloc (ye _) _)).trans k1,by rw[uh y];rfl⟩
theorem LU(s:Bs):∀ (f pos:Nat),s.size<=pos+f->Lib.validD (s.data.toList.drop pos)=true->Vb s f pos=qs (s.data.toList.drop pos)
 | 0,pos,h,_=>by rw[Kl s pos om];rfl
 | f+1,pos,h,hv=>by
  rw[Vb];by_cases hp:pos<s.size
  .rw[yg hp];have hr:¬ rl s pos=0:=fun e=>by rw[DJ s pos hp e]at hv;cases hv
   have b:=hv;rw[NM s pos hp hr]at b;by_cases d:s[pos].toNat<128
   .have j:=decode_ascii s pos hp d;have i:rl s pos=1:=by unfold rl;rw[Ot (by rw[Zx s pos hp];exact d)]
    rw[i]at b;rw[j];have g:=LU s f (pos+1) om b;show pc s[pos].toNat++Vb s f (pos+1)=_
    rw[g,GO d,show UInt8.ofNat s[pos].toNat=s[pos]from UInt8.ofNat_toNat,QV s pos hp];rfl
   .obtain⟨l,m,o,n⟩:=WU s pos hp hr d;have g:=LU s f (pos+rl s pos) om b;rw[n,g];have k:pc (Utf8.decode s pos).1=Lib.encodeRune ((Utf8.decode s pos).1:Nat):=by unfold pc;rw[yf om]
    rw[k,l];have a:=(List.take_append_drop (rl s pos) (s.data.toList.drop pos)).symm;rw[List.drop_drop]at a
    conv=>rhs;rw[a]
    rw[Rm,Rt _ m]
  .rw[yf hp,Kl s pos hp];rfl
theorem LV(s:Bs)(h:Lib.validD s.data.toList=true):rs s=qs s.data.toList:=by
 have:=LU s s.size 0 om (by simpa using h);simpa [rs]using this
