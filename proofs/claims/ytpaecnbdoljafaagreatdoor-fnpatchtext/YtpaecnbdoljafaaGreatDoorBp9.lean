import Derived.Test.YtpaecnbdoljafaaGreatDoorBp4
import Derived.Test.YtpaecnbdoljafaaGreatDoorBp8
set_option maxRecDepth 100000
set_option maxHeartbeats 8000000
namespace Go.Proofs.YtpaecnbdoljafaaGreatDoor
open Go.RowKit Go.Sort Go.Proofs.Tryz
theorem XF(s:Bs)(i:Nat)(h:i<s.size):Lib.decodeGo (s.extract i s.size)=Utf8.decode s i:=by
 have b:(s.extract i s.size).size=s.size - i:=by simp
 unfold Lib.decodeGo;rw[ye (by omega),JT,JT,b];have a:∀ k,bt (s.extract i s.size) k=bt s (i+k):=by
  intro k;unfold bt;rw[Lib.extract_data,List.getD_eq_getElem?_getD,List.getD_eq_getElem?_getD,List.getElem?_take,List.getElem?_drop];split
  ·rfl
  ·rw[List.getElem?_eq_none (by rw[Zb];omega)]
 rw[a,a,a,a];rfl
theorem zaE(s:Bs)(i:Nat)(h:i=s.size):Lib.decodeGo (s.extract i s.size)=(65533,0):=by
 have a:(s.extract i s.size).size=0:=by simp;omega
 unfold Lib.decodeGo;rw[yf a]
theorem Mi (rb:Nat) (s:Bs) (i:Nat) (tb kt:Bool) (w:Wo) (h:zr rb s i tb kt w) (hs:s.size<=1048576) (hi:i<=s.size) (hn:bt s i≠92∨i=s.size) (B:Nat) (hT:qc B w) (hB:B<=rb)
  (r n:Nat) (hd:Lib.decodeGo (s.extract i s.size)=(r,n)) (h32:32<=r) (hr:r<=1114111) (hn2:r=65533->2<=n) (hin:i+n<=s.size):
  Calls prog 202 #[.pointer (some ⟨rb,0,none⟩)] w fun e w'=>e= .returned (.int .i32 r)/\zr rb s (i+n) tb kt w'/\KB rb w w':=by
 have o:=zh (YF rb s i tb kt w h hi 92 hn);have q:=zh hT;have A:=h.lt;clear h hn hT;go_in;go_wp2_with fail;refine (uh o).mono ?_;rintro e a ⟨rfl,j,y⟩;have x:=(uh q).next (y.below hB (by omega)) (yd _);have k:Hid (∀ d os,Calls prog 232 #[.string (s.extract i s.size)] (grow (redrawn a d) os) fun e w''=>e= .returned (.tuple #[.int .i32 r,.int .i64 n])/\∃ p:Regrown,w''=grow (redrawn a p.d) p.os):=fun d os=>by
  have c:=Any.utf8_DecodeRuneInString Tryz.laysDecode (s.extract i s.size) (grow (redrawn a d) os) ((x.tabs).below (below_regrown a d os));rw[hd]at c;exact Calls.regrown_of c
 have c0:∀ d os,(grow (redrawn a d) os).cell? ⟨rb,0,none⟩=some (.string s):=fun d os=>cell_regrown j.text d os;have c1:∀ d os,(grow (redrawn a d) os).cell? ⟨rb,1,none⟩=some (.int .i64 (i:Int)):=fun d os=>cell_regrown j.at d os;have v:=zh j;clear j o q x hd;go_wp2_with fail;refine wp_region_quiet_below (by kernel_rfl) (by kernel_rfl) ?_
 repeat (first | go_big_quiet_step ((go_at_call 232;exact uh k _ _)) | quiet_step ((go_at_call 232;exact uh k _ _)))
 refine wpQuiet_nil ?_;intro _ m;obtain⟨⟨l,b⟩,f⟩:=m;subst f;have g:=(uh v).below (below_regrown a l b);have u:=y.trans (KB.of_below (below_regrown a l b));clear v c0 c1 k;generalize grow (redrawn a l) b=F at *;have c1:=g.at;have D:=g.frozen;have RR:=zh g;clear g;have z:¬ (r:Int)<32:=by omega
 by_cases e:r=65533
 ·have C:((r:Int) ==65533)=true:=by rw[yB];omega
  have E:¬ (n:Int)<=1:=by have:=hn2 e;omega
  clear e hn2;go_wp2;go_ret;exact⟨rfl,(uh RR).set _ _ (by omega),u.set 1 _⟩
 ·have C:((r:Int) ==65533)=false:=by rw[yb];omega
  clear e hn2;go_wp2;go_ret;exact⟨rfl,(uh RR).set _ _ (by omega),u.set 1 _⟩
theorem Nk (rb:Nat) (s:Bs) (i:Nat) (tb kt:Bool) (w:Wo) (h:zr rb s i tb kt w) (hi:i<=s.size) (hn:bt s i≠92∨i=s.size) (B:Nat) (hT:qc B w) (hB:B<=rb)
  (r n:Nat) (hd:Lib.decodeGo (s.extract i s.size)=(r,n)) (hbad:(r=65533/\n<=1)∨r<32):
  Calls prog 202 #[.pointer (some ⟨rb,0,none⟩)] w fun e w'=>e=QN/\KB rb w w':=by
 have m:=zh (YF rb s i tb kt w h hi 92 hn);have o:=zh hT;have A:=h.lt;clear h hn hT;go_in;go_wp2_with fail;refine (uh m).mono ?_;rintro e a ⟨rfl,g,x⟩;have v:=(uh o).next (x.below hB (by omega)) (yd _);have j:Hid (∀ d os,Calls prog 232 #[.string (s.extract i s.size)] (grow (redrawn a d) os) fun e w''=>e= .returned (.tuple #[.int .i32 r,.int .i64 n])/\∃ p:Regrown,w''=grow (redrawn a p.d) p.os):=fun d os=>by
  have c:=Any.utf8_DecodeRuneInString Tryz.laysDecode (s.extract i s.size) (grow (redrawn a d) os) ((v.tabs).below (below_regrown a d os));rw[hd]at c;exact Calls.regrown_of c
 have c0:∀ d os,(grow (redrawn a d) os).cell? ⟨rb,0,none⟩=some (.string s):=fun d os=>cell_regrown g.text d os;have c1:∀ d os,(grow (redrawn a d) os).cell? ⟨rb,1,none⟩=some (.int .i64 (i:Int)):=fun d os=>cell_regrown g.at d os;have u:=zh g;clear g m o v hd;go_wp2_with fail;refine wp_region_quiet_below (by kernel_rfl) (by kernel_rfl) ?_
 repeat (first | go_big_quiet_step ((go_at_call 232;exact uh j _ _)) | quiet_step ((go_at_call 232;exact uh j _ _)))
 refine wpQuiet_nil ?_;intro _ l;obtain⟨⟨k,b⟩,f⟩:=l;subst f;have y:=(uh u).below (below_regrown a k b);have q:=x.trans (KB.of_below (below_regrown a k b));clear u c0 c1 j;generalize grow (redrawn a k) b=E at *;clear y;rcases hbad with ⟨e,z⟩ | e
 ·have C:((r:Int) ==65533)=true:=by rw[yB];omega
  have D:(n:Int)<=1:=by omega
  clear e z;go_wp2;exact⟨rfl,rfl,q⟩
 ·have C:((r:Int) ==65533)=false:=by rw[yb];omega
  have D:(r:Int)<32:=by omega
  clear e;go_wp2;exact⟨rfl,rfl,q⟩
theorem zaF(rb:Nat)(s:Bs)(i:Nat)(tb kt:Bool)(w:Wo)(h:zr rb s i tb kt w)(hs:s.size<=1048576)(h0:bt s i=92):
  Calls prog 202 #[.pointer (some ⟨rb,0,none⟩)] w (JG rb s tb kt w ((Qf s i).map fun p=>(.int .i32 (p.1:Int),i+p.2))):=by
 have m:i<s.size:=zQ (by rw[h0];decide);have d:=zh (Y1 rb s i tb kt w h hs 92 h0 m);have b:Hid (∀ w,zr rb s (i+1) tb kt w->Calls prog 231 #[.pointer (some ⟨rb,0,none⟩)] w (JG rb s tb kt w ((Qf s i).map fun p=>(.int .i32 (p.1:Int),i+p.2)))):=fun w h=>Hv rb s i tb kt w h hs (by omega) h0;clear h h0;generalize Qf s i=o at *
 cases o with
 | none=>
  go_in;go_wp2_with fail;refine (uh d).mono ?_;rintro e n ⟨rfl,a,g⟩;have f:=zh a;clear d a;go_wp2_with fail;refine (uh b _ (uh f)).mono ?_;rintro e q ⟨j,rfl⟩;clear b;exact⟨rfl,g.trans j,rfl⟩
 | some p=>
  go_in;go_wp2_with fail;refine (uh d).mono ?_;rintro e n ⟨rfl,a,g⟩;have f:=zh a;clear d a;go_wp2_with fail;refine (uh b _ (uh f)).mono ?_;rintro e q ⟨j,rfl,k⟩;have l:=zh k;clear b k;go_wp2;go_ret;exact⟨g.trans j,rfl,uh l⟩
theorem Mj(s:Bs)(i:Nat)(hb:bt s i<128):Utf8.decode s i=(bt s i,1):=by
 rw[JT];unfold Lib.decodeN;rw[yf hb]
theorem zaG(rb:Nat)(s:Bs)(i:Nat)(tb kt:Bool)(w:Wo)(h:zr rb s i tb kt w)(hs:s.size<=1048576)(hi:i<=s.size)(B:Nat)(hT:qc B w)(hB:B<=rb):
  Calls prog 202 #[.pointer (some ⟨rb,0,none⟩)] w (JG rb s tb kt w ((piece s i).map fun p=>(.int .i32 (p.1:Int),i+p.2))):=by
 by_cases f:bt s i=92
 ·have e:piece s i=Qf s i:=by unfold piece;rw[yf f]
  rw[e];exact zaF rb s i tb kt w h hs f
 by_cases j:i=s.size
 ·exact (Nk rb s i tb kt w h hi (.inr j) B hT hB 65533 0 (zaE s i j) (.inl ⟨rfl,by omega⟩)).mono fun e w' hh=>UW (by rw[FQ (by omega)];rfl) hh
 have b:i<s.size:=by omega
 by_cases d:bt s i<32
 ·have e:piece s i=none:=by unfold piece;rw[ye f,yf d]
  exact (Nk rb s i tb kt w h hi (.inl f) B hT hB (bt s i) 1 (by rw[XF s i b,Mj s i (by omega)]) (.inr d)).mono fun _ w' hh=>UW (by rw[e];rfl) hh
 by_cases a:bt s i<128
 ·have e:piece s i=some (bt s i,1):=by unfold piece;rw[ye f,ye d,yf a]
  exact (Mi rb s i tb kt w h hs hi (.inl f) B hT hB (bt s i) 1 (by rw[XF s i b,Mj s i a]) (by omega) (by omega) (by omega) (by omega)).mono fun _ w' hh=>YQ (by rw[e];rfl) hh
 by_cases k:rl s i=0
 ·have e:piece s i=none:=by unfold piece;rw[ye f,ye d,ye a,yf k]
  exact (Nk rb s i tb kt w h hi (.inl f) B hT hB 65533 1 (by rw[XF s i b,JT];exact Ry k) (.inl ⟨rfl,by omega⟩)).mono fun _ w' hh=>UW (by rw[e];rfl) hh
 ·have e:piece s i=some ((Utf8.decode s i).1,rl s i):=by unfold piece;rw[ye f,ye d,ye a,ye k]
  have n:=Vt s i b k (by rw[← Zg s i b];exact a);have m:=FJ k;have q:Utf8.decode s i=((Utf8.decode s i).1,rl s i):=by rw[← n.2.2.2]
  have l:=Gg s i b;exact (Mi rb s i tb kt w h hs hi (.inl f) B hT hB (Utf8.decode s i).1 (rl s i) (by rw[XF s i b];exact q) (by have:=n.2.2.1;omega) (RD s i) (fun e1=>by
   rcases Nat.lt_or_ge (rl s i) 2 with g | g
   ·exfalso;have o:rl s i=1:=by omega
    refine m.2 ⟨?_,?_⟩
    ·rw[JT]at e1;exact e1
    ·exact m.1.trans o
   ·exact g) l).mono fun _ w' hh=>YQ (by rw[e];rfl) hh
end Go.Proofs.YtpaecnbdoljafaaGreatDoor
namespace Go.Proofs.YtpaecnbdoljafaaGreatDoor
open Go.RowKit Go.Proofs.Tryz
theorem zH.kb{B b rb:Nat}{l:List UInt8}{w w':Wo}(h:zH B b l w)(hr:rb<B)(k:KB rb w w'):zH B b l w':=by
 have g:∀ p,Lib.BuilderAt 149 5 B b p (Lib.byteCells l) w->Lib.BuilderAt 149 5 B b p (Lib.byteCells l) w':=by
  rintro p ⟨s,v,q,a,o⟩;have n:=(yA.1 q).1;refine⟨s,v,(k.block b n (by omega)).trans q,⟨a.1,?_⟩,o⟩;rcases a.2 with u |⟨g,f,i,y,j,r,d⟩
  ·exact .inl u
  ·have m:=(yA.1 r).1;exact .inr ⟨g,f,i,y,j,(k.block g m (by omega)).trans r,d⟩
 exact h.elim (fun x=>.inl (g _ x)) (fun x=>.inr (g _ x))
theorem KB.then_below{rb:Nat}{w w1 w2:Wo}(h:KB rb w w1)(b:Below w.heap.size w1 w2):KB rb w w2:=
 ⟨b.os.trans h.os,b.tape.trans h.tape,b.output.trans h.output,yO h.size b.size,fun k hk hn=>(b.block k hk).trans (h.block k hk hn)⟩
theorem zr.below'{rb:Nat}{s:Bs}{i:Nat}{tb kt:Bool}{B:Nat}{w w':Wo}(h:zr rb s i tb kt w)(hb:Below B w w')(hB:rb<B):zr rb s i tb kt w':=(hb.block rb hB).trans h
theorem Mk(rb:Nat)(s:Bs)(i:Nat)(tb kt:Bool)(w:Wo)(h:zr rb s i tb kt w)(hs:s.size<=1048576)(hi:i<=s.size)(B:Nat)(hT:qc B w)(hB:B<=rb):
  Calls prog 167 #[.pointer (some ⟨rb,0,none⟩)] w (JG rb s tb kt w ((Zq s i).map fun q=>(.string (zi q.1),q.2))):=by
 have b:=h.lt;have f:zr rb s i tb kt (w.alloc (.cells #[.pointer none,.slice none 0 0] 149)):=h.below ((yG _ _).alloc (yd _) _);by_cases a:bt s i=34
 ·have E:i<s.size:=zQ (by rw[a];decide);have A:=zh (Vs rb s i tb kt _ f hs 34 a E);have H:Hid (Zq s i=qa s (i+1)):=by show _=_;unfold Zq;rw[yf a]
  clear f h a;go_in;go_wp2_with fail;refine (uh A).mono ?_;rintro e o ⟨rfl,Z,x⟩;have U:=zh Z;clear A Z;go_wp2_with fail;go_loopg [] (s.size+1 - (i+1)) (fun g wr=>∃ (j:Nat) (l:List UInt8),g=s.size+1 - j/\j<=s.size/\l.length<=4*j/\zH w.heap.size w.heap.size l wr/\zr rb s j tb kt wr/\KB rb w wr/\qa s (i+1)=(qa s j).map fun q=>(l++q.1,q.2))
  case atStart=>
   exact⟨i+1,[],rfl,by omega,by simp,zH.kb (l:=[]) (Lib.fresh_isBuilder _ _ w) b x,uh U,(KB.of_below ((yG _ _).alloc (yd _) _)).trans x,by simp⟩
  case round=>
   obtain⟨j,l,hg,X,hl,W,N,D,F⟩:=hrel;have hgs:=D.size;have Y:=N.lt;have R:=zh W;have HR:=zh N;have v:=zh F;clear U W N F x;by_cases a:bt s j=34
   ·have M:j<s.size:=zQ (by rw[a];decide);have u:=zh (Y1 rb s j tb kt wr (uh HR) hs 34 a M);have J:Hid (Zq s i=some (l,j+1)):=by
     show _=_
     rw[uh H,uh v,Vu a];simp
    clear a;go_wp2_with fail;refine (uh u).mono ?_;rintro e O ⟨rfl,k,d⟩;have z:=zh k;have Q:=zh (WW w.heap.size w.heap.size l O ((uh R).kb b d) (by have:=d.size;omega));clear u k;go_wp2_with fail;refine (uh Q).mono ?_;rintro e P ⟨rfl,K⟩;have I:=zh ((uh z).below' K b);have K3:=(D.trans d).then_below K;clear Q K;go_wp2;go_ret;exact⟨K3,by rw[uh J];exact⟨rfl,uh I⟩⟩
   ·have u:=zh (YF rb s j tb kt wr (uh HR) X 34 (.inl a));have y:Hid (∀ o,zr rb s j tb kt o->KB rb wr o->Calls prog 202 #[.pointer (some ⟨rb,0,none⟩)] o (JG rb s tb kt o ((piece s j).map fun p=>(.int .i32 (p.1:Int),j+p.2)))):=fun o h1 x=>
     zaG rb s j tb kt o h1 hs X B (hT.next ((D.trans x).below hB (by omega)) (yd _)) hB
    cases hp:piece s j with
    | none=>
     have J:Hid (Zq s i=none):=by
      show _=_
      rw[uh H,uh v,Vv a hp];rfl
     rw[hp]at y;clear a hp;go_wp2_with fail;refine (uh u).mono ?_;rintro e O ⟨rfl,k,d⟩;have z:=zh k;clear u k;go_wp2_with fail;refine (uh y _ (uh z) d).mono ?_;rintro e P ⟨G,rfl⟩;clear y;exact⟨rfl,(D.trans d).trans G,by rw[uh J];rfl⟩
    | some p=>
     obtain⟨r,n⟩:=p;obtain⟨p1,p2,p3⟩:=Y2 hp;have hel:=Ul r;have C:Hid (qa s (i+1)=(qa s (j+n)).map fun q=>(l++Zw r++q.1,q.2)):=by
      show _=_
      rw[uh v,Y4 a hp,Option.map_map];congr 1;funext q;simp
     rw[hp]at y;clear a hp;go_wp2_with fail;refine (uh u).mono ?_;rintro e O ⟨rfl,k,d⟩;have z:=zh k;clear u k;go_wp2_with fail;refine (uh y _ (uh z) d).mono ?_;rintro e P ⟨G,rfl,r3⟩;have I:=zh r3;have T:=((uh R).kb b d).kb b G;have S:=zh (Mf w.heap.size w.heap.size (Lib.byteCells l) (r:Int) (by omega) (by omega) P T (by rw[yJ];omega) (by have:=d.size;have:=G.size;omega));clear y r3 T z;go_wp2_with fail;refine (uh S).mono ?_;rintro e w4 ⟨⟨nn,rfl⟩,V,L,_⟩;have I4:=zh (zH.cells (m:=Zw r) (Lib.byteCells_encodeRune (r:Int)).symm V);have R4:=zh ((uh I).below' L b);have K4:=((D.trans d).trans G).then_below L;clear S V L I;go_wp2;go_roundg (s.size+1 - (j+n))
     case rel=>exact⟨j+n,l++Zw r,rfl,by omega,by rw[yg];omega,uh I4,uh R4,K4,uh C⟩
     case measure=>omega
 ·have A:=zh (Uj rb s i tb kt _ f hs hi 34 (.inl a));have H:Hid (Zq s i=none):=by show _=_;unfold Zq;rw[ye a]
  clear f h a;go_in;go_wp2_with fail;refine (uh A).mono ?_;rintro e o ⟨rfl,x⟩;clear A;refine⟨rfl,(KB.of_below ((yG _ _).alloc (yd _) _)).trans x,by rw[uh H];rfl⟩
theorem Nl(s:Bs):∀ (f pos:Nat),s.size<=pos+f->Lib.validD (s.data.toList.drop pos)=true->JS s f pos=qs (s.data.toList.drop pos)
 | 0,pos,h,_=>by rw[GK s pos (by omega)];rfl
 | f+1,pos,h,hv=>by
  rw[JS];by_cases hp:pos<s.size
  ·rw[yf hp];have hr:¬ rl s pos=0:=fun e=>by rw[FK s pos hp e]at hv;cases hv
   have b:=hv;rw[KI s pos hp hr]at b;by_cases d:s[pos].toNat<128
   ·have j:=decode_ascii s pos hp d;have i:rl s pos=1:=by unfold rl;rw[U8 (by rw[Zg s pos hp];exact d)]
    rw[i]at b;rw[j];have g:=Nl s f (pos+1) (by omega) b;show pc s[pos].toNat++JS s f (pos+1)=_
    rw[g,YS d,show UInt8.ofNat s[pos].toNat=s[pos]from UInt8.ofNat_toNat,qT s pos hp];rfl
   ·obtain⟨l,m,o,n⟩:=Vt s pos hp hr d;have g:=Nl s f (pos+rl s pos) (by omega) b;rw[n,g];have k:pc (Utf8.decode s pos).1=Lib.encodeRune ((Utf8.decode s pos).1:Nat):=by unfold pc;rw[ye (by omega)]
    rw[k,l];have a:=(List.take_append_drop (rl s pos) (s.data.toList.drop pos)).symm;rw[List.drop_drop]at a
    conv=>rhs;rw[a]
    rw[U9,Kc _ m]
  ·rw[ye hp,GK s pos hp];rfl
theorem Nm(s:Bs)(h:Lib.validD s.data.toList=true):rs s=qs s.data.toList:=by
 have:=Nl s s.size 0 (by omega) (by simpa using h);simpa [rs]using this
end Go.Proofs.YtpaecnbdoljafaaGreatDoor
