import Derived.Test.YtekpghcckdjnhaaGreatDoorBa8
import Derived.Test.YtekpghcckdjnhaaGreatDoorBa17
set_option maxRecDepth 100000
set_option maxHeartbeats 8000000
namespace Go.Proofs.YtekpghcckdjnhaaGreatDoor
open Go.RowKit Go.Sort Go.Proofs.Tryz
theorem zdB (s:ByteArray) (i:Nat) (h:i < s.size) : Lib.decodeGo (s.extract i s.size)=Utf8.decode s i:=by
 have hsz:(s.extract i s.size).size=s.size - i:=by simp
 unfold Lib.decodeGo
 rw[yf (by omega),dec,dec,hsz]
 have hb:∀ k,bt (s.extract i s.size) k=bt s (i+k):=by
  intro k
  unfold bt
  rw[Lib.extract_data,List.getD_eq_getElem?_getD,List.getD_eq_getElem?_getD,List.getElem?_take,List.getElem?_drop]
  split
  ·rfl
  ·rw[List.getElem?_eq_none (by rw[zak]; omega)]
 rw[hb,hb,hb,hb]; rfl
theorem zkI (s:ByteArray) (i:Nat) (h:i=s.size) : Lib.decodeGo (s.extract i s.size)=(65533,0):=by
 have hsz:(s.extract i s.size).size=0:=by simp; omega
 unfold Lib.decodeGo
 rw[yg hsz]
theorem zt5 (rb:Nat) (s:ByteArray) (i:Nat) (tb kt:Bool) (w:World) (h:Rdr rb s i tb kt w) (hs:s.size<=1048576) (hi:i<=s.size) (hn:bt s i≠92∨i=s.size) (B:Nat) (hT:zb2 B w) (hB:B<=rb)
  (r n:Nat) (hd:Lib.decodeGo (s.extract i s.size)=(r,n)) (h32:32<=r) (hr:r<=1114111) (hn2:r=65533->2<=n) (hin:i+n<=s.size) :
  Calls prog 207 #[.pointer (some ⟨rb,0,none⟩)] w fun e w'=>e = .returned (.int .i32 r)/\Rdr rb s (i+n) tb kt w'/\KB rb w w':=by
 have HS:=zab (zc0 rb s i tb kt w h hi 92 hn)
 have HT:=zab hT
 have hlt:=h.lt
 clear h hn hT
 go_enter func207,ntmps207
 go_wp2_with fail
 refine (uh HS).mono ?_
 rintro e w1 ⟨rfl,r1,k1⟩
 have T1:=(uh HT).next (k1.below hB (by omega)) (ye _)
 have HD:Hid (∀ d os,Calls prog 234 #[.string (s.extract i s.size)] (grow (redrawn w1 d) os) fun e w''=>e = .returned (.tuple #[.int .i32 r,.int .i64 n])/\∃ p:Regrown,w''=grow (redrawn w1 p.d) p.os):=fun d os=>by
  have c:=Any.utf8_DecodeRuneInString Tryz.laysDecode (s.extract i s.size) (grow (redrawn w1 d) os) ((T1.tabs).below (below_regrown w1 d os))
  rw[hd] at c
  exact Calls.regrown_of c
 have c0:∀ d os,(grow (redrawn w1 d) os).cell? ⟨rb,0,none⟩=some (.string s):=fun d os=>cell_regrown r1.text d os
 have c1:∀ d os,(grow (redrawn w1 d) os).cell? ⟨rb,1,none⟩=some (.int .i64 (i:Int)):=fun d os=>cell_regrown r1.at d os
 have R1:=zab r1
 clear r1 HS HT T1 hd
 go_wp2_with fail
 refine wp_region_quiet_below (by kernel_rfl) (by kernel_rfl) ?_
 repeat (first | go_big_quiet_step ((go_at_call 234; exact uh HD _ _)) | quiet_step ((go_at_call 234; exact uh HD _ _)))
 refine wpQuiet_nil ?_
 intro _ hw'
 obtain⟨⟨dq,osq⟩,hw''⟩:=hw'
 subst hw''
 have R2:=(uh R1).below (below_regrown w1 dq osq)
 have K2:=k1.trans (KB.of_below (below_regrown w1 dq osq))
 clear R1 c0 c1 HD
 generalize grow (redrawn w1 dq) osq=w2 at *
 have c1:=R2.at
 have f1:=R2.frozen
 have RR:=zab R2
 clear R2
 have d32:¬ (r:Int) < 32:=by omega
 by_cases e:r=65533
 ·have t1:((r:Int) == 65533)=true:=by rw[yC]; omega
  have t2:¬ (n:Int)<=1:=by have:=hn2 e; omega
  clear e hn2
  go_wp2
  go_ret
  exact⟨rfl,(uh RR).set _ _ (by omega),K2.set 1 _⟩
 ·have t1:((r:Int) == 65533)=false:=by rw[yd]; omega
  clear e hn2
  go_wp2
  go_ret
  exact⟨rfl,(uh RR).set _ _ (by omega),K2.set 1 _⟩
theorem zmo (rb:Nat) (s:ByteArray) (i:Nat) (tb kt:Bool) (w:World) (h:Rdr rb s i tb kt w) (hi:i<=s.size) (hn:bt s i≠92∨i=s.size) (B:Nat) (hT:zb2 B w) (hB:B<=rb)
  (r n:Nat) (hd:Lib.decodeGo (s.extract i s.size)=(r,n)) (hbad:(r=65533/\n<=1)∨r < 32) :
  Calls prog 207 #[.pointer (some ⟨rb,0,none⟩)] w fun e w'=>e=mis/\KB rb w w':=by
 have HS:=zab (zc0 rb s i tb kt w h hi 92 hn)
 have HT:=zab hT
 have hlt:=h.lt
 clear h hn hT
 go_enter func207,ntmps207
 go_wp2_with fail
 refine (uh HS).mono ?_
 rintro e w1 ⟨rfl,r1,k1⟩
 have T1:=(uh HT).next (k1.below hB (by omega)) (ye _)
 have HD:Hid (∀ d os,Calls prog 234 #[.string (s.extract i s.size)] (grow (redrawn w1 d) os) fun e w''=>e = .returned (.tuple #[.int .i32 r,.int .i64 n])/\∃ p:Regrown,w''=grow (redrawn w1 p.d) p.os):=fun d os=>by
  have c:=Any.utf8_DecodeRuneInString Tryz.laysDecode (s.extract i s.size) (grow (redrawn w1 d) os) ((T1.tabs).below (below_regrown w1 d os))
  rw[hd] at c
  exact Calls.regrown_of c
 have c0:∀ d os,(grow (redrawn w1 d) os).cell? ⟨rb,0,none⟩=some (.string s):=fun d os=>cell_regrown r1.text d os
 have c1:∀ d os,(grow (redrawn w1 d) os).cell? ⟨rb,1,none⟩=some (.int .i64 (i:Int)):=fun d os=>cell_regrown r1.at d os
 have R1:=zab r1
 clear r1 HS HT T1 hd
 go_wp2_with fail
 refine wp_region_quiet_below (by kernel_rfl) (by kernel_rfl) ?_
 repeat (first | go_big_quiet_step ((go_at_call 234; exact uh HD _ _)) | quiet_step ((go_at_call 234; exact uh HD _ _)))
 refine wpQuiet_nil ?_
 intro _ hw'
 obtain⟨⟨dq,osq⟩,hw''⟩:=hw'
 subst hw''
 have R2:=(uh R1).below (below_regrown w1 dq osq)
 have K2:=k1.trans (KB.of_below (below_regrown w1 dq osq))
 clear R1 c0 c1 HD
 generalize grow (redrawn w1 dq) osq=w2 at *
 clear R2
 rcases hbad with ⟨e,e'⟩ | e
 ·have t1:((r:Int) == 65533)=true:=by rw[yC]; omega
  have t2:(n:Int)<=1:=by omega
  clear e e'
  go_wp2
  exact⟨rfl,rfl,K2⟩
 ·have t1:((r:Int) == 65533)=false:=by rw[yd]; omega
  have t2:(r:Int) < 32:=by omega
  clear e
  go_wp2
  exact⟨rfl,rfl,K2⟩
theorem zyK (rb:Nat) (s:ByteArray) (i:Nat) (tb kt:Bool) (w:World) (h:Rdr rb s i tb kt w) (hs:s.size<=1048576) (h0:bt s i=92) :
  Calls prog 207 #[.pointer (some ⟨rb,0,none⟩)] w (zpp rb s tb kt w ((ziY s i).map fun p=>(.int .i32 (p.1:Int),i+p.2))):=by
 have hi:i < s.size:=zaw (by rw[h0]; decide)
 have HS:=zab (zcy rb s i tb kt w h hs 92 h0 hi)
 have HE:Hid (∀ w,Rdr rb s (i+1) tb kt w->Calls prog 233 #[.pointer (some ⟨rb,0,none⟩)] w (zpp rb s tb kt w ((ziY s i).map fun p=>(.int .i32 (p.1:Int),i+p.2)))):=fun w h=>znd rb s i tb kt w h hs (by omega) h0
 clear h h0
 generalize ziY s i=o at *
 cases o with
 | none=>
  go_enter func207,ntmps207
  go_wp2_with fail
  refine (uh HS).mono ?_
  rintro e w1 ⟨rfl,r1,k1⟩
  have R1:=zab r1
  clear HS r1
  go_wp2_with fail
  refine (uh HE _ (uh R1)).mono ?_
  rintro e w2 ⟨k2,rfl⟩
  clear HE
  exact⟨rfl,k1.trans k2,rfl⟩
 | some p=>
  go_enter func207,ntmps207
  go_wp2_with fail
  refine (uh HS).mono ?_
  rintro e w1 ⟨rfl,r1,k1⟩
  have R1:=zab r1
  clear HS r1
  go_wp2_with fail
  refine (uh HE _ (uh R1)).mono ?_
  rintro e w2 ⟨k2,rfl,r2⟩
  have R2:=zab r2
  clear HE r2
  go_wp2
  go_ret
  exact⟨k1.trans k2,rfl,uh R2⟩
theorem ziJ (s:ByteArray) (i:Nat) (hb:bt s i < 128) : Utf8.decode s i=(bt s i,1):=by
 rw[dec]; unfold Lib.decodeN; rw[yg hb]
theorem zmp (rb:Nat) (s:ByteArray) (i:Nat) (tb kt:Bool) (w:World) (h:Rdr rb s i tb kt w) (hs:s.size<=1048576) (hi:i<=s.size) (B:Nat) (hT:zb2 B w) (hB:B<=rb) :
  Calls prog 207 #[.pointer (some ⟨rb,0,none⟩)] w (zpp rb s tb kt w ((piece s i).map fun p=>(.int .i32 (p.1:Int),i+p.2))):=by
 by_cases h0:bt s i=92
 ·have e:piece s i=ziY s i:=by unfold piece; rw[yg h0]
  rw[e]; exact zyK rb s i tb kt w h hs h0
 by_cases hend:i=s.size
 ·exact (zmo rb s i tb kt w h hi (.inr hend) B hT hB 65533 0 (zkI s i hend) (.inl ⟨rfl,by omega⟩)).mono fun e w' hh=>zen (by rw[zhM (by omega)]; rfl) hh
 have hlt:i < s.size:=by omega
 by_cases h32:bt s i < 32
 ·have e:piece s i=none:=by unfold piece; rw[yf h0,yg h32]
  exact (zmo rb s i tb kt w h hi (.inl h0) B hT hB (bt s i) 1 (by rw[zdB s i hlt,ziJ s i (by omega)]) (.inr h32)).mono fun _ w' hh=>zen (by rw[e]; rfl) hh
 by_cases h128:bt s i < 128
 ·have e:piece s i=some (bt s i,1):=by unfold piece; rw[yf h0,yf h32,yg h128]
  exact (zt5 rb s i tb kt w h hs hi (.inl h0) B hT hB (bt s i) 1 (by rw[zdB s i hlt,ziJ s i h128]) (by omega) (by omega) (by omega) (by omega)).mono fun _ w' hh=>zbH (by rw[e]; rfl) hh
 by_cases hr:rl s i=0
 ·have e:piece s i=none:=by unfold piece; rw[yf h0,yf h32,yf h128,yg hr]
  exact (zmo rb s i tb kt w h hi (.inl h0) B hT hB 65533 1 (by rw[zdB s i hlt,dec]; exact zqM hr) (.inl ⟨rfl,by omega⟩)).mono fun _ w' hh=>zen (by rw[e]; rfl) hh
 ·have e:piece s i=some ((Utf8.decode s i).1,rl s i):=by unfold piece; rw[yf h0,yf h32,yf h128,yf hr]
  have hm:=zcJ s i hlt hr (by rw[← zas s i hlt]; exact h128)
  have hg:=zjC hr
  have hp:Utf8.decode s i=((Utf8.decode s i).1,rl s i):=by rw[← hm.2.2.2]
  have hle:=zmx s i hlt
  exact (zt5 rb s i tb kt w h hs hi (.inl h0) B hT hB (Utf8.decode s i).1 (rl s i) (by rw[zdB s i hlt]; exact hp) (by have:=hm.2.2.1; omega) (zlf s i) (fun e1=>by
   rcases Nat.lt_or_ge (rl s i) 2 with g | g
   ·exfalso
    have g1:rl s i=1:=by omega
    refine hg.2 ⟨?_,?_⟩
    ·rw[dec] at e1; exact e1
    ·exact hg.1.trans g1
   ·exact g) hle).mono fun _ w' hh=>zbH (by rw[e]; rfl) hh
end Go.Proofs.YtekpghcckdjnhaaGreatDoor
namespace Go.Proofs.YtekpghcckdjnhaaGreatDoor
open Go.RowKit Go.Proofs.Tryz
theorem IsB.kb {B b rb:Nat} {l:List UInt8} {w w':World} (h:IsB B b l w) (hr:rb < B) (k:KB rb w w') : IsB B b l w':=by
 have g:∀ p,Lib.BuilderAt 192 5 B b p (Lib.byteCells l) w->Lib.BuilderAt 192 5 B b p (Lib.byteCells l) w':=by
  rintro p ⟨hB,v,hb,hown,hne⟩
  have hlt:=(yB.1 hb).1
  refine⟨hB,v,(k.block b hlt (by omega)).trans hb,⟨hown.1,?_⟩,hne⟩
  rcases hown.2 with hn | ⟨g,cap,cur,hv,hbg,hg,rest⟩
  ·exact .inl hn
  ·have hgl:=(yB.1 hg).1
   exact .inr ⟨g,cap,cur,hv,hbg,(k.block g hgl (by omega)).trans hg,rest⟩
 exact h.elim (fun x=>.inl (g _ x)) (fun x=>.inr (g _ x))
theorem KB.then_below {rb:Nat} {w w1 w2:World} (h:KB rb w w1) (b:Below w.heap.size w1 w2) : KB rb w w2:=
 ⟨b.os.trans h.os,b.tape.trans h.tape,b.output.trans h.output,yP h.size b.size,fun k hk hn=>(b.block k hk).trans (h.block k hk hn)⟩
theorem Rdr.below' {rb:Nat} {s:ByteArray} {i:Nat} {tb kt:Bool} {B:Nat} {w w':World} (h:Rdr rb s i tb kt w) (hb:Below B w w') (hB:rb < B) : Rdr rb s i tb kt w':=(hb.block rb hB).trans h
theorem zd5 (rb:Nat) (s:ByteArray) (i:Nat) (tb kt:Bool) (w:World) (h:Rdr rb s i tb kt w) (hs:s.size<=1048576) (hi:i<=s.size) (B:Nat) (hT:zb2 B w) (hB:B<=rb) :
  Calls prog 175 #[.pointer (some ⟨rb,0,none⟩)] w (zpp rb s tb kt w ((zcM s i).map fun q=>(.string (zac q.1),q.2))):=by
 have hlt:=h.lt
 have hal:Rdr rb s i tb kt (w.alloc (.cells #[.pointer none,.slice none 0 0] 192)):=h.below ((yH _ _).alloc (ye _) _)
 by_cases h34:bt s i=34
 ·have hlt':i < s.size:=zaw (by rw[h34]; decide)
  have HE:=zab (zbO rb s i tb kt _ hal hs 34 h34 hlt')
  have HQ:Hid (zcM s i=zfO s (i+1)):=by show _=_; unfold zcM; rw[yg h34]
  clear hal h h34
  go_enter func175,ntmps175
  go_wp2_with fail
  refine (uh HE).mono ?_
  rintro e w1 ⟨rfl,r1,k1⟩
  have R1:=zab r1
  clear HE r1
  go_wp2_with fail
  go_loopg [] (s.size+1 - (i+1)) (fun g wr=>∃ (j:Nat) (l:List UInt8),g=s.size+1 - j/\j<=s.size/\l.length<=4*j/\IsB w.heap.size w.heap.size l wr/\Rdr rb s j tb kt wr/\KB rb w wr/\zfO s (i+1)=(zfO s j).map fun q=>(l++q.1,q.2))
  case atStart=>
   exact⟨i+1,[],rfl,by omega,by simp,IsB.kb (l:=[]) (Lib.fresh_isBuilder _ _ w) hlt k1,uh R1,(KB.of_below ((yH _ _).alloc (ye _) _)).trans k1,by simp⟩
  case round=>
   obtain⟨j,l,hg,hj,hl,hI,hr,hk,hst⟩:=hrel
   have hgs:=hk.size
   have hrlt:=hr.lt
   have HI:=zab hI
   have HR:=zab hr
   have HST:=zab hst
   clear R1 hI hr hst k1
   by_cases h34:bt s j=34
   ·have hjl:j < s.size:=zaw (by rw[h34]; decide)
    have HS:=zab (zcy rb s j tb kt wr (uh HR) hs 34 h34 hjl)
    have HF:Hid (zcM s i=some (l,j+1)):=by
     show _=_
     rw[uh HQ,uh HST,zdH h34]; simp
    clear h34
    go_wp2_with fail
    refine (uh HS).mono ?_
    rintro e w2 ⟨rfl,r2,k2⟩
    have R2:=zab r2
    have HB:=zab (zfa w.heap.size w.heap.size l w2 ((uh HI).kb hlt k2) (by have:=k2.size; omega))
    clear HS r2
    go_wp2_with fail
    refine (uh HB).mono ?_
    rintro e w3 ⟨rfl,b3⟩
    have R3:=zab ((uh R2).below' b3 hlt)
    have K3:=(hk.trans k2).then_below b3
    clear HB b3
    go_wp2
    go_ret
    exact⟨K3,by rw[uh HF]; exact⟨rfl,uh R3⟩⟩
   ·have HS:=zab (zc0 rb s j tb kt wr (uh HR) hj 34 (.inl h34))
    have HP:Hid (∀ w1,Rdr rb s j tb kt w1->KB rb wr w1->Calls prog 207 #[.pointer (some ⟨rb,0,none⟩)] w1 (zpp rb s tb kt w1 ((piece s j).map fun p=>(.int .i32 (p.1:Int),j+p.2)))):=fun w1 h1 k1=>
     zmp rb s j tb kt w1 h1 hs hj B (hT.next ((hk.trans k1).below hB (by omega)) (ye _)) hB
    cases hp:piece s j with
    | none=>
     have HF:Hid (zcM s i=none):=by
      show _=_
      rw[uh HQ,uh HST,zdI h34 hp]; rfl
     rw[hp] at HP
     clear h34 hp
     go_wp2_with fail
     refine (uh HS).mono ?_
     rintro e w2 ⟨rfl,r2,k2⟩
     have R2:=zab r2
     clear HS r2
     go_wp2_with fail
     refine (uh HP _ (uh R2) k2).mono ?_
     rintro e w3 ⟨k3,rfl⟩
     clear HP
     exact⟨rfl,(hk.trans k2).trans k3,by rw[uh HF]; rfl⟩
    | some p=>
     obtain⟨r,n⟩:=p
     obtain⟨p1,p2,p3⟩:=zcW hp
     have hel:=zn3 r
     have HST2:Hid (zfO s (i+1)=(zfO s (j+n)).map fun q=>(l++enc r++q.1,q.2)):=by
      show _=_
      rw[uh HST,zee h34 hp,Option.map_map]
      congr 1
      funext q
      simp
     rw[hp] at HP
     clear h34 hp
     go_wp2_with fail
     refine (uh HS).mono ?_
     rintro e w2 ⟨rfl,r2,k2⟩
     have R2:=zab r2
     clear HS r2
     go_wp2_with fail
     refine (uh HP _ (uh R2) k2).mono ?_
     rintro e w3 ⟨k3,rfl,r3⟩
     have R3:=zab r3
     have I3:=((uh HI).kb hlt k2).kb hlt k3
     have HW:=zab (zg2 w.heap.size w.heap.size (Lib.byteCells l) (r:Int) (by omega) (by omega) w3 I3 (by rw[yK]; omega) (by have:=k2.size; have:=k3.size; omega))
     clear HP r3 I3 R2
     go_wp2_with fail
     refine (uh HW).mono ?_
     rintro e w4 ⟨⟨nn,rfl⟩,h4,b4,_⟩
     have I4:=zab (IsB.cells (m:=enc r) (Lib.byteCells_encodeRune (r:Int)).symm h4)
     have R4:=zab ((uh R3).below' b4 hlt)
     have K4:=((hk.trans k2).trans k3).then_below b4
     clear HW h4 b4 R3
     go_wp2
     go_roundg (s.size+1 - (j+n))
     case rel=>exact⟨j+n,l++enc r,rfl,by omega,by rw[yh]; omega,uh I4,uh R4,K4,uh HST2⟩
     case measure=>omega
 ·have HE:=zab (zec rb s i tb kt _ hal hs hi 34 (.inl h34))
  have HQ:Hid (zcM s i=none):=by show _=_; unfold zcM; rw[yf h34]
  clear hal h h34
  go_enter func175,ntmps175
  go_wp2_with fail
  refine (uh HE).mono ?_
  rintro e w1 ⟨rfl,k1⟩
  clear HE
  refine⟨rfl,(KB.of_below ((yH _ _).alloc (ye _) _)).trans k1,by rw[uh HQ]; rfl⟩
end Go.Proofs.YtekpghcckdjnhaaGreatDoor
