import Derived.BigQuiet
import Derived.Test.YtekpghcckdjnhaaGreatDoorBa1
import Derived.Lib.QuietBelow
import Derived.Lib.ValidLaws
import Derived.Lib.RuneCount
import Derived.Laws.AppendOwnNone
import Derived.Shelf.Small.Wraps
set_option maxRecDepth 100000
set_option maxHeartbeats 8000000
namespace Go.Proofs.YtekpghcckdjnhaaGreatDoor
open Go.RowKit Go.Proofs.Tryz
theorem zvk (xa ya:Option Addr) (xb xo xc yb yo yc:Nat) (ss:List ByteArray) (w:World) (hx:SS w xa xb xo ss) (hy:SS w ya yb yo ss) (hm:ss.length<=9223372036854775807) :
  Calls prog 106 #[.slice xa ss.length xc,.slice ya ss.length yc] w fun e w'=>e = .returned (.bool true)/\∃ n,w'=w.drewN n:=by
 have hax:=hx.ad
 have hay:=hy.ad
 have HX:=zab hx.cell
 have HY:=zab hy.cell
 clear hx hy
 go_enter func106,ntmps106
 go_wp2
 go_loopw [5] (fun i wr=>∃ k:Nat,k<=ss.length/\i = .int .i64 k/\∃ n,wr=w.drewN n) (fun i _=>ss.length - (intOf i).toNat)
 case atStart=>exact⟨0,yt _,rfl,0,rfl⟩
 case round=>
  obtain⟨k,hk,rfl,n,rfl⟩:=hrel
  by_cases hlt:k < ss.length
  ·have hcx:=uh HX k hlt
   have hcy:=uh HY k hlt
   obtain rfl:=hax (by omega)
   obtain rfl:=hay (by omega)
   clear hax hay
   generalize ss.getD k ByteArray.empty=s at *
   have hlt':(k:Int) < (ss.length:Int):=by omega
   have dcx:(w.drewN n).cell? ⟨xb,xo+k,none⟩=some (.string s):=hcx
   have dcy:(w.drewN n).cell? ⟨yb,yo+k,none⟩=some (.string s):=hcy
   go_wp2
   go_quiet (fail)
   go_wp2
   go_roundw
   case rel=>exact⟨k+1,by omega,by go_num,_,by first | rfl | (simp[World.drewN_drewN])⟩
   case measure=>simp[intOf]; omega
  ·clear hax hay
   go_wp2
   go_ret
   exact⟨rfl,_,rfl⟩
theorem ze2 (z:Int) (r:Nat) (hz:z=(r:Int)) (w:World) (hr:r<=1114111) :
  Calls prog 151 #[.int .i64 z] w fun e w'=>e = .returned (.string (zac (utf r)))/\Below w.heap.size w w':=by
 subst hz; exact zgT r w hr
theorem zht (c:UInt8) : UInt8.ofNat c.toNat=c:=UInt8.ofNat_toNat
theorem zx8 (s:ByteArray) (i:Nat) (hi:i < s.size)  : (s.extract i (i+1)).toList=[s[i]]:=by
 rw[Lib.toList_data,Lib.extract_data]
 rw[zax s i hi]
 rw[show i+1 - i=1 from by omega]
 rfl
theorem zx9 (s:ByteArray) (i:Nat) (hi:i < s.size)  (a:0<=s[i].toNat) (b:s[i].toNat<=127)  : ((zac (utf (s[i].toNat))).toList == (s.extract i (i+1)).toList)=decide (0<=s[i].toNat):=by
 rw[zx8 s i hi ,Lib.toList_data,zad]
 by_cases hm:0<=s[i].toNat
 ·have hu:utf (s[i].toNat)=[s[i]]:=by
   unfold utf zgv
   rw[yg (by omega)]
   simp only[yi,List.map_nil,zht]
  rw[hu,yj hm]; simp
 ·omega
theorem zyM (s:ByteArray) (i:Nat) (w:World) (hi:i < s.size) (hs:s.size<=1048576) (h:0<=s[i].toNat) (h':s[i].toNat<=127) :
  Calls prog 148 #[.string s,.int .i64 i] w fun e w'=>e = .returned (.int .i64 (rl s i))/\Below w.heap.size w w':=by
 have HR:Hid (rl s i=1):=by show _=_; unfold rl; rw[zja (by rw[zas s i hi]; omega)]
 have hI:(0:Int)<=(s[i].toNat:Int):=by omega
 have hI':(s[i].toNat:Int)<=127:=by omega
 go_enter func148,ntmps148
 go_wp2
 go_loop [7,8] (fun r k=>(k = .int .i64 1/\r = .int .i64 ((s[i].toNat:Int)))) (fun _ k=>1 - (intOf k).toNat)
 case atStart=>exact⟨rfl,rfl⟩
 case round=>
  obtain⟨rfl,rfl⟩:=hrel
  have HZ:Hid ((s[i].toNat:Int)=((s[i].toNat:Nat) : Int)):=by show _=_; omega
  have hz2:(0:Int)<=(s[i].toNat:Int)/\(s[i].toNat:Int)<=127:=by omega
  have HC:=zab (zx9 s i hi  h h' )
  have HE:Hid (rl s i=if 0<=s[i].toNat then 1 else 0):=by have e:=uh HR; show _=_; rw[e,yg (by omega)]
  obtain⟨z1,z2⟩:=hz2
  have i1:(i:Int)+1<=(s.size:Int):=by omega
  have i2:(i:Int)<=(i:Int)+1:=by omega
  have i3:(0:Int)<=(i:Int):=by omega
  have hzR:=uh HZ
  have e1:decide ((1114111:Int) < (s[i].toNat:Int))=false:=by simp; omega
  have e2:decide ((55296:Int)<=(s[i].toNat:Int))=false:=by simp; omega
  have y1:¬ (1114111:Int) < (s[i].toNat:Int):=by omega
  have y2:(s[i].toNat:Int) < (55296:Int):=by omega
  have HU:Hid (∀ d os,Calls prog 151 #[.int .i64 (s[i].toNat:Int)] (Sort.grow (redrawn w d) os) fun e w''=>e = .returned (.string (zac (utf s[i].toNat)))/\∃ p:Regrown,w''=Sort.grow (redrawn w p.d) p.os):=fun d os=>Calls.regrown_of (ze2 _ _ hzR _ (by omega))
  have hm0:0<=s[i].toNat∨¬ 0<=s[i].toNat:=Decidable.em _
  rcases hm0 with hm | hm
  ·have HEQ:Hid (rl s i=1):=by have e:=uh HE; show _=_; rw[e,yg hm]
   rw[yj hm] at HC
   have hcmp:=uh HC
   clear hzR HC hm
   generalize zac (utf s[i].toNat)=us at *
   go_wp2
   refine wp_region_quiet_below (by kernel_rfl) (by kernel_rfl) ?_
   repeat (first | go_big_quiet_step ((go_at_call 151; exact uh HU _ _)) | quiet_step ((go_at_call 151; exact uh HU _ _)))
   refine wpQuiet_nil ?_
   intro _ hw'
   obtain⟨⟨dq,osq⟩,hw''⟩:=hw'
   subst hw''
   go_wp2
   go_ret
   exact⟨by rw[uh HEQ]; rfl,below_regrown w dq osq⟩
  ·omega
theorem zya (s:ByteArray) (i:Nat) (hi:i < s.size) (h1:i+1 < s.size) : (s.extract i (i+2)).toList=[s[i],s[i+1]]:=by
 rw[Lib.toList_data,Lib.extract_data]
 rw[zax s i hi]
 rw[zax s (i+1) h1]
 rw[show i+2 - i=2 from by omega]
 rfl
theorem zyb (s:ByteArray) (i:Nat) (hi:i < s.size) (h1:i+1 < s.size) (a:192<=s[i].toNat) (b:s[i].toNat<=223) (p1:128<=s[i+1].toNat) (q1:s[i+1].toNat < 192) : ((zac (utf ((s[i].toNat - 192)*64+(s[i+1].toNat - 128)))).toList == (s.extract i (i+2)).toList)=decide (128<=(s[i].toNat - 192)*64+(s[i+1].toNat - 128)):=by
 rw[zya s i hi h1,Lib.toList_data,zad]
 by_cases hm:128<=(s[i].toNat - 192)*64+(s[i+1].toNat - 128)
 ·have hu:utf ((s[i].toNat - 192)*64+(s[i+1].toNat - 128))=[s[i],s[i+1]]:=by
   unfold utf zgv
   rw[yf (by omega),yg (by omega)]
   have e0:192+((s[i].toNat - 192)*64+(s[i+1].toNat - 128)) / 64=s[i].toNat:=by omega
   have e1:128+((s[i].toNat - 192)*64+(s[i+1].toNat - 128)) % 64=s[i+1].toNat:=by omega
   rw[e0,e1]
   simp only[yi,List.map_nil,zht]
  rw[hu,yj hm]; simp
 ·rw[yk hm,yd]
  intro e
  have h:=congrArg List.length e
  unfold utf zgv at h
  simp only[yl,yn,yD] at h
  split at h
  ·simp at h
  ·first | omega | (split at h; simp at h; first | omega | (split at h; simp at h; omega))
theorem zyN (s:ByteArray) (i:Nat) (w:World) (hi:i < s.size) (hs:s.size<=1048576) (h:192<=s[i].toNat) (h':s[i].toNat<=223) :
  Calls prog 148 #[.string s,.int .i64 i] w fun e w'=>e = .returned (.int .i64 (rl s i))/\Below w.heap.size w w':=by
 have HR:Hid (rl s i=if 2<=s.size - i/\128<=bt s (i+1)/\bt s (i+1) < 192/\128<=(s[i].toNat - 192)*64+(bt s (i+1) - 128) then 2 else 0):=by
  show _=_; unfold rl; rw[zpH (by rw[zas s i hi]; exact h) (by rw[zas s i hi]; omega) (zb1 _ _),zas s i hi]
 have hI:(192:Int)<=(s[i].toNat:Int):=by omega
 have hI':(s[i].toNat:Int)<=223:=by omega
 by_cases hlen:i+1 < s.size
 ·have h1:i+1 < s.size:=by omega
  rw[zas s (i+1) h1] at HR
  go_enter func148,ntmps148
  go_wp2
  go_loop [7,8] (fun r k=>(k = .int .i64 1/\r = .int .i64 ((s[i].toNat:Int) - 192))∨(k = .int .i64 2/\128<=s[i+1].toNat/\s[i+1].toNat < 192/\r = .int .i64 (((s[i].toNat:Int) - 192)*64+(s[i+1].toNat:Int) - 128))) (fun _ k=>2 - (intOf k).toNat)
  case atStart=>exact .inl ⟨rfl,rfl⟩
  case round=>
   rcases hrel with ⟨rfl,rfl⟩ | ⟨rfl,p1,q1,rfl⟩
   ·by_cases hc:128<=s[i+1].toNat/\s[i+1].toNat < 192
    ·obtain⟨c1,c2⟩:=hc
     have x1:¬ (s[i+1].toNat:Int) < 128:=by omega
     have x2:¬ (192:Int)<=(s[i+1].toNat:Int):=by omega
     have x3:decide ((s[i+1].toNat:Int) < 128)=false:=by simp; omega
     go_wp2
     go_round
     case rel=>exact .inr (⟨by go_num,c1,c2,by go_num⟩)
     case measure=>simp[intOf]
    ·have HF:Hid (rl s i=0):=by have e:=uh HR; show _=_; rw[e,yf (by omega)]
     rcases (show s[i+1].toNat < 128∨192<=s[i+1].toNat from by omega) with hlow | hhigh
     ·have x1:(s[i+1].toNat:Int) < 128:=by omega
      clear hc
      go_wp2
      go_ret
      exact⟨by rw[uh HF]; rfl,yH _ _⟩
     ·have x1:¬ (s[i+1].toNat:Int) < 128:=by omega
      have x2:(192:Int)<=(s[i+1].toNat:Int):=by omega
      have x3:decide ((s[i+1].toNat:Int) < 128)=false:=by simp; omega
      clear hc
      go_wp2
      go_ret
      exact⟨by rw[uh HF]; rfl,yH _ _⟩
   ·have HZ:Hid (((s[i].toNat:Int) - 192)*64+(s[i+1].toNat:Int) - 128=(((s[i].toNat - 192)*64+(s[i+1].toNat - 128) : Nat) : Int)):=by show _=_; omega
    have hz2:(0:Int)<=((s[i].toNat:Int) - 192)*64+(s[i+1].toNat:Int) - 128/\((s[i].toNat:Int) - 192)*64+(s[i+1].toNat:Int) - 128<=2047:=by omega
    have HC:=zab (zyb s i hi h1 h h' p1 q1)
    have HE:Hid (rl s i=if 128<=(s[i].toNat - 192)*64+(s[i+1].toNat - 128) then 2 else 0):=by have e:=uh HR; show _=_; rw[e]; exact (Decidable.em (128<=(s[i].toNat - 192)*64+(s[i+1].toNat - 128))).elim (fun hm=>by rw[yg hm]; exact yg (by omega)) (fun hm=>by rw[yf hm]; exact yf (by omega))
    generalize ((s[i].toNat - 192)*64+(s[i+1].toNat - 128))=R at *
    generalize ((s[i].toNat:Int) - 192)*64+(s[i+1].toNat:Int) - 128=z at *
    obtain⟨z1,z2⟩:=hz2
    have i1:(i:Int)+2<=(s.size:Int):=by omega
    have i2:(i:Int)<=(i:Int)+2:=by omega
    have i3:(0:Int)<=(i:Int):=by omega
    have hzR:=uh HZ
    have e1:decide ((1114111:Int) < z)=false:=by simp; omega
    have e2:decide ((55296:Int)<=z)=false:=by simp; omega
    have y1:¬ (1114111:Int) < z:=by omega
    have y2:z < (55296:Int):=by omega
    have HU:Hid (∀ d os,Calls prog 151 #[.int .i64 z] (Sort.grow (redrawn w d) os) fun e w''=>e = .returned (.string (zac (utf R)))/\∃ p:Regrown,w''=Sort.grow (redrawn w p.d) p.os):=fun d os=>Calls.regrown_of (ze2 _ _ hzR _ (by omega))
    have hm0:128<=R∨¬ 128<=R:=Decidable.em _
    rcases hm0 with hm | hm
    ·have HEQ:Hid (rl s i=2):=by have e:=uh HE; show _=_; rw[e,yg hm]
     rw[yj hm] at HC
     have hcmp:=uh HC
     clear hzR HC hm
     generalize zac (utf R)=us at *
     go_wp2
     refine wp_region_quiet_below (by kernel_rfl) (by kernel_rfl) ?_
     repeat (first | go_big_quiet_step ((go_at_call 151; exact uh HU _ _)) | quiet_step ((go_at_call 151; exact uh HU _ _)))
     refine wpQuiet_nil ?_
     intro _ hw'
     obtain⟨⟨dq,osq⟩,hw''⟩:=hw'
     subst hw''
     go_wp2
     go_ret
     exact⟨by rw[uh HEQ]; rfl,below_regrown w dq osq⟩
    ·have HEQ:Hid (rl s i=0):=by have e:=uh HE; show _=_; rw[e,yf hm]
     rw[yk hm] at HC
     have hcmp:=uh HC
     clear hzR HC hm
     generalize zac (utf R)=us at *
     go_wp2
     refine wp_region_quiet_below (by kernel_rfl) (by kernel_rfl) ?_
     repeat (first | go_big_quiet_step ((go_at_call 151; exact uh HU _ _)) | quiet_step ((go_at_call 151; exact uh HU _ _)))
     refine wpQuiet_nil ?_
     intro _ hw'
     obtain⟨⟨dq,osq⟩,hw''⟩:=hw'
     subst hw''
     go_wp2
     go_ret
     exact⟨by rw[uh HEQ]; rfl,below_regrown w dq osq⟩
 ·have HF:Hid (rl s i=0):=by have e:=uh HR; show _=_; rw[e,yf (by omega)]
  have x1:(s.size:Int) < (i:Int)+2:=by omega
  go_enter func148,ntmps148
  go_wp2
  go_ret
  exact⟨by rw[uh HF]; rfl,yH _ _⟩
theorem zyc (s:ByteArray) (i:Nat) (hi:i < s.size) (h1:i+1 < s.size) (h2:i+2 < s.size) : (s.extract i (i+3)).toList=[s[i],s[i+1],s[i+2]]:=by
 rw[Lib.toList_data,Lib.extract_data]
 rw[zax s i hi]
 rw[zax s (i+1) h1]
 rw[zax s (i+2) h2]
 rw[show i+3 - i=3 from by omega]
 rfl
theorem zyd (s:ByteArray) (i:Nat) (hi:i < s.size) (h1:i+1 < s.size) (h2:i+2 < s.size) (a:224<=s[i].toNat) (b:s[i].toNat<=239) (p1:128<=s[i+1].toNat) (q1:s[i+1].toNat < 192) (p2:128<=s[i+2].toNat) (q2:s[i+2].toNat < 192) : ((zac (utf ((s[i].toNat - 224)*4096+(s[i+1].toNat - 128)*64+(s[i+2].toNat - 128)))).toList == (s.extract i (i+3)).toList)=decide (2048<=(s[i].toNat - 224)*4096+(s[i+1].toNat - 128)*64+(s[i+2].toNat - 128)):=by
 rw[zyc s i hi h1 h2,Lib.toList_data,zad]
 by_cases hm:2048<=(s[i].toNat - 224)*4096+(s[i+1].toNat - 128)*64+(s[i+2].toNat - 128)
 ·have hu:utf ((s[i].toNat - 224)*4096+(s[i+1].toNat - 128)*64+(s[i+2].toNat - 128))=[s[i],s[i+1],s[i+2]]:=by
   unfold utf zgv
   rw[yf (by omega),yf (by omega),yg (by omega)]
   have e0:224+((s[i].toNat - 224)*4096+(s[i+1].toNat - 128)*64+(s[i+2].toNat - 128)) / 4096=s[i].toNat:=by omega
   have e1:128+((s[i].toNat - 224)*4096+(s[i+1].toNat - 128)*64+(s[i+2].toNat - 128)) / 64 % 64=s[i+1].toNat:=by omega
   have e2:128+((s[i].toNat - 224)*4096+(s[i+1].toNat - 128)*64+(s[i+2].toNat - 128)) % 64=s[i+2].toNat:=by omega
   rw[e0,e1,e2]
   simp only[yi,List.map_nil,zht]
  rw[hu,yj hm]; simp
 ·rw[yk hm,yd]
  intro e
  have h:=congrArg List.length e
  unfold utf zgv at h
  simp only[yl,yn,yD] at h
  split at h
  ·simp at h
  ·first | omega | (split at h; simp at h; first | omega | (split at h; simp at h; omega))
theorem zyO (s:ByteArray) (i:Nat) (w:World) (hi:i < s.size) (hs:s.size<=1048576) (h:224<=s[i].toNat) (h':s[i].toNat<=239) :
  Calls prog 148 #[.string s,.int .i64 i] w fun e w'=>e = .returned (.int .i64 (rl s i))/\Below w.heap.size w w':=by
 have HR:Hid (rl s i=if 3<=s.size - i/\128<=bt s (i+1)/\bt s (i+1) < 192/\128<=bt s (i+2)/\bt s (i+2) < 192/\2048<=(s[i].toNat - 224)*4096+(bt s (i+1) - 128)*64+(bt s (i+2) - 128)/\((s[i].toNat - 224)*4096+(bt s (i+1) - 128)*64+(bt s (i+2) - 128) < 55296∨57344<=(s[i].toNat - 224)*4096+(bt s (i+1) - 128)*64+(bt s (i+2) - 128)) then 3 else 0):=by
  show _=_; unfold rl; rw[zpI (by rw[zas s i hi]; exact h) (by rw[zas s i hi]; omega) (zb1 _ _) (zb1 _ _),zas s i hi]
 have hI:(224:Int)<=(s[i].toNat:Int):=by omega
 have hI':(s[i].toNat:Int)<=239:=by omega
 by_cases hlen:i+2 < s.size
 ·have h1:i+1 < s.size:=by omega
  have h2:i+2 < s.size:=by omega
  rw[zas s (i+1) h1] at HR
  rw[zas s (i+2) h2] at HR
  go_enter func148,ntmps148
  go_wp2
  go_loop [7,8] (fun r k=>(k = .int .i64 1/\r = .int .i64 ((s[i].toNat:Int) - 224))∨(k = .int .i64 2/\128<=s[i+1].toNat/\s[i+1].toNat < 192/\r = .int .i64 (((s[i].toNat:Int) - 224)*64+(s[i+1].toNat:Int) - 128))∨(k = .int .i64 3/\128<=s[i+1].toNat/\s[i+1].toNat < 192/\128<=s[i+2].toNat/\s[i+2].toNat < 192/\r = .int .i64 ((((s[i].toNat:Int) - 224)*64+(s[i+1].toNat:Int) - 128)*64+(s[i+2].toNat:Int) - 128))) (fun _ k=>3 - (intOf k).toNat)
  case atStart=>exact .inl ⟨rfl,rfl⟩
  case round=>
   rcases hrel with ⟨rfl,rfl⟩ | ⟨rfl,p1,q1,rfl⟩ | ⟨rfl,p1,q1,p2,q2,rfl⟩
   ·by_cases hc:128<=s[i+1].toNat/\s[i+1].toNat < 192
    ·obtain⟨c1,c2⟩:=hc
     have x1:¬ (s[i+1].toNat:Int) < 128:=by omega
     have x2:¬ (192:Int)<=(s[i+1].toNat:Int):=by omega
     have x3:decide ((s[i+1].toNat:Int) < 128)=false:=by simp; omega
     go_wp2
     go_round
     case rel=>exact .inr (.inl ⟨by go_num,c1,c2,by go_num⟩)
     case measure=>simp[intOf]
    ·have HF:Hid (rl s i=0):=by have e:=uh HR; show _=_; rw[e,yf (by omega)]
     rcases (show s[i+1].toNat < 128∨192<=s[i+1].toNat from by omega) with hlow | hhigh
     ·have x1:(s[i+1].toNat:Int) < 128:=by omega
      clear hc
      go_wp2
      go_ret
      exact⟨by rw[uh HF]; rfl,yH _ _⟩
     ·have x1:¬ (s[i+1].toNat:Int) < 128:=by omega
      have x2:(192:Int)<=(s[i+1].toNat:Int):=by omega
      have x3:decide ((s[i+1].toNat:Int) < 128)=false:=by simp; omega
      clear hc
      go_wp2
      go_ret
      exact⟨by rw[uh HF]; rfl,yH _ _⟩
   ·by_cases hc:128<=s[i+2].toNat/\s[i+2].toNat < 192
    ·obtain⟨c1,c2⟩:=hc
     have x1:¬ (s[i+2].toNat:Int) < 128:=by omega
     have x2:¬ (192:Int)<=(s[i+2].toNat:Int):=by omega
     have x3:decide ((s[i+2].toNat:Int) < 128)=false:=by simp; omega
     go_wp2
     go_round
     case rel=>exact .inr (.inr (⟨by go_num,p1,q1,c1,c2,by go_num⟩))
     case measure=>simp[intOf]
    ·have HF:Hid (rl s i=0):=by have e:=uh HR; show _=_; rw[e,yf (by omega)]
     rcases (show s[i+2].toNat < 128∨192<=s[i+2].toNat from by omega) with hlow | hhigh
     ·have x1:(s[i+2].toNat:Int) < 128:=by omega
      clear hc
      go_wp2
      go_ret
      exact⟨by rw[uh HF]; rfl,yH _ _⟩
     ·have x1:¬ (s[i+2].toNat:Int) < 128:=by omega
      have x2:(192:Int)<=(s[i+2].toNat:Int):=by omega
      have x3:decide ((s[i+2].toNat:Int) < 128)=false:=by simp; omega
      clear hc
      go_wp2
      go_ret
      exact⟨by rw[uh HF]; rfl,yH _ _⟩
   ·have HZ:Hid ((((s[i].toNat:Int) - 224)*64+(s[i+1].toNat:Int) - 128)*64+(s[i+2].toNat:Int) - 128=(((s[i].toNat - 224)*4096+(s[i+1].toNat - 128)*64+(s[i+2].toNat - 128) : Nat) : Int)):=by show _=_; omega
    have hz2:(0:Int)<=(((s[i].toNat:Int) - 224)*64+(s[i+1].toNat:Int) - 128)*64+(s[i+2].toNat:Int) - 128/\(((s[i].toNat:Int) - 224)*64+(s[i+1].toNat:Int) - 128)*64+(s[i+2].toNat:Int) - 128<=65535:=by omega
    have HC:=zab (zyd s i hi h1 h2 h h' p1 q1 p2 q2)
    have HE:Hid ((55296<=(s[i].toNat - 224)*4096+(s[i+1].toNat - 128)*64+(s[i+2].toNat - 128)/\(s[i].toNat - 224)*4096+(s[i+1].toNat - 128)*64+(s[i+2].toNat - 128) < 57344)∨1114111 < (s[i].toNat - 224)*4096+(s[i+1].toNat - 128)*64+(s[i+2].toNat - 128)->rl s i=0):=fun hb=>by have e:=uh HR; rw[e,yf (by omega)]
    have HE2:Hid (¬ ((55296<=(s[i].toNat - 224)*4096+(s[i+1].toNat - 128)*64+(s[i+2].toNat - 128)/\(s[i].toNat - 224)*4096+(s[i+1].toNat - 128)*64+(s[i+2].toNat - 128) < 57344)∨1114111 < (s[i].toNat - 224)*4096+(s[i+1].toNat - 128)*64+(s[i+2].toNat - 128))->rl s i=if 2048<=(s[i].toNat - 224)*4096+(s[i+1].toNat - 128)*64+(s[i+2].toNat - 128) then 3 else 0):=fun hb=>by have e:=uh HR; rw[e]; exact (Decidable.em (2048<=(s[i].toNat - 224)*4096+(s[i+1].toNat - 128)*64+(s[i+2].toNat - 128))).elim (fun hm=>by rw[yg hm]; exact yg (by omega)) (fun hm=>by rw[yf hm]; exact yf (by omega))
    generalize ((s[i].toNat - 224)*4096+(s[i+1].toNat - 128)*64+(s[i+2].toNat - 128))=R at *
    generalize (((s[i].toNat:Int) - 224)*64+(s[i+1].toNat:Int) - 128)*64+(s[i+2].toNat:Int) - 128=z at *
    obtain⟨z1,z2⟩:=hz2
    have i1:(i:Int)+3<=(s.size:Int):=by omega
    have i2:(i:Int)<=(i:Int)+3:=by omega
    have i3:(0:Int)<=(i:Int):=by omega
    have hzR:=uh HZ
    by_cases ha:z < 55296
    ·have e1:decide ((1114111:Int) < z)=false:=by simp; omega
     have e2:decide ((55296:Int)<=z)=false:=by simp; omega
     have y1:¬ (1114111:Int) < z:=by omega
     have y2:z < (55296:Int):=ha
     have HU:Hid (∀ d os,Calls prog 151 #[.int .i64 z] (Sort.grow (redrawn w d) os) fun e w''=>e = .returned (.string (zac (utf R)))/\∃ p:Regrown,w''=Sort.grow (redrawn w p.d) p.os):=fun d os=>Calls.regrown_of (ze2 _ _ hzR _ (by omega))
     have hm0:2048<=R∨¬ 2048<=R:=Decidable.em _
     rcases hm0 with hm | hm
     ·have HEQ:Hid (rl s i=3):=by have e:=uh HE2 (by omega); show _=_; rw[e,yg hm]
      rw[yj hm] at HC
      have hcmp:=uh HC
      clear hzR HC hm
      generalize zac (utf R)=us at *
      go_wp2
      refine wp_region_quiet_below (by kernel_rfl) (by kernel_rfl) ?_
      repeat (first | go_big_quiet_step ((go_at_call 151; exact uh HU _ _)) | quiet_step ((go_at_call 151; exact uh HU _ _)))
      refine wpQuiet_nil ?_
      intro _ hw'
      obtain⟨⟨dq,osq⟩,hw''⟩:=hw'
      subst hw''
      go_wp2
      go_ret
      exact⟨by rw[uh HEQ]; rfl,below_regrown w dq osq⟩
     ·have HEQ:Hid (rl s i=0):=by have e:=uh HE2 (by omega); show _=_; rw[e,yf hm]
      rw[yk hm] at HC
      have hcmp:=uh HC
      clear hzR HC hm
      generalize zac (utf R)=us at *
      go_wp2
      refine wp_region_quiet_below (by kernel_rfl) (by kernel_rfl) ?_
      repeat (first | go_big_quiet_step ((go_at_call 151; exact uh HU _ _)) | quiet_step ((go_at_call 151; exact uh HU _ _)))
      refine wpQuiet_nil ?_
      intro _ hw'
      obtain⟨⟨dq,osq⟩,hw''⟩:=hw'
      subst hw''
      go_wp2
      go_ret
      exact⟨by rw[uh HEQ]; rfl,below_regrown w dq osq⟩
    ·by_cases hb:z < 57344
     ·have e1:decide ((1114111:Int) < z)=false:=by simp; omega
      have e2:decide ((55296:Int)<=z)=true:=by simp; omega
      have e3:decide (z < (57344:Int))=true:=by simp; omega
      have y1:¬ (1114111:Int) < z:=by omega
      have y2:(55296:Int)<=z:=by omega
      have HEQ:Hid (rl s i=0):=uh HE (by omega)
      clear hzR HC
      go_wp2
      refine wp_region_quiet_below (by kernel_rfl) (by kernel_rfl) ?_
      repeat (first | go_big_quiet_step (fail) | quiet_step (fail))
      refine wpQuiet_nil ?_
      intro _ hw'
      obtain⟨⟨dq,osq⟩,hw''⟩:=hw'
      subst hw''
      go_wp2
      go_ret
      exact⟨by rw[uh HEQ]; rfl,below_regrown w dq osq⟩
     ·have e1:decide ((1114111:Int) < z)=false:=by simp; omega
      have e2:decide ((55296:Int)<=z)=true:=by simp; omega
      have e3:decide (z < (57344:Int))=false:=by simp; omega
      have y1:¬ (1114111:Int) < z:=by omega
      have y2:(55296:Int)<=z:=by omega
      have y3:¬ z < (57344:Int):=hb
      have HU:Hid (∀ d os,Calls prog 151 #[.int .i64 z] (Sort.grow (redrawn w d) os) fun e w''=>e = .returned (.string (zac (utf R)))/\∃ p:Regrown,w''=Sort.grow (redrawn w p.d) p.os):=fun d os=>Calls.regrown_of (ze2 _ _ hzR _ (by omega))
      have hm0:2048<=R∨¬ 2048<=R:=Decidable.em _
      rcases hm0 with hm | hm
      ·have HEQ:Hid (rl s i=3):=by have e:=uh HE2 (by omega); show _=_; rw[e,yg hm]
       rw[yj hm] at HC
       have hcmp:=uh HC
       clear hzR HC hm
       generalize zac (utf R)=us at *
       go_wp2
       refine wp_region_quiet_below (by kernel_rfl) (by kernel_rfl) ?_
       repeat (first | go_big_quiet_step ((go_at_call 151; exact uh HU _ _)) | quiet_step ((go_at_call 151; exact uh HU _ _)))
       refine wpQuiet_nil ?_
       intro _ hw'
       obtain⟨⟨dq,osq⟩,hw''⟩:=hw'
       subst hw''
       go_wp2
       go_ret
       exact⟨by rw[uh HEQ]; rfl,below_regrown w dq osq⟩
      ·have HEQ:Hid (rl s i=0):=by have e:=uh HE2 (by omega); show _=_; rw[e,yf hm]
       rw[yk hm] at HC
       have hcmp:=uh HC
       clear hzR HC hm
       generalize zac (utf R)=us at *
       go_wp2
       refine wp_region_quiet_below (by kernel_rfl) (by kernel_rfl) ?_
       repeat (first | go_big_quiet_step ((go_at_call 151; exact uh HU _ _)) | quiet_step ((go_at_call 151; exact uh HU _ _)))
       refine wpQuiet_nil ?_
       intro _ hw'
       obtain⟨⟨dq,osq⟩,hw''⟩:=hw'
       subst hw''
       go_wp2
       go_ret
       exact⟨by rw[uh HEQ]; rfl,below_regrown w dq osq⟩
 ·have HF:Hid (rl s i=0):=by have e:=uh HR; show _=_; rw[e,yf (by omega)]
  have x1:(s.size:Int) < (i:Int)+3:=by omega
  go_enter func148,ntmps148
  go_wp2
  go_ret
  exact⟨by rw[uh HF]; rfl,yH _ _⟩
theorem zye (s:ByteArray) (i:Nat) (hi:i < s.size) (h1:i+1 < s.size) (h2:i+2 < s.size) (h3:i+3 < s.size) : (s.extract i (i+4)).toList=[s[i],s[i+1],s[i+2],s[i+3]]:=by
 rw[Lib.toList_data,Lib.extract_data]
 rw[zax s i hi]
 rw[zax s (i+1) h1]
 rw[zax s (i+2) h2]
 rw[zax s (i+3) h3]
 rw[show i+4 - i=4 from by omega]
 rfl
theorem zyf (s:ByteArray) (i:Nat) (hi:i < s.size) (h1:i+1 < s.size) (h2:i+2 < s.size) (h3:i+3 < s.size) (a:240<=s[i].toNat) (b:s[i].toNat<=255) (p1:128<=s[i+1].toNat) (q1:s[i+1].toNat < 192) (p2:128<=s[i+2].toNat) (q2:s[i+2].toNat < 192) (p3:128<=s[i+3].toNat) (q3:s[i+3].toNat < 192) : ((zac (utf ((s[i].toNat - 240)*262144+(s[i+1].toNat - 128)*4096+(s[i+2].toNat - 128)*64+(s[i+3].toNat - 128)))).toList == (s.extract i (i+4)).toList)=decide (65536<=(s[i].toNat - 240)*262144+(s[i+1].toNat - 128)*4096+(s[i+2].toNat - 128)*64+(s[i+3].toNat - 128)):=by
 rw[zye s i hi h1 h2 h3,Lib.toList_data,zad]
 by_cases hm:65536<=(s[i].toNat - 240)*262144+(s[i+1].toNat - 128)*4096+(s[i+2].toNat - 128)*64+(s[i+3].toNat - 128)
 ·have hu:utf ((s[i].toNat - 240)*262144+(s[i+1].toNat - 128)*4096+(s[i+2].toNat - 128)*64+(s[i+3].toNat - 128))=[s[i],s[i+1],s[i+2],s[i+3]]:=by
   unfold utf zgv
   rw[yf (by omega),yf (by omega),yf (by omega)]
   have e0:240+((s[i].toNat - 240)*262144+(s[i+1].toNat - 128)*4096+(s[i+2].toNat - 128)*64+(s[i+3].toNat - 128)) / 262144=s[i].toNat:=by omega
   have e1:128+((s[i].toNat - 240)*262144+(s[i+1].toNat - 128)*4096+(s[i+2].toNat - 128)*64+(s[i+3].toNat - 128)) / 4096 % 64=s[i+1].toNat:=by omega
   have e2:128+((s[i].toNat - 240)*262144+(s[i+1].toNat - 128)*4096+(s[i+2].toNat - 128)*64+(s[i+3].toNat - 128)) / 64 % 64=s[i+2].toNat:=by omega
   have e3:128+((s[i].toNat - 240)*262144+(s[i+1].toNat - 128)*4096+(s[i+2].toNat - 128)*64+(s[i+3].toNat - 128)) % 64=s[i+3].toNat:=by omega
   rw[e0,e1,e2,e3]
   simp only[yi,List.map_nil,zht]
  rw[hu,yj hm]; simp
 ·rw[yk hm,yd]
  intro e
  have h:=congrArg List.length e
  unfold utf zgv at h
  simp only[yl,yn,yD] at h
  split at h
  ·simp at h
  ·first | omega | (split at h; simp at h; first | omega | (split at h; simp at h; omega))
theorem zyP (s:ByteArray) (i:Nat) (w:World) (hi:i < s.size) (hs:s.size<=1048576) (h:240<=s[i].toNat) (h':s[i].toNat<=255) :
  Calls prog 148 #[.string s,.int .i64 i] w fun e w'=>e = .returned (.int .i64 (rl s i))/\Below w.heap.size w w':=by
 have HR:Hid (rl s i=if 4<=s.size - i/\128<=bt s (i+1)/\bt s (i+1) < 192/\128<=bt s (i+2)/\bt s (i+2) < 192/\128<=bt s (i+3)/\bt s (i+3) < 192/\65536<=(s[i].toNat - 240)*262144+(bt s (i+1) - 128)*4096+(bt s (i+2) - 128)*64+(bt s (i+3) - 128)/\(s[i].toNat - 240)*262144+(bt s (i+1) - 128)*4096+(bt s (i+2) - 128)*64+(bt s (i+3) - 128)<=1114111 then 4 else 0):=by
  show _=_; unfold rl; rw[zpJ (by rw[zas s i hi]; exact h) (by rw[zas s i hi]; omega) (zb1 _ _) (zb1 _ _) (zb1 _ _),zas s i hi]
 have hI:(240:Int)<=(s[i].toNat:Int):=by omega
 have hI':(s[i].toNat:Int)<=255:=by omega
 by_cases hlen:i+3 < s.size
 ·have h1:i+1 < s.size:=by omega
  have h2:i+2 < s.size:=by omega
  have h3:i+3 < s.size:=by omega
  rw[zas s (i+1) h1] at HR
  rw[zas s (i+2) h2] at HR
  rw[zas s (i+3) h3] at HR
  go_enter func148,ntmps148
  go_wp2
  go_loop [7,8] (fun r k=>(k = .int .i64 1/\r = .int .i64 ((s[i].toNat:Int) - 240))∨(k = .int .i64 2/\128<=s[i+1].toNat/\s[i+1].toNat < 192/\r = .int .i64 (((s[i].toNat:Int) - 240)*64+(s[i+1].toNat:Int) - 128))∨(k = .int .i64 3/\128<=s[i+1].toNat/\s[i+1].toNat < 192/\128<=s[i+2].toNat/\s[i+2].toNat < 192/\r = .int .i64 ((((s[i].toNat:Int) - 240)*64+(s[i+1].toNat:Int) - 128)*64+(s[i+2].toNat:Int) - 128))∨(k = .int .i64 4/\128<=s[i+1].toNat/\s[i+1].toNat < 192/\128<=s[i+2].toNat/\s[i+2].toNat < 192/\128<=s[i+3].toNat/\s[i+3].toNat < 192/\r = .int .i64 (((((s[i].toNat:Int) - 240)*64+(s[i+1].toNat:Int) - 128)*64+(s[i+2].toNat:Int) - 128)*64+(s[i+3].toNat:Int) - 128))) (fun _ k=>4 - (intOf k).toNat)
  case atStart=>exact .inl ⟨rfl,rfl⟩
  case round=>
   rcases hrel with ⟨rfl,rfl⟩ | ⟨rfl,p1,q1,rfl⟩ | ⟨rfl,p1,q1,p2,q2,rfl⟩ | ⟨rfl,p1,q1,p2,q2,p3,q3,rfl⟩
   ·by_cases hc:128<=s[i+1].toNat/\s[i+1].toNat < 192
    ·obtain⟨c1,c2⟩:=hc
     have x1:¬ (s[i+1].toNat:Int) < 128:=by omega
     have x2:¬ (192:Int)<=(s[i+1].toNat:Int):=by omega
     have x3:decide ((s[i+1].toNat:Int) < 128)=false:=by simp; omega
     go_wp2
     go_round
     case rel=>exact .inr (.inl ⟨by go_num,c1,c2,by go_num⟩)
     case measure=>simp[intOf]
    ·have HF:Hid (rl s i=0):=by have e:=uh HR; show _=_; rw[e,yf (by omega)]
     rcases (show s[i+1].toNat < 128∨192<=s[i+1].toNat from by omega) with hlow | hhigh
     ·have x1:(s[i+1].toNat:Int) < 128:=by omega
      clear hc
      go_wp2
      go_ret
      exact⟨by rw[uh HF]; rfl,yH _ _⟩
     ·have x1:¬ (s[i+1].toNat:Int) < 128:=by omega
      have x2:(192:Int)<=(s[i+1].toNat:Int):=by omega
      have x3:decide ((s[i+1].toNat:Int) < 128)=false:=by simp; omega
      clear hc
      go_wp2
      go_ret
      exact⟨by rw[uh HF]; rfl,yH _ _⟩
   ·by_cases hc:128<=s[i+2].toNat/\s[i+2].toNat < 192
    ·obtain⟨c1,c2⟩:=hc
     have x1:¬ (s[i+2].toNat:Int) < 128:=by omega
     have x2:¬ (192:Int)<=(s[i+2].toNat:Int):=by omega
     have x3:decide ((s[i+2].toNat:Int) < 128)=false:=by simp; omega
     go_wp2
     go_round
     case rel=>exact .inr (.inr (.inl ⟨by go_num,p1,q1,c1,c2,by go_num⟩))
     case measure=>simp[intOf]
    ·have HF:Hid (rl s i=0):=by have e:=uh HR; show _=_; rw[e,yf (by omega)]
     rcases (show s[i+2].toNat < 128∨192<=s[i+2].toNat from by omega) with hlow | hhigh
     ·have x1:(s[i+2].toNat:Int) < 128:=by omega
      clear hc
      go_wp2
      go_ret
      exact⟨by rw[uh HF]; rfl,yH _ _⟩
     ·have x1:¬ (s[i+2].toNat:Int) < 128:=by omega
      have x2:(192:Int)<=(s[i+2].toNat:Int):=by omega
      have x3:decide ((s[i+2].toNat:Int) < 128)=false:=by simp; omega
      clear hc
      go_wp2
      go_ret
      exact⟨by rw[uh HF]; rfl,yH _ _⟩
   ·by_cases hc:128<=s[i+3].toNat/\s[i+3].toNat < 192
    ·obtain⟨c1,c2⟩:=hc
     have x1:¬ (s[i+3].toNat:Int) < 128:=by omega
     have x2:¬ (192:Int)<=(s[i+3].toNat:Int):=by omega
     have x3:decide ((s[i+3].toNat:Int) < 128)=false:=by simp; omega
     go_wp2
     go_round
     case rel=>exact .inr (.inr (.inr (⟨by go_num,p1,q1,p2,q2,c1,c2,by go_num⟩)))
     case measure=>simp[intOf]
    ·have HF:Hid (rl s i=0):=by have e:=uh HR; show _=_; rw[e,yf (by omega)]
     rcases (show s[i+3].toNat < 128∨192<=s[i+3].toNat from by omega) with hlow | hhigh
     ·have x1:(s[i+3].toNat:Int) < 128:=by omega
      clear hc
      go_wp2
      go_ret
      exact⟨by rw[uh HF]; rfl,yH _ _⟩
     ·have x1:¬ (s[i+3].toNat:Int) < 128:=by omega
      have x2:(192:Int)<=(s[i+3].toNat:Int):=by omega
      have x3:decide ((s[i+3].toNat:Int) < 128)=false:=by simp; omega
      clear hc
      go_wp2
      go_ret
      exact⟨by rw[uh HF]; rfl,yH _ _⟩
   ·have HZ:Hid (((((s[i].toNat:Int) - 240)*64+(s[i+1].toNat:Int) - 128)*64+(s[i+2].toNat:Int) - 128)*64+(s[i+3].toNat:Int) - 128=(((s[i].toNat - 240)*262144+(s[i+1].toNat - 128)*4096+(s[i+2].toNat - 128)*64+(s[i+3].toNat - 128) : Nat) : Int)):=by show _=_; omega
    have hz2:(0:Int)<=((((s[i].toNat:Int) - 240)*64+(s[i+1].toNat:Int) - 128)*64+(s[i+2].toNat:Int) - 128)*64+(s[i+3].toNat:Int) - 128/\((((s[i].toNat:Int) - 240)*64+(s[i+1].toNat:Int) - 128)*64+(s[i+2].toNat:Int) - 128)*64+(s[i+3].toNat:Int) - 128<=4194303:=by omega
    have HC:=zab (zyf s i hi h1 h2 h3 h h' p1 q1 p2 q2 p3 q3)
    have HE:Hid ((55296<=(s[i].toNat - 240)*262144+(s[i+1].toNat - 128)*4096+(s[i+2].toNat - 128)*64+(s[i+3].toNat - 128)/\(s[i].toNat - 240)*262144+(s[i+1].toNat - 128)*4096+(s[i+2].toNat - 128)*64+(s[i+3].toNat - 128) < 57344)∨1114111 < (s[i].toNat - 240)*262144+(s[i+1].toNat - 128)*4096+(s[i+2].toNat - 128)*64+(s[i+3].toNat - 128)->rl s i=0):=fun hb=>by have e:=uh HR; rw[e,yf (by omega)]
    have HE2:Hid (¬ ((55296<=(s[i].toNat - 240)*262144+(s[i+1].toNat - 128)*4096+(s[i+2].toNat - 128)*64+(s[i+3].toNat - 128)/\(s[i].toNat - 240)*262144+(s[i+1].toNat - 128)*4096+(s[i+2].toNat - 128)*64+(s[i+3].toNat - 128) < 57344)∨1114111 < (s[i].toNat - 240)*262144+(s[i+1].toNat - 128)*4096+(s[i+2].toNat - 128)*64+(s[i+3].toNat - 128))->rl s i=if 65536<=(s[i].toNat - 240)*262144+(s[i+1].toNat - 128)*4096+(s[i+2].toNat - 128)*64+(s[i+3].toNat - 128) then 4 else 0):=fun hb=>by have e:=uh HR; rw[e]; exact (Decidable.em (65536<=(s[i].toNat - 240)*262144+(s[i+1].toNat - 128)*4096+(s[i+2].toNat - 128)*64+(s[i+3].toNat - 128))).elim (fun hm=>by rw[yg hm]; exact yg (by omega)) (fun hm=>by rw[yf hm]; exact yf (by omega))
    generalize ((s[i].toNat - 240)*262144+(s[i+1].toNat - 128)*4096+(s[i+2].toNat - 128)*64+(s[i+3].toNat - 128))=R at *
    generalize ((((s[i].toNat:Int) - 240)*64+(s[i+1].toNat:Int) - 128)*64+(s[i+2].toNat:Int) - 128)*64+(s[i+3].toNat:Int) - 128=z at *
    obtain⟨z1,z2⟩:=hz2
    have i1:(i:Int)+4<=(s.size:Int):=by omega
    have i2:(i:Int)<=(i:Int)+4:=by omega
    have i3:(0:Int)<=(i:Int):=by omega
    have hzR:=uh HZ
    by_cases ha:z < 55296
    ·have e1:decide ((1114111:Int) < z)=false:=by simp; omega
     have e2:decide ((55296:Int)<=z)=false:=by simp; omega
     have y1:¬ (1114111:Int) < z:=by omega
     have y2:z < (55296:Int):=ha
     have HU:Hid (∀ d os,Calls prog 151 #[.int .i64 z] (Sort.grow (redrawn w d) os) fun e w''=>e = .returned (.string (zac (utf R)))/\∃ p:Regrown,w''=Sort.grow (redrawn w p.d) p.os):=fun d os=>Calls.regrown_of (ze2 _ _ hzR _ (by omega))
     have hm0:65536<=R∨¬ 65536<=R:=Decidable.em _
     rcases hm0 with hm | hm
     ·have HEQ:Hid (rl s i=4):=by have e:=uh HE2 (by omega); show _=_; rw[e,yg hm]
      rw[yj hm] at HC
      have hcmp:=uh HC
      clear hzR HC hm
      generalize zac (utf R)=us at *
      go_wp2
      refine wp_region_quiet_below (by kernel_rfl) (by kernel_rfl) ?_
      repeat (first | go_big_quiet_step ((go_at_call 151; exact uh HU _ _)) | quiet_step ((go_at_call 151; exact uh HU _ _)))
      refine wpQuiet_nil ?_
      intro _ hw'
      obtain⟨⟨dq,osq⟩,hw''⟩:=hw'
      subst hw''
      go_wp2
      go_ret
      exact⟨by rw[uh HEQ]; rfl,below_regrown w dq osq⟩
     ·have HEQ:Hid (rl s i=0):=by have e:=uh HE2 (by omega); show _=_; rw[e,yf hm]
      rw[yk hm] at HC
      have hcmp:=uh HC
      clear hzR HC hm
      generalize zac (utf R)=us at *
      go_wp2
      refine wp_region_quiet_below (by kernel_rfl) (by kernel_rfl) ?_
      repeat (first | go_big_quiet_step ((go_at_call 151; exact uh HU _ _)) | quiet_step ((go_at_call 151; exact uh HU _ _)))
      refine wpQuiet_nil ?_
      intro _ hw'
      obtain⟨⟨dq,osq⟩,hw''⟩:=hw'
      subst hw''
      go_wp2
      go_ret
      exact⟨by rw[uh HEQ]; rfl,below_regrown w dq osq⟩
    ·by_cases hb:z < 57344
     ·have e1:decide ((1114111:Int) < z)=false:=by simp; omega
      have e2:decide ((55296:Int)<=z)=true:=by simp; omega
      have e3:decide (z < (57344:Int))=true:=by simp; omega
      have y1:¬ (1114111:Int) < z:=by omega
      have y2:(55296:Int)<=z:=by omega
      have HEQ:Hid (rl s i=0):=uh HE (by omega)
      clear hzR HC
      go_wp2
      refine wp_region_quiet_below (by kernel_rfl) (by kernel_rfl) ?_
      repeat (first | go_big_quiet_step (fail) | quiet_step (fail))
      refine wpQuiet_nil ?_
      intro _ hw'
      obtain⟨⟨dq,osq⟩,hw''⟩:=hw'
      subst hw''
      go_wp2
      go_ret
      exact⟨by rw[uh HEQ]; rfl,below_regrown w dq osq⟩
     ·by_cases hd:z<=1114111
      ·have e1:decide ((1114111:Int) < z)=false:=by simp; omega
       have e2:decide ((55296:Int)<=z)=true:=by simp; omega
       have e3:decide (z < (57344:Int))=false:=by simp; omega
       have y1:¬ (1114111:Int) < z:=by omega
       have y2:(55296:Int)<=z:=by omega
       have y3:¬ z < (57344:Int):=hb
       have HU:Hid (∀ d os,Calls prog 151 #[.int .i64 z] (Sort.grow (redrawn w d) os) fun e w''=>e = .returned (.string (zac (utf R)))/\∃ p:Regrown,w''=Sort.grow (redrawn w p.d) p.os):=fun d os=>Calls.regrown_of (ze2 _ _ hzR _ (by omega))
       have hm0:65536<=R∨¬ 65536<=R:=Decidable.em _
       rcases hm0 with hm | hm
       ·have HEQ:Hid (rl s i=4):=by have e:=uh HE2 (by omega); show _=_; rw[e,yg hm]
        rw[yj hm] at HC
        have hcmp:=uh HC
        clear hzR HC hm
        generalize zac (utf R)=us at *
        go_wp2
        refine wp_region_quiet_below (by kernel_rfl) (by kernel_rfl) ?_
        repeat (first | go_big_quiet_step ((go_at_call 151; exact uh HU _ _)) | quiet_step ((go_at_call 151; exact uh HU _ _)))
        refine wpQuiet_nil ?_
        intro _ hw'
        obtain⟨⟨dq,osq⟩,hw''⟩:=hw'
        subst hw''
        go_wp2
        go_ret
        exact⟨by rw[uh HEQ]; rfl,below_regrown w dq osq⟩
       ·have HEQ:Hid (rl s i=0):=by have e:=uh HE2 (by omega); show _=_; rw[e,yf hm]
        rw[yk hm] at HC
        have hcmp:=uh HC
        clear hzR HC hm
        generalize zac (utf R)=us at *
        go_wp2
        refine wp_region_quiet_below (by kernel_rfl) (by kernel_rfl) ?_
        repeat (first | go_big_quiet_step ((go_at_call 151; exact uh HU _ _)) | quiet_step ((go_at_call 151; exact uh HU _ _)))
        refine wpQuiet_nil ?_
        intro _ hw'
        obtain⟨⟨dq,osq⟩,hw''⟩:=hw'
        subst hw''
        go_wp2
        go_ret
        exact⟨by rw[uh HEQ]; rfl,below_regrown w dq osq⟩
      ·have e1:decide ((1114111:Int) < z)=true:=by simp; omega
       have y1:(1114111:Int) < z:=by omega
       have HEQ:Hid (rl s i=0):=uh HE (by omega)
       clear hzR HC
       go_wp2
       refine wp_region_quiet_below (by kernel_rfl) (by kernel_rfl) ?_
       repeat (first | go_big_quiet_step (fail) | quiet_step (fail))
       refine wpQuiet_nil ?_
       intro _ hw'
       obtain⟨⟨dq,osq⟩,hw''⟩:=hw'
       subst hw''
       go_wp2
       go_ret
       exact⟨by rw[uh HEQ]; rfl,below_regrown w dq osq⟩
 ·have HF:Hid (rl s i=0):=by have e:=uh HR; show _=_; rw[e,yf (by omega)]
  have x1:(s.size:Int) < (i:Int)+4:=by omega
  go_enter func148,ntmps148
  go_wp2
  go_ret
  exact⟨by rw[uh HF]; rfl,yH _ _⟩
theorem zmw (s:ByteArray) (i:Nat) (w:World) (hi:i < s.size) (hs:s.size<=1048576) :
  Calls prog 148 #[.string s,.int .i64 i] w fun e w'=>e = .returned (.int .i64 (rl s i))/\Below w.heap.size w w':=by
 have hb:s[i].toNat < 256:=UInt8.toNat_lt _
 by_cases h1:s[i].toNat<=127
 ·exact zyM s i w hi hs (yt _) h1
 ·by_cases h2:s[i].toNat < 192
  ·have HF:Hid (rl s i=0):=by show _=_; unfold rl; rw[zjb (by rw[zas s i hi]; omega) (by rw[zas s i hi]; omega)]
   have hI:(128:Int)<=(s[i].toNat:Int):=by omega
   have hI':(s[i].toNat:Int) < 192:=by omega
   clear h1 h2 hb
   go_enter func148,ntmps148
   go_wp2
   go_ret
   exact⟨by rw[uh HF]; rfl,yH _ _⟩
  ·by_cases h3:s[i].toNat<=223
   ·exact zyN s i w hi hs (by omega) h3
   ·by_cases h4:s[i].toNat<=239
    ·exact zyO s i w hi hs (by omega) h4
    ·exact zyP s i w hi hs (by omega) (by omega)
theorem ziP (s:ByteArray) (i:Nat) : Lib.decodeL (s.data.toList.drop i)=Lib.decodeN (s.size - i) (bt s i) (bt s (i+1)) (bt s (i+2)) (bt s (i+3)):=by
 rw[Lib.decodeL_drop,dec]
theorem zwt (n b0 b1 b2 b3:Nat) (hn:1<=n) : rlN n b0 b1 b2 b3<=n:=by
 unfold rlN; split
 ·exact hn
 ·split
  ·omega
  ·unfold Lib.decodeN
   repeat' split
   all_goals first | omega | (simp only[]; omega)
theorem zqM {n b0 b1 b2 b3:Nat} (h:rlN n b0 b1 b2 b3=0) : Lib.decodeN n b0 b1 b2 b3=(65533,1):=by
 unfold rlN at h
 split at h
 ·omega
 ·split at h
  ·rename_i h1 h2
   revert h2
   unfold Lib.decodeN
   repeat' split
   all_goals first | (intro h2; rfl) | (intro h2; simp at h2; done) | (intro h2; exfalso; omega)
  ·rename_i h1 h2
   have:=Lib.decodeN_ge1 n b0 b1 b2 b3; omega
theorem zjC {n b0 b1 b2 b3:Nat} (h:¬ rlN n b0 b1 b2 b3=0) : (Lib.decodeN n b0 b1 b2 b3).2=rlN n b0 b1 b2 b3/\¬ ((Lib.decodeN n b0 b1 b2 b3).1=65533/\(Lib.decodeN n b0 b1 b2 b3).2=1):=by
 unfold rlN at h ⊢
 split at h
 ·rename_i h1
  rw[yg h1]
  have e:Lib.decodeN n b0 b1 b2 b3=(b0,1):=by unfold Lib.decodeN; rw[yg h1]
  rw[e]; exact⟨rfl,fun hh=>by have:=hh.1; simp at this; omega⟩
 ·rename_i h1
  rw[yf h1]
  split at h
  ·exact absurd rfl h
  ·rename_i h2
   rw[yf h2]; exact⟨rfl,fun hh=>h2 hh.2⟩
theorem zmx (s:ByteArray) (i:Nat) (hi:i < s.size) : i+rl s i<=s.size:=by
 have:=zwt (s.size - i) (bt s i) (bt s (i+1)) (bt s (i+2)) (bt s (i+3)) (by omega)
 unfold rl; omega
theorem zqN (s:ByteArray) (i:Nat) (hi:i < s.size) : s.data.toList.drop i≠[]:=by rw[zax s i hi]; simp
theorem zhu (s:ByteArray) (i:Nat) (hi:i < s.size) (h:rl s i=0) : Lib.validD (s.data.toList.drop i)=false:=by
 rw[Lib.validD_step _ (zqN s i hi),ziP,zqM h]; rfl
theorem zgD (s:ByteArray) (i:Nat) (hi:i < s.size) (h:¬ rl s i=0) : Lib.validD (s.data.toList.drop i)=Lib.validD (s.data.toList.drop (i+rl s i)):=by
 obtain⟨h1,h2⟩:=zjC h
 rw[Lib.validD_step _ (zqN s i hi),ziP,yf h2,h1,List.drop_drop]; rfl
theorem zwu (s:ByteArray) (i:Nat) (hi:i < s.size) (h1:i+1 < s.size) : (s.data.toList.drop i).take 2=[s[i],s[i+1]]:=by
 rw[zax s i hi,zax s (i+1) h1]; rfl
theorem zwv (s:ByteArray) (i:Nat) (hi:i < s.size) (h1:i+1 < s.size) (h2:i+2 < s.size) : (s.data.toList.drop i).take 3=[s[i],s[i+1],s[i+2]]:=by
 rw[zax s i hi,zax s (i+1) h1,zax s (i+2) h2]; rfl
theorem zww (s:ByteArray) (i:Nat) (hi:i < s.size) (h1:i+1 < s.size) (h2:i+2 < s.size) (h3:i+3 < s.size) : (s.data.toList.drop i).take 4=[s[i],s[i+1],s[i+2],s[i+3]]:=by
 rw[zax s i hi,zax s (i+1) h1,zax s (i+2) h2,zax s (i+3) h3]; rfl
theorem zjD (c:UInt8) (x:Int) (h:x=(c.toNat:Int)) : x.toNat.toUInt8=c:=by
 subst h; rw[Int.toNat_natCast]; exact UInt8.ofNat_toNat
theorem zcJ (s:ByteArray) (i:Nat) (hi:i < s.size) (hv:¬ rl s i=0) (h8:¬ s[i].toNat < 128) :
  Lib.encodeRune ((Utf8.decode s i).1:Nat)=(s.data.toList.drop i).take (rl s i)/\(∀ c∈(s.data.toList.drop i).take (rl s i),128<=c.toNat)/\128<=(Utf8.decode s i).1/\(Utf8.decode s i).2=rl s i:=by
 have hb0:=zas s i hi
 have hw:(Utf8.decode s i).2=rl s i:=by rw[dec]; exact (zjC hv).1
 have h192:192<=s[i].toNat:=by
  rcases Nat.lt_or_ge s[i].toNat 192 with h | h
  ·exact absurd (show rl s i=0 by unfold rl; rw[zjb (by rw[hb0]; omega) (by rw[hb0]; exact h)]) hv
  ·exact h
 by_cases h2:s[i].toNat < 224
 ·have e:=zpH (n:=s.size - i) (b0:=bt s i) (b1:=bt s (i+1)) (b2:=bt s (i+2)) (b3:=bt s (i+3)) (by rw[hb0]; exact h192) (by rw[hb0]; exact h2) (zb1 _ _)
  change rl s i=_ at e
  by_cases hc:2<=s.size - i/\128<=bt s (i+1)/\bt s (i+1) < 192/\128<=(bt s i - 192)*64+(bt s (i+1) - 128)
  ·rw[yg hc] at e
   obtain⟨c1,c2,c3,c4⟩:=hc
   have h1:i+1 < s.size:=by omega
   have b1:=zas s (i+1) h1
   have ed:Utf8.decode s i=(bt s i % 32*64+bt s (i+1) % 64,2):=by
    rw[dec]; unfold Lib.decodeN
    rw[yf (by omega),yg ⟨by omega,by omega,by omega⟩,yg (by omega)]
   rw[e,ed,zwu s i hi h1]
   refine⟨?_,?_,by simp only; omega,rfl⟩
   ·unfold Lib.encodeRune
    rw[Lib.encodeRuneZ_two (by simp only; omega) (by simp only; omega)]
    simp only[yi,List.map_nil]
    rw[zjD s[i] _ (by omega),zjD s[i+1] _ (by omega)]
   ·intro c hc; simp at hc; rcases hc with rfl | rfl <;> omega
  ·rw[yf hc] at e; exact absurd e hv
 ·by_cases h3:s[i].toNat < 240
  ·have e:=zpI (n:=s.size - i) (b0:=bt s i) (b1:=bt s (i+1)) (b2:=bt s (i+2)) (b3:=bt s (i+3)) (by rw[hb0]; omega) (by rw[hb0]; exact h3) (zb1 _ _) (zb1 _ _)
   change rl s i=_ at e
   split at e
   ·rename_i hc
    obtain⟨c1,c2,c3,c4,c5,c6,c7⟩:=hc
    have h1:i+1 < s.size:=by omega
    have h2':i+2 < s.size:=by omega
    have b1:=zas s (i+1) h1
    have b2:=zas s (i+2) h2'
    have ed:Utf8.decode s i=(bt s i % 16*4096+bt s (i+1) % 64*64+bt s (i+2) % 64,3):=by
     rw[dec]; unfold Lib.decodeN
     rw[yf (by omega),yf (by omega),yg ⟨by omega,⟨by omega,by omega⟩,by omega,by omega⟩,yg (by omega)]
    rw[e,ed,zwv s i hi h1 h2']
    refine⟨?_,?_,by simp only; omega,rfl⟩
    ·unfold Lib.encodeRune
     rw[Lib.encodeRuneZ_three (by simp only; omega)]
     simp only[yi,List.map_nil]
     rw[zjD s[i] _ (by omega),zjD s[i+1] _ (by omega),zjD s[i+2] _ (by omega)]
    ·intro c hc; simp at hc; rcases hc with rfl | rfl | rfl <;> omega
   ·exact absurd e hv
  ·have hlt:s[i].toNat < 256:=UInt8.toNat_lt _
   have e:=zpJ (n:=s.size - i) (b0:=bt s i) (b1:=bt s (i+1)) (b2:=bt s (i+2)) (b3:=bt s (i+3)) (by rw[hb0]; omega) (by rw[hb0]; exact hlt) (zb1 _ _) (zb1 _ _) (zb1 _ _)
   change rl s i=_ at e
   split at e
   ·rename_i hc
    obtain⟨c1,c2,c3,c4,c5,c6,c7,c8,c9⟩:=hc
    have h1:i+1 < s.size:=by omega
    have h2':i+2 < s.size:=by omega
    have h3':i+3 < s.size:=by omega
    have b1:=zas s (i+1) h1
    have b2:=zas s (i+2) h2'
    have b3:=zas s (i+3) h3'
    have ed:Utf8.decode s i=(bt s i % 8*262144+bt s (i+1) % 64*4096+bt s (i+2) % 64*64+bt s (i+3) % 64,4):=by
     rw[dec]; unfold Lib.decodeN
     rw[yf (by omega),yf (by omega),yf (by omega),yg ⟨by omega,⟨by omega,by omega⟩,⟨by omega,by omega⟩,by omega,by omega⟩,yg (by omega)]
    rw[e,ed,zww s i hi h1 h2' h3']
    refine⟨?_,?_,by simp only; omega,rfl⟩
    ·unfold Lib.encodeRune
     rw[Lib.encodeRuneZ_four (by simp only; omega) (by simp only; omega)]
     simp only[yi,List.map_nil]
     rw[zjD s[i] _ (by omega),zjD s[i+1] _ (by omega),zjD s[i+2] _ (by omega),zjD s[i+3] _ (by omega)]
    ·intro c hc; simp at hc; rcases hc with rfl | rfl | rfl | rfl <;> omega
   ·exact absurd e hv
theorem zf7 (s:ByteArray) (w:World) (hs:s.size<=1048576) :
  Calls prog 122 #[.string s] w fun e w'=>e = .returned (.bool (Lib.validD s.data.toList))/\Below w.heap.size w w':=by
 go_enter func122,ntmps122
 go_wp2
 go_loopw [3] (fun i wr=>∃ j:Nat,j<=s.size/\i = .int .i64 j/\Lib.validD s.data.toList=Lib.validD (s.data.toList.drop j)/\Below w.heap.size w wr) (fun i _=>s.size - (intOf i).toNat)
 case atStart=>exact⟨0,yt _,rfl,by simp,yH _ _⟩
 case round=>
  obtain⟨j,hj,rfl,hv,hb⟩:=hrel
  have HV:=zab hv
  clear hv
  by_cases hlt:j < s.size
  ·have HC:=zab (zmw s j wr hlt hs)
   have hle:=zmx s j hlt
   by_cases h0:rl s j=0
   ·have HF:Hid (Lib.validD s.data.toList=false):=by have e:=uh HV; show _=_; rw[e,zhu s j hlt h0]
    rw[h0] at HC
    clear h0 hle
    go_wp2_with fail
    refine (uh HC).mono ?_
    rintro e w1 ⟨rfl,b1⟩
    have B1:=zaa hb b1
    go_wp2
    go_ret
    exact⟨by rw[uh HF]; rfl,B1⟩
   ·have HF:Hid (Lib.validD s.data.toList=Lib.validD (s.data.toList.drop (j+rl s j))):=by have e:=uh HV; show _=_; rw[e,zgD s j hlt h0]
    generalize rl s j=n at *
    have t0:((n:Int) == 0)=false:=by rw[yd]; omega
    go_wp2_with fail
    refine (uh HC).mono ?_
    rintro e w1 ⟨rfl,b1⟩
    have B1:=zaa hb b1
    clear HC b1 hb
    go_wp2
    go_roundw
    case rel=>exact⟨j+n,by omega,by go_num,uh HF,B1⟩
    case measure=>simp[intOf]; omega
  ·have HF:Hid (Lib.validD s.data.toList=true):=by
    have e:=uh HV; show _=_; rw[e,zeo s j hlt]; rfl
   go_wp2
   go_ret
   exact⟨by rw[uh HF]; rfl,hb⟩
theorem ze3 (s:ByteArray) (w:World) (hsz:s.size<=1048576) :
  Calls prog 81 #[.string s] w fun e w'=>e = .returned (.bool (zar s.data.toList).isSome)/\Below w.heap.size w w':=by
 have HT:=zab (zdu s w hsz)
 obtain⟨z,hz⟩ : ∃ z,(zar s.data.toList).isSome=z:=⟨_,rfl⟩
 rw[hz] at HT ⊢
 clear hz
 go_enter func81,ntmps81
 go_wp2_with fail
 refine (uh HT).mono ?_
 rintro e w1 ⟨v,rfl,o1,b1⟩
 clear HT o1
 cases z
 all_goals (
  go_wp2
  go_ret
  exact⟨rfl,b1⟩)
theorem zjE {w w1 w2:World} {r:Option Nat} (h:w.grownBy w1 r) (k:w1.grownBy w2 r) : w.grownBy w2 r:=
 ⟨k.os.trans h.os,k.tape.trans h.tape,k.output.trans h.output,yP h.size k.size,fun j hj hne=>(k.block j (yE hj h.size) hne).trans (h.block j hj hne)⟩
theorem zjF {w w1:World} {r:Option Nat} (h:Below w.heap.size w w1) : w.grownBy w1 r:=⟨h.os,h.tape,h.output,h.size,fun k hk _=>h.block k hk⟩
theorem zoU (w:World) (n rb i:Nat) (z:Value) : w.grownBy ((w.drewN n).setCell ⟨rb,i,none⟩ z) (some rb):=
 ⟨rfl,rfl,rfl,by simp[World.setCell],fun k _ hne=>Below.heap_setCell (w.drewN n) ⟨rb,i,none⟩ z k (fun e=>hne (by rw[e]))⟩
def pre (ts us:List (List UInt8)) : Bool:=decide (ts.length<=us.length/\∀ j,j < ts.length->ts.getD j []=us.getD j [])
theorem zqO {ts:List (List UInt8)} {j:Nat} (h:j < ts.length) : (ts.map baT).getD j ByteArray.empty=baT (ts.getD j []):=by simp[h]
theorem zoV {B1 B2:Nat} (v u:Value) (ts us:List (List UInt8)) (w:World) (h:OT w B1 v ts) (k:OT w B2 u us) (hl:ts.length<=1048577) (hl2:us.length<=1048577) :
  Calls prog 94 #[v,u] w fun e w'=>e = .returned (.bool (pre ts us))/\∃ n,w'=w.drewN n:=by
 obtain⟨a,g,cap,rfl,hs,_⟩:=h.shape
 obtain⟨a',g',cap',rfl,hs',_⟩:=k.shape
 have hax:=hs.ad
 have hay:=hs'.ad
 have HX:=zab hs.cell
 have HY:=zab hs'.cell
 rw[yl] at hax hay
 simp only[yl] at HX HY
 clear h k hs hs'
 by_cases hle:ts.length<=us.length
 ·have hle':¬ (us.length:Int) < (ts.length:Int):=by omega
  go_enter func94,ntmps94
  go_wp2
  go_loopw [5] (fun i wr=>∃ m:Nat,m<=ts.length/\i = .int .i64 m/\(∀ j,j < m->ts.getD j []=us.getD j [])/\∃ n,wr=w.drewN n) (fun i _=>ts.length - (intOf i).toNat)
  case atStart=>exact⟨0,yt _,rfl,fun j hj=>by omega,0,rfl⟩
  case round=>
   obtain⟨m,hm,rfl,hsame,n,rfl⟩:=hrel
   have HS:=zab hsame
   clear hsame
   by_cases hlt:m < ts.length
   ·have hlt2:m < us.length:=by omega
    have hcx:=uh HX m hlt
    have hcy:=uh HY m hlt2
    obtain rfl:=hax (by omega)
    obtain rfl:=hay (by omega)
    rw[zqO hlt] at hcx
    rw[zqO hlt2] at hcy
    have HP:Hid (ts.getD m []≠us.getD m []->pre ts us=false):=fun h=>by
     unfold pre; rw[decide_eq_false_iff_not]; rintro⟨_,hh⟩; exact h (hh m hlt)
    have HN:Hid (ts.getD m []=us.getD m []->∀ j,j < m+1->ts.getD j []=us.getD j []):=fun h j hj=>by
     by_cases e:j=m
     ·subst e; exact h
     ·exact uh HS j (by omega)
    clear hax hay HS
    generalize ts.getD m []=p at *
    generalize us.getD m []=q at *
    have hltI:(m:Int) < (ts.length:Int):=by omega
    have hltJ:(m:Int) < (us.length:Int):=by omega
    rw[Nat.zero_add] at hcx hcy
    by_cases hpq:p=q
    ·subst hpq
     have HN':=zab (uh HN rfl)
     go_wp2
     go_quiet (fail)
     go_wp2
     go_roundw
     case rel=>exact⟨m+1,by omega,by go_num,uh HN',_,by first | rfl | (simp[World.drewN_drewN])⟩
     case measure=>simp[intOf]; omega
    ·have HP':=zab (uh HP hpq)
     have hne:((baT p).toList == (baT q).toList)=false:=by
      rw[yd,Lib.toList_data,Lib.toList_data]; intro e; exact hpq (by simpa [baT] using e)
     go_wp2
     go_quiet (fail)
     go_wp2
     go_ret
     exact⟨by rw[uh HP']; rfl,_,World.drewN_drewN ..⟩
   ·have HP:Hid (pre ts us=true):=by
     show _=_; unfold pre; rw[decide_eq_true_iff]; exact⟨hle,fun j hj=>uh HS j (by omega)⟩
    clear hax hay
    go_wp2
    go_ret
    exact⟨by rw[uh HP]; rfl,_,rfl⟩
 ·have HP:Hid (pre ts us=false):=by
   show _=_; unfold pre; rw[decide_eq_false_iff_not]; rintro⟨h1,_⟩; exact hle h1
  have hle':(us.length:Int) < (ts.length:Int):=by omega
  go_enter func94,ntmps94
  go_wp2
  go_ret
  exact⟨by rw[uh HP]; rfl,0,rfl⟩
end Go.Proofs.YtekpghcckdjnhaaGreatDoor
namespace Go.Proofs.YtekpghcckdjnhaaGreatDoor
end Go.Proofs.YtekpghcckdjnhaaGreatDoor
namespace Go.Proofs.YtekpghcckdjnhaaGreatDoor
open Go.RowKit Go.Proofs.Tryz
theorem zyg {s t:ByteArray} (h:¬ s=t) : (s.toList == t.toList)=false:=by
 refine Bool.eq_false_iff.2 fun e=>h ?_
 rw[yC,ByteArray.toList_eq,ByteArray.toList_eq] at e
 exact ByteArray.ext (by simpa using e)
theorem zkU (ss tt:List ByteArray) (xa ya:Option Addr) (xb xo xc yb yo yc:Nat) (w:World) (hx:SS w xa xb xo ss) (hy:SS w ya yb yo tt) (hm:ss.length<=10000000) :
  Calls prog 220 #[.slice xa ss.length xc,.slice ya tt.length yc] w fun e w'=>e = .returned (.bool (decide (ss=tt)))/\∃ n,w'=w.drewN n:=by
 by_cases hn:ss.length=tt.length
 ·have hax:=hx.ad
  have hay:=hy.ad
  have HX:=zab hx.cell
  have HY:=zab hy.cell
  have HYES:Hid ((∀ j,j < ss.length->ss.getD j ByteArray.empty=tt.getD j ByteArray.empty)->decide (ss=tt)=true):=fun h=>yj (List.ext_getElem hn fun j h1 h2=>by
   have:=h j h1
   simpa [List.getD,h1,h2] using this)
  have HNO:Hid (∀ j,j < ss.length->¬ ss.getD j ByteArray.empty=tt.getD j ByteArray.empty->decide (ss=tt)=false):=fun j _ h=>yk fun e=>h (by rw[e])
  rw[← hn] at hay HY ⊢
  clear hx hy hn
  generalize decide (ss=tt)=Q at *
  go_enter func220,ntmps220
  go_wp2
  go_loopw [13] (fun i wr=>∃ k:Nat,k<=ss.length/\i = .int .i64 k/\(∃ n,wr=w.drewN n)/\Hid (∀ j,j < k->ss.getD j ByteArray.empty=tt.getD j ByteArray.empty)) (fun i _=>ss.length - (intOf i).toNat)
  case atStart=>exact⟨0,yt _,rfl,⟨0,rfl⟩,fun j hj=>by omega⟩
  case round=>
   obtain⟨k,hk,rfl,⟨n,rfl⟩,hd⟩:=hrel
   by_cases hlt:k < ss.length
   ·have hcx:=uh HX k hlt
    have hcy:=uh HY k hlt
    obtain rfl:=hax (by omega)
    obtain rfl:=hay (by omega)
    have HN:=zab (uh HNO k hlt)
    have HD:Hid (ss.getD k ByteArray.empty=tt.getD k ByteArray.empty->∀ j,j < k+1->ss.getD j ByteArray.empty=tt.getD j ByteArray.empty):=fun e j hj=>by
     by_cases ej:j=k
     ·rw[ej]; exact e
     ·exact uh hd j (by omega)
    clear hax hay HNO hd
    generalize hs:ss.getD k ByteArray.empty=s at *
    generalize ht:tt.getD k ByteArray.empty=t at *
    clear hs ht
    have hlt':(k:Int) < (ss.length:Int):=by omega
    have dcx:(w.drewN n).cell? ⟨xb,xo+k,none⟩=some (.string s):=hcx
    have dcy:(w.drewN n).cell? ⟨yb,yo+k,none⟩=some (.string t):=hcy
    by_cases he:s=t
    ·have HD2:=zab (uh HD he)
     subst he
     clear HD HN
     go_wp2
     go_quiet (fail)
     go_wp2
     go_roundw
     case rel=>exact⟨k+1,by omega,by go_num,⟨_,by first | rfl | (simp[World.drewN_drewN])⟩,HD2⟩
     case measure=>simp[intOf]; omega
    ·have hb:=zyg he
     have HQ:=zab (uh HN he)
     clear HD HN
     go_wp2
     go_quiet (fail)
     go_wp2
     go_ret
     exact⟨by rw[uh HQ]; rfl,_,by rw[World.drewN_drewN]⟩
   ·have HQ:=zab (uh HYES fun j hj=>uh hd j (by omega))
    clear hax hay hd
    go_wp2
    go_ret
    exact⟨by rw[uh HQ]; rfl,_,rfl⟩
 ·have hq:decide (ss=tt)=false:=yk fun e=>hn (by rw[e])
  rw[hq]
  have hne:¬ ((ss.length:Int)=(tt.length:Int)):=by omega
  clear hq hx hy hn
  generalize ss.length=n1 at *
  generalize tt.length=n2 at *
  go_enter func220,ntmps220
  go_wp2
  go_ret
  exact⟨rfl,0,rfl⟩
end Go.Proofs.YtekpghcckdjnhaaGreatDoor
