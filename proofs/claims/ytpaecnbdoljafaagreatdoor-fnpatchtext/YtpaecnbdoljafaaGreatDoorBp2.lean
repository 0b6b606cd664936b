import Derived.WalkLawsBesides
import Derived.Test.YtpaecnbdoljafaaGreatDoorBp1
import Derived.Deep.CutRange
import Derived.Lib.QuietBelow
import Derived.Lib.ValidLaws
import Derived.Lib.RuneCount
import Derived.Laws.DeepStrings4
import Derived.Handy
import Derived.Sort.Walk0
import Derived.Deep.RegionHeld3
set_option maxRecDepth 100000
set_option maxHeartbeats 8000000
namespace Go.Proofs.YtpaecnbdoljafaaGreatDoor
open Go.RowKit Go.Proofs.Tryz
structure KB(rb:Nat)(w w':Wo):Prop where
 os:w'.os=w.os
 tape:w'.tape=w.tape
 output:w'.output=w.output
 size:w.heap.size<=w'.heap.size
 block:∀ k,k<w.heap.size->k≠rb->w'.heap[k]?=w.heap[k]?
theorem KB.refl(rb:Nat)(w:Wo):KB rb w w:=⟨rfl,rfl,rfl,yd _,fun _ _ _=>rfl⟩
theorem KB.trans{rb:Nat}{a b c:Wo}(h:KB rb a b)(k:KB rb b c):KB rb a c:=
 ⟨k.os.trans h.os,k.tape.trans h.tape,k.output.trans h.output,yO h.size k.size,fun i hi hn=>(k.block i (yD hi h.size) hn).trans (h.block i hi hn)⟩
theorem KB.drew{rb:Nat}{a w:Wo}(h:KB rb a w):KB rb a w.drew:=⟨h.os,h.tape,h.output,h.size,h.block⟩
theorem KB.drewN{rb:Nat}{a w:Wo}(h:KB rb a w)(n:Nat):KB rb a (w.drewN n):=⟨h.os,h.tape,h.output,h.size,h.block⟩
theorem KB.set{rb:Nat}{a w:Wo}(h:KB rb a w)(j:Nat)(v:Value):KB rb a (w.setCell ⟨rb,j,none⟩ v):=
 h.trans ⟨rfl,rfl,rfl,by simp[World.setCell],fun k _ hn=>Below.heap_setCell _ _ _ _ hn⟩
theorem KB.of_below{rb:Nat}{w w':Wo}(h:Bw w w'):KB rb w w':=⟨h.os,h.tape,h.output,h.size,fun k hk _=>h.block k hk⟩
theorem KB.below{rb B:Nat}{w w':Wo}(h:KB rb w w')(hB:B<=rb)(hs:B<=w.heap.size):Below B w w':=⟨h.os,h.tape,h.output,h.size,fun k hk=>h.block k (by omega) (by omega)⟩
def QN:Ending:=.panicked [{v:=.iface 183 (.agg #[]),recovered:=false}]
theorem Jr(s:Bs)(i:Nat)(h:s.size<=i):bt s i=0:=by
 unfold bt;rw[List.getD_eq_getElem?_getD,List.getElem?_eq_none (by rw[Zb];exact h)];rfl
theorem zQ{s:Bs}{i:Nat}(h:bt s i≠0):i<s.size:=by
 rcases Nat.lt_or_ge i s.size with g | g
 ·exact g
 ·exact absurd (Jr s i g) h
def zr(rb:Nat)(s:Bs)(i:Nat)(tb kt:Bool)(w:Wo):Prop:=w.heap[rb]?=some (.cells #[.string s,.int .i64 (i:Int),.bool tb,.bool kt] 127 (0,0))
theorem zr.text{rb:Nat}{s:Bs}{i:Nat}{tb kt:Bool}{w:Wo}(h:zr rb s i tb kt w):w.cell? ⟨rb,0,none⟩=some (.string s):=by rw[yE h];rfl
theorem zr.at{rb:Nat}{s:Bs}{i:Nat}{tb kt:Bool}{w:Wo}(h:zr rb s i tb kt w):w.cell? ⟨rb,1,none⟩=some (.int .i64 (i:Int)):=by rw[yE h];rfl
theorem zr.frozen{rb:Nat}{s:Bs}{i:Nat}{tb kt:Bool}{w:Wo}(h:zr rb s i tb kt w):w.frozen? ⟨rb,1,none⟩=false:=yH h 1
theorem zr.lt{rb:Nat}{s:Bs}{i:Nat}{tb kt:Bool}{w:Wo}(h:zr rb s i tb kt w):rb<w.heap.size:=(yA.1 h).1
theorem zr.set{rb:Nat}{s:Bs}{i:Nat}{tb kt:Bool}{w:Wo}(h:zr rb s i tb kt w)(z:Int)(j:Nat)(hz:z=(j:Int)):zr rb s j tb kt (w.setCell ⟨rb,1,none⟩ (.int .i64 z)):=by
 subst hz;have:=heap_setCell_same w rb 1 _ 127 (.int .i64 (j:Int)) h;exact this
theorem zr.drewN{rb:Nat}{s:Bs}{i:Nat}{tb kt:Bool}{w:Wo}(h:zr rb s i tb kt w)(n:Nat):zr rb s i tb kt (w.drewN n):=h
theorem zr.below{rb:Nat}{s:Bs}{i:Nat}{tb kt:Bool}{w w':Wo}(h:zr rb s i tb kt w)(hb:Bw w w'):zr rb s i tb kt w':=(hb.block rb h.lt).trans h
theorem JF(rb:Nat)(s:Bs)(i:Nat)(tb kt:Bool)(w:Wo)(h:zr rb s i tb kt w)(hs:s.size<=1048576)(hi:i<s.size):
  Calls prog 229 #[.pointer (some ⟨rb,0,none⟩)] w fun e w'=>e= .returned (.int .u8 (bt s i))/\zr rb s (i+1) tb kt w'/\KB rb w w':=by
 have c0:=h.text;have c1:=h.at;have d:=h.frozen;have b:((i:Int) ==(s.size:Int))=false:=by rw[yb];omega
 have a:=zh (Zg s i hi);have H:=zh h;clear h;go_in;go_wp2_with fail;go_quiet (fail);go_wp2_with fail;go_quiet (fail);go_wp2;go_ret;exact⟨by rw[uh a];rfl,((uh H).drewN _).set _ _ (by omega),((KB.refl rb w).drewN _).set 1 _⟩
theorem FG(rb:Nat)(s:Bs)(i:Nat)(tb kt:Bool)(w:Wo)(h:zr rb s i tb kt w)(hi:i=s.size):
  Calls prog 229 #[.pointer (some ⟨rb,0,none⟩)] w fun e w'=>e=QN/\KB rb w w':=by
 have c0:=h.text;have c1:=h.at;have b:=h.frozen;have a:((i:Int) ==(s.size:Int))=true:=by rw[yB];omega
 clear h;go_in;go_wp2_with fail;go_quiet (fail);go_wp2;exact⟨rfl,rfl,(KB.refl rb w).drewN _⟩
theorem Bx(rb:Nat)(s:Bs)(i:Nat)(tb kt:Bool)(w:Wo)(h:zr rb s i tb kt w)(hi:i=s.size):
  Calls prog 78 #[.pointer (some ⟨rb,0,none⟩)] w fun e w'=>e= .returned (.tuple #[])/\zr rb s i tb kt w'/\KB rb w w':=by
 have c0:=h.text;have c1:=h.at;have a:((i:Int) !=(s.size:Int))=false:=by rw[bne_eq_false_iff_eq];omega
 have H:=zh h;clear h hi;go_in;go_wp2_with fail;go_quiet (fail);go_wp2;go_end0;exact⟨rfl,(uh H).drewN _,(KB.refl rb w).drewN _⟩
theorem Bz(rb:Nat)(s:Bs)(i:Nat)(tb kt:Bool)(w:Wo)(h:zr rb s i tb kt w)(hi:i≠s.size):
  Calls prog 78 #[.pointer (some ⟨rb,0,none⟩)] w fun e w'=>e=QN/\KB rb w w':=by
 have c0:=h.text;have c1:=h.at;have a:((i:Int) !=(s.size:Int))=true:=by rw[bne_iff_ne];omega
 clear h hi;go_in;go_wp2_with fail;go_quiet (fail);go_wp2;exact⟨rfl,rfl,(KB.refl rb w).drewN _⟩
theorem Vs(rb:Nat)(s:Bs)(i:Nat)(tb kt:Bool)(w:Wo)(h:zr rb s i tb kt w)(hs:s.size<=1048576)(c:Nat)(hc:bt s i=c)(h0:i<s.size):
  Calls prog 200 #[.pointer (some ⟨rb,0,none⟩),.int .u8 c] w fun e w'=>e= .returned (.tuple #[])/\zr rb s (i+1) tb kt w'/\KB rb w w':=by
 have a:=zh (JF rb s i tb kt w h hs h0);rw[hc]at a;clear h hc h0 hs;go_in;go_wp2_with fail;refine (uh a).mono ?_;rintro e g ⟨rfl,b,f⟩;have d:=zh b;clear b a;go_wp2;go_end0;exact⟨rfl,uh d,f⟩
theorem Uj(rb:Nat)(s:Bs)(i:Nat)(tb kt:Bool)(w:Wo)(h:zr rb s i tb kt w)(hs:s.size<=1048576)(hi:i<=s.size)(c:Nat)(hc:bt s i≠c∨i=s.size):
  Calls prog 200 #[.pointer (some ⟨rb,0,none⟩),.int .u8 c] w fun e w'=>e=QN/\KB rb w w':=by
 by_cases d:i=s.size
 ·have a:=zh (FG rb s i tb kt w h d);clear h hc hs;go_in;go_wp2_with fail;refine (uh a).mono ?_;rintro e k ⟨rfl,f⟩;clear a;exact⟨rfl,rfl,f⟩
 ·have a:=zh (JF rb s i tb kt w h hs (by omega));have g:(((bt s i:Nat):Int) !=(c:Int))=true:=by rw[bne_iff_ne];omega
  generalize bt s i=b at *;clear h hc hs;go_in;go_wp2_with fail;refine (uh a).mono ?_;rintro e k ⟨rfl,j,f⟩;clear j a;go_wp2;exact⟨rfl,rfl,f⟩
theorem Y1(rb:Nat)(s:Bs)(i:Nat)(tb kt:Bool)(w:Wo)(h:zr rb s i tb kt w)(hs:s.size<=1048576)(c:Nat)(hc:bt s i=c)(h0:i<s.size):
  Calls prog 164 #[.pointer (some ⟨rb,0,none⟩),.int .u8 c] w fun e w'=>e= .returned (.bool true)/\zr rb s (i+1) tb kt w'/\KB rb w w':=by
 have c0:=h.text;have c1:=h.at;have b:=h.frozen;have a:((i:Int) ==(s.size:Int))=false:=by rw[yb];omega
 rw[Zg s i h0]at hc;subst hc;have H:=zh h;clear h;go_in;go_wp2_with fail;go_quiet (fail);go_wp2;go_ret;exact⟨rfl,((uh H).drewN _).set _ _ (by omega),((KB.refl rb w).drewN _).set 1 _⟩
theorem YF(rb:Nat)(s:Bs)(i:Nat)(tb kt:Bool)(w:Wo)(h:zr rb s i tb kt w)(hi:i<=s.size)(c:Nat)(hc:bt s i≠c∨i=s.size):
  Calls prog 164 #[.pointer (some ⟨rb,0,none⟩),.int .u8 c] w fun e w'=>e= .returned (.bool false)/\zr rb s i tb kt w'/\KB rb w w':=by
 have c0:=h.text;have c1:=h.at;have H:=zh h;clear h;by_cases d:i=s.size
 ·have a:((i:Int) ==(s.size:Int))=true:=by rw[yB];omega
  go_in;go_wp2_with fail;go_quiet (fail);go_wp2;go_ret;exact⟨rfl,(uh H).drewN _,(KB.refl rb w).drewN _⟩
 ·have b:i<s.size:=by omega
  have a:((i:Int) ==(s.size:Int))=false:=by rw[yb];omega
  have f:((s[i].toNat:Int) !=(c:Int))=true:=by
   rw[bne_iff_ne];rw[Zg s i b]at hc;omega
  clear hc;go_in;go_wp2_with fail;go_quiet (fail);go_wp2;go_ret;exact⟨rfl,(uh H).drewN _,(KB.refl rb w).drewN _⟩
def Gf(s:Bs):Nat->Nat->Nat
 | 0,i=>i
 | f+1,i=>if bt s i=32∨bt s i=9∨bt s i=10∨bt s i=13 then Gf s f (i+1)else i
def sk(s:Bs)(i:Nat):Nat:=Gf s (s.size - i) i
theorem Wq{s:Bs}{i:Nat}(h:bt s i=32∨bt s i=9∨bt s i=10∨bt s i=13):sk s i=sk s (i+1):=by
 have a:i<s.size:=zQ (by omega);unfold sk;rw[show s.size - i=(s.size - (i+1))+1 by omega,Gf,yf h]
theorem Uk{s:Bs}{i:Nat}(h:¬ (bt s i=32∨bt s i=9∨bt s i=10∨bt s i=13)):sk s i=i:=by
 unfold sk
 cases s.size - i with
 | zero=>rfl
 | succ f=>rw[Gf,ye h]
theorem Rs(s:Bs):∀ f i,i+f<=s.size->i<=Gf s f i/\Gf s f i<=i+f
 | 0,i,_=>⟨yd _,yd _⟩
 | f+1,i,h=>by
  rw[Gf];split
  ·have:=Rs s f (i+1) (by omega);omega
  ·omega
theorem Qu{s:Bs}{i:Nat}(h:i<=s.size):i<=sk s i/\sk s i<=s.size:=by
 have:=Rs s (s.size - i) i (by omega);unfold sk;omega
theorem KH{s:Bs}{i:Nat}(h:s.size<=i):sk s i=i:=by
 unfold sk;rw[show s.size - i=0 by omega];rfl
theorem BD(s:Bs)(i:Nat):¬ (bt s (sk s i)=32∨bt s (sk s i)=9∨bt s (sk s i)=10∨bt s (sk s i)=13):=by
 generalize hn:s.size - i=n;induction n generalizing i with
 | zero=>rw[KH (by omega),Jr s i (by omega)];omega
 | succ n ih=>
  by_cases h:bt s i=32∨bt s i=9∨bt s i=10∨bt s i=13
  ·rw[Wq h];exact ih (i+1) (by omega)
  ·rw[Uk h];exact h
theorem Wr(rb:Nat)(s:Bs)(i:Nat)(tb kt:Bool)(w:Wo)(h:zr rb s i tb kt w)(hs:s.size<=1048576)(hi:i<=s.size):
  Calls prog 122 #[.pointer (some ⟨rb,0,none⟩)] w fun e w'=>e= .returned (.tuple #[])/\zr rb s (sk s i) tb kt w'/\KB rb w w':=by
 have E:=zh h;clear h;go_in;go_wp2_with fail;go_loopg [] (s.size - i) (fun g wr=>∃ j:Nat,g=s.size - j/\j<=s.size/\zr rb s j tb kt wr/\KB rb w wr/\sk s i=sk s j)
 case atStart=>exact⟨i,rfl,hi,uh E,KB.refl _ _,rfl⟩
 case round=>
  obtain⟨j,J,G,o,r,u⟩:=hrel;have HR:=zh o;have a:=zh u;clear o u E;have y:Hid (∀ (c:Nat) wa,c≠0->bt s j=c->zr rb s j tb kt wa->Calls prog 164 #[.pointer (some ⟨rb,0,none⟩),.int .u8 c] wa fun e w'=>e= .returned (.bool true)/\zr rb s (j+1) tb kt w'/\KB rb wa w'):=fun c wa h0 hc o=>Y1 rb s j tb kt wa o hs c hc (zQ (by omega));have l:Hid (∀ (c:Nat) wa,bt s j≠c->zr rb s j tb kt wa->Calls prog 164 #[.pointer (some ⟨rb,0,none⟩),.int .u8 c] wa fun e w'=>e= .returned (.bool false)/\zr rb s j tb kt w'/\KB rb wa w'):=fun c wa hc o=>YF rb s j tb kt wa o G c (.inl hc);by_cases c1:bt s j=32
  ·have d:Hid (sk s i=sk s (j+1)):=by show _=_;rw[uh a,Wq (.inl c1)]
   have n:j<s.size:=zQ (by omega);go_wp2_with fail;refine (uh y 32 _ (by decide) c1 (uh HR)).mono ?_;rintro e D ⟨rfl,b,f⟩;have m:=zh b;clear b;go_wp2;go_roundg (s.size - (j+1))
   case rel=>exact⟨j+1,rfl,by omega,uh m,r.trans f,uh d⟩
   case measure=>omega
  by_cases c2:bt s j=9
  ·have d:Hid (sk s i=sk s (j+1)):=by show _=_;rw[uh a,Wq (.inr (.inl c2))]
   have n:j<s.size:=zQ (by omega);go_wp2_with fail;refine (uh l 32 _ c1 (uh HR)).mono ?_;rintro e D ⟨rfl,b,f⟩;have m:=zh b;clear b;go_wp2_with fail;refine (uh y 9 _ (by decide) c2 (uh m)).mono ?_;rintro e F ⟨rfl,k,p⟩;have q:=zh k;clear k;go_wp2;go_roundg (s.size - (j+1))
   case rel=>exact⟨j+1,rfl,by omega,uh q,(r.trans f).trans p,uh d⟩
   case measure=>omega
  by_cases c3:bt s j=10
  ·have d:Hid (sk s i=sk s (j+1)):=by show _=_;rw[uh a,Wq (.inr (.inr (.inl c3)))]
   have n:j<s.size:=zQ (by omega);go_wp2_with fail;refine (uh l 32 _ c1 (uh HR)).mono ?_;rintro e D ⟨rfl,b,f⟩;have m:=zh b;clear b;go_wp2_with fail;refine (uh l 9 _ c2 (uh m)).mono ?_;rintro e F ⟨rfl,k,p⟩;have q:=zh k;clear k;go_wp2_with fail;refine (uh y 10 _ (by decide) c3 (uh q)).mono ?_;rintro e H ⟨rfl,v,A⟩;have z:=zh v;clear v;go_wp2;go_roundg (s.size - (j+1))
   case rel=>exact⟨j+1,rfl,by omega,uh z,((r.trans f).trans p).trans A,uh d⟩
   case measure=>omega
  go_wp2_with fail;refine (uh l 32 _ c1 (uh HR)).mono ?_;rintro e D ⟨rfl,b,f⟩;have m:=zh b;clear b;go_wp2_with fail;refine (uh l 9 _ c2 (uh m)).mono ?_;rintro e F ⟨rfl,k,p⟩;have q:=zh k;clear k;go_wp2_with fail;refine (uh l 10 _ c3 (uh q)).mono ?_;rintro e H ⟨rfl,v,A⟩;have z:=zh v;clear v;by_cases c4:bt s j=13
  ·have d:Hid (sk s i=sk s (j+1)):=by show _=_;rw[uh a,Wq (.inr (.inr (.inr c4)))]
   have n:j<s.size:=zQ (by omega);go_wp2_with fail;refine (uh y 13 _ (by decide) c4 (uh z)).mono ?_;rintro e I ⟨rfl,x,C⟩;have B:=zh x;clear x;go_wp2;go_roundg (s.size - (j+1))
   case rel=>exact⟨j+1,rfl,by omega,uh B,(((r.trans f).trans p).trans A).trans C,uh d⟩
   case measure=>omega
  ·have d:Hid (sk s i=j):=by show _=_;rw[uh a,Uk (by omega)]
   go_wp2_with fail;refine (uh l 13 _ c4 (uh z)).mono ?_;rintro e I ⟨rfl,x,C⟩;have B:=zh x;clear x;go_wp2;go_end0;exact⟨rfl,by rw[uh d];exact uh B,(((r.trans f).trans p).trans A).trans C⟩
theorem FH(rb:Nat)(s:Bs)(i:Nat)(tb kt:Bool)(w:Wo)(h:zr rb s i tb kt w)(hi:i<=s.size):
  Calls prog 165 #[.pointer (some ⟨rb,0,none⟩)] w fun e w'=>e= .returned (.int .u8 (bt s i))/\zr rb s i tb kt w'/\KB rb w w':=by
 have c0:=h.text;have c1:=h.at;have H:=zh h;clear h;by_cases f:i=s.size
 ·have b:((i:Int) ==(s.size:Int))=true:=by rw[yB];omega
  have a:=zh (Jr s i (by omega));go_in;go_wp2_with fail;go_quiet (fail);go_wp2;go_ret;exact⟨by rw[uh a];rfl,(uh H).drewN _,(KB.refl rb w).drewN _⟩
 ·have d:i<s.size:=by omega
  have b:((i:Int) ==(s.size:Int))=false:=by rw[yb];omega
  have a:=zh (Zg s i d);go_in;go_wp2_with fail;go_quiet (fail);go_wp2_with fail;go_quiet (fail);go_wp2;go_ret;exact⟨by rw[uh a];rfl,((uh H).drewN _).drewN _,((KB.refl rb w).drewN _).drewN _⟩
theorem BE(z:Int)(r:Nat)(hz:z=(r:Int))(w:Wo)(hr:r<=1114111):
  Calls prog 161 #[.int .i64 z] w fun e w'=>e= .returned (.string (zi (Zu r)))/\Bw w w':=by
 subst hz;exact Nz r w hr
theorem Rt(c:UInt8):UInt8.ofNat c.toNat=c:=UInt8.ofNat_toNat
def LD(c n r0:Nat):Prop:=1=n/\c<128/\c=r0∨2=n/\192<=c/\c<224/\c - 192=r0∨3=n/\224<=c/\c<240/\c - 224=r0∨4=n/\240<=c/\c<256/\c - 240=r0
def Ru(s:Bs)(i r0:Nat):Nat->Nat
 | 0=>r0
 | k+1=>Ru s i r0 k*64+(bt s (i+(k+1)) - 128)
def FI(s:Bs)(i r0 k z:Nat):Prop:=z=Ru s i r0 (k - 1)/\∀ j,1<=j->j<k->128<=bt s (i+j)/\bt s (i+j)<192
theorem Rv{s:Bs}{i n r0:Nat}(h:LD (bt s i) n r0)(hb:s.size<i+n∨∃ k,1<=k/\k<n/\¬ (128<=bt s (i+k)/\bt s (i+k)<192))(hi:i<s.size):rl s i=0:=by
 unfold rl;unfold LD at h;rcases h with ⟨b,h,d⟩ |⟨b,h,a,d⟩ |⟨b,h,a,d⟩ |⟨b,h,a,d⟩<;>subst b d
 ·omega
 ·rw[GQ h a (ZL _ _),ye];rcases hb with hb |⟨k,f,g,j⟩
  ·omega
  ·obtain rfl:k=1:=by omega
   omega
 ·rw[GR h a (ZL _ _) (ZL _ _),ye];rcases hb with hb |⟨k,f,g,j⟩
  ·omega
  ·rcases (show k=1∨k=2 by omega)with rfl | rfl<;>omega
 ·rw[GT h a (ZL _ _) (ZL _ _) (ZL _ _),ye];rcases hb with hb |⟨k,f,g,j⟩
  ·omega
  ·rcases (show k=1∨k=2∨k=3 by omega)with rfl | rfl | rfl<;>omega
theorem BF(s:Bs)(i n:Nat)(h:i+n<=s.size):(s.extract i (i+n)).toList.map UInt8.toNat=(List.range n).map fun k=>bt s (i+k):=by
 have f:=Zb s;apply List.ext_getElem
 ·simp[Lib.toList_data];omega
 ·intro k d a;simp only[yk,List.length_range]at a;have b:=Zg s (i+k) (by omega);simp[Lib.toList_data,b];rfl
theorem BG{z:Nat}(hz:z<=1114111):∀ x∈ZN z,x<256:=by
 unfold ZN;repeat' split
 all_goals (simp;omega)
theorem BH{z:Nat}(hz:z<=1114111)(L:List UInt8):(Zu z ==L)=decide (ZN z=L.map UInt8.toNat):=by
 rw[Bool.eq_iff_iff,yB,decide_eq_true_iff];constructor
 ·rintro rfl;unfold Zu;rw[List.map_map];exact (List.map_id'' (fun x=>rfl) _).symm.trans (List.map_congr_left fun x hx=>by
   show x=(UInt8.ofNat x).toNat
   rw[UInt8.toNat_ofNat',Nat.mod_eq_of_lt (BG hz x hx)])
 ·intro e;unfold Zu;rw[e,List.map_map];exact (List.map_congr_left fun x _=>Rt x).trans (List.map_id'' (fun x=>rfl) _)
theorem BI{s:Bs}{i n r0 z:Nat}(h:LD (bt s i) n r0)(hn:i+n<=s.size)(ha:FI s i r0 n z):
  rl s i=if (1114111<z∨55296<=z/\z<57344)∨¬ ZN z=(List.range n).map fun k=>bt s (i+k)then 0 else n:=by
 obtain⟨rfl,d⟩:=ha;unfold rl;unfold LD at h;rcases h with ⟨hn,h,g⟩ |⟨hn,h,f,g⟩ |⟨hn,h,f,g⟩ |⟨hn,h,f,g⟩<;>subst hn g
 ·rw[U8 h];show _=if (1114111<bt s i∨55296<=bt s i/\bt s i<57344)∨¬ ZN (bt s i)=[bt s i]then 0 else 1
  unfold ZN;rw[yf h,ye (by simp;omega)]
 ·rw[GQ h f (ZL _ _)];have c1:=d 1 (by omega) (by omega);show _=if (1114111<(bt s i - 192)*64+(bt s (i+1) - 128)∨55296<=(bt s i - 192)*64+(bt s (i+1) - 128)/\(bt s i - 192)*64+(bt s (i+1) - 128)<57344)∨¬ ZN ((bt s i - 192)*64+(bt s (i+1) - 128))=[bt s i,bt s (i+1)]then 0 else 2
  generalize bt s i=b0,bt s (i+1)=a at *;have e:ZN ((b0 - 192)*64+(a - 128))=[b0,a]↔128<=(b0 - 192)*64+(a - 128):=by
   unfold ZN;repeat' split
   all_goals (simp;omega)
  simp only[e];split<;>split<;>omega
 ·rw[GR h f (ZL _ _) (ZL _ _)];have c1:=d 1 (by omega) (by omega);have c2:=d 2 (by omega) (by omega);show _=if (1114111<((bt s i - 224)*64+(bt s (i+1) - 128))*64+(bt s (i+2) - 128)∨55296<=((bt s i - 224)*64+(bt s (i+1) - 128))*64+(bt s (i+2) - 128)/\((bt s i - 224)*64+(bt s (i+1) - 128))*64+(bt s (i+2) - 128)<57344)∨¬ ZN (((bt s i - 224)*64+(bt s (i+1) - 128))*64+(bt s (i+2) - 128))=[bt s i,bt s (i+1),bt s (i+2)]then 0 else 3
  generalize bt s i=b0,bt s (i+1)=a,bt s (i+2)=b at *;have e:ZN (((b0 - 224)*64+(a - 128))*64+(b - 128))=[b0,a,b]↔2048<=((b0 - 224)*64+(a - 128))*64+(b - 128):=by
   unfold ZN;repeat' split
   all_goals (simp;omega)
  simp only[e];split<;>split<;>omega
 ·rw[GT h f (ZL _ _) (ZL _ _) (ZL _ _)];have c1:=d 1 (by omega) (by omega);have c2:=d 2 (by omega) (by omega);have c3:=d 3 (by omega) (by omega);show _=if (1114111<(((bt s i - 240)*64+(bt s (i+1) - 128))*64+(bt s (i+2) - 128))*64+(bt s (i+3) - 128)∨55296<=(((bt s i - 240)*64+(bt s (i+1) - 128))*64+(bt s (i+2) - 128))*64+(bt s (i+3) - 128)/\(((bt s i - 240)*64+(bt s (i+1) - 128))*64+(bt s (i+2) - 128))*64+(bt s (i+3) - 128)<57344)∨¬ ZN ((((bt s i - 240)*64+(bt s (i+1) - 128))*64+(bt s (i+2) - 128))*64+(bt s (i+3) - 128))=[bt s i,bt s (i+1),bt s (i+2),bt s (i+3)]then 0 else 4
  generalize bt s i=b0,bt s (i+1)=a,bt s (i+2)=b,bt s (i+3)=j at *;have e:ZN ((((b0 - 240)*64+(a - 128))*64+(b - 128))*64+(j - 128))=[b0,a,b,j]↔65536<=(((b0 - 240)*64+(a - 128))*64+(b - 128))*64+(j - 128):=by
   unfold ZN;repeat' split
   all_goals (simp;omega)
  simp only[e];split<;>split<;>omega
theorem Rw(s:Bs)(i:Nat)(w:Wo)(hi:i<s.size)(hs:s.size<=1048576):
  Calls prog 158 #[.string s,.int .i64 i] w fun e w'=>e= .returned (.int .i64 (rl s i))/\Bw w w':=by
 have T:bt s i<256:=ZL _ _;have B:=Zg s i hi;by_cases g:128<=bt s i/\bt s i<192
 ·have D:Hid (rl s i=0):=XM g.1 g.2;have P:(128:Int)<=(s[i].toNat:Int):=by omega
  have J:(s[i].toNat:Int)<192:=by omega
  clear B g T;go_in;go_wp2;go_ret;exact⟨by rw[uh D];rfl,yG _ _⟩
 go_in;go_upto_if 15 with fail;go_cut [6,7]from 14 to 27 (fun nv rv wx=>∃ n u:Nat,nv= .int .i64 (n:Int)/\rv= .int .i64 (u:Int)/\Hid (LD (bt s i) n u)/\u<=127/\1<=n/\n<=4/\(1<n->u<32)/\w=wx)
 case first=>
  rcases (show bt s i<128∨192<=bt s i/\bt s i<224∨224<=bt s i/\bt s i<240∨240<=bt s i by omega)with h | h | h | h
  ·have P:(s[i].toNat:Int)<128:=by omega
   have f:Hid (LD (bt s i) 1 (bt s i)):=.inl ⟨rfl,h,rfl⟩;go_wp2;go_meet
   case rel=>exact⟨1,bt s i,rfl,by rw[B],uh f,by omega,by omega,by omega,by omega,rfl⟩
  ·have P:(192:Int)<=(s[i].toNat:Int):=by omega
   have J:(s[i].toNat:Int)<224:=by omega
   have f:Hid (LD (bt s i) 2 (bt s i - 192)):=.inr (.inl ⟨rfl,h.1,h.2,rfl⟩);have y:Hid ((s[i].toNat:Int) - 192=((bt s i - 192:Nat):Int)):=by show _=_;omega
   go_wp2;go_meet
   case rel=>exact⟨2,_,rfl,by rw[uh y],uh f,by omega,by omega,by omega,by omega,rfl⟩
  ·have P:(224:Int)<=(s[i].toNat:Int):=by omega
   have J:(s[i].toNat:Int)<240:=by omega
   have f:Hid (LD (bt s i) 3 (bt s i - 224)):=.inr (.inr (.inl ⟨rfl,h.1,h.2,rfl⟩));have y:Hid ((s[i].toNat:Int) - 224=((bt s i - 224:Nat):Int)):=by show _=_;omega
   go_wp2;go_meet
   case rel=>exact⟨3,_,rfl,by rw[uh y],uh f,by omega,by omega,by omega,by omega,rfl⟩
  ·have P:(240:Int)<=(s[i].toNat:Int):=by omega
   have f:Hid (LD (bt s i) 4 (bt s i - 240)):=.inr (.inr (.inr ⟨rfl,h,T,rfl⟩));have y:Hid ((s[i].toNat:Int) - 240=((bt s i - 240:Nat):Int)):=by show _=_;omega
   go_wp2;go_meet
   case rel=>exact⟨4,_,rfl,by rw[uh y],uh f,by omega,by omega,by omega,by omega,rfl⟩
 obtain⟨n,u,rfl,rfl,f,X,V,hn4,Y,rfl⟩:=hcut;clear B g T;obtain⟨E,hE⟩:∃ E:Nat,E=i+n:=⟨_,rfl⟩;have hEI:(i:Int)+(n:Int)=(E:Int):=by omega
 have hEb:E<=1048580:=by omega
 have H:=zh hE;clear hE;by_cases hlen:s.size<E
 ·have D:Hid (rl s i=0):=Rv (uh f) (.inl (by have:=uh H;omega)) hi;have Q:(s.size:Int)<(E:Int):=by omega
  go_wp2;go_ret;exact⟨by rw[uh D];rfl,yG _ _⟩
 have Q:¬ (s.size:Int)<(E:Int):=by omega
 go_wp2;go_loop [7,8] (fun r k=>∃ K z:Nat,k= .int .i64 (K:Int)/\r= .int .i64 (z:Int)/\1<=K/\K<=n/\Hid (FI s i u K z)/\(K=1/\z<=127/\(1<n->z<32)∨K=2/\z<2048∨K=3/\z<131072∨K=4/\z<8388608)) (fun _ k=>n - (intOf k).toNat)
 case atStart=>exact⟨1,u,rfl,rfl,by omega,V,⟨rfl,fun j h1 h2=>by omega⟩,.inl ⟨rfl,X,Y⟩⟩
 case round=>
  obtain⟨K,z,rfl,rfl,S,hKn,G,F⟩:=hrel;have hz8:z<8388608:=by omega
  by_cases A:K<n
  ·have u1:((K:Int)<(n:Int))=True:=eq_true (by omega);have hz3:z<131072:=by omega
   obtain⟨q,l⟩:∃ q:Nat,q=i+K:=⟨_,rfl⟩;have hqI:(i:Int)+(K:Int)=(q:Int):=by omega
   have W:q<s.size:=by have:=uh H;omega
   have C:=Zg s q W;by_cases L:128<=bt s q/\bt s q<192
   ·have HN:Hid (FI s i u (K+1) (z*64+(bt s q - 128))):=by
     obtain⟨I,O⟩:=uh G;obtain⟨k,rfl⟩:∃ k,K=k+1:=⟨K - 1,by omega⟩;refine⟨?_,fun j h1 h2=>?_⟩
     ·rw[I,l];rfl
     ·by_cases hj:j=k+1
      ·rw[hj,← l];exact L
      ·exact O j h1 (by omega)
    have y:Hid ((z:Int)*64+(s[q].toNat:Int) - 128=((z*64+(bt s q - 128):Nat):Int)):=by show _=_;omega
    have Q:¬ (s[q].toNat:Int)<128:=by omega
    have x2:¬ (192:Int)<=(s[q].toNat:Int):=by omega
    have x3:decide ((s[q].toNat:Int)<128)=false:=by simp;omega
    have hz4:z*64+(bt s q - 128)<8388608:=by omega
    have m:Hid (K+1=2/\z*64+(bt s q - 128)<2048∨K+1=3/\z*64+(bt s q - 128)<131072∨K+1=4/\z*64+(bt s q - 128)<8388608):=by show _∨_;omega
    clear l F C L;go_wp2;go_round
    case rel=>exact⟨K+1,z*64+(bt s q - 128),by go_num,by rw[← uh y],by omega,A,uh HN,.inr (uh m)⟩
    case measure=>simp[intOf];omega
   ·have D:Hid (rl s i=0):=Rv (uh f) (.inr ⟨K,S,A,by rw[← l];exact L⟩) hi;rcases (show s[q].toNat<128∨192<=s[q].toNat from by omega)with hlow | U
    ·have Q:(s[q].toNat:Int)<128:=by omega
     clear L l C;go_wp2;go_ret;exact⟨by rw[uh D];rfl,yG _ _⟩
    ·have Q:¬ (s[q].toNat:Int)<128:=by omega
     have x2:(192:Int)<=(s[q].toNat:Int):=by omega
     have x3:decide ((s[q].toNat:Int)<128)=false:=by simp;omega
     clear L l C;go_wp2;go_ret;exact⟨by rw[uh D];rfl,yG _ _⟩
  ·have u1:((K:Int)<(n:Int))=False:=yP (by omega);obtain rfl:K=n:=by omega
   have HR:=zh (BI (uh f) (by have:=uh H;omega) (uh G));rw[← BF s i K (by have:=uh H;omega),← uh H]at HR;clear F A;have i1:(E:Int)<=(s.size:Int):=by omega
   have i2:(i:Int)<=(E:Int):=by omega
   have i3:(0:Int)<=(i:Int):=by omega
   have v:Hid (z<=1114111->∀ d os,Calls prog 161 #[.int .i64 z] (Sort.grow (redrawn w d) os) fun e w''=>e= .returned (.string (zi (Zu z)))/\∃ p:Regrown,w''=Sort.grow (redrawn w p.d) p.os):=fun F d os=>Calls.regrown_of (BE _ _ rfl _ F);obtain⟨q,l⟩:∃ q,((zi (Zu z)).toList ==(s.extract i E).toList)=q:=⟨_,rfl⟩;have N:Hid (z<=1114111->q=decide (ZN z=(s.extract i E).toList.map UInt8.toNat)):=fun F=>by rw[← l,Lib.toList_data,Zd,BH F]
   generalize zi (Zu z)=us at *;go_upto_region 23 with fail;go_cut [83]from 63 to 83 (fun x wx=>∃ b:Bool,x= .bool b/\Hid (rl s i=if b then 0 else K)/\Bw w wx)
   case first=>
    have a:Hid (∀ b:Bool,((1114111<z∨55296<=z/\z<57344)∨¬ ZN z=(s.extract i E).toList.map UInt8.toNat↔b=true)->rl s i=if b then 0 else K):=fun b h=>by
     rw[uh HR];cases b<;>simp[h]
    rcases (show 1114111<z∨z<=1114111/\55296<=z/\z<57344∨z<=1114111/\z<55296∨z<=1114111/\57344<=z by omega)with h | h | h | h
    case' inl=>
     have I:decide ((1114111:Int)<(z:Int))=true:=by simp;omega
     have y1:(1114111:Int)<(z:Int):=by omega
     have m:=zh (uh a true ⟨fun _=>rfl,fun _=>.inl (.inl h)⟩)
    case' inr.inl=>
     have I:decide ((1114111:Int)<(z:Int))=false:=by simp;omega
     have O:decide ((55296:Int)<=(z:Int))=true:=by simp;omega
     have e3:decide ((z:Int)<(57344:Int))=true:=by simp;omega
     have y1:¬ (1114111:Int)<(z:Int):=by omega
     have y2:(55296:Int)<=(z:Int):=by omega
     have m:=zh (uh a true ⟨fun _=>rfl,fun _=>.inl (.inr h.2)⟩)
    case' inr.inr.inl=>
     have I:decide ((1114111:Int)<(z:Int))=false:=by simp;omega
     have O:decide ((55296:Int)<=(z:Int))=false:=by simp;omega
     have y1:¬ (1114111:Int)<(z:Int):=by omega
     have y2:(z:Int)<(55296:Int):=by omega
     have v:=zh (uh v h.1);have m:=zh (uh a (!q) (by rw[uh N h.1];simp;omega))
     cases q
    case' inr.inr.inr=>
     have I:decide ((1114111:Int)<(z:Int))=false:=by simp;omega
     have O:decide ((55296:Int)<=(z:Int))=true:=by simp;omega
     have e3:decide ((z:Int)<(57344:Int))=false:=by simp;omega
     have y1:¬ (1114111:Int)<(z:Int):=by omega
     have y2:(55296:Int)<=(z:Int):=by omega
     have y3:¬ (z:Int)<(57344:Int):=by omega
     have v:=zh (uh v h.1);have m:=zh (uh a (!q) (by rw[uh N h.1];simp;omega))
     cases q
    all_goals
     clear h N a HR;refine wp_region_quiet_below (by kernel_rfl) (by kernel_rfl) ?_
     repeat (first | go_big_quiet_step ((go_at_call 161;exact uh v _ _)) | quiet_step ((go_at_call 161;exact uh v _ _)))
     refine wpQuiet_nil ?_;intro _ Z;obtain⟨⟨dq,aa⟩,M⟩:=Z;subst M;go_wp2_with fail;go_meet
     case rel=>exact⟨_,rfl,uh m,below_regrown w dq aa⟩
   obtain⟨b,rfl,m,o⟩:=hcut;have R:=zh o;clear HR v N l o
   cases b<;>(go_wp2;go_ret;exact⟨by rw[uh m];rfl,uh R⟩)
theorem Rx(s:Bs)(i:Nat):Lib.decodeL (s.data.toList.drop i)=Lib.decodeN (s.size - i) (bt s i) (bt s (i+1)) (bt s (i+2)) (bt s (i+3)):=by
 rw[Lib.decodeL_drop,JT]
theorem BJ(n b0 b1 b2 b3:Nat)(hn:1<=n):QA n b0 b1 b2 b3<=n:=by
 unfold QA;split
 ·exact hn
 ·split
  ·omega
  ·unfold Lib.decodeN
   repeat' split
   all_goals first | omega |(simp only[];omega)
theorem Ry{n b0 b1 b2 b3:Nat}(h:QA n b0 b1 b2 b3=0):Lib.decodeN n b0 b1 b2 b3=(65533,1):=by
 unfold QA at h;split at h
 ·omega
 ·split at h
  ·rename_i h1 a;revert a;unfold Lib.decodeN
   repeat' split
   all_goals first |(intro a;rfl) |(intro a;simp at a;done) |(intro a;exfalso;omega)
  ·rename_i h1 a;have:=Lib.decodeN_ge1 n b0 b1 b2 b3;omega
theorem FJ{n b0 b1 b2 b3:Nat}(h:¬ QA n b0 b1 b2 b3=0):(Lib.decodeN n b0 b1 b2 b3).2=QA n b0 b1 b2 b3/\¬ ((Lib.decodeN n b0 b1 b2 b3).1=65533/\(Lib.decodeN n b0 b1 b2 b3).2=1):=by
 unfold QA at h ⊢;split at h
 ·rename_i h1;rw[yf h1];have e:Lib.decodeN n b0 b1 b2 b3=(b0,1):=by unfold Lib.decodeN;rw[yf h1]
  rw[e];exact⟨rfl,fun hh=>by have:=hh.1;simp at this;omega⟩
 ·rename_i h1;rw[ye h1];split at h
  ·exact absurd rfl h
  ·rename_i h2;rw[ye h2];exact⟨rfl,fun hh=>h2 hh.2⟩
theorem Gg(s:Bs)(i:Nat)(hi:i<s.size):i+rl s i<=s.size:=by
 have:=BJ (s.size - i) (bt s i) (bt s (i+1)) (bt s (i+2)) (bt s (i+3)) (by omega);unfold rl;omega
theorem Rz(s:Bs)(i:Nat)(hi:i<s.size):s.data.toList.drop i≠[]:=by rw[qT s i hi];simp
theorem FK(s:Bs)(i:Nat)(hi:i<s.size)(h:rl s i=0):Lib.validD (s.data.toList.drop i)=false:=by
 rw[Lib.validD_step _ (Rz s i hi),Rx,Ry h];rfl
theorem KI(s:Bs)(i:Nat)(hi:i<s.size)(h:¬ rl s i=0):Lib.validD (s.data.toList.drop i)=Lib.validD (s.data.toList.drop (i+rl s i)):=by
 obtain⟨a,b⟩:=FJ h;rw[Lib.validD_step _ (Rz s i hi),Rx,ye b,a,List.drop_drop];rfl
theorem BK(s:Bs)(i:Nat)(hi:i<s.size)(h1:i+1<s.size):(s.data.toList.drop i).take 2=[s[i],s[i+1]]:=by
 rw[qT s i hi,qT s (i+1) h1];rfl
theorem BL(s:Bs)(i:Nat)(hi:i<s.size)(h1:i+1<s.size)(h2:i+2<s.size):(s.data.toList.drop i).take 3=[s[i],s[i+1],s[i+2]]:=by
 rw[qT s i hi,qT s (i+1) h1,qT s (i+2) h2];rfl
theorem BM(s:Bs)(i:Nat)(hi:i<s.size)(h1:i+1<s.size)(h2:i+2<s.size)(h3:i+3<s.size):(s.data.toList.drop i).take 4=[s[i],s[i+1],s[i+2],s[i+3]]:=by
 rw[qT s i hi,qT s (i+1) h1,qT s (i+2) h2,qT s (i+3) h3];rfl
theorem Qv(c:UInt8)(x:Int)(h:x=(c.toNat:Int)):x.toNat.toUInt8=c:=by
 subst h;rw[Int.toNat_natCast];exact UInt8.ofNat_toNat
theorem Vt(s:Bs)(i:Nat)(hi:i<s.size)(hv:¬ rl s i=0)(h8:¬ s[i].toNat<128):
  Lib.encodeRune ((Utf8.decode s i).1:Nat)=(s.data.toList.drop i).take (rl s i)/\(∀ c∈(s.data.toList.drop i).take (rl s i),128<=c.toNat)/\128<=(Utf8.decode s i).1/\(Utf8.decode s i).2=rl s i:=by
 have a:=Zg s i hi;have w:(Utf8.decode s i).2=rl s i:=by rw[JT];exact (FJ hv).1
 have j:192<=s[i].toNat:=by
  rcases Nat.lt_or_ge s[i].toNat 192 with h | h
  ·exact absurd (show rl s i=0 by unfold rl;rw[XM (by rw[a];omega) (by rw[a];exact h)]) hv
  ·exact h
 by_cases q:s[i].toNat<224
 ·have e:=GQ (n:=s.size - i) (b0:=bt s i) (b1:=bt s (i+1)) (b2:=bt s (i+2)) (b3:=bt s (i+3)) (by rw[a];exact j) (by rw[a];exact q) (ZL _ _);change rl s i=_ at e;by_cases b:2<=s.size - i/\128<=bt s (i+1)/\bt s (i+1)<192/\128<=(bt s i - 192)*64+(bt s (i+1) - 128)
  ·rw[yf b]at e;obtain⟨c1,c2,c3,c4⟩:=b;have f:i+1<s.size:=by omega
   have b1:=Zg s (i+1) f;have g:Utf8.decode s i=(bt s i % 32*64+bt s (i+1) % 64,2):=by
    rw[JT];unfold Lib.decodeN;rw[ye (by omega),yf ⟨by omega,by omega,by omega⟩,yf (by omega)]
   rw[e,g,BK s i hi f];refine⟨?_,?_,by simp only;omega,rfl⟩
   ·unfold Lib.encodeRune;rw[Lib.encodeRuneZ_two (by simp only;omega) (by simp only;omega)];simp only[yh,List.map_nil];rw[Qv s[i] _ (by omega),Qv s[i+1] _ (by omega)]
   ·intro c b;simp at b;rcases b with rfl | rfl<;>omega
  ·rw[ye b]at e;exact absurd e hv
 ·by_cases r:s[i].toNat<240
  ·have e:=GR (n:=s.size - i) (b0:=bt s i) (b1:=bt s (i+1)) (b2:=bt s (i+2)) (b3:=bt s (i+3)) (by rw[a];omega) (by rw[a];exact r) (ZL _ _) (ZL _ _);change rl s i=_ at e;split at e
   ·rename_i b;obtain⟨c1,c2,c3,c4,m,o,p⟩:=b;have f:i+1<s.size:=by omega
    have d:i+2<s.size:=by omega
    have b1:=Zg s (i+1) f;have b2:=Zg s (i+2) d;have g:Utf8.decode s i=(bt s i % 16*4096+bt s (i+1) % 64*64+bt s (i+2) % 64,3):=by
     rw[JT];unfold Lib.decodeN;rw[ye (by omega),ye (by omega),yf ⟨by omega,⟨by omega,by omega⟩,by omega,by omega⟩,yf (by omega)]
    rw[e,g,BL s i hi f d];refine⟨?_,?_,by simp only;omega,rfl⟩
    ·unfold Lib.encodeRune;rw[Lib.encodeRuneZ_three (by simp only;omega)];simp only[yh,List.map_nil];rw[Qv s[i] _ (by omega),Qv s[i+1] _ (by omega),Qv s[i+2] _ (by omega)]
    ·intro c b;simp at b;rcases b with rfl | rfl | rfl<;>omega
   ·exact absurd e hv
  ·have l:s[i].toNat<256:=UInt8.toNat_lt _;have e:=GT (n:=s.size - i) (b0:=bt s i) (b1:=bt s (i+1)) (b2:=bt s (i+2)) (b3:=bt s (i+3)) (by rw[a];omega) (by rw[a];exact l) (ZL _ _) (ZL _ _) (ZL _ _);change rl s i=_ at e;split at e
   ·rename_i b;obtain⟨c1,c2,c3,c4,m,o,p,u,v⟩:=b;have f:i+1<s.size:=by omega
    have d:i+2<s.size:=by omega
    have k:i+3<s.size:=by omega
    have b1:=Zg s (i+1) f;have b2:=Zg s (i+2) d;have b3:=Zg s (i+3) k;have g:Utf8.decode s i=(bt s i % 8*262144+bt s (i+1) % 64*4096+bt s (i+2) % 64*64+bt s (i+3) % 64,4):=by
     rw[JT];unfold Lib.decodeN;rw[ye (by omega),ye (by omega),ye (by omega),yf ⟨by omega,⟨by omega,by omega⟩,⟨by omega,by omega⟩,by omega,by omega⟩,yf (by omega)]
    rw[e,g,BM s i hi f d k];refine⟨?_,?_,by simp only;omega,rfl⟩
    ·unfold Lib.encodeRune;rw[Lib.encodeRuneZ_four (by simp only;omega) (by simp only;omega)];simp only[yh,List.map_nil];rw[Qv s[i] _ (by omega),Qv s[i+1] _ (by omega),Qv s[i+2] _ (by omega),Qv s[i+3] _ (by omega)]
    ·intro c b;simp at b;rcases b with rfl | rfl | rfl | rfl<;>omega
   ·exact absurd e hv
def hx(b:Nat):Option Nat:=if 48<=b/\b<=57 then some (b - 48)else if 97<=b/\b<=102 then some (b - 87)else if 65<=b/\b<=70 then some (b - 55)else none
theorem FL{b v:Nat}(h:hx b=some v):v<16:=by
 unfold hx at h
 repeat' split at h
 all_goals first |(injection h with h;omega) | cases h
def qe(s:Bs)(i:Nat):Nat->Option Nat
 | 0=>some 0
 | k+1=>(qe s i k).bind fun v=>(hx (bt s (i+k))).map fun h=>v*16+h
theorem KJ(s:Bs)(i:Nat):∀ (k v:Nat),qe s i k=some v->v<16 ^ k
 | 0,v,h=>by injection h with h;omega
 | k+1,v,h=>by
  simp only[qe,Option.bind_eq_some_iff,yy]at h;obtain⟨u,hu,y,hy,rfl⟩:=h;have:=KJ s i k u hu;have:=FL hy;rw[Nat.pow_succ];omega
theorem Ws{s:Bs}{i k v h:Nat}(hv:qe s i k=some v)(hh:hx (bt s (i+k))=some h):qe s i (k+1)=some (v*16+h):=by simp[qe,hv,hh]
theorem KK{s:Bs}{i k:Nat}(hh:hx (bt s (i+k))=none):qe s i (k+1)=none:=by simp[qe,hh]
theorem FM{s:Bs}{i k m:Nat}(h:qe s i k=none)(hm:k<=m):qe s i m=none:=by
 induction m with
 | zero => have : k = 0 := by omega
           subst this;exact h
 | succ m ih=>
  rcases Nat.lt_or_ge m k with g | g
  ·have:k=m+1:=by omega
   subst this;exact h
  ·simp[qe,ih g]
theorem RA{s:Bs}{i k v:Nat}(h:qe s i (k+1)=some v):i+k<s.size:=by
 refine zQ fun e=>?_;have:=KK (s:=s) (i:=i) (k:=k) (by rw[e];rfl);rw[this]at h;cases h
def QO(b:Nat):Option Nat:=if b=34 then some 34 else if b=92 then some 92 else if b=47 then some 47 else if b=98 then some 8 else if b=102 then some 12 else if b=110 then some 10 else if b=114 then some 13 else if b=116 then some 9 else none
theorem FN{b v:Nat}(h:QO b=some v):v<128:=by
 unfold QO at h
 repeat' split at h
 all_goals first |(injection h with h;omega) | cases h
def qO(s:Bs)(i:Nat):Option Nat:=if bt s i=92/\bt s (i+1)=117 then qe s (i+2) 4 else none
theorem RB{s:Bs}{i u:Nat}(h:qO s i=some u):u<65536:=by
 unfold qO at h;split at h
 ·exact KJ s (i+2) 4 u h
 ·cases h
theorem FP{s:Bs}{i u:Nat}(h:qO s i=some u):i+6<=s.size:=by
 unfold qO at h;split at h
 ·have:=RA h;omega
 ·cases h
def qp(s:Bs)(i u:Nat):Option (Nat×Nat):=
 if u<55296∨57344<=u then some (u,6)else if 56320<=u then none else
 (qO s (i+6)).bind fun v=>if 56320<=v/\v<57344 then some (65536+(u - 55296)*1024+(v - 56320),12)else none
def Qf(s:Bs)(i:Nat):Option (Nat×Nat):=
 match QO (bt s (i+1))with
 | some v=>some (v,2)
 | none=>(qO s i).bind (qp s i)
def piece(s:Bs)(i:Nat):Option (Nat×Nat):=
 if bt s i=92 then Qf s i else if bt s i<32 then none else if bt s i<128 then some (bt s i,1)
 else if rl s i=0 then none else some ((Utf8.decode s i).1,rl s i)
theorem BN{s:Bs}{i u r n:Nat}(hu:u<65536)(hi:i+6<=s.size)(h:qp s i u=some (r,n)):i+n<=s.size/\1<=n/\r<=1114111/\(r<55296∨57344<=r):=by
 unfold qp at h;split at h
 ·injection h with h;injection h with h1 h2;omega
 ·split at h
  ·cases h
  ·simp only[Option.bind_eq_some_iff]at h;obtain⟨v,a,h⟩:=h;have:=FP a;split at h
   ·injection h with h;injection h with h1 h2;omega
   ·cases h
theorem BO{s:Bs}{i v:Nat}(h:QO (bt s i)=some v):i<s.size:=zQ fun e=>by rw[e]at h;cases h
theorem RC{s:Bs}{i r n:Nat}(h:Qf s i=some (r,n)):i+n<=s.size/\1<=n/\r<=1114111/\(r<55296∨57344<=r):=by
 unfold Qf at h;split at h
 ·rename_i v hv;injection h with h;injection h with h1 h2;have:=BO hv;have:=FN hv;omega
 ·simp only[Option.bind_eq_some_iff]at h;obtain⟨u,a,h⟩:=h;exact BN (RB a) (FP a) h
theorem KL{r:Nat}(h:r<=1114111)(h':r<55296∨57344<=r):Zu r=Lib.encodeRune (r:Int):=by
 unfold Zu ZN Lib.encodeRune;split
 ·rw[Lib.encodeRuneZ_one (by omega) (by omega)];simp only[yh,List.map_nil,List.cons.injEq,and_true];exact (Qv _ _ (by rw[UInt8.toNat_ofNat'];omega)).symm
 ·split
  ·rw[Lib.encodeRuneZ_two (by omega) (by omega)];simp only[yh,List.map_nil];rw[Qv (UInt8.ofNat (192+r / 64)) _ (by rw[UInt8.toNat_ofNat'];omega),Qv (UInt8.ofNat (128+r % 64)) _ (by rw[UInt8.toNat_ofNat'];omega)]
  ·split
   ·rw[Lib.encodeRuneZ_three (by omega)];simp only[yh,List.map_nil];rw[Qv (UInt8.ofNat (224+r / 4096)) _ (by rw[UInt8.toNat_ofNat'];omega),Qv (UInt8.ofNat (128+r / 64 % 64)) _ (by rw[UInt8.toNat_ofNat'];omega),Qv (UInt8.ofNat (128+r % 64)) _ (by rw[UInt8.toNat_ofNat'];omega)]
   ·rw[Lib.encodeRuneZ_four (by omega) (by omega)];simp only[yh,List.map_nil];rw[Qv (UInt8.ofNat (240+r / 262144)) _ (by rw[UInt8.toNat_ofNat'];omega),Qv (UInt8.ofNat (128+r / 4096 % 64)) _ (by rw[UInt8.toNat_ofNat'];omega),Qv (UInt8.ofNat (128+r / 64 % 64)) _ (by rw[UInt8.toNat_ofNat'];omega),Qv (UInt8.ofNat (128+r % 64)) _ (by rw[UInt8.toNat_ofNat'];omega)]
def Zw(r:Nat):List UInt8:=Lib.encodeRune (r:Int)
theorem Ul(r:Nat):(Zw r).length<=4:=by
 have:=Lib.encodeRuneZ_length r;simp[Zw,Lib.encodeRune];omega
theorem RD(s:Bs)(i:Nat):(Utf8.decode s i).1<=1114111:=by
 rw[JT];exact Lib.decodeN_rune_le _ _ _ _ _ (ZL s i)
theorem Y2{s:Bs}{i r n:Nat}(h:piece s i=some (r,n)):i+n<=s.size/\1<=n/\r<=1114111:=by
 unfold piece at h;split at h
 ·have:=RC h;omega
 ·split at h
  ·cases h
  ·have a:i<s.size:=zQ (by omega);split at h
   ·injection h with h;injection h with h1 h2;omega
   ·split at h
    ·cases h
    ·injection h with h;injection h with h1 h2;have:=Gg s i a;have:=RD s i;omega
theorem FQ{s:Bs}{i:Nat}(h:s.size<=i):piece s i=none:=by
 unfold piece;rw[Jr s i h];rfl
def Y3(s:Bs):Nat->Nat->Option (List UInt8×Nat)
 | 0,_=>none
 | f+1,i=>if bt s i=34 then some ([],i+1)else (piece s i).bind fun p=>(Y3 s f (i+p.2)).map fun q=>(Zw p.1++q.1,q.2)
def qa(s:Bs)(i:Nat):Option (List UInt8×Nat):=Y3 s (s.size+1 - i) i
theorem RE(s:Bs)(f i:Nat)(h:s.size<=i):Y3 s f i=none:=by
 cases f with
 | zero=>rfl
 | succ f=>simp[Y3,Jr s i h,FQ h]
theorem FR(s:Bs):∀ (f g i:Nat),s.size<=i+f->s.size<=i+g->Y3 s f i=Y3 s g i
 | 0,g,i,h,_=>by rw[RE s g i (by omega)];rfl
 | f+1,0,i,_,h=>by rw[RE s (f+1) i (by omega)];rfl
 | f+1,g+1,i,hf,hg=>by
  rw[Y3,Y3];split
  ·rfl
  ·cases hp:piece s i with
   | none=>rfl
   | some p=>
    obtain⟨r,n⟩:=p;have:=Y2 hp;simp only[yz];rw[FR s f g (i+n) (by omega) (by omega)]
theorem FS(s:Bs)(i:Nat):qa s i=if bt s i=34 then some ([],i+1)else (piece s i).bind fun p=>(qa s (i+p.2)).map fun q=>(Zw p.1++q.1,q.2):=by
 unfold qa;rw[FR s (s.size+1 - i) (s.size+1) i (by omega) (by omega),Y3];split
 ·rfl
 ·cases hp:piece s i with
  | none=>rfl
  | some p=>
   obtain⟨r,n⟩:=p;simp only[yz];rw[FR s s.size (s.size+1 - (i+n)) (i+n) (by omega) (by omega)]
theorem Vu{s:Bs}{i:Nat}(h:bt s i=34):qa s i=some ([],i+1):=by rw[FS,yf h]
theorem Y4{s:Bs}{i r n:Nat}(h:bt s i≠34)(hp:piece s i=some (r,n)):qa s i=(qa s (i+n)).map fun q=>(Zw r++q.1,q.2):=by rw[FS,ye h,hp];rfl
theorem Vv{s:Bs}{i:Nat}(h:bt s i≠34)(hp:piece s i=none):qa s i=none:=by rw[FS,ye h,hp];rfl
theorem BP{s:Bs}{i:Nat}(h:s.size<=i):qa s i=none:=Vv (by rw[Jr s i h];decide) (FQ h)
theorem RF{s:Bs}{i:Nat}(h0:bt s i=92)(h1:bt s (i+1)=117):Qf s i=(qe s (i+2) 4).bind (qp s i):=by
 unfold Qf qO;rw[yf ⟨h0,h1⟩,h1];rfl
theorem YG{s:Bs}{i b v:Nat}(h1:bt s (i+1)=b)(hv:QO b=some v):Qf s i=some (v,2):=by
 unfold Qf;rw[h1,hv]
theorem RG{s:Bs}{i b:Nat}(h1:bt s (i+1)=b)(hv:QO b=none)(hu:b≠117):Qf s i=none:=by
 unfold Qf qO;rw[h1,hv,ye (fun h=>hu h.2)];rfl
def Zq(s:Bs)(i:Nat):Option (List UInt8×Nat):=if bt s i=34 then qa s (i+1)else none
def JG(rb:Nat)(s:Bs)(tb kt:Bool)(w:Wo)(o:Option (Value×Nat))(e:Ending)(w':Wo):Prop:=
 KB rb w w'/\o.elim (e=QN) fun p=>e= .returned p.1/\zr rb s p.2 tb kt w'
mutual
inductive JV where
 | nul | tt | ff
 | num (l:List UInt8)
 | str (l:List UInt8)
 | arr (l:JL)
 | obj (m:JM)
inductive JL where
 | nil
 | cons (v:JV) (r:JL)
inductive JM where
 | nil
 | cons (k:List UInt8) (v:JV) (r:JM)
end
def YH(s:Bs):Nat->Nat->Nat
 | 0,i=>i
 | f+1,i=>if zT (bt s i)=true then YH s f (i+1)else i
def dg(s:Bs)(i:Nat):Nat:=YH s (s.size - i) i
theorem Y5{s:Bs}{i:Nat}(h:zT (bt s i)=true):dg s i=dg s (i+1):=by
 have a:i<s.size:=zQ (by have:=qL.1 h;omega);unfold dg;rw[show s.size - i=(s.size - (i+1))+1 by omega,YH,yf h]
theorem Wt{s:Bs}{i:Nat}(h:¬ zT (bt s i)=true):dg s i=i:=by
 unfold dg
 cases s.size - i with
 | zero=>rfl
 | succ f=>rw[YH,ye h]
theorem RI(s:Bs):∀ f i,i+f<=s.size->i<=YH s f i/\YH s f i<=i+f
 | 0,i,_=>⟨yd _,yd _⟩
 | f+1,i,h=>by
  rw[YH];split
  ·have:=RI s f (i+1) (by omega);omega
  ·omega
theorem KM{s:Bs}{i:Nat}(h:i<=s.size):i<=dg s i/\dg s i<=s.size:=by
 have:=RI s (s.size - i) i (by omega);unfold dg;omega
def zW(s:Bs)(i j:Nat):List UInt8:=(s.data.toList.drop i).take (j - i)
def zK(s:Bs)(i:Nat):Nat:=if bt s i=45 then i+1 else i
def ZT(s:Bs)(i:Nat):Nat:=if bt s (zK s i)=48 then zK s i+1 else dg s (zK s i)
def qE(l:List UInt8):List UInt8:=if l=[45,48]then [48]else l
def nm(s:Bs)(i:Nat):Option (List UInt8×Nat):=if zT (bt s (zK s i))=true then some (qE (zW s i (ZT s i)),ZT s i)else none
theorem Um{s:Bs}{i j:Nat}{l:List UInt8}(h:nm s i=some (l,j)):i<j/\j<=s.size:=by
 unfold nm at h;split at h
 ·rename_i hd;injection h with h;injection h with h1 h2;subst h2;have b:zK s i<s.size:=zQ (by have:=qL.1 hd;omega);have a:i<=zK s i:=by unfold zK;split<;>omega
  unfold ZT;split
  ·omega
  ·rw[Y5 hd];have:=KM (s:=s) (i:=zK s i+1) (by omega);omega
 ·cases h
theorem BQ{s:Bs}:∀ {i j:Nat} {l:List UInt8},qa s i=some (l,j)->i<j/\j<=s.size:=by
 intro i;generalize hn:s.size - i=n;induction n using Nat.strongRecOn generalizing i with
 | _ n ih=>
  intro j l h;by_cases a:bt s i=34
  ·rw[Vu a]at h;injection h with h;injection h with h1 h2;have:=zQ (s:=s) (i:=i) (by omega);omega
  ·cases hp:piece s i with
   | none=>rw[Vv a hp]at h;cases h
   | some p=>
    obtain⟨r,b⟩:=p;have d:=Y2 hp;rw[Y4 a hp]at h;rcases hq:qa s (i+b)with _ |⟨g,f⟩
    ·rw[hq]at h;cases h
    ·rw[hq]at h;injection h with h;injection h with h1 h2;have:=ih (s.size - (i+b)) (by omega) rfl hq;omega
theorem Js{s:Bs}{i j:Nat}{l:List UInt8}(h:Zq s i=some (l,j)):i+1<j/\j<=s.size:=by
 unfold Zq at h;split at h
 ·have:=BQ h;omega
 ·cases h
def Ql(s:Bs)(i:Nat):Bool:=bt s i ==110 && bt s (i+1) ==117 && bt s (i+2) ==108 && bt s (i+3) ==108
def Qw(s:Bs)(i:Nat):Bool:=bt s i ==116 && bt s (i+1) ==114 && bt s (i+2) ==117 && bt s (i+3) ==101
def QP(s:Bs)(i:Nat):Bool:=bt s i ==102 && bt s (i+1) ==97 && bt s (i+2) ==108 && bt s (i+3) ==115 && bt s (i+4) ==101
mutual
def pv(s:Bs):Nat->Nat->Option (JV×Nat)
 | 0,_=>none
 | f+1,i=>
  if bt s i=91 then (if bt s (sk s (i+1))=93 then some (.arr .nil,sk s (i+1)+1)else (pa s f (sk s (i+1))).map fun q=>(.arr q.1,q.2))
  else if bt s i=123 then (if bt s (sk s (i+1))=125 then some (.obj .nil,sk s (i+1)+1)else (po s f (sk s (i+1))).map fun q=>(.obj q.1,q.2))
  else if bt s i=34 then (Zq s i).map fun q=>(.str q.1,q.2)
  else if Ql s i=true then some (.nul,i+4)
  else if Qw s i=true then some (.tt,i+4)
  else if QP s i=true then some (.ff,i+5)
  else (nm s i).map fun q=>(.num q.1,q.2)
def pa(s:Bs):Nat->Nat->Option (JL×Nat)
 | 0,_=>none
 | f+1,i=>(pv s f i).bind fun q=>
  if bt s (sk s q.2)=93 then some (.cons q.1 .nil,sk s q.2+1)
  else if bt s (sk s q.2)=44 then (pa s f (sk s (sk s q.2+1))).map fun r=>(.cons q.1 r.1,r.2)
  else none
def po(s:Bs):Nat->Nat->Option (JM×Nat)
 | 0,_=>none
 | f+1,i=>(Zq s i).bind fun k=>
  if bt s (sk s k.2)=58 then (pv s f (sk s (sk s k.2+1))).bind fun q=>
   if bt s (sk s q.2)=125 then some (.cons k.1 q.1 .nil,sk s q.2+1)
   else if bt s (sk s q.2)=44 then (po s f (sk s (sk s q.2+1))).map fun r=>(.cons k.1 q.1 r.1,r.2)
   else none
  else none
end
theorem zO(s:Bs)(i:Nat):i<=sk s i:=by
 rcases Nat.le_total i s.size with h | h
 ·exact (Qu h).1
 ·rw[KH h];exact yd _
theorem Wu{s:Bs}{i:Nat}(h:Ql s i=true):i+4<=s.size:=by
 simp[Ql]at h;have:=zQ (s:=s) (i:=i+3) (by omega);omega
theorem Wv{s:Bs}{i:Nat}(h:Qw s i=true):i+4<=s.size:=by
 simp[Qw]at h;have:=zQ (s:=s) (i:=i+3) (by omega);omega
theorem Un{s:Bs}{i:Nat}(h:QP s i=true):i+5<=s.size:=by
 simp[QP]at h;have:=zQ (s:=s) (i:=i+4) (by omega);omega
theorem qb(s:Bs):∀ f i,(∀ v j,pv s f i=some (v,j)->i<j/\j<=s.size)/\(∀ l j,pa s f i=some (l,j)->i<j/\j<=s.size)/\(∀ m j,po s f i=some (m,j)->i<j/\j<=s.size)
 | 0,i=>⟨fun v j h=>by simp[pv]at h,fun v j h=>by simp[pa]at h,fun v j h=>by simp[po]at h⟩
 | f+1,i=>by
  refine⟨fun v j h=>?_,fun l j h=>?_,fun m j h=>?_⟩
  ·rw[pv]at h;have g:=zO s (i+1);split at h
   ·split at h
    ·have:=zQ (s:=s) (i:=sk s (i+1)) (by omega);injection h with h;injection h with _ h;omega
    ·simp only[yy]at h;obtain⟨⟨l,k⟩,b,h⟩:=h;injection h with _ h;have:=(qb s f (sk s (i+1))).2.1 l k b;simp only at h;omega
   ·split at h
    ·split at h
     ·have:=zQ (s:=s) (i:=sk s (i+1)) (by omega);injection h with h;injection h with _ h;omega
     ·simp only[yy]at h;obtain⟨⟨l,k⟩,b,h⟩:=h;injection h with _ h;have:=(qb s f (sk s (i+1))).2.2 l k b;simp only at h;omega
    ·split at h
     ·simp only[yy]at h;obtain⟨⟨l,k⟩,b,h⟩:=h;injection h with _ h;have:=Js b;simp only at h;omega
     ·split at h
      ·rename_i hw;have:=Wu hw;injection h with h;injection h with _ h;omega
      ·split at h
       ·rename_i hw;have:=Wv hw;injection h with h;injection h with _ h;omega
       ·split at h
        ·rename_i hw;have:=Un hw;injection h with h;injection h with _ h;omega
        ·simp only[yy]at h;obtain⟨⟨l,k⟩,b,h⟩:=h;injection h with _ h;have:=Um b;simp only at h;omega
  ·rw[pa]at h;simp only[Option.bind_eq_some_iff]at h;obtain⟨⟨v,k⟩,b,h⟩:=h;have q:=(qb s f i).1 v k b;have o:=zO s k;simp only at h;split at h
   ·have:=zQ (s:=s) (i:=sk s k) (by omega);injection h with h;injection h with _ h;omega
   ·split at h
    ·simp only[yy]at h;obtain⟨⟨l,n⟩,d,h⟩:=h;injection h with _ h;have:=(qb s f _).2.1 l n d;have p:=zO s (sk s k+1);simp only at h;omega
    ·cases h
  ·rw[po]at h;simp only[Option.bind_eq_some_iff]at h;obtain⟨⟨u,a⟩,r,h⟩:=h;have y:=Js r;simp only at h;split at h
   ·simp only[Option.bind_eq_some_iff]at h;obtain⟨⟨v,k⟩,b,h⟩:=h;have q:=(qb s f _).1 v k b;have w:=zO s a;have x:=zO s (sk s a+1);have o:=zO s k;simp only at h;split at h
    ·have:=zQ (s:=s) (i:=sk s k) (by omega);injection h with h;injection h with _ h;omega
    ·split at h
     ·simp only[yy]at h;obtain⟨⟨l,n⟩,d,h⟩:=h;injection h with _ h;have:=(qb s f _).2.2 l n d;have p:=zO s (sk s k+1);simp only at h;omega
     ·cases h
   ·cases h
theorem Yi(s:Bs):∀ f g i,(2*(s.size - i)+1<=f->2*(s.size - i)+1<=g->pv s f i=pv s g i)/\(2*(s.size - i)+2<=f->2*(s.size - i)+2<=g->pa s f i=pa s g i/\po s f i=po s g i)
 | 0,g,i=>⟨fun h _=>by omega,fun h _=>by omega⟩
 | f+1,0,i=>⟨fun _ h=>by omega,fun _ h=>by omega⟩
 | f+1,g+1,i=>by
  refine⟨fun hf hg=>?_,fun hf hg=>⟨?_,?_⟩⟩
  ·rw[pv,pv];have g0:=zO s (i+1);by_cases c1:bt s i=91
   ·have l:=zQ (s:=s) (i:=i) (by omega);rw[yf c1,yf c1,((Yi s f g (sk s (i+1))).2 (by omega) (by omega)).1]
   ·rw[ye c1,ye c1];by_cases c2:bt s i=123
    ·have l:=zQ (s:=s) (i:=i) (by omega);rw[yf c2,yf c2,((Yi s f g (sk s (i+1))).2 (by omega) (by omega)).2]
    ·rw[ye c2,ye c2]
  ·rw[pa,pa,(Yi s f g i).1 (by omega) (by omega)]
   cases hk:pv s g i with
   | none=>rfl
   | some q=>
    obtain⟨v,k⟩:=q;have j:=(qb s g i).1 v k hk;have b:=zO s k;have d:=zO s (sk s k+1);simp only[yz];rw[((Yi s f g (sk s (sk s k+1))).2 (by omega) (by omega)).1]
  ·rw[po,po]
   cases ha:Zq s i with
   | none=>rfl
   | some q=>
    obtain⟨m,a⟩:=q;have p:=Js ha;have n:=zO s a;have o:=zO s (sk s a+1);simp only[yz];rw[(Yi s f g (sk s (sk s a+1))).1 (by omega) (by omega)]
    cases hk:pv s g (sk s (sk s a+1))with
    | none=>rfl
    | some q=>
     obtain⟨v,k⟩:=q;have j:=(qb s g _).1 v k hk;have b:=zO s k;have d:=zO s (sk s k+1);simp only[yz];rw[((Yi s f g (sk s (sk s k+1))).2 (by omega) (by omega)).2]
def val(s:Bs)(i:Nat):Option (JV×Nat):=pv s (2*(s.size - i)+1) i
def elems(s:Bs)(i:Nat):Option (JL×Nat):=pa s (2*(s.size - i)+2) i
def qY(s:Bs)(i:Nat):Option (JM×Nat):=po s (2*(s.size - i)+2) i
theorem Yj{s:Bs}{i j:Nat}{v:JV}(h:val s i=some (v,j)):i<j/\j<=s.size:=(qb s _ i).1 v j h
theorem KN{s:Bs}{i:Nat}(h:bt s i=91):val s i=if bt s (sk s (i+1))=93 then some (.arr .nil,sk s (i+1)+1)else (elems s (sk s (i+1))).map fun q=>(.arr q.1,q.2):=by
 have a:=zQ (s:=s) (i:=i) (by omega);have g:=zO s (i+1);unfold val elems;rw[pv,yf h,((Yi s (2*(s.size - i)) (2*(s.size - sk s (i+1))+2) (sk s (i+1))).2 (by omega) (by omega)).1]
theorem KO{s:Bs}{i:Nat}(h:bt s i=123):val s i=if bt s (sk s (i+1))=125 then some (.obj .nil,sk s (i+1)+1)else (qY s (sk s (i+1))).map fun q=>(.obj q.1,q.2):=by
 have a:=zQ (s:=s) (i:=i) (by omega);have g:=zO s (i+1);unfold val qY;rw[pv,ye (by omega),yf h,((Yi s (2*(s.size - i)) (2*(s.size - sk s (i+1))+2) (sk s (i+1))).2 (by omega) (by omega)).2]
theorem FT{s:Bs}{i:Nat}(h:bt s i=34):val s i=(Zq s i).map fun q=>(.str q.1,q.2):=by
 unfold val;rw[pv,ye (by omega),ye (by omega),yf h]
theorem Y6{s:Bs}{i:Nat}(h1:bt s i≠91)(h2:bt s i≠123)(h3:bt s i≠34):val s i=
  if Ql s i=true then some (.nul,i+4)else if Qw s i=true then some (.tt,i+4)else if QP s i=true then some (.ff,i+5)else (nm s i).map fun q=>(.num q.1,q.2):=by
 unfold val;rw[pv,ye h1,ye h2,ye h3]
theorem Gh(s:Bs)(i:Nat):elems s i=(val s i).bind fun q=>
  if bt s (sk s q.2)=93 then some (.cons q.1 .nil,sk s q.2+1)
  else if bt s (sk s q.2)=44 then (elems s (sk s (sk s q.2+1))).map fun r=>(.cons q.1 r.1,r.2)
  else none:=by
 have e:elems s i=pa s (2*(s.size - i)+1+1) i:=rfl;rw[e,pa];show (val s i).bind _=_
 cases hk:val s i with
 | none=>rfl
 | some q=>
  obtain⟨v,k⟩:=q;have d:=Yj hk;have a:=zO s k;have b:=zO s (sk s k+1);simp only[yz];rw[show elems s (sk s (sk s k+1))=pa s (2*(s.size - i)+1) (sk s (sk s k+1))from ((Yi s _ _ _).2 (by omega) (by omega)).1]
theorem Uo(s:Bs)(i:Nat):qY s i=(Zq s i).bind fun k=>
  if bt s (sk s k.2)=58 then (val s (sk s (sk s k.2+1))).bind fun q=>
   if bt s (sk s q.2)=125 then some (.cons k.1 q.1 .nil,sk s q.2+1)
   else if bt s (sk s q.2)=44 then (qY s (sk s (sk s q.2+1))).map fun r=>(.cons k.1 q.1 r.1,r.2)
   else none
  else none:=by
 have e:qY s i=po s (2*(s.size - i)+1+1) i:=rfl;rw[e,po]
 cases ha:Zq s i with
 | none=>rfl
 | some q=>
  obtain⟨b,a⟩:=q;have j:=Js ha;have g:=zO s a;have h:=zO s (sk s a+1);simp only[yz];rw[show pv s (2*(s.size - i)+1) (sk s (sk s a+1))=val s (sk s (sk s a+1))from (Yi s _ _ _).1 (by omega) (by omega)]
  cases hk:val s (sk s (sk s a+1))with
  | none=>rfl
  | some q=>
   obtain⟨v,k⟩:=q;have l:=Yj hk;have d:=zO s k;have f:=zO s (sk s k+1);simp only[yz];rw[show qY s (sk s (sk s k+1))=po s (2*(s.size - i)+1) (sk s (sk s k+1))from ((Yi s _ _ _).2 (by omega) (by omega)).2]
theorem RJ(s:Bs)(i:Nat)(w:Wo)(hs:s.size<=1048576):
  Calls prog 27 #[.string s,.int .i64 i] w fun e w'=>e= .returned (.int .i64 (sk s i))/\w=w':=by
 go_in;go_wp2;go_loopw [1] (fun k wr=>w=wr/\∃ j:Nat,k= .int .i64 (j:Int)/\sk s i=sk s j) (fun k _=>s.size - (intOf k).toNat)
 case atStart=>exact⟨rfl,i,rfl,rfl⟩
 case round=>
  obtain⟨rfl,j,rfl,f⟩:=hrel;have b:=zh f;clear f;by_cases l:j<s.size
  ·have d:(j:Int)<(s.size:Int):=by omega
   have h:=Zg s j l;by_cases c:bt s j=32∨bt s j=9∨bt s j=10∨bt s j=13
   ·have a:Hid (sk s i=sk s (j+1)):=by show _=_;rw[uh b,Wq c]
    rw[h]at c;clear h;rcases c with c | c | c | c
    ·have g:(s[j].toNat:Int)=32:=by omega
     clear c;go_wp2;go_roundw
     case rel=>exact⟨trivial,j+1,by go_num,uh a⟩
     case measure=>simp[intOf];omega
    ·have g:(s[j].toNat:Int)=9:=by omega
     clear c;go_wp2;go_roundw
     case rel=>exact⟨trivial,j+1,by go_num,uh a⟩
     case measure=>simp[intOf];omega
    ·have g:(s[j].toNat:Int)=10:=by omega
     clear c;go_wp2;go_roundw
     case rel=>exact⟨trivial,j+1,by go_num,uh a⟩
     case measure=>simp[intOf];omega
    ·have g:(s[j].toNat:Int)=13:=by omega
     clear c;go_wp2;go_roundw
     case rel=>exact⟨trivial,j+1,by go_num,uh a⟩
     case measure=>simp[intOf];omega
   ·have a:Hid (sk s i=j):=by show _=_;rw[uh b,Uk c]
    have g:((s[j].toNat:Int) ==32)=false:=by rw[yb];omega
    have n:((s[j].toNat:Int) ==9)=false:=by rw[yb];omega
    have o:((s[j].toNat:Int) ==10)=false:=by rw[yb];omega
    have p:((s[j].toNat:Int) ==13)=false:=by rw[yb];omega
    clear c h;go_wp2;go_ret;exact⟨by rw[uh a];rfl,rfl⟩
  ·have d:¬ (j:Int)<(s.size:Int):=by omega
   have m:decide ((j:Int)<(s.size:Int))=false:=by simp;omega
   have a:Hid (sk s i=j):=by show _=_;rw[uh b,KH (by omega)]
   go_wp2;go_ret;exact⟨by rw[uh a];rfl,rfl⟩
theorem FU(s t:Bs)(i:Nat)(w:Wo)(hs:s.size<=1048576)(ht:t.size<=10)(hi:i<=s.size+1):
  Calls prog 71 #[.string s,.int .i64 i,.string t] w fun e w'=>e= .returned (.bool (decide (i+t.size<=s.size) && (s.extract i (i+t.size)).toList ==t.toList))/\w=w':=by
 by_cases d:i+t.size<=s.size
 ·have b:(i:Int)+(t.size:Int)<=(s.size:Int):=by omega
  have f:(i:Int)<=(i:Int)+(t.size:Int):=by omega
  have g:(0:Int)<=(i:Int):=by omega
  have a:decide (i+t.size<=s.size)=true:=by simp;omega
  rw[a,Bool.true_and];clear a;go_in;go_wp2;go_ret;exact⟨rfl,rfl⟩
 ·have b:¬ (i:Int)+(t.size:Int)<=(s.size:Int):=by omega
  have a:decide (i+t.size<=s.size)=false:=by simp;omega
  rw[a,Bool.false_and];clear a;go_in;go_wp2;go_ret;exact⟨rfl,rfl⟩
def Z4(p:List UInt8×List UInt8):List (List UInt8×List UInt8)->List (List UInt8×List UInt8)
 | []=>[p]
 | q :: r=>if p.1<q.1 then q :: Z4 p r else p :: q :: r
def zz(l:List (List UInt8×List UInt8)):List (List UInt8×List UInt8):=(l.foldl (fun acc p=>Z4 p acc) []).reverse
def zt(p:List UInt8×List UInt8):List UInt8:=quoted p.1++58 :: p.2
def joinT:List (List UInt8)->List UInt8
 | []=>[]
 | t :: r=>44 ::(t++joinT r)
def joinC:List (List UInt8)->List UInt8
 | []=>[]
 | t :: r=>t++joinT r
def ZD(l:List (List UInt8×List UInt8)):List UInt8:=123 ::(joinC (l.map zt)++[125])
def Zi(l:List (List UInt8)):List UInt8:=91 ::(joinC l++[93])
theorem BR(a b:List (List UInt8)):joinT (a++b)=joinT a++joinT b:=by
 induction a with
 | nil=>rfl
 | cons t r ih=>simp[joinT,ih]
theorem KP(a:List (List UInt8))(t:List UInt8):joinC (a++[t])=joinC a++(if a=[]then t else 44 :: t):=by
 cases a with
 | nil=>simp[joinC,joinT]
 | cons x r=>simp[joinC,BR,joinT]
def Ww:List UInt8:=[57,50,50,51,51,55,50,48,51,54,56,53,52,55,55,53,56,48,55]
def Wx:List UInt8:=[57,50,50,51,51,55,50,48,51,54,56,53,52,55,55,53,56,48,56]
def over(d lim:List UInt8):Bool:=if d.length≠19 then decide (19<d.length)else (!Op.bytesLess d lim && !(d ==lim))
def qZ:List UInt8->Bool
 | []=>false
 | c :: r=>if c=45 then over r Wx else over (c :: r) Ww
mutual
def ct:JV->List UInt8
 | .nul=>[110,117,108,108]
 | .tt=>[116,114,117,101]
 | .ff=>[102,97,108,115,101]
 | .num l=>l
 | .str l=>quoted l
 | .arr l=>Zi (zu l)
 | .obj m=>ZD (zz (zn m))
def zu:JL->List (List UInt8)
 | .nil=>[]
 | .cons v r=>ct v :: zu r
def zn:JM->List (List UInt8×List UInt8)
 | .nil=>[]
 | .cons k v r=>(k,ct v) :: zn r
end
mutual
def zD:JV->Bool
 | .nul=>false
 | .tt=>false
 | .ff=>false
 | .num l=>qZ l
 | .str _=>false
 | .arr l=>ZU l
 | .obj m=>ZF m
def ZU:JL->Bool
 | .nil=>false
 | .cons v r=>zD v || ZU r
def ZF:JM->Bool
 | .nil=>false
 | .cons _ v r=>zD v || ZF r
end
mutual
def zw:JV->Bool
 | .nul=>false
 | .tt=>false
 | .ff=>false
 | .num _=>false
 | .str _=>false
 | .arr l=>ZG l
 | .obj m=>ZC [] m
def ZG:JL->Bool
 | .nil=>false
 | .cons v r=>zw v || ZG r
def ZC:List (List UInt8)->JM->Bool
 | _,.nil=>false
 | ks,.cons k v r=>(zw v || ks.contains k) || ZC (ks++[k]) r
end
mutual
def zE:JV->Nat
 | .nul=>1
 | .tt=>1
 | .ff=>1
 | .num _=>1
 | .str _=>1
 | .arr l=>Jt l+1
 | .obj m=>Ju m+1
def Jt:JL->Nat
 | .nil=>0
 | .cons v r=>max (zE v) (Jt r)
def Ju:JM->Nat
 | .nil=>0
 | .cons _ v r=>max (zE v) (Ju r)
end
mutual
def zo:JV->Nat
 | .nul=>1
 | .tt=>1
 | .ff=>1
 | .num _=>1
 | .str _=>1
 | .arr l=>q7 l+1
 | .obj m=>qy m+1
def q7:JL->Nat
 | .nil=>0
 | .cons v r=>zo v+q7 r
def qy:JM->Nat
 | .nil=>0
 | .cons _ v r=>zo v+qy r
end
def JL.app:JL->JL->JL
 | .nil,b=>b
 | .cons v r,b=>.cons v (r.app b)
def JM.app:JM->JM->JM
 | .nil,b=>b
 | .cons k v r,b=>.cons k v (r.app b)
theorem JL.app_assoc:∀ a b c:JL,(a.app b).app c=a.app (b.app c)
 | .nil,_,_=>rfl
 | .cons v r,b,c=>by simp[JL.app,JL.app_assoc r b c]
theorem JM.app_assoc:∀ a b c:JM,(a.app b).app c=a.app (b.app c)
 | .nil,_,_=>rfl
 | .cons k v r,b,c=>by simp[JM.app,JM.app_assoc r b c]
theorem JL.app_nil:∀ a:JL,a.app .nil=a
 | .nil=>rfl
 | .cons v r=>by simp[JL.app,JL.app_nil r]
theorem JM.app_nil:∀ a:JM,a.app .nil=a
 | .nil=>rfl
 | .cons k v r=>by simp[JM.app,JM.app_nil r]
theorem RK:∀ a b:JM,zn (a.app b)=zn a++zn b
 | .nil,b=>by simp[JM.app,zn]
 | .cons k v r,b=>by simp[JM.app,zn,RK r b]
theorem FV:∀ a b:JL,ZU (a.app b)=(ZU a || ZU b)
 | .nil,b=>by simp[JL.app,ZU]
 | .cons v r,b=>by simp[JL.app,ZU,FV r b,Bool.or_assoc]
theorem FW:∀ a b:JM,ZF (a.app b)=(ZF a || ZF b)
 | .nil,b=>by simp[JM.app,ZF]
 | .cons k v r,b=>by simp[JM.app,ZF,FW r b,Bool.or_assoc]
theorem FX:∀ a b:JL,ZG (a.app b)=(ZG a || ZG b)
 | .nil,b=>by simp[JL.app,ZG]
 | .cons v r,b=>by simp[JL.app,ZG,FX r b,Bool.or_assoc]
def qP:JM->List (List UInt8)
 | .nil=>[]
 | .cons k _ r=>k :: qP r
theorem RL:∀ a b:JM,qP (a.app b)=qP a++qP b
 | .nil,b=>by simp[JM.app,qP]
 | .cons k v r,b=>by simp[JM.app,qP,RL r b]
theorem FY:∀ (ks:List (List UInt8)) (a b:JM),ZC ks (a.app b)=(ZC ks a || ZC (ks++qP a) b)
 | ks,.nil,b=>by simp[JM.app,ZC,qP]
 | ks,.cons k v r,b=>by simp[JM.app,ZC,qP,FY (ks++[k]) r b,Bool.or_assoc]
theorem Up:∀ a:JM,(zn a).map (·.1)=qP a
 | .nil=>rfl
 | .cons k v r=>by simp[zn,qP,Up r]
theorem Gi(s:Bs)(i j:Nat):(s.extract i j).toList=zW s i j:=by
 rw[ByteArray.toList_eq,Lib.extract_data];rfl
theorem Wy(s:Bs)(i j:Nat):s.extract i j=zi (zW s i j):=by
 have h:(s.extract i j).data.toList=zW s i j:=by rw[Lib.extract_data];rfl
 rw[← h]
 cases s.extract i j;simp[zi]
theorem BT(c:UInt8)(r:List UInt8):zW (zi (c :: r)) 1 (r.length+1)=r:=by
 unfold zW;rw[Zd];simp
theorem RM(l:List UInt8)(w:Wo)(h0:l≠[])(hl:l.length<=1048576):
  Calls prog 117 #[.string (zi l)] w fun e w'=>e= .returned (.bool (qZ l))/\w=w':=by
 obtain⟨c,r,rfl⟩:∃ c r,l=c :: r:=by cases l with | nil=>exact absurd rfl h0 | cons c r=>exact⟨c,r,rfl⟩
 have m:(zi (c :: r)).size=r.length+1:=by rw[zS];rfl
 have j:0<(zi (c :: r)).size:=by omega
 have f:(zi (c :: r))[0].toNat=c.toNat:=rfl;by_cases d:c=45
 ·subst d;have g:Hid (qZ (45 :: r)=over r Wx):=by show _=_;rw[qZ,yf rfl]
  have h:Hid (((zi (45 :: r)).extract 1 (r.length+1)).toList=r):=by show _=_;rw[Gi,BT]
  have k:((zi (45 :: r))[0].toNat:Int)=45:=by rw[f];rfl
  by_cases b:r.length=19
  ·have i:((r.length:Int) !=19)=false:=by rw[bne_eq_false_iff_eq];omega
   have a:Hid (qZ (45 :: r)=(!Op.bytesLess r Wx && !(r ==Wx))):=by show _=_;rw[uh g];unfold over;rw[ye (by omega)]
   clear b f h0;go_in;go_wp2;go_ret;refine⟨?_,rfl⟩;rw[uh h,uh a];rfl
  ·have i:((r.length:Int) !=19)=true:=by rw[bne_iff_ne];omega
   have a:Hid (qZ (45 :: r)=decide (19<(r.length:Int))):=by
    show _=_;rw[uh g];unfold over;rw[yf b];simp;omega
   clear b f h0;go_in;go_wp2;go_ret;refine⟨?_,rfl⟩;rw[uh a];rfl
 ·have g:Hid (qZ (c :: r)=over (c :: r) Ww):=by show _=_;rw[qZ,ye d]
  have h:Hid ((zi (c :: r)).toList=c :: r):=by show _=_;rw[ByteArray.toList_eq,Zd]
  have k:(((zi (c :: r))[0].toNat:Int) ==45)=false:=by
   rw[yb,f];intro e;exact d (UInt8.toNat_inj.1 (by show c.toNat=45;omega))
  by_cases b:r.length=18
  ·have i:((r.length+1:Int) !=19)=false:=by rw[bne_eq_false_iff_eq];omega
   have a:Hid (qZ (c :: r)=(!Op.bytesLess (c :: r) Ww && !((c :: r) ==Ww))):=by show _=_;rw[uh g];unfold over;rw[ye (by simp;omega)]
   clear b f h0;go_in;go_wp2;go_ret;refine⟨?_,rfl⟩;rw[uh h,uh a];rfl
  ·have i:((r.length+1:Int) !=19)=true:=by rw[bne_iff_ne];omega
   have a:Hid (qZ (c :: r)=decide (19<(r.length+1:Int))):=by
    show _=_;rw[uh g];unfold over;rw[yf (by simp;omega)];simp;omega
   clear b f h0;go_in;go_wp2;go_ret;refine⟨?_,rfl⟩;rw[uh a];rfl
def YI(o:Option Nat):Int:=o.elim (-1) fun n=>(n:Int)
theorem BU(b:Nat)(hb:b<256)(w:Wo):
  Calls prog 196 #[.int .u8 b] w fun e w'=>w=w'/\e= .returned (.int .i64 (YI (hx b))):=by
 by_cases a:48<=b/\b<=57
 ·have d:Hid (hx b=some (b - 48)):=by show _=_;unfold hx;rw[yf a]
  have i:(48:Int)<=(b:Int):=by omega
  have k:(b:Int)<=57:=by omega
  clear a;go_in;go_wp2;go_ret;refine⟨rfl,?_⟩;rw[uh d];exact VP (show _=((b - 48:Nat):Int) by go_num)
 ·by_cases f:97<=b/\b<=102
  ·have d:Hid (hx b=some (b - 87)):=by show _=_;unfold hx;rw[ye a,yf f]
   have i:(97:Int)<=(b:Int):=by omega
   have k:(b:Int)<=102:=by omega
   clear a f;go_in;go_wp2;go_ret;refine⟨rfl,?_⟩;rw[uh d];exact VP (show _=((b - 87:Nat):Int) by go_num)
  ·by_cases h:65<=b/\b<=70
   ·have d:Hid (hx b=some (b - 55)):=by show _=_;unfold hx;rw[ye a,ye f,yf h]
    have i:(65:Int)<=(b:Int):=by omega
    have k:(b:Int)<=70:=by omega
    clear a f h;go_in;go_wp2;go_ret;refine⟨rfl,?_⟩;rw[uh d];exact VP (show _=((b - 55:Nat):Int) by go_num)
   ·have d:Hid (hx b=none):=by show _=_;unfold hx;rw[ye a,ye f,ye h]
    rcases (show b<48∨(57<b/\b<65)∨(70<b/\b<97)∨102<b from by omega)with g | g | g | g
    ·have j:(b:Int)<48:=by omega
     clear a f h g;go_in;go_wp2;go_ret;exact⟨rfl,by rw[uh d];rfl⟩
    ·have j:(57:Int)<(b:Int):=by omega
     have i:(b:Int)<65:=by omega
     clear a f h g;go_in;go_wp2;go_ret;exact⟨rfl,by rw[uh d];rfl⟩
    ·have j:(70:Int)<(b:Int):=by omega
     have i:(b:Int)<97:=by omega
     clear a f h g;go_in;go_wp2;go_ret;exact⟨rfl,by rw[uh d];rfl⟩
    ·have j:(102:Int)<(b:Int):=by omega
     clear a f h g;go_in;go_wp2;go_ret;exact⟨rfl,by rw[uh d];rfl⟩
def BV(c:Nat)(k:Value):Prop:=∃ j:Nat,j<=8/\k= .int .i64 j/\(0<j->c≠34)/\(1<j->c≠92)/\(2<j->c≠47)/\(3<j->c≠98)/\(4<j->c≠102)/\(5<j->c≠110)/\(6<j->c≠114)/\(7<j->c≠116)
abbrev BW(w:Wo):Wo:=w.alloc (.cells #[.int .u8 34,.int .u8 92,.int .u8 47,.int .u8 8,.int .u8 12,.int .u8 10,.int .u8 13,.int .u8 9] 5)
theorem RN(c:Nat)(hc:c<256)(w:Wo):
  Calls prog 159 #[.int .u8 c] w fun e w'=>e= .returned (.int .i64 (YI (QO c)))/\Bw w w':=by
 go_in;go_wp2;go_loopw [5] (fun k wr=>BV c k/\BW w=wr) (fun k _=>8 - (intOf k).toNat)
 case atStart=>exact⟨⟨0,by omega,rfl,by omega,by omega,by omega,by omega,by omega,by omega,by omega,by omega⟩,rfl⟩
 case round=>
  obtain⟨⟨j,p,rfl,a,d,f,n3,i,l,m,n⟩,rfl⟩:=hrel;have b:Hid ((0<j->c≠34)/\(1<j->c≠92)/\(2<j->c≠47)/\(3<j->c≠98)/\(4<j->c≠102)/\(5<j->c≠110)/\(6<j->c≠114)/\(7<j->c≠116)):=⟨a,d,f,n3,i,l,m,n⟩;clear a d f n3 i l m n;rcases (show j=0∨j=1∨j=2∨j=3∨j=4∨j=5∨j=6∨j=7∨j=8 from by omega)with rfl | rfl | rfl | rfl | rfl | rfl | rfl | rfl | rfl
  ·have g:((⟨#[34,92,47,98,102,110,114,116]⟩:Bs)[0]'(by decide)).toNat=34:=rfl;by_cases e:c=34
   ·subst e;clear b;go_wp2;go_ret;exact⟨rfl,(yG _ _).alloc (yd _) _⟩
   ·have t:((34:Int) ==(c:Int))=false:=by rw[yb];omega
    have h:=zh e;clear e;go_wp2;go_roundw
    case rel=>
     obtain⟨a,d,f,n3,i,l,m,n⟩:=uh b;have e:=uh h;exact⟨⟨1,by omega,by go_num,fun _=>e,by omega,by omega,by omega,by omega,by omega,by omega,by omega⟩,trivial⟩
    case measure=>simp[intOf]
  ·have g:((⟨#[34,92,47,98,102,110,114,116]⟩:Bs)[1]'(by decide)).toNat=92:=rfl;by_cases e:c=92
   ·subst e;clear b;go_wp2;go_ret;exact⟨rfl,(yG _ _).alloc (yd _) _⟩
   ·have t:((92:Int) ==(c:Int))=false:=by rw[yb];omega
    have h:=zh e;clear e;go_wp2;go_roundw
    case rel=>
     obtain⟨a,d,f,n3,i,l,m,n⟩:=uh b;have e:=uh h;exact⟨⟨2,by omega,by go_num,fun _=>a (by omega),fun _=>e,by omega,by omega,by omega,by omega,by omega,by omega⟩,trivial⟩
    case measure=>simp[intOf]
  ·have g:((⟨#[34,92,47,98,102,110,114,116]⟩:Bs)[2]'(by decide)).toNat=47:=rfl;by_cases e:c=47
   ·subst e;clear b;go_wp2;go_ret;exact⟨rfl,(yG _ _).alloc (yd _) _⟩
   ·have t:((47:Int) ==(c:Int))=false:=by rw[yb];omega
    have h:=zh e;clear e;go_wp2;go_roundw
    case rel=>
     obtain⟨a,d,f,n3,i,l,m,n⟩:=uh b;have e:=uh h;exact⟨⟨3,by omega,by go_num,fun _=>a (by omega),fun _=>d (by omega),fun _=>e,by omega,by omega,by omega,by omega,by omega⟩,trivial⟩
    case measure=>simp[intOf]
  ·have g:((⟨#[34,92,47,98,102,110,114,116]⟩:Bs)[3]'(by decide)).toNat=98:=rfl;by_cases e:c=98
   ·subst e;clear b;go_wp2;go_ret;exact⟨rfl,(yG _ _).alloc (yd _) _⟩
   ·have t:((98:Int) ==(c:Int))=false:=by rw[yb];omega
    have h:=zh e;clear e;go_wp2;go_roundw
    case rel=>
     obtain⟨a,d,f,n3,i,l,m,n⟩:=uh b;have e:=uh h;exact⟨⟨4,by omega,by go_num,fun _=>a (by omega),fun _=>d (by omega),fun _=>f (by omega),fun _=>e,by omega,by omega,by omega,by omega⟩,trivial⟩
    case measure=>simp[intOf]
  ·have g:((⟨#[34,92,47,98,102,110,114,116]⟩:Bs)[4]'(by decide)).toNat=102:=rfl;by_cases e:c=102
   ·subst e;clear b;go_wp2;go_ret;exact⟨rfl,(yG _ _).alloc (yd _) _⟩
   ·have t:((102:Int) ==(c:Int))=false:=by rw[yb];omega
    have h:=zh e;clear e;go_wp2;go_roundw
    case rel=>
     obtain⟨a,d,f,n3,i,l,m,n⟩:=uh b;have e:=uh h;exact⟨⟨5,by omega,by go_num,fun _=>a (by omega),fun _=>d (by omega),fun _=>f (by omega),fun _=>n3 (by omega),fun _=>e,by omega,by omega,by omega⟩,trivial⟩
    case measure=>simp[intOf]
  ·have g:((⟨#[34,92,47,98,102,110,114,116]⟩:Bs)[5]'(by decide)).toNat=110:=rfl;by_cases e:c=110
   ·subst e;clear b;go_wp2;go_ret;exact⟨rfl,(yG _ _).alloc (yd _) _⟩
   ·have t:((110:Int) ==(c:Int))=false:=by rw[yb];omega
    have h:=zh e;clear e;go_wp2;go_roundw
    case rel=>
     obtain⟨a,d,f,n3,i,l,m,n⟩:=uh b;have e:=uh h;exact⟨⟨6,by omega,by go_num,fun _=>a (by omega),fun _=>d (by omega),fun _=>f (by omega),fun _=>n3 (by omega),fun _=>i (by omega),fun _=>e,by omega,by omega⟩,trivial⟩
    case measure=>simp[intOf]
  ·have g:((⟨#[34,92,47,98,102,110,114,116]⟩:Bs)[6]'(by decide)).toNat=114:=rfl;by_cases e:c=114
   ·subst e;clear b;go_wp2;go_ret;exact⟨rfl,(yG _ _).alloc (yd _) _⟩
   ·have t:((114:Int) ==(c:Int))=false:=by rw[yb];omega
    have h:=zh e;clear e;go_wp2;go_roundw
    case rel=>
     obtain⟨a,d,f,n3,i,l,m,n⟩:=uh b;have e:=uh h;exact⟨⟨7,by omega,by go_num,fun _=>a (by omega),fun _=>d (by omega),fun _=>f (by omega),fun _=>n3 (by omega),fun _=>i (by omega),fun _=>l (by omega),fun _=>e,by omega⟩,trivial⟩
    case measure=>simp[intOf]
  ·have g:((⟨#[34,92,47,98,102,110,114,116]⟩:Bs)[7]'(by decide)).toNat=116:=rfl;by_cases e:c=116
   ·subst e;clear b;go_wp2;go_ret;exact⟨rfl,(yG _ _).alloc (yd _) _⟩
   ·have t:((116:Int) ==(c:Int))=false:=by rw[yb];omega
    have h:=zh e;clear e;go_wp2;go_roundw
    case rel=>
     obtain⟨a,d,f,n3,i,l,m,n⟩:=uh b;have e:=uh h;exact⟨⟨8,by omega,by go_num,fun _=>a (by omega),fun _=>d (by omega),fun _=>f (by omega),fun _=>n3 (by omega),fun _=>i (by omega),fun _=>l (by omega),fun _=>m (by omega),fun _=>e⟩,trivial⟩
    case measure=>simp[intOf]
  ·have o:Hid (QO c=none):=by
    obtain⟨a,d,f,n3,i,l,m,n⟩:=uh b;show _=_
    unfold QO;rw[ye (a (by omega)),ye (d (by omega)),ye (f (by omega)),ye (n3 (by omega)),ye (i (by omega)),ye (l (by omega)),ye (m (by omega)),ye (n (by omega))]
   clear b;go_wp2;go_ret;exact⟨by rw[uh o];rfl,(yG _ _).alloc (yd _) _⟩
def qF(t:Bs)(n:Nat)(ok b tw:Bool):Value:=.agg #[.string t,.int .i64 (n:Int),.bool ok,.bool b,.bool tw]
def GP(w:Wo)(o:Option (JV×Nat))(e:Ending)(w':Wo):Prop:=
 Bw w w'/\o.elim (∃ (t:Bs) (n:Nat) (b tw:Bool),e= .returned (qF t n false b tw)) fun q=>e= .returned (qF (zi (ct q.1)) q.2 true (zD q.1) (zw q.1))
theorem GP.bad{w w':Wo}{o:Option (JV×Nat)}(h:o=none)(b:Bw w w'):GP w o (.returned (.agg #[.string ⟨#[]⟩,.int .i64 0,.bool false,.bool false,.bool false])) w':=by
 subst h;exact⟨b,_,0,_,_,rfl⟩
theorem RO(b:Nat)(w:Wo):
  Calls prog 90 #[.int .u8 b] w fun e w'=>e= .returned (.bool (zT b))/\w=w':=by
 by_cases h:48<=b
 ·have a:Hid (zT b=decide ((b:Int)<=57)):=by
   show _=_
   unfold zT;rw[yi h,Bool.true_and];apply decide_eq_decide.2;omega
  have d:(48:Int)<=(b:Int):=by omega
  go_in;go_wp2;go_ret;exact⟨by rw[uh a];rfl,rfl⟩
 ·have a:Hid (zT b=false):=by
   show _=_
   unfold zT;rw[yj h,Bool.false_and]
  have d:¬ (48:Int)<=(b:Int):=by omega
  go_in;go_wp2;go_ret;exact⟨by rw[uh a];rfl,rfl⟩
theorem ZJ(w:Wo)(o:Obj):Bw w (w.alloc o):=(yG _ _).alloc (yd _) _
theorem BZ(s:Bs)(i:Nat)(w:Wo)(hs:s.size<=1048576)(hi:i<=s.size+1):
  Calls prog 72 #[.string s,.int .i64 i] w (GP w ((nm s i).map fun q=>(.num q.1,q.2))):=by
 have G:=zh fun w=>Vi s (i:Int) i rfl 45 w;have z:Hid (QT s i 45=decide (bt s i=45)):=by
  show _=_
  by_cases h:i<s.size
  ·rw[Yr h,Zg s i h,Bool.eq_iff_iff,yB,decide_eq_true_iff];omega
  ·rw[GY h,Jr s i (by omega)];rfl
 have u:Hid (nm s i=if zT (bt s (zK s i))=true then some (qE (zW s i (ZT s i)),ZT s i)else none):=rfl;have L:zK s i=i/\bt s i≠45∨zK s i=i+1/\bt s i=45:=by unfold zK;split<;>simp[*]
 have v:ZT s i=if bt s (zK s i)=48 then zK s i+1 else dg s (zK s i):=rfl
 generalize zK s i=d,ZT s i=E at *;have C:=zh v;clear v;go_in;go_wp2_with fail;refine (uh G _).mono ?_;rintro e W ⟨rfl,rfl⟩;have D:=zh (ZJ w (.cells #[.string ⟨#[]⟩,.int .i64 0,.bool false,.bool false,.bool false] 51));rw[uh z];go_upto_if 10 with fail;go_cut [1]from 8 to 12 (fun x wx=>x= .int .i64 (d:Int)/\wx=w.alloc (.cells #[.string ⟨#[]⟩,.int .i64 0,.bool false,.bool false,.bool false] 51))
 case first=>
  rcases L with ⟨rfl,h⟩ |⟨rfl,h⟩<;>(go_wp2;go_meet;case rel=>exact⟨rfl,rfl⟩)
 obtain⟨rfl,rfl⟩:=hcut;have M:i<=d:=by omega
 by_cases f:d<s.size
 ·have N:((s.size:Int)<=(d:Int))=False:=yP (by omega);have O:((d:Int)<(s.size:Int))=True:=eq_true (by omega);have l:Hid (∀ (j:Nat) (hj:j<s.size) w,Calls prog 90 #[.int .u8 (s[j].toNat:Int)] w (Rk (.bool (zT (bt s j))) w)):=fun j hj w=>by
   rw[Zg s j hj];exact RO _ w
  have n:=Zg s d f;go_wp2_with fail;refine (uh l d f _).mono ?_;rintro e X ⟨rfl,rfl⟩
  cases hdg:zT (bt s d)with
  | false=>
   have HR:Hid (((nm s i).map fun q=>(JV.num q.1,q.2))=none):=by show _=_;rw[uh u,ye (by rw[hdg];simp)];rfl
   clear hdg;go_wp2;go_returns;exact GP.bad (uh HR) (uh D)
  | true=>
   have I:=zh hdg;rw[yf hdg]at u;obtain⟨q,y⟩:∃ q,((s[d].toNat:Int) ==48)=q:=⟨_,rfl⟩;have B:Hid (q=decide (bt s d=48)):=by show _=_;rw[← y,n,Bool.eq_iff_iff,yB,decide_eq_true_iff];omega
   clear hdg n;go_upto_if 28 with fail;go_cut [1]from 25 to 42 (fun x wx=>x= .int .i64 (E:Int)/\d<E/\E<=s.size/\wx=w.alloc (.cells #[.string ⟨#[]⟩,.int .i64 0,.bool false,.bool false,.bool false] 51))
   case first=>
    cases q with
    | true=>
     have v:=(uh C).trans (yf (of_decide_eq_true (uh B).symm));subst v;go_wp2;go_meet
     case rel=>exact⟨rfl,by omega,f,rfl⟩
    | false=>
     have A:=zh ((uh C).trans (ye (of_decide_eq_false (uh B).symm)));go_wp2_with fail;go_loopw [1] (fun k wr=>wr=w.alloc (.cells #[.string ⟨#[]⟩,.int .i64 0,.bool false,.bool false,.bool false] 51)/\∃ j:Nat,k= .int .i64 (j:Int)/\j<=s.size/\Hid (E=dg s j)/\(d<j∨j=d)) (fun k _=>s.size - (intOf k).toNat)
     case atStart=>exact⟨rfl,d,by go_num,by omega,uh A,.inr rfl⟩
     case round=>
      obtain⟨rfl,j,rfl,o,a,p⟩:=hrel;by_cases r:j<s.size
      ·have P:((j:Int)<(s.size:Int))=True:=eq_true (by omega);go_wp2_with fail;refine (uh l j r _).mono ?_;rintro e Q ⟨rfl,rfl⟩
       cases hjd:zT (bt s j)with
       | true=>
        have m:Hid (E=dg s (j+1)):=by show _=_;rw[uh a,Y5 hjd]
        clear hjd;go_wp2;go_roundw
        case rel=>exact⟨trivial,j+1,by go_num,by omega,uh m,.inl (by omega)⟩
        case measure=>simp[intOf];omega
       | false=>
        have m:E=j:=by rw[uh a,Wt (by rw[hjd];simp)]
        have g:d<j:=by
         rcases p with h | h
         ·exact h
         ·subst h;have:=uh I;rw[hjd]at this;cases this
        subst m;clear hjd p;go_wp2;go_meet
        case rel=>exact⟨rfl,g,o,rfl⟩
      ·have P:((j:Int)<(s.size:Int))=False:=yP (by omega);have m:E=j:=by rw[uh a,Wt (by rw[Jr s j (by omega)];simp[zT])]
       subst m;have g:d<E:=by omega
       go_wp2;go_meet
       case rel=>exact⟨rfl,g,o,rfl⟩
   obtain⟨rfl,R,S,rfl⟩:=hcut;clear y B;have T:(i:Int)<=(E:Int):=by omega
   have U:(E:Int)<=(s.size:Int):=by omega
   have V:(0:Int)<=(i:Int):=by omega
   have b:(zW s i E).length=E - i:=by unfold zW;rw[yl,yt,Zb];omega
   have H:Hid (∀ w,Calls prog 117 #[.string (zi (qE (zW s i E)))] w fun F w'=>F= .returned (.bool (qZ (qE (zW s i E))))/\w=w'):=fun w=>by
    unfold qE;split
    ·exact RM _ w (by simp) (by simp)
    ·exact RM _ w (by intro h;rw[h]at b;simp at b;omega) (by omega)
   obtain⟨q,y⟩:∃ q,((s.extract i E).toList ==[45,48])=q:=⟨_,rfl⟩;have K:Hid (qE (zW s i E)=if q then [48]else zW s i E):=by show _=_;rw[← y,Gi];simp only[yB];rfl
   have J:=zh (Wy s i E);clear b;go_upto_if 48 with fail;go_cut [6]from 47 to 48 (fun x wx=>x= .string (zi (qE (zW s i E)))/\wx=w.alloc (.cells #[.string ⟨#[]⟩,.int .i64 0,.bool false,.bool false,.bool false] 51))
   case first=>
    cases q<;>(go_wp2;go_meet;case rel=>exact⟨by rw[uh K];first | rfl |(rw[uh J];rfl),rfl⟩)
   obtain⟨rfl,rfl⟩:=hcut;go_wp2_with fail;refine (uh H _).mono ?_;rintro F Q ⟨rfl,rfl⟩;go_wp2;go_returns;rw[uh u];exact⟨ZJ w _,rfl⟩
 ·have N:((s.size:Int)<=(d:Int))=True:=eq_true (by omega);have HR:Hid (((nm s i).map fun q=>(JV.num q.1,q.2))=none):=by
   show _=_
   rw[uh u,ye (by rw[Jr s d (by omega)];simp[zT])];rfl
  go_wp2;go_returns;exact GP.bad (uh HR) (uh D)
def qG:JL->List UInt8
 | .nil=>[]
 | .cons v r=>ct v++44 :: qG r
theorem FZ:∀ (a:JL) (v:JV),qG (a.app (.cons v .nil))=qG a++(ct v++[44])
 | .nil,v=>by simp[JL.app,qG]
 | .cons u r,v=>by simp[JL.app,qG,FZ r v]
theorem RP:∀ (a:JL) (v:JV),44 ::(qG a++ct v)=joinT (zu (a.app (.cons v .nil)))
 | .nil,v=>by simp[JL.app,qG,zu,joinT]
 | .cons u r,v=>by
  have:=RP r v;simp[JL.app,qG,zu,joinT,← this]
theorem Ca(a:JL)(v:JV):qG a++ct v=joinC (zu (a.app (.cons v .nil))):=by
 cases a with
 | nil=>simp[JL.app,qG,zu,joinC,joinT]
 | cons u r=>
  have:=RP r v;simp[JL.app,qG,zu,joinC,← this]
abbrev qf(t:Bs)(n:Nat)(ok b tw:Bool):Obj:=.cells #[.string t,.int .i64 (n:Int),.bool ok,.bool b,.bool tw] 51 (0,0)
def zU(g:Nat)(t:Bs)(n:Nat)(ok b tw:Bool)(w:Wo):Prop:=w.heap[g]?=some (qf t n ok b tw)
theorem zU.c0{g n:Nat}{t:Bs}{ok b tw:Bool}{w:Wo}(h:zU g t n ok b tw w):w.cell? ⟨g,0,none⟩=some (.string t):=by rw[yE h];rfl
theorem zU.c1{g n:Nat}{t:Bs}{ok b tw:Bool}{w:Wo}(h:zU g t n ok b tw w):w.cell? ⟨g,1,none⟩=some (.int .i64 (n:Int)):=by rw[yE h];rfl
theorem zU.c2{g n:Nat}{t:Bs}{ok b tw:Bool}{w:Wo}(h:zU g t n ok b tw w):w.cell? ⟨g,2,none⟩=some (.bool ok):=by rw[yE h];rfl
theorem zU.c3{g n:Nat}{t:Bs}{ok b tw:Bool}{w:Wo}(h:zU g t n ok b tw w):w.cell? ⟨g,3,none⟩=some (.bool b):=by rw[yE h];rfl
theorem zU.c4{g n:Nat}{t:Bs}{ok b tw:Bool}{w:Wo}(h:zU g t n ok b tw w):w.cell? ⟨g,4,none⟩=some (.bool tw):=by rw[yE h];rfl
theorem zU.fz{g n:Nat}{t:Bs}{ok b tw:Bool}{w:Wo}(h:zU g t n ok b tw w)(k:Nat):w.frozen? ⟨g,k,none⟩=false:=yH h k
theorem zU.lt{g n:Nat}{t:Bs}{ok b tw:Bool}{w:Wo}(h:zU g t n ok b tw w):g<w.heap.size:=(yA.1 h).1
theorem zU.below{g n:Nat}{t:Bs}{ok b tw:Bool}{w w':Wo}(h:zU g t n ok b tw w)(hb:Bw w w'):zU g t n ok b tw w':=(hb.block g h.lt).trans h
theorem zU.alloc{g n:Nat}{t:Bs}{ok b tw:Bool}{w:Wo}(h:zU g t n ok b tw w)(o:Obj):zU g t n ok b tw (w.alloc o):=h.below (ZJ w o)
theorem zU.other{g n:Nat}{t:Bs}{ok b tw:Bool}{w:Wo}(h:zU g t n ok b tw w){p:Addr}(hp:g≠p.block)(v:Value):zU g t n ok b tw (w.setCell p v):=(Below.heap_setCell w p v g hp).trans h
theorem zU.set0{g n:Nat}{t:Bs}{ok b tw:Bool}{w:Wo}(h:zU g t n ok b tw w)(t':Bs):zU g t' n ok b tw (w.setCell ⟨g,0,none⟩ (.string t')):=heap_setCell_same w g 0 _ 51 (.string t') h
theorem zU.set1{g n:Nat}{t:Bs}{ok b tw:Bool}{w:Wo}(h:zU g t n ok b tw w)(z:Int)(n':Nat)(hz:z=(n':Int)):zU g t n' ok b tw (w.setCell ⟨g,1,none⟩ (.int .i64 z)):=by
 subst hz;exact heap_setCell_same w g 1 _ 51 (.int .i64 (n':Int)) h
theorem zU.set3{g n:Nat}{t:Bs}{ok b tw:Bool}{w:Wo}(h:zU g t n ok b tw w)(b':Bool):zU g t n ok b' tw (w.setCell ⟨g,3,none⟩ (.bool b')):=heap_setCell_same w g 3 _ 51 (.bool b') h
theorem zU.set4{g n:Nat}{t:Bs}{ok b tw:Bool}{w:Wo}(h:zU g t n ok b tw w)(b':Bool):zU g t n ok b b' (w.setCell ⟨g,4,none⟩ (.bool b')):=heap_setCell_same w g 4 _ 51 (.bool b') h
theorem zU.set2{g n:Nat}{t:Bs}{ok b tw:Bool}{w:Wo}(h:zU g t n ok b tw w)(b':Bool):zU g t n b' b tw (w.setCell ⟨g,2,none⟩ (.bool b')):=heap_setCell_same w g 2 _ 51 (.bool b') h
theorem zU.put{g n:Nat}{t:Bs}{ok b tw:Bool}{w:Wo}(h:zU g t n ok b tw w)(t':Bs)(z:Int)(n':Nat)(hz:z=(n':Int))(ok' b' tw':Bool):
  zU g t' n' ok' b' tw' (((((w.setCell ⟨g,0,none⟩ (.string t')).setCell ⟨g,1,none⟩ (.int .i64 z)).setCell ⟨g,2,none⟩ (.bool ok')).setCell ⟨g,3,none⟩ (.bool b')).setCell ⟨g,4,none⟩ (.bool tw')):=
 ((((h.set0 t').set1 z n' hz).set2 ok').set3 b').set4 tw'
theorem zU.copyTo{r g n n0:Nat}{t t0:Bs}{ok b tw ok0 b0 tw0:Bool}{w:Wo}(h:zU r t0 n0 ok0 b0 tw0 w)(_:zU g t n ok b tw w)(z:Int)(hz:z=(n:Int)):
  zU r t n ok b tw (((((w.setCell ⟨r,0,none⟩ (.string t)).setCell ⟨r,1,none⟩ (.int .i64 z)).setCell ⟨r,2,none⟩ (.bool ok)).setCell ⟨r,3,none⟩ (.bool b)).setCell ⟨r,4,none⟩ (.bool tw)):=h.put t z n hz ok b tw
theorem J2{B g:Nat}{w w':Wo}(h:Below B w w')(hg:B<=g)(a b c d e:Value):
  Below B w (((((w'.setCell ⟨g,0,none⟩ a).setCell ⟨g,1,none⟩ b).setCell ⟨g,2,none⟩ c).setCell ⟨g,3,none⟩ d).setCell ⟨g,4,none⟩ e):=
 ((((h.setCell (p:=⟨g,0,none⟩) hg _).setCell (p:=⟨g,1,none⟩) hg _).setCell (p:=⟨g,2,none⟩) hg _).setCell (p:=⟨g,3,none⟩) hg _).setCell (p:=⟨g,4,none⟩) hg _
theorem J3{fn:Func}(hres:fn.results=#[.cell 4 51]){tmps:Array Value}{g n:Nat}{t:Bs}{ok b tw:Bool}{w:Wo}(hp:tmps.getD 4 undef= .pointer (some ⟨g,0,none⟩))(h:zU g t n ok b tw w):
  (results fn tmps).run prog w= .ok (qF t n ok b tw) w:=
 results_cell_row hres tmps w g 51 _ (0,0) _ hp h underlying51 rfl (by kernel_rfl)
theorem RQ:∀ a b c:Bool,(a || b)=c->a=true/\c=true∨a=false/\b=c:=by decide
def Cb(g:Nat)(a b c d e:Value)(w:Wo):Prop:=w.cell? ⟨g,0,none⟩=some a/\w.cell? ⟨g,1,none⟩=some b/\w.cell? ⟨g,2,none⟩=some c/\w.cell? ⟨g,3,none⟩=some d/\w.cell? ⟨g,4,none⟩=some e
theorem zU.cells{g n:Nat}{t:Bs}{ok b tw:Bool}{w:Wo}(h:zU g t n ok b tw w):Cb g (.string t) (.int .i64 (n:Int)) (.bool ok) (.bool b) (.bool tw) w:=⟨h.c0,h.c1,h.c2,h.c3,h.c4⟩
theorem zU.fzs{g n:Nat}{t:Bs}{ok b tw:Bool}{w:Wo}(h:zU g t n ok b tw w):w.frozen? ⟨g,0,none⟩=false/\w.frozen? ⟨g,1,none⟩=false/\w.frozen? ⟨g,2,none⟩=false/\w.frozen? ⟨g,3,none⟩=false/\w.frozen? ⟨g,4,none⟩=false:=⟨h.fz 0,h.fz 1,h.fz 2,h.fz 3,h.fz 4⟩
theorem Y7(a b:List UInt8):zi a++zi b=zi (a++b):=by
 apply Go.WideShapes.bytes_inj;rw[ByteArray.data_append,Array.toList_append,Zd,Zd,Zd]
def Cc(s:Bs):Prop:=
 (∀ (z:Int) (j:Nat) w,z=(j:Int)->Calls prog 27 #[.string s,.int .i64 z] w (Rk (.int .i64 (sk s j)) w)) /\
 (∀ (c j:Nat) w,c≠0->Calls prog 66 #[.string s,.int .i64 j,.int .u8 c] w (Rk (.bool (decide (bt s j=c))) w))
theorem F0(s:Bs)(hs:s.size<=1048576):Cc s:=by
 refine⟨fun z j w hz=>?_,fun c j w hc=>?_⟩
 ·subst hz;exact RJ s j w hs
 ·have h:=Vi s (j:Int) j rfl c w;have e:QT s j (c:Int)=decide (bt s j=c):=by
   by_cases a:j<s.size
   ·rw[Yr a,← Zg s j a];by_cases g:bt s j=c
    ·rw[g];simp
    ·rw[yj g,yb];omega
   ·rw[GY a,Jr s j (by omega)];exact (yj (fun g=>hc g.symm)).symm
  rw[e]at h;exact h
abbrev zx:=List UInt8×List UInt8
def zF(p:zx):List Value:=[.string (zi p.1),.string (zi p.2)]
def PR(w:Wo)(B:Nat)(v:Value)(ps:List zx):Prop:=w.ownsRow B 97 2 v ps.length (ps.flatMap zF)
theorem RS(ps:List zx)(j:Nat)(h:j<ps.length):(ps.flatMap zF)[j*2]?=some (.string (zi ps[j].1))/\(ps.flatMap zF)[j*2+1]?=some (.string (zi ps[j].2)):=by
 induction ps generalizing j with
 | nil=>simp at h
 | cons p r ih=>
  cases j with
  | zero=>exact⟨rfl,rfl⟩
  | succ j=>
   have:=ih j (by simpa using h);rw[List.flatMap_cons,show (j+1)*2=j*2+2 from by omega];exact this
theorem PR.cells{w:Wo}{B:Nat}{v:Value}{ps:List zx}(h:PR w B v ps)(j:Nat)(hj:j<ps.length):
  ∃ g cap,v= .slice (some ⟨g,0,none⟩) ps.length cap/\B<=g/\g<w.heap.size/\w.cell? ⟨g,j*2,none⟩=some (.string (zi ps[j].1))/\w.cell? ⟨g,j*2+1,none⟩=some (.string (zi ps[j].2)):=by
 obtain⟨o,m |⟨g,cap,f,l,i,b,p,n,k,d⟩⟩:=h
 ·omega
 ·have a:=RS ps j hj;refine⟨g,cap,l,i,(yA.1 b).1,?_,?_⟩
  ·rw[yE b,← Array.getElem?_toList,← a.1,← d,List.getElem?_take_of_lt (by omega)]
  ·rw[yE b,← Array.getElem?_toList,← a.2,← d,List.getElem?_take_of_lt (by omega)]
theorem PR.below{w w':Wo}{B:Nat}{v:Value}{ps:List zx}(h:PR w B v ps)(hb:Bw w w'):PR w' B v ps:=ZI h hb
theorem PR.mono{w:Wo}{B B':Nat}{v:Value}{ps:List zx}(h:PR w B v ps)(hB:B'<=B):PR w B' v ps:=JB h hB
def Yk(ps:List zx)(key:List UInt8):Bool:=(ps.map (·.1)).contains key
theorem Uq(a b:List UInt8):((zi a).toList ==(zi b).toList)=(a ==b):=by
 rw[ByteArray.toList_eq,ByteArray.toList_eq,Zd,Zd]
theorem F1(B:Nat)(v:Value)(ps:List zx)(key:List UInt8)(w:Wo)(h:PR w B v ps)(hn:ps.length<=40000000):
  Calls prog 115 #[v,.string (zi key)] w fun e w'=>∃ z:Int,e= .returned (.int .i64 z)/\decide ((0:Int)<=z)=Yk ps key/\w=w':=by
 obtain⟨x,len,a,rfl,l⟩:∃ x len a,v= .slice x len a/\len=ps.length:=by
  rcases h.2 with ⟨p,y⟩ |⟨g,a,u,p,_⟩
  ·exact⟨_,_,_,p,y.symm⟩
  ·exact⟨_,_,_,p,rfl⟩
 subst l;have r:=zh h;clear h;go_in;go_wp2_with fail;go_loopw [5] (fun k wr=>w=wr/\∃ j:Nat,k= .int .i64 (j:Int)/\j<=ps.length/\((ps.take j).map (·.1)).contains key=false) (fun k _=>ps.length - (intOf k).toNat)
 case atStart=>exact⟨rfl,0,rfl,yr _,by simp⟩
 case round=>
  obtain⟨rfl,j,rfl,F,m⟩:=hrel;have d:=zh m;clear m;by_cases i:j<ps.length
  ·have D:((j:Int)<(ps.length:Int))=True:=eq_true (by omega);obtain⟨g,q,A,E,C,c0,c1⟩:=(uh r).cells j i;injection A with he1 he2 he3;subst he1;subst he3;have f:=Uq ps[j].1 key;by_cases b:ps[j].1=key
   ·have n:(ps[j].1 ==key)=true:=by rw[yB];exact b
    have o:Hid (Yk ps key=true):=by
     show _=_
     unfold Yk;rw[List.contains_iff_mem];exact yN.2 ⟨ps[j],yq _,b⟩
    rw[n]at f;clear b n;go_wp2;go_ret;exact⟨_,rfl,by rw[uh o];exact yi (by omega),rfl⟩
   ·have n:(ps[j].1 ==key)=false:=by rw[yb];exact b
    have s:Hid (((ps.take (j+1)).map (·.1)).contains key=false):=by
     show _=_
     have:=uh d;rw[yx i,yv,List.contains_append,this];simp;exact fun e=>b e.symm
    rw[n]at f;clear b n;go_wp2;go_roundw
    case rel=>exact⟨trivial,j+1,by go_num,by omega,uh s⟩
    case measure=>simp[intOf];omega
  ·have D:((j:Int)<(ps.length:Int))=False:=yP (by omega);have o:Hid (Yk ps key=false):=by
    show _=_
    unfold Yk;have:=uh d
    rwa [yp (by omega)]at this
   go_wp2;go_ret;exact⟨_,rfl,by rw[uh o];rfl,rfl⟩
theorem Cd{s:Bs}:∀ {i j:Nat} {l:List UInt8},qa s i=some (l,j)->l.length+4*(i+1)<=4*j:=by
 intro i;generalize hn:s.size - i=n;induction n using Nat.strongRecOn generalizing i with
 | _ n ih=>
  intro j l h;by_cases a:bt s i=34
  ·rw[Vu a]at h;injection h with h;injection h with h1 h2;subst h1;simp;omega
  ·cases hp:piece s i with
   | none=>rw[Vv a hp]at h;cases h
   | some p=>
    obtain⟨r,b⟩:=p;have f:=Y2 hp;have d:=Ul r;rw[Y4 a hp]at h;rcases hq:qa s (i+b)with _ |⟨k,g⟩
    ·rw[hq]at h;cases h
    ·rw[hq]at h;injection h with h;injection h with h1 h2;have:=ih (s.size - (i+b)) (by omega) rfl hq;subst h1;simp only[yg];simp only at h2;omega
theorem Ur{s:Bs}{i j:Nat}{l:List UInt8}(h:Zq s i=some (l,j)):l.length+4*(i+2)<=4*j:=by
 unfold Zq at h;split at h
 ·have:=Cd h;omega
 ·cases h
theorem qQ(l:List UInt8):(quoted l).length<=6*l.length+2:=by
 have:=NA l;unfold quoted;simp only[ym,yg,yC];omega
theorem RT{s:Bs}{i j:Nat}{l:List UInt8}(h:nm s i=some (l,j)):l.length+i<=j:=by
 have a:=Um h;unfold nm at h;split at h
 ·injection h with h;injection h with h1 h2;subst h1;subst h2;unfold qE zW;split
  ·simp;omega
  ·rw[yl,yt,Zb];omega
 ·cases h
def sumT(l:List (List UInt8×List UInt8)):Nat:=(l.map fun p=>(zt p).length+1).sum
theorem RU(p:List UInt8×List UInt8):∀ l,sumT (Z4 p l)=(zt p).length+1+sumT l
 | []=>by simp[Z4,sumT]
 | q :: r=>by
  have:=RU p r;unfold Z4;split
  ·simp[sumT]at *;omega
  ·simp[sumT]
theorem RV:∀ (l acc:List (List UInt8×List UInt8)),sumT (l.foldl (fun acc p=>Z4 p acc) acc)=sumT l+sumT acc
 | [],acc=>by simp[sumT]
 | p :: l,acc=>by
  rw[List.foldl_cons,RV l,RU];simp[sumT];omega
theorem Ce(l:List (List UInt8×List UInt8)):sumT l.reverse=sumT l:=by
 unfold sumT;rw[List.map_reverse,List.sum_reverse]
theorem Wz(l:List (List UInt8×List UInt8)):sumT (zz l)=sumT l:=by
 unfold zz;rw[Ce,RV];simp[sumT]
theorem F2:∀ l:List (List UInt8),(joinT l).length=(l.map fun t=>t.length+1).sum
 | []=>rfl
 | t :: r=>by simp[joinT,F2 r];omega
theorem KQ(l:List (List UInt8)):(joinC l).length<=(l.map fun t=>t.length+1).sum:=by
 cases l with
 | nil=>simp[joinC]
 | cons t r=>simp[joinC,F2]
theorem RW(l:List (List UInt8×List UInt8)):(ZD (zz l)).length<=sumT l+2:=by
 have h:=KQ ((zz l).map zt);rw[List.map_map]at h;have e:((zz l).map ((fun t=>t.length+1)∘zt)).sum=sumT l:=by rw[← Wz l];rfl
 rw[e]at h;unfold ZD;simp only[ym,yg,yC];omega
theorem Gj(s:Bs):∀ f i,(∀ v j,pv s f i=some (v,j)->(ct v).length<=30*(j - i))/\(∀ l j,pa s f i=some (l,j)->((zu l).map fun t=>t.length+1).sum+2<=30*(j - i))/\(∀ m j,po s f i=some (m,j)->sumT (zn m)+2<=30*(j - i))
 | 0,i=>⟨fun v j h=>by simp[pv]at h,fun v j h=>by simp[pa]at h,fun v j h=>by simp[po]at h⟩
 | f+1,i=>by
  refine⟨fun v j h=>?_,fun l j h=>?_,fun m j h=>?_⟩
  ·have hok:=(qb s (f+1) i).1 v j h;rw[pv]at h;have g:=zO s (i+1);split at h
   ·split at h
    ·injection h with h;injection h with b h;subst b;simp[ct,zu,Zi,joinC];omega
    ·simp only[yy]at h;obtain⟨⟨l,k⟩,d,h⟩:=h;injection h with b h;have p:=(Gj s f (sk s (i+1))).2.1 l k d;have r:=(qb s f (sk s (i+1))).2.1 l k d;have B:=KQ (zu l);subst b;simp only[ct,Zi,ym,yg,yC];simp only at h;omega
   ·split at h
    ·split at h
     ·injection h with h;injection h with b h;subst b;simp[ct,zn,ZD,zz,joinC];omega
     ·simp only[yy]at h;obtain⟨⟨l,k⟩,d,h⟩:=h;injection h with b h;have p:=(Gj s f (sk s (i+1))).2.2 l k d;have r:=(qb s f (sk s (i+1))).2.2 l k d;have B:=RW (zn l);subst b;simp only[ct];simp only at h;omega
    ·split at h
     ·simp only[yy]at h;obtain⟨⟨l,k⟩,d,h⟩:=h;injection h with b h;have p:=Ur d;have r:=qQ l;subst b;simp only[ct];simp only at h;omega
     ·split at h
      ·injection h with h;injection h with b h;subst b;simp[ct];omega
      ·split at h
       ·injection h with h;injection h with b h;subst b;simp[ct];omega
       ·split at h
        ·injection h with h;injection h with b h;subst b;simp[ct];omega
        ·simp only[yy]at h;obtain⟨⟨l,k⟩,d,h⟩:=h;injection h with b h;have p:=RT d;subst b;simp only[ct];simp only at h;omega
  ·rw[pa]at h;simp only[Option.bind_eq_some_iff]at h;obtain⟨⟨v,k⟩,d,h⟩:=h;have p:=(qb s f i).1 v k d;have u:=(Gj s f i).1 v k d;have y:=zO s k;simp only at h;split at h
   ·injection h with h;injection h with b h;subst b;simp[zu];omega
   ·split at h
    ·simp only[yy]at h;obtain⟨⟨l,n⟩,q,h⟩:=h;injection h with b h;have r:=(qb s f _).2.1 l n q;have w:=(Gj s f _).2.1 l n q;have z:=zO s (sk s k+1);subst b;simp only[zu,yh,yK];simp only at h;omega
    ·cases h
  ·rw[po]at h;simp only[Option.bind_eq_some_iff]at h;obtain⟨⟨o,a⟩,x,h⟩:=h;have b:=Js x;have A:=Ur x;have F:=qQ o;simp only at h;split at h
   ·simp only[Option.bind_eq_some_iff]at h;obtain⟨⟨v,k⟩,d,h⟩:=h;have p:=(qb s f _).1 v k d;have u:=(Gj s f _).1 v k d;have D:=zO s a;have E:=zO s (sk s a+1);have y:=zO s k;simp only at h;split at h
    ·injection h with h;injection h with b h;subst b;simp[zn,sumT,zt];omega
    ·split at h
     ·simp only[yy]at h;obtain⟨⟨l,n⟩,q,h⟩:=h;injection h with b h;have r:=(qb s f _).2.2 l n q;have w:=(Gj s f _).2.2 l n q;have z:=zO s (sk s k+1);subst b;have e:sumT (zn (.cons o v l))=(zt (o,ct v)).length+1+sumT (zn l):=by simp[zn,sumT]
      have C:(zt (o,ct v)).length=(quoted o).length+1+(ct v).length:=by simp[zt];omega
      simp only at h ⊢;omega
     ·cases h
   ·cases h
theorem KR{s:Bs}{i j:Nat}{v:JV}(h:val s i=some (v,j)):(ct v).length<=30*(j - i):=(Gj s _ i).1 v j h
def Yl:Nat->Nat->List UInt8
 | 0,_=>[]
 | f+1,n=>if n<10 then [UInt8.ofNat (48+n)]else Yl f (n / 10)++[UInt8.ofNat (48+n % 10)]
def zP(n:Nat):List UInt8:=Yl (n+1) n
theorem RY:∀ (f g n:Nat),n<f->n<g->Yl f n=Yl g n
 | 0,_,_,h,_=>by omega
 | _+1,0,_,_,h=>by omega
 | f+1,g+1,n,hf,hg=>by
  rw[Yl,Yl];by_cases h:n<10
  ·rw[yf h,yf h]
  ·rw[ye h,ye h,RY f g (n / 10) (by omega) (by omega)]
theorem Q5{n:Nat}(h:n<10):zP n=[UInt8.ofNat (48+n)]:=by unfold zP;rw[Yl,yf h]
theorem WA{n:Nat}(h:¬ n<10):zP n=zP (n / 10)++zP (n % 10):=by
 rw[Q5 (n:=n % 10) (by omega)];unfold zP;rw[Yl,ye h,RY n (n / 10+1) (n / 10) (by omega) (by omega)]
theorem KS:∀ n:Nat,(zP n).length<=n+1:=fun n=>by
 have:∀ f n,(Yl f n).length<=f:=by
  intro f;induction f with
  | zero=>intro n;simp[Yl]
  | succ f ih=>
   intro n;rw[Yl];split
   ·simp
   ·have:=ih (n / 10);simp;omega
 exact this (n+1) n
theorem WB:∀ (b n:Nat) (w:Wo),n<=b->n<=1000000000->Calls prog 119 #[.int .i64 (n:Int)] w fun e w'=>e= .returned (.string (zi (zP n)))/\Bw w w':=by
 intro b;induction b with
 | zero=>
  intro n w m _;obtain rfl:n=0:=by omega
  have a:=VW w (zP 0) #[.int .u8 48] 1 rfl rfl;generalize zP 0=u at *;go_in;go_wp2;go_ret;exact⟨rfl,(yG _ _).alloc (yd _) _⟩
 | succ b ih=>
  intro n w m p;by_cases h:n<10
  ·have a:=VW w (zP n) #[.int .u8 (48+(n:Int))] 1 (by rw[Q5 h];rfl) (by rw[Q5 h];simp[Lib.byteCells];omega);have l:(n:Int)<10:=by omega
   generalize zP n=u at *;clear ih;go_in;go_wp2;go_ret;exact⟨rfl,(yG _ _).alloc (yd _) _⟩
  ·have l:¬ (n:Int)<10:=by omega
   have o:(n:Int) / 10=((n / 10:Nat):Int):=by omega
   have s:(n:Int) % 10=((n % 10:Nat):Int):=by omega
   have d:Hid (∀ w,Calls prog 119 #[.int .i64 ((n / 10:Nat):Int)] w (Rb (.string (zi (zP (n / 10)))) w)):=fun w=>ih (n / 10) w (by omega) (by omega);have f:Hid (∀ w,Calls prog 119 #[.int .i64 ((n % 10:Nat):Int)] w (Rb (.string (zi (zP (n % 10)))) w)):=fun w=>ih (n % 10) w (by omega) (by omega);have i:Hid (zi (zP (n / 10))++zi (zP (n % 10))=zi (zP n)):=by show _=_;rw[Y7,← WA h]
   have A:(zi (zP (n / 10))).size<=1000000001:=by rw[zS];have:=KS (n / 10);omega
   have B:(zi (zP (n % 10))).size<=1000000001:=by rw[zS];have:=KS (n % 10);omega
   have C:(9223372036854775807<(zi (zP (n / 10))).size+(zi (zP (n % 10))).size)=False:=yP (by omega);generalize zi (zP n)=u at *;generalize zi (zP (n / 10))=v at *;generalize zi (zP (n % 10))=x at *;generalize n / 10=q at *;generalize n % 10=r at *;clear ih h;go_in;go_wp2_with fail;refine (uh d _).mono ?_;rintro e y ⟨rfl,j⟩;go_wp2_with fail;refine (uh f _).mono ?_;rintro e z ⟨rfl,k⟩;have g:=zj j k;clear d f;go_wp2;go_ret;exact⟨by rw[← uh i];rfl,g⟩
theorem F3(p:List UInt8×List UInt8):∀ l,(Z4 p l).Perm (p :: l)
 | []=>List.Perm.refl _
 | q :: r=>by
  unfold Z4;split
  ·exact ((F3 p r).cons q).trans (List.Perm.swap p q r)
  ·exact List.Perm.refl _
theorem RZ:∀ (l acc:List (List UInt8×List UInt8)),(l.foldl (fun acc p=>Z4 p acc) acc).Perm (l++acc)
 | [],acc=>List.Perm.refl _
 | p :: l,acc=>by
  rw[List.foldl_cons];exact (RZ l _).trans (((F3 p acc).append_left l).trans (List.perm_middle))
theorem qj(l:List (List UInt8×List UInt8)):(zz l).Perm l:=by
 unfold zz;have:=RZ l [];rw[List.append_nil]at this;exact (List.reverse_perm _).trans this
theorem Sa(p:List UInt8×List UInt8):∀ l,l.Pairwise (fun a b=>b.1<=a.1)->(Z4 p l).Pairwise (fun a b=>b.1<=a.1)
 | [],_=>by simp[Z4]
 | q :: r,h=>by
  rw[List.pairwise_cons]at h;unfold Z4;split
  ·rename_i hlt;rw[List.pairwise_cons];refine⟨fun a ha=>?_,Sa p r h.2⟩;rcases List.mem_cons.1 ((F3 p r).subset ha)with rfl | ha
   ·exact List.le_of_lt hlt
   ·exact h.1 a ha
  ·rename_i hlt;have hqp:q.1<=p.1:=List.not_lt.1 hlt;rw[List.pairwise_cons,List.pairwise_cons];refine⟨fun a ha=>?_,h⟩;rcases List.mem_cons.1 ha with rfl | ha
   ·exact hqp
   ·exact List.le_trans (h.1 a ha) hqp
theorem Sb:∀ (l acc:List (List UInt8×List UInt8)),acc.Pairwise (fun a b=>b.1<=a.1)->(l.foldl (fun acc p=>Z4 p acc) acc).Pairwise (fun a b=>b.1<=a.1)
 | [],acc,h=>h
 | p :: l,acc,h=>by rw[List.foldl_cons];exact Sb l _ (Sa p acc h)
theorem KT(l:List (List UInt8×List UInt8)):(zz l).Pairwise (fun a b=>a.1<=b.1):=by
 unfold zz;rw[List.pairwise_reverse];exact Sb l [] List.Pairwise.nil
theorem Cf{l:List (List UInt8×List UInt8)}{ss:List (List UInt8)}(h:ss.Perm (l.map (·.1))):ss.mergeSort (fun x y=>decide (x<=y))=(zz l).map (·.1):=by
 have d:∀ a b c:List UInt8,decide (a<=b)=true->decide (b<=c)=true->decide (a<=c)=true:=fun a b c h1 h2=>by simp only[decide_eq_true_eq]at *;exact List.le_trans h1 h2
 have f:∀ a b:List UInt8,(decide (a<=b) || decide (b<=a))=true:=fun a b=>by simp only[Bool.or_eq_true,decide_eq_true_eq];exact List.le_total a b
 refine List.Perm.eq_of_pairwise (le:=fun a b=>decide (a<=b)=true) (fun a b _ _ h1 h2=>?_) (List.pairwise_mergeSort d f ss) ?_ (((List.mergeSort_perm _ _).trans h).trans ((qj l).map _).symm)
 ·simp only[decide_eq_true_eq]at h1 h2;exact List.le_antisymm h1 h2
 ·rw[List.pairwise_map];exact (KT l).imp fun h=>by simpa using h
def JM.toL:JM->List (List UInt8×JV)
 | .nil=>[]
 | .cons k v r=>(k,v) :: r.toL
theorem Qg:∀ m:JM,zn m=m.toL.map fun p=>(p.1,ct p.2)
 | .nil=>rfl
 | .cons k v r=>by rw[zn,JM.toL,yh,Qg r]
theorem Gk:∀ m:JM,qP m=m.toL.map (·.1)
 | .nil=>rfl
 | .cons k v r=>by rw[qP,JM.toL,yh,Gk r]
theorem Us:∀ (m:JM) (ks:List (List UInt8)),ZC ks m=false->(qP m).Nodup/\∀ k∈qP m,k ∉ ks
 | .nil,ks,_=>⟨List.nodup_nil,fun k hk=>by simp[qP]at hk⟩
 | .cons k v r,ks,h=>by
  rw[ZC]at h;simp only[Bool.or_eq_false_iff]at h;obtain⟨⟨_,h1⟩,h2⟩:=h;obtain⟨g,f⟩:=Us r (ks++[k]) h2;rw[qP,List.nodup_cons];refine⟨⟨fun hk=>f k hk (by simp),g⟩,fun a b=>?_⟩;rcases List.mem_cons.1 b with rfl | b
  ·intro d;rw[List.contains_eq_mem,decide_eq_false_iff_not]at h1;exact h1 d
  ·intro d;exact f a b (List.mem_append_left _ d)
theorem Cg(s:Bs)(w:Wo)(hs:s.size<=1048576):
  Calls prog 152 #[.string s] w fun e w'=>e= .returned (.bool (Lib.validD s.data.toList))/\Bw w w':=by
 go_in;go_wp2;go_loopw [3] (fun i wr=>∃ j:Nat,j<=s.size/\i= .int .i64 j/\Lib.validD s.data.toList=Lib.validD (s.data.toList.drop j)/\Bw w wr) (fun i _=>s.size - (intOf i).toNat)
 case atStart=>exact⟨0,yr _,rfl,by simp,yG _ _⟩
 case round=>
  obtain⟨j,p,rfl,m,g⟩:=hrel;have k:=zh m;clear m;by_cases a:j<s.size
  ·have HC:=zh (Rw s j wr a hs);have l:=Gg s j a;by_cases f:rl s j=0
   ·have b:Hid (Lib.validD s.data.toList=false):=by have e:=uh k;show _=_;rw[e,FK s j a f]
    rw[f]at HC;clear f l;go_wp2_with fail;refine (uh HC).mono ?_;rintro e o ⟨rfl,d⟩;have h:=zj g d;go_wp2;go_ret;exact⟨by rw[uh b];rfl,h⟩
   ·have b:Hid (Lib.validD s.data.toList=Lib.validD (s.data.toList.drop (j+rl s j))):=by have e:=uh k;show _=_;rw[e,KI s j a f]
    generalize rl s j=n at *;have q:((n:Int) ==0)=false:=by rw[yb];omega
    go_wp2_with fail;refine (uh HC).mono ?_;rintro e o ⟨rfl,d⟩;have h:=zj g d;clear HC d g;go_wp2;go_roundw
    case rel=>exact⟨j+n,by omega,by go_num,uh b,h⟩
    case measure=>simp[intOf];omega
  ·have b:Hid (Lib.validD s.data.toList=true):=by
    have e:=uh k;show _=_;rw[e,GK s j a];rfl
   go_wp2;go_ret;exact⟨by rw[uh b];rfl,g⟩
theorem QV(s:Bs)(i k:Nat):bt s (i+k)=((s.data.toList.drop i).getD k 0).toNat:=by
 unfold bt;rw[List.getD_eq_getElem?_getD,List.getD_eq_getElem?_getD,List.getElem?_drop]
theorem F4{s:Bs}{i:Nat}{m:List UInt8}(h:s.data.toList.drop i=m)(hm:m≠[]):s.size=i+m.length:=by
 have a:(s.data.toList.drop i).length=m.length:=by rw[h]
 have b:0<m.length:=List.length_pos_iff.2 hm;rw[yt,Zb]at a;omega
theorem Sc:∀ k:Fin 16,hx (QJ.getD k.val 0).toNat=some k.val:=by decide
theorem F5{r:Nat}(h:r<128):Zw r=[UInt8.ofNat r]:=by
 unfold Zw;rw[← KL (by omega) (by omega)];unfold Zu ZN;rw[yf h];rfl
theorem Gl{T:Bs}{i:Nat}{c x:UInt8}{m:List UInt8}(hq:qB c=[92,x])(hs:QO x.toNat=some c.toNat)(h:T.data.toList.drop i=qB c++m):
  bt T i≠34/\piece T i=some (c.toNat,(qB c).length):=by
 have a:=QV T i 0;have b:=QV T i 1;rw[h,hq]at a b;change bt T i=92 at a;change bt T (i+1)=x.toNat at b;refine⟨by omega,?_⟩;unfold piece;rw[yf a,YG b hs,hq];rfl
theorem Ch{T:Bs}{i:Nat}{c:UInt8}{m:List UInt8}(hc:GW c.toNat)(h:T.data.toList.drop i=qB c++m):
  bt T i≠34/\piece T i=some (c.toNat,(qB c).length):=by
 have n:=XT hc;have q:=hc.1;have o:=Sc ⟨c.toNat / 16,by omega⟩;have p:=Sc ⟨c.toNat % 16,by omega⟩;simp only at o p;generalize QJ.getD (c.toNat / 16) 0=a at *;generalize QJ.getD (c.toNat % 16) 0=b at *;have d:=QV T i 0;have f:=QV T i 1;have g:=QV T i 2;have j:=QV T i 3;have k:=QV T i 4;have l:=QV T i 5;rw[h,n]at d f g j k l;change bt T i=92 at d;change bt T (i+1)=117 at f;change bt T (i+2)=48 at g;change bt T (i+3)=48 at j;change bt T (i+4)=a.toNat at k;change bt T (i+5)=b.toNat at l;have e:qe T (i+2) 4=some ((((0*16+0)*16+0)*16+c.toNat / 16)*16+c.toNat % 16):=by
  refine Ws (Ws (Ws (Ws rfl ?_) ?_) ?_) ?_
  ·show hx (bt T (i+2))=_
   rw[g];rfl
  ·show hx (bt T (i+3))=_
   rw[j];rfl
  ·show hx (bt T (i+4))=_
   rw[k];exact o
  ·show hx (bt T (i+5))=_
   rw[l];exact p
 refine⟨by omega,?_⟩;unfold piece;rw[yf d,RF d f,e,n];show qp T i _=_
 unfold qp;rw[yf (by omega)];congr 2;omega
theorem Ci{T:Bs}{i:Nat}{c:UInt8}{m:List UInt8}(hc:c.toNat<128)(h:T.data.toList.drop i=qB c++m):
  bt T i≠34/\piece T i=some (c.toNat,(qB c).length):=by
 by_cases b:c.toNat=34
 ·exact Gl (GV (by omega)) (by rw[b];rfl) h
 by_cases d:c.toNat=92
 ·exact Gl (GV (by omega)) (by rw[d];rfl) h
 by_cases f:c.toNat=8
 ·exact Gl (XO (by omega)) (by rw[f];rfl) h
 by_cases g:c.toNat=9
 ·exact Gl (XP (by omega)) (by rw[g];rfl) h
 by_cases j:c.toNat=10
 ·exact Gl (XQ (by omega)) (by rw[j];rfl) h
 by_cases k:c.toNat=12
 ·exact Gl (XR (by omega)) (by rw[k];rfl) h
 by_cases l:c.toNat=13
 ·exact Gl (XS (by omega)) (by rw[l];rfl) h
 by_cases o:c.toNat<32
 ·exact Ch ⟨o,f,g,j,k,l⟩ h
 have n:=Ka b d (by omega);have a:=QV T i 0;rw[h,n]at a;change bt T i=c.toNat at a;refine⟨by omega,?_⟩;unfold piece;rw[ye (by omega),ye (by omega),yf (by omega),a,n];rfl
theorem Sd(l:List UInt8)(n k:Nat)(m:List UInt8)(h:k<n)(hn:n<=l.length):(l.take n++m).getD k 0=l.getD k 0:=by
 rw[List.getD_eq_getElem?_getD,List.getD_eq_getElem?_getD,List.getElem?_append_left (by rw[yl];omega),List.getElem?_take_of_lt h]
theorem Se{s T:Bs}{i j:Nat}{m:List UInt8}(hi:i<s.size)(h8:¬ s[i].toNat<128)(hr:¬ rl s i=0)(h:T.data.toList.drop j=(s.data.toList.drop i).take (rl s i)++m):rl T j=rl s i:=by
 have y:=Gg s i hi;have d:(s.data.toList.drop i).length=s.size - i:=by rw[yt,Zb]
 have f:∀ k,k<rl s i->bt T (j+k)=bt s (i+k):=fun k hk=>by
  rw[QV,QV,h,Sd _ _ _ _ hk (by omega)]
 have B:rl s i<=T.size - j:=by
  have u:=F4 h (by
   intro e;have:=congrArg List.length e;rw[yg,yl,d]at this;simp at this;omega)
  rw[yg,yl,d]at u;omega
 have x:=Zg s i hi;have l:192<=bt s i:=by
  rcases Nat.lt_or_ge (bt s i) 192 with g | g
  ·exact absurd (show rl s i=0 by unfold rl;rw[XM (by omega) g]) hr
  ·exact g
 have a:=f 0 (by omega);rw[Nat.add_zero,Nat.add_zero]at a;have p:=ZL s (i+1);have r:=ZL s (i+2);have z:=ZL s (i+3);by_cases v:bt s i<224
 ·have e:=GQ (n:=s.size - i) (b0:=bt s i) (b1:=bt s (i+1)) (b2:=bt s (i+2)) (b3:=bt s (i+3)) l v p;have b:=GQ (n:=T.size - j) (b0:=bt T j) (b1:=bt T (j+1)) (b2:=bt T (j+2)) (b3:=bt T (j+3)) (by omega) (by omega) (ZL _ _);change rl s i=_ at e;change rl T j=_ at b;split at e
  ·rename_i hc;have o:=f 1 (by omega);rw[b,e,yf (by rw[a,o];omega)]
  ·omega
 by_cases w:bt s i<240
 ·have e:=GR (n:=s.size - i) (b0:=bt s i) (b1:=bt s (i+1)) (b2:=bt s (i+2)) (b3:=bt s (i+3)) (by omega) w p r;have b:=GR (n:=T.size - j) (b0:=bt T j) (b1:=bt T (j+1)) (b2:=bt T (j+2)) (b3:=bt T (j+3)) (by omega) (by omega) (ZL _ _) (ZL _ _);change rl s i=_ at e;change rl T j=_ at b;split at e
  ·rename_i hc;have o:=f 1 (by omega);have q:=f 2 (by omega);rw[b,e,yf (by rw[a,o,q];omega)]
  ·omega
 ·have e:=GT (n:=s.size - i) (b0:=bt s i) (b1:=bt s (i+1)) (b2:=bt s (i+2)) (b3:=bt s (i+3)) (by omega) (ZL _ _) p r z;have b:=GT (n:=T.size - j) (b0:=bt T j) (b1:=bt T (j+1)) (b2:=bt T (j+2)) (b3:=bt T (j+3)) (by omega) (ZL _ _) (ZL _ _) (ZL _ _) (ZL _ _);change rl s i=_ at e;change rl T j=_ at b;split at e
  ·rename_i hc;have o:=f 1 (by omega);have q:=f 2 (by omega);have A:=f 3 (by omega);rw[b,e,yf (by rw[a,o,q,A];omega)]
  ·omega
theorem QQ{l m n:List UInt8}{j:Nat}(h:l.drop j=m++n):l.drop (j+m.length)=n:=by
 rw[← List.drop_drop,h,List.drop_left]
theorem YJ(a l:List UInt8)(k:Nat)(h:k<a.length):bt (zi (a++l)) k=(a.getD k 0).toNat:=by
 unfold bt;rw[Zd];simp only[List.getD];rw[List.getElem?_append_left h]
theorem JH{n:Nat}(h:n<256):(UInt8.ofNat n).toNat=n:=by rw[UInt8.toNat_ofNat'];omega
theorem Cj(r:Nat)(h:r<=1114111)(h':r<55296∨57344<=r)(l:List UInt8):rl (zi (Zu r++l)) 0=(Zu r).length/\0<(Zu r).length:=by
 have k:(zi (Zu r++l)).size - 0=(Zu r).length+l.length:=by rw[zS,yg];omega
 unfold rl;rw[k];by_cases d:r<128
 ·have e:Zu r=[UInt8.ofNat r]:=by unfold Zu ZN;rw[yf d];rfl
  rw[e];refine⟨?_,by simp⟩;rw[YJ _ _ 0 (by simp),U8]
  ·rfl
  ·show (UInt8.ofNat r).toNat<128
   rw[JH (by omega)];exact d
 ·by_cases g:r<2048
  ·have e:Zu r=[UInt8.ofNat (192+r / 64),UInt8.ofNat (128+r % 64)]:=by unfold Zu ZN;rw[ye d,yf g];rfl
   rw[e];refine⟨?_,by simp⟩;rw[YJ _ _ 0 (by simp),YJ _ _ (0+1) (by simp)];have a:([UInt8.ofNat (192+r / 64),UInt8.ofNat (128+r % 64)].getD 0 0).toNat=192+r / 64:=JH (by omega);have b:([UInt8.ofNat (192+r / 64),UInt8.ofNat (128+r % 64)].getD (0+1) 0).toNat=128+r % 64:=JH (by omega);rw[a,b,GQ (by omega) (by omega) (by omega),yf (by simp only[ym,yC];omega)];rfl
  ·by_cases i:r<65536
   ·have e:Zu r=[UInt8.ofNat (224+r / 4096),UInt8.ofNat (128+r / 64 % 64),UInt8.ofNat (128+r % 64)]:=by unfold Zu ZN;rw[ye d,ye g,yf i];rfl
    rw[e];refine⟨?_,by simp⟩;rw[YJ _ _ 0 (by simp),YJ _ _ (0+1) (by simp),YJ _ _ (0+2) (by simp)];have a:([UInt8.ofNat (224+r / 4096),UInt8.ofNat (128+r / 64 % 64),UInt8.ofNat (128+r % 64)].getD 0 0).toNat=224+r / 4096:=JH (by omega);have b:([UInt8.ofNat (224+r / 4096),UInt8.ofNat (128+r / 64 % 64),UInt8.ofNat (128+r % 64)].getD (0+1) 0).toNat=128+r / 64 % 64:=JH (by omega);have f:([UInt8.ofNat (224+r / 4096),UInt8.ofNat (128+r / 64 % 64),UInt8.ofNat (128+r % 64)].getD (0+2) 0).toNat=128+r % 64:=JH (by omega);rw[a,b,f,GR (by omega) (by omega) (by omega) (by omega),yf (by simp only[ym,yC];omega)];rfl
   ·have e:Zu r=[UInt8.ofNat (240+r / 262144),UInt8.ofNat (128+r / 4096 % 64),UInt8.ofNat (128+r / 64 % 64),UInt8.ofNat (128+r % 64)]:=by unfold Zu ZN;rw[ye d,ye g,ye i];rfl
    rw[e];refine⟨?_,by simp⟩;rw[YJ _ _ 0 (by simp),YJ _ _ (0+1) (by simp),YJ _ _ (0+2) (by simp),YJ _ _ (0+3) (by simp)];have a:([UInt8.ofNat (240+r / 262144),UInt8.ofNat (128+r / 4096 % 64),UInt8.ofNat (128+r / 64 % 64),UInt8.ofNat (128+r % 64)].getD 0 0).toNat=240+r / 262144:=JH (by omega);have b:([UInt8.ofNat (240+r / 262144),UInt8.ofNat (128+r / 4096 % 64),UInt8.ofNat (128+r / 64 % 64),UInt8.ofNat (128+r % 64)].getD (0+1) 0).toNat=128+r / 4096 % 64:=JH (by omega);have f:([UInt8.ofNat (240+r / 262144),UInt8.ofNat (128+r / 4096 % 64),UInt8.ofNat (128+r / 64 % 64),UInt8.ofNat (128+r % 64)].getD (0+2) 0).toNat=128+r / 64 % 64:=JH (by omega);have j:([UInt8.ofNat (240+r / 262144),UInt8.ofNat (128+r / 4096 % 64),UInt8.ofNat (128+r / 64 % 64),UInt8.ofNat (128+r % 64)].getD (0+3) 0).toNat=128+r % 64:=JH (by omega);rw[a,b,f,j,GT (by omega) (by omega) (by omega) (by omega) (by omega),yf (by simp only[ym,yC];omega)];rfl
theorem Sf{a l:List UInt8}(h0:0<a.length)(h:rl (zi (a++l)) 0=a.length):Lib.validD (a++l)=Lib.validD l:=by
 have:=KI (zi (a++l)) 0 (by rw[zS,yg];omega) (by rw[h];omega);rw[Zd,h,Nat.zero_add,List.drop_zero,List.drop_left]at this;exact this
theorem Ck{s:Bs}{i r n:Nat}(h:piece s i=some (r,n))(l:List UInt8):Lib.validD (Zw r++l)=Lib.validD l:=by
 have fin:r<=1114111->(r<55296∨57344<=r)->Lib.validD (Zw r++l)=Lib.validD l:=fun h1 h2=>by
  have e:Zw r=Zu r:=(KL h1 h2).symm;rw[e];obtain⟨a,b⟩:=Cj r h1 h2 l;exact Sf b a
 unfold piece at h;split at h
 ·have:=RC h;exact fin this.2.2.1 this.2.2.2
 ·split at h
  ·cases h
  ·have g:i<s.size:=zQ (by omega);split at h
   ·injection h with h;injection h with h1 h2;exact fin (by omega) (by omega)
   ·rename_i h8;split at h
    ·cases h
    ·rename_i hr;injection h with h;injection h with h1 h2;have d:¬ s[i].toNat<128:=by rw[← Zg s i g];exact h8
     obtain⟨j,o,p,q⟩:=Vt s i g hr d;have e:Zw r=(s.data.toList.drop i).take (rl s i):=by unfold Zw;rw[← h1];exact j
     have k:=Gg s i g;have f:((s.data.toList.drop i).take (rl s i)).length=rl s i:=by rw[yl,yt,Zb];omega
     rw[e];refine Sf (by omega) ?_;rw[f];exact Se (m:=l) g d hr (by rw[Zd,List.drop_zero])
theorem Cl{s:Bs}:∀ {i j:Nat} {l:List UInt8},qa s i=some (l,j)->Lib.validD l=true:=by
 intro i;generalize hn:s.size - i=n;induction n using Nat.strongRecOn generalizing i with
 | _ n ih=>
  intro j l h;by_cases a:bt s i=34
  ·rw[Vu a]at h;injection h with h;injection h with h1 h2;subst h1;rfl
  ·cases hp:piece s i with
   | none=>rw[Vv a hp]at h;cases h
   | some p=>
    obtain⟨r,b⟩:=p;have d:=Y2 hp;rw[Y4 a hp]at h;rcases hq:qa s (i+b)with _ |⟨g,f⟩
    ·rw[hq]at h;cases h
    ·rw[hq]at h;injection h with h;injection h with h1 h2;simp only at h1;rw[← h1,Ck hp];exact ih (s.size - (i+b)) (by omega) rfl hq
theorem KU{s:Bs}{i j:Nat}{l:List UInt8}(h:Zq s i=some (l,j)):Lib.validD l=true:=by
 unfold Zq at h;split at h
 ·exact Cl h
 ·cases h
theorem Cm{s:Bs}{i:Nat}{m:List UInt8}(h:s.data.toList.drop i=m)(hm:m≠[]):i<s.size:=by
 have:=F4 h hm;have:0<m.length:=by cases m with
  | nil=>exact absurd rfl hm
  | cons _ _=>simp
 omega
theorem F6(s T:Bs)(m:List UInt8):∀ (f pos:Nat),s.size<=pos+f->Lib.validD (s.data.toList.drop pos)=true->∀ j,T.data.toList.drop j=qs (s.data.toList.drop pos)++34 :: m->qa T j=some (s.data.toList.drop pos,j+(qs (s.data.toList.drop pos)).length+1)
 | f,pos,h,hv,j,hj=>by
  by_cases hp:pos<s.size
  ·cases f with
   | zero=>omega
   | succ f=>
    have hr:¬ rl s pos=0:=fun e=>by rw[FK s pos hp e]at hv;cases hv
    have g:=hv;rw[KI s pos hp hr]at g;by_cases k:s[pos].toNat<128
    ·have u:rl s pos=1:=by unfold rl;rw[U8 (by rw[Zg s pos hp];exact k)]
     rw[u]at g;have i:T.data.toList.drop j=qB s[pos]++(qs (s.data.toList.drop (pos+1))++34 :: m):=by
      rw[hj,qT s pos hp];simp[qs]
     obtain⟨p1,C⟩:=Ci k i;have q:=F6 s T m f (pos+1) (by omega) g (j+(qB s[pos]).length) (QQ i);rw[Y4 p1 C,q,F5 k,show UInt8.ofNat s[pos].toNat=s[pos]from UInt8.ofNat_toNat,qT s pos hp];have v:(qs (s[pos] :: s.data.toList.drop (pos+1))).length=(qB s[pos]).length+(qs (s.data.toList.drop (pos+1))).length:=by simp[qs]
     rw[v];simp only[Option.map_some,Option.some.injEq,Prod.mk.injEq];exact⟨rfl,by omega⟩
    ·obtain⟨D,w,E,F⟩:=Vt s pos hp hr k;have a:=(List.take_append_drop (rl s pos) (s.data.toList.drop pos)).symm;rw[List.drop_drop]at a;have n:qs (s.data.toList.drop pos)=(s.data.toList.drop pos).take (rl s pos)++qs (s.data.toList.drop (pos+rl s pos)):=by
      conv=>lhs;rw[a]
      rw[U9,Kc _ w]
     have i:T.data.toList.drop j=(s.data.toList.drop pos).take (rl s pos)++(qs (s.data.toList.drop (pos+rl s pos))++34 :: m):=by
      rw[hj,n,List.append_assoc]
     have A:=Gg s pos hp;have b:((s.data.toList.drop pos).take (rl s pos)).length=rl s pos:=by rw[yl,yt,Zb];omega
     have d:=Se hp k hr i;have q:=F6 s T m f (pos+rl s pos) (by omega) g (j+rl s pos) (by have:=QQ i;rwa [b]at this);have l:j<T.size:=by
      have:=F4 i (by intro e;have:=congrArg List.length e;rw[yg,b,yC]at this;omega);rw[yg,b]at this;omega
     have o:bt T j=bt s pos:=by
      have x:=QV T j 0;have y:=QV s pos 0;rw[Nat.add_zero]at x y;rw[x,y,i,Sd _ _ _ _ (by omega) (by rw[yt,Zb];omega)]
     have z:=Zg s pos hp;have r:¬ T[j].toNat<128:=by rw[← Zg T j l];omega
     obtain⟨B,G,H,I⟩:=Vt T j l (by rw[d];exact hr) r;have p:piece T j=some ((Utf8.decode T j).1,rl s pos):=by
      unfold piece;rw[ye (by omega),ye (by omega),ye (by omega),ye (by rw[d];exact hr),d]
     rw[Y4 (by omega) p,q];unfold Zw;rw[B,i,d,n];simp only[Option.map_some,Option.some.injEq,Prod.mk.injEq];refine⟨?_,by rw[yg,b];omega⟩
     conv=>rhs;rw[a]
     rw[List.take_append_of_le_length (by omega),yp (by omega)]
  ·rw[GK s pos hp]at hj ⊢;have o:=QV T j 0;rw[hj]at o;change bt T j=34 at o;rw[Vu o];rfl
theorem Ut(l:List UInt8)(T:Bs)(m:List UInt8)(hv:Lib.validD l=true)(j:Nat)(hj:T.data.toList.drop j=quoted l++m):Zq T j=some (l,j+(quoted l).length):=by
 have a:T.data.toList.drop j=34 ::(qs l++34 :: m):=by rw[hj];simp[quoted]
 have b:bt T j=34:=by have:=QV T j 0;rw[a]at this;exact this
 have h:=F6 (zi l) T m l.length 0 (by rw[zS];omega) (by rw[Zd];exact hv) (j+1) (by
  have:=QQ (m:=[34]) (n:=qs l++34 :: m) a;rw[Zd];exact this)
 rw[Zd,List.drop_zero]at h;unfold Zq;rw[yf b,h];have e:(quoted l).length=(qs l).length+2:=by simp[quoted]
 rw[e];congr 2;omega
mutual
def zy:JV->Prop
 | .nul=>True
 | .tt=>True
 | .ff=>True
 | .num l=>∃ (c:UInt8) (r:List UInt8),l=c :: r/\(c.toNat=45∨zT c.toNat=true)/\∀ b∈r,zT b.toNat=true
 | .str l=>Lib.validD l=true
 | .arr l=>Z8 l
 | .obj m=>Z6 m
def Z8:JL->Prop
 | .nil=>True
 | .cons v r=>zy v/\Z8 r
def Z6:JM->Prop
 | .nil=>True
 | .cons k v r=>Lib.validD k=true/\zy v/\Z6 r
end
theorem Sg(s:Bs):∀ f i k,i<=k->k<YH s f i->zT (bt s k)=true
 | 0,i,k,h1,h2=>by simp[YH]at h2;omega
 | f+1,i,k,h1,h2=>by
  rw[YH]at h2;split at h2
  ·rename_i hd;by_cases e:k=i
   ·subst e;exact hd
   ·exact Sg s f (i+1) k (by omega) h2
  ·omega
theorem Sh{s:Bs}{i k:Nat}(h1:i<=k)(h2:k<dg s i):zT (bt s k)=true:=Sg s _ i k h1 h2
theorem Si{s:Bs}{i j:Nat}{c:UInt8}(h:c∈zW s i j):∃ k,i<=k/\k<j/\c.toNat=bt s k:=by
 unfold zW at h;obtain⟨n,a,rfl⟩:=List.getElem_of_mem h;rw[yl,yt]at a;refine⟨i+n,by omega,by omega,?_⟩;unfold bt;rw[Zb]at a;have b:i+n<s.data.size:=by show i+n<s.size;omega
 simp only[List.getD,List.getElem_take,List.getElem_drop,Array.getElem_toList,Array.getElem?_toList];rw[Array.getElem?_eq_getElem b];rfl
theorem F7{s:Bs}{i j:Nat}(h:i<j)(hi:i<s.size):zW s i j=s.data.toList.getD i 0 :: zW s (i+1) j:=by
 unfold zW;rw[qT s i hi,show j - i=(j - (i+1))+1 by omega,List.take_succ_cons];congr 1;rw[List.getD,yw (by rw[Zb];exact hi)];rfl
theorem Cn{s:Bs}{i j:Nat}{l:List UInt8}(h:nm s i=some (l,j)):∃ (c:UInt8) (r:List UInt8),l=c :: r/\(c.toNat=45∨zT c.toNat=true)/\∀ b∈r,zT b.toNat=true:=by
 have o:=Um h;unfold nm at h;split at h
 ·rename_i hd;injection h with h;injection h with h1 h2;have n:zK s i<s.size:=zQ (by have:=qL.1 hd;omega);have m:i<=zK s i:=by unfold zK;split<;>omega
  have f:∀ k,zK s i<=k->k<ZT s i->zT (bt s k)=true:=fun k h1 h2=>by
   unfold ZT at h2;split at h2
   ·have:k=zK s i:=by omega
    rw[this];exact hd
   ·exact Sh h1 h2
  have g:∃ (c:UInt8) (r:List UInt8),zW s i (ZT s i)=c :: r/\(c.toNat=45∨zT c.toNat=true)/\∀ b∈r,zT b.toNat=true:=by
   refine⟨_,_,F7 (by omega) (by omega),?_,fun b hb=>?_⟩
   ·by_cases d:bt s i=45
    ·exact .inl d
    ·right;have e:zK s i=i:=by unfold zK;rw[ye d]
     rw[e]at hd;exact hd
   ·obtain⟨k,u,p,q⟩:=Si hb;rw[q];refine f k ?_ p;unfold zK;split<;>omega
  unfold qE at h1;split at h1
  ·exact⟨48,[],h1.symm,.inr rfl,fun b hb=>by simp at hb⟩
  ·obtain⟨c,r,e,a,b⟩:=g;exact⟨c,r,by rw[← h1,e],a,b⟩
 ·cases h
theorem Gm(s:Bs):∀ f i,(∀ v j,pv s f i=some (v,j)->zy v)/\(∀ l j,pa s f i=some (l,j)->Z8 l)/\(∀ m j,po s f i=some (m,j)->Z6 m)
 | 0,i=>⟨fun v j h=>by simp[pv]at h,fun v j h=>by simp[pa]at h,fun v j h=>by simp[po]at h⟩
 | f+1,i=>by
  refine⟨fun v j h=>?_,fun l j h=>?_,fun m j h=>?_⟩
  ·rw[pv]at h;split at h
   ·split at h
    ·injection h with h;injection h with hv h;subst hv;rw[zy,Z8];trivial
    ·simp only[yy]at h;obtain⟨⟨l,k⟩,hk,h⟩:=h;injection h with hv h;subst hv;rw[zy];exact (Gm s f (sk s (i+1))).2.1 l k hk
   ·split at h
    ·split at h
     ·injection h with h;injection h with hv h;subst hv;rw[zy,Z6];trivial
     ·simp only[yy]at h;obtain⟨⟨l,k⟩,hk,h⟩:=h;injection h with hv h;subst hv;rw[zy];exact (Gm s f (sk s (i+1))).2.2 l k hk
    ·split at h
     ·simp only[yy]at h;obtain⟨⟨l,k⟩,hk,h⟩:=h;injection h with hv h;subst hv;rw[zy];exact KU hk
     ·split at h
      ·injection h with h;injection h with hv h;subst hv;rw[zy];trivial
      ·split at h
       ·injection h with h;injection h with hv h;subst hv;rw[zy];trivial
       ·split at h
        ·injection h with h;injection h with hv h;subst hv;rw[zy];trivial
        ·simp only[yy]at h;obtain⟨⟨l,k⟩,hk,h⟩:=h;injection h with hv h;subst hv;rw[zy];exact Cn hk
  ·rw[pa]at h;simp only[Option.bind_eq_some_iff]at h;obtain⟨⟨v,k⟩,hk,h⟩:=h;have b:=(Gm s f i).1 v k hk;simp only at h;split at h
   ·injection h with h;injection h with hv h;subst hv;rw[Z8,Z8];exact⟨b,trivial⟩
   ·split at h
    ·simp only[yy]at h;obtain⟨⟨l,n⟩,d,h⟩:=h;injection h with hv h;subst hv;rw[Z8];exact⟨b,(Gm s f _).2.1 l n d⟩
    ·cases h
  ·rw[po]at h;simp only[Option.bind_eq_some_iff]at h;obtain⟨⟨p,a⟩,o,h⟩:=h;have g:=KU o;simp only at h;split at h
   ·simp only[Option.bind_eq_some_iff]at h;obtain⟨⟨v,k⟩,hk,h⟩:=h;have b:=(Gm s f _).1 v k hk;simp only at h;split at h
    ·injection h with h;injection h with hv h;subst hv;rw[Z6,Z6];exact⟨g,b,trivial⟩
    ·split at h
     ·simp only[yy]at h;obtain⟨⟨l,n⟩,d,h⟩:=h;injection h with hv h;subst hv;rw[Z6];exact⟨g,b,(Gm s f _).2.2 l n d⟩
     ·cases h
   ·cases h
theorem Sj{s:Bs}{i j:Nat}{v:JV}(h:val s i=some (v,j)):zy v:=(Gm s _ i).1 v j h
mutual
theorem Jv:∀ v:JV,zE v<=zo v/\1<=zE v
 | .nul=>⟨yd _,yd _⟩
 | .tt=>⟨yd _,yd _⟩
 | .ff=>⟨yd _,yd _⟩
 | .num _=>⟨yd _,yd _⟩
 | .str _=>⟨yd _,yd _⟩
 | .arr l=>by rw[zE,zo];have:=Sk l;omega
 | .obj m=>by rw[zE,zo];have:=Sl m;omega
theorem Sk:∀ l:JL,Jt l<=q7 l
 | .nil=>yd _
 | .cons v r=>by rw[Jt,q7];have:=Sk r;have:=Jv v;omega
theorem Sl:∀ m:JM,Ju m<=qy m
 | .nil=>yd _
 | .cons k v r=>by rw[Ju,qy];have:=Sl r;have:=Jv v;omega
end
theorem Co(c:UInt8):1<=(qB c).length:=by
 unfold qB
 repeat' split
 all_goals simp
theorem Sm(l:List UInt8):l.length<=(qs l).length:=by
 induction l with
 | nil=>simp
 | cons c l ih=>
  have:=Co c;simp only[qs,List.flatMap_cons,yg,ym]at *;omega
def JL.toL:JL->List JV
 | .nil=>[]
 | .cons v r=>v :: r.toL
theorem qH:∀ l:JL,zu l=l.toL.map ct
 | .nil=>rfl
 | .cons v r=>by rw[zu,JL.toL,yh,qH r]
theorem Uu(l:List UInt8):l.length+2<=(quoted l).length:=by
 have:=Sm l;simp[quoted];omega
theorem KV(p:List UInt8×List UInt8):(zt p).length=(quoted p.1).length+1+p.2.length:=by simp[zt];omega
def hold(n:Nat):Nat:=2+(n - 1)
def dl:List JV->Nat
 | []=>0
 | v :: r=>max (zE v) (dl r)
def cl(vs:List JV):Nat:=(vs.map zo).sum
def nl(ts:List (List UInt8)):Nat:=(ts.map List.length).sum
theorem Sn(a:List JV)(v:JV):dl (a++[v])=max (dl a) (zE v):=by
 induction a with
 | nil=>simp[dl]
 | cons x r ih=>simp only[List.cons_append,dl,ih];omega
theorem So(a:List JV)(v:JV):cl (a++[v])=cl a+zo v:=by simp[cl]
theorem Uv:∀ l:JL,Jt l=dl l.toL
 | .nil=>rfl
 | .cons v r=>by rw[Jt,JL.toL,dl,Uv r]
theorem Uw:∀ l:JL,q7 l=cl l.toL
 | .nil=>rfl
 | .cons v r=>by rw[q7,JL.toL,Uw r];simp[cl]
theorem Sp(a:List JV)(k:Nat):dl (a.take k)<=dl a:=by
 induction a generalizing k with
 | nil=>simp
 | cons x r ih=>
  cases k with
  | zero=>simp[dl]
  | succ k=>simp only[List.take_succ_cons,dl];have:=ih k;omega
theorem F8(a:List JV)(k:Nat)(h:k<a.length):zE a[k]<=dl a:=by
 induction a generalizing k with
 | nil=>simp at h
 | cons x r ih=>
  cases k with
  | zero=>simp only[List.getElem_cons_zero,dl];omega
  | succ k=>simp only[List.getElem_cons_succ,dl];have:=ih k (by simpa using h);omega
theorem KX(a:List Nat)(k:Nat):(a.take k).sum<=a.sum:=by
 have:a.sum=(a.take k).sum+(a.drop k).sum:=by rw[← List.sum_append,List.take_append_drop]
 omega
theorem Y8(a:List Nat)(k:Nat)(h:k<a.length):a[k]<=a.sum:=by
 have b:=KX a (k+1);rw[yx h,List.sum_append]at b;simp at b;omega
theorem Sq:∀ ts:List (List UInt8),(joinT ts).length=ts.length+nl ts
 | []=>rfl
 | t :: r=>by
  have:=Sq r;simp[joinT,nl]at this ⊢;omega
theorem Vw(ts:List (List UInt8)):(joinC ts).length+2=hold ts.length+nl ts:=by
 cases ts with
 | nil=>simp[joinC,hold,nl]
 | cons t r=>
  have:=Sq r;simp[joinC,hold,nl]at this ⊢;omega
theorem Gn:∀ m:JM,Ju m=dl (m.toL.map (·.2))
 | .nil=>rfl
 | .cons k v r=>by rw[Ju,JM.toL,yh,dl,Gn r]
theorem Gp:∀ m:JM,qy m=(m.toL.map fun q=>zo q.2).sum
 | .nil=>rfl
 | .cons k v r=>by rw[qy,JM.toL,yh,yK,Gp r]
def ZV(q:List UInt8×JV):Nat:=(quoted q.1).length+1+(ct q.2).length
theorem Ym(m:JM):(ct (.obj m)).length=hold m.toL.length+(m.toL.map ZV).sum:=by
 show (ZD (zz (zn m))).length=_
 have h:=Vw ((zz (zn m)).map zt);have a:((zz (zn m)).map zt).length=m.toL.length:=by rw[yk,(qj _).length_eq,Qg,yk]
 have b:nl ((zz (zn m)).map zt)=(m.toL.map ZV).sum:=by
  unfold nl;have p:=(((qj (zn m)).map zt).map List.length).sum_nat;rw[p,Qg];simp only[List.map_map];congr 1;apply List.map_congr_left;intro q _;simp only[Function.comp_apply,ZV];exact KV _
 rw[a,b]at h;simp[ZD];omega
theorem Vx(f:List UInt8×JV->Nat){qs:List (List UInt8×JV)}{q:List UInt8×JV}(h:q∈qs):f q<=(qs.map f).sum:=by
 obtain⟨j,a,rfl⟩:=List.getElem_of_mem h;have:=Y8 (qs.map f) j (by simpa using a);simpa using this
theorem Sr:∀ L:List zx,(L.flatMap zF).length=L.length*2
 | []=>rfl
 | p :: r=>by rw[List.flatMap_cons,yg,Sr r];simp[zF];omega
theorem Cp(L:List zx)(j:Nat)(p:zx)(h:j<L.length):((L.flatMap zF).set (j*2) (.string (zi p.1))).set (j*2+1) (.string (zi p.2))=(L.set j p).flatMap zF:=by
 induction L generalizing j with
 | nil=>simp at h
 | cons q r ih=>
  cases j with
  | zero=>rfl
  | succ j=>
   have:=ih j (by simpa using h);rw[List.set_cons_succ,List.flatMap_cons,List.flatMap_cons,← this,show (j+1)*2=j*2+2 from by omega];rfl
theorem PR.set{w:Wo}{B g n cap:Nat}{L:List zx}(h:PR w B (.slice (some ⟨g,0,none⟩) n cap) L)(hn':n=L.length)(j:Nat)(hj:j<L.length)(p:zx):
  PR ((w.setCell ⟨g,j*2,none⟩ (.string (zi p.1))).setCell ⟨g,j*2+1,none⟩ (.string (zi p.2))) B (.slice (some ⟨g,0,none⟩) n cap) (L.set j p):=by
 subst hn';obtain⟨v,⟨f,u⟩ |⟨s,d,a,f,l,o,q,m,b,r⟩⟩:=h
 ·omega
 ·injection f with hv1 hv2 hv3;injection hv1 with hv1;injection hv1 with hv1;subst hv1;subst hv3;have i:=heap_setCell_same w g (j*2) a 97 (.string (zi p.1)) o;have k:=heap_setCell_same _ g (j*2+1) _ 97 (.string (zi p.2)) i;unfold PR;refine⟨Sr _,.inr ⟨g,cap,_,by simp,l,k,by simpa using q,m,by simp[b],?_⟩⟩;rw[← Cp L j p hj,← r,List.length_set,Array.toList_setIfInBounds,Array.toList_setIfInBounds,List.take_set,List.take_set]
theorem Cq(A:List zx):A=[]∨∃ A' q,A=A'++[q]:=by
 rcases List.eq_nil_or_concat A with h |⟨A',q,h⟩
 ·exact .inl h
 ·exact .inr ⟨A',q,by rw[h];simp⟩
theorem F9{B:Nat}{w w':Wo}(h:Below B w w')(n:Nat):Below B w (w'.drewN n):=⟨h.os,h.tape,h.output,h.size,h.block⟩
theorem PR.fz{w:Wo}{B g n cap:Nat}{L:List zx}(h:PR w B (.slice (some ⟨g,0,none⟩) n cap) L)(o:Nat):w.frozen? ⟨g,o,none⟩=false:=by
 obtain⟨l,⟨a,j⟩ |⟨i,b,d,a,k,f,_⟩⟩:=h
 ·cases a
 ·injection a with hv1 hv2 hv3;injection hv1 with hv1;injection hv1 with hv1;subst hv1;exact yH f o
theorem PR.fz1{w:Wo}{B g n cap:Nat}{L:List zx}(h:PR w B (.slice (some ⟨g,0,none⟩) n cap) L)(o o':Nat)(v:Value):(w.setCell ⟨g,o,none⟩ v).frozen? ⟨g,o',none⟩=false:=by
 obtain⟨l,⟨b,j⟩ |⟨i,d,a,b,k,f,_⟩⟩:=h
 ·cases b
 ·injection b with hv1 hv2 hv3;injection hv1 with hv1;injection hv1 with hv1;subst hv1;exact yH (heap_setCell_same w g o a 97 v f) o'
theorem PR.cell1{w:Wo}{B g n cap:Nat}{L:List zx}(h:PR w B (.slice (some ⟨g,0,none⟩) n cap) L)(o o':Nat)(v u:Value)(ho:o≠o')(hc:w.cell? ⟨g,o',none⟩=some u):(w.setCell ⟨g,o,none⟩ v).cell? ⟨g,o',none⟩=some u:=by
 obtain⟨l,⟨b,j⟩ |⟨i,d,a,b,k,f,_⟩⟩:=h
 ·cases b
 ·injection b with hv1 hv2 hv3;injection hv1 with hv1;injection hv1 with hv1;subst hv1;rw[yE f]at hc;rw[yE (heap_setCell_same w g o a 97 v f),Array.getElem?_setIfInBounds_ne ho,hc]
theorem PR.cellsAt{w:Wo}{B g n cap:Nat}{L:List zx}(h:PR w B (.slice (some ⟨g,0,none⟩) n cap) L)(j:Nat)(hj:j<L.length)(p:zx)(hp:L[j]=p):
  w.cell? ⟨g,j*2,none⟩=some (.string (zi p.1))/\w.cell? ⟨g,j*2+1,none⟩=some (.string (zi p.2))/\g<w.heap.size:=by
 obtain⟨k,f,i,_,d,a,b⟩:=h.cells j hj;injection i with he1 he2 he3;injection he1 with he1;injection he1 with he1;subst he1;subst hp;exact⟨a,b,d⟩
theorem Y9:(prog.info? 97).map (fun i=>(i.zero,i.size,i.bytes))=some (some (.agg #[.string ByteArray.empty,.string ByteArray.empty]),2,32):=by kernel_rfl
def RR(ps:List zx)(j:Nat):List zx:=(ps.take j).foldl (fun acc p=>Z4 p acc) []
theorem Ss(ps:List zx)(j:Nat)(h:j<ps.length):RR ps (j+1)=Z4 ps[j] (RR ps j):=by
 unfold RR;rw[yx h,List.foldl_append];rfl
theorem Cr(ps:List zx)(j:Nat)(h:ps.length<=j):(RR ps j).reverse=zz ps:=by
 unfold RR zz;rw[yp h]
theorem St(p:zx):∀ l,(Z4 p l).length=l.length+1
 | []=>rfl
 | q :: r=>by unfold Z4;split<;>simp[St p r]
theorem Su(ps:List zx):∀ j,j<=ps.length->(RR ps j).length=j
 | 0,_=>by simp[RR]
 | j+1,h=>by rw[Ss ps j (by omega),St,Su ps j (by omega)]
theorem QE(w:Wo)(t:TypeId)(x y:Value):∀ j u,[x,y][j]?=some u->(w.alloc (.cells #[x,y] t)).cell? ((⟨w.heap.size,0,none⟩:Addr).add j)=some u:=Yq w t x y
theorem WC(B:Nat)(v:Value)(ps:List zx)(w:Wo)(h:PR w B v ps)(hl:ps.length<=40000000):
  Calls prog 107 #[v] w fun e w'=>∃ v',e= .returned v'/\PR w' w.heap.size v' (zz ps)/\Bw w w':=by
 obtain⟨i0,hi0,hz0,hz1,hz2⟩:=info_parts Y9;obtain⟨x,len,H,rfl,d⟩:∃ x len H,v= .slice x len H/\len=ps.length:=by
  rcases h.2 with ⟨hv,h0⟩ |⟨g,H,cur,hv,_⟩
  ·exact⟨_,_,_,hv,h0.symm⟩
  ·exact⟨_,_,_,hv,rfl⟩
 subst d;have HP:=zh h;clear h;go_in;go_wp2_with fail;go_loopw [3,4] (fun r k wr=>∃ j:Nat,k= .int .i64 (j:Int)/\j<=ps.length/\PR wr w.heap.size r (RR ps j).reverse/\Bw w wr) (fun _ k _=>ps.length - (intOf k).toNat)
 case atStart=>
  exact⟨0,rfl,yr _,⟨rfl,.inr ⟨w.heap.size,0,#[],rfl,yd _,yF w _,yd _,by unfold maxLen;omega,rfl,rfl⟩⟩,(yG _ _).alloc (yd _) _⟩
 case round=>
  obtain⟨j,rfl,hj,s,hb⟩:=hrel;have M:=zh hb;have aa:=hb.size;clear hb;by_cases Y:j<ps.length
  ·have t1:((j:Int)<(ps.length:Int))=True:=eq_true (by omega);obtain⟨g,cap',he,hgB,W,P,Q⟩:=(uh HP).cells j Y;injection he with he1 he2 he3;subst he1;subst he3;have c0:=((uh M).cell (p:=⟨g,j*2,none⟩) W).trans P;have c1:=((uh M).cell (p:=⟨g,j*2+1,none⟩) W).trans Q;have HS:=zh (Ss ps j Y);have d:=Su ps j hj;have HLEN:=zh d;generalize ps[j]=p at *;generalize hR:RR ps j=R at *;have J:R.reverse.length=j:=by rw[List.length_reverse];exact d
   clear P Q d hR;have f:wr.ownsRow w.heap.size 97 2 u3 R.reverse.length (R.reverse.flatMap zF):=s;go_wp2_with (at_builtin;refine wpList_append_own _ rfl (.tmp 14) (.tmp 19) 94 rfl w.heap.size 97 i0 (.agg #[.string ByteArray.empty,.string ByteArray.empty]) 2 32 underlying94 hi0 hz0 hz1 hz2 rfl (by decide) _ _ _ rfl (f.alloc _) ⟨wr.heap.size,0,none⟩ 1 1 (zF p) rfl rfl (QE _ _ _ _) (fun u hu=>by {simp[zF]at hu;rcases hu with rfl | rfl<;>rfl}) (by unfold maxLen;omega) (by omega) (by simp;omega) ?_;intro v1 w1 E V _;have N:=zh (((uh M).alloc aa _).grown V (by simp;omega) (fun k hk=>(f.lt k hk).1));have P1:PR w1 w.heap.size v1 (R.reverse++[p]):=(by unfold PR;rw[yg,List.flatMap_append];simpa using E);have hL1:(R.reverse++[p]).length=j+1:=(by rw[yg,J];rfl);obtain⟨b,n,Z,i,_,_,_⟩:=P1.cells j (by omega);rw[hL1]at Z;subst Z;have O:=zh P1;clear E V P1);clear s f M c0 c1;go_loopw [5] (fun k K=>∃ (A C:List zx),k= .int .i64 (A.length:Int)/\A.length+C.length=j/\PR K w.heap.size (.slice (some ⟨b,0,none⟩) (j+1) n) (A++p :: C)/\Bw w K/\Z4 p R=C.reverse++Z4 p A.reverse) (fun k _=>(intOf k).toNat)
   case atStart=>
    exact⟨R.reverse,[],by rw[J],by simpa using J,uh O,uh N,by simp⟩
   case round=>
    obtain⟨A,C,rfl,S,hP,I,D⟩:=hrel;have HI:=zh D;have l:=zh hP;have z:=zh I;have hxs:=I.size;clear D hP I O N;rcases Cq A with rfl |⟨a,q,rfl⟩
    ·have HF:Hid (([]++p :: C)=(RR ps (j+1)).reverse):=by
      show _=_
      rw[uh HS,uh HI];simp[Z4]
     have t2:(0<(0:Int))=False:=by simp
     simp only[yC,Int.natCast_zero];go_wp2_with fail;go_quiet (fail);go_wp2;exact⟨⟨j+1,by go_num,by omega,by rw[← uh HF];exact uh l,F9 (uh z) _⟩,by simp[intOf];omega⟩
    ·have hm:(a++[q]).length=a.length+1:=by simp
     rw[hm];rw[hm]at S;have T:((a++[q])++p :: C).length=j+1:=by simp at S ⊢;omega
     have ep:((a++[q])++p :: C)[a.length+1]'(by omega)=p:=by simp
     have eq:((a++[q])++p :: C)[a.length]'(by omega)=q:=by simp
     obtain⟨p0,p1,X⟩:=(uh l).cellsAt (a.length+1) (by omega) p ep;obtain⟨q0,q1,_⟩:=(uh l).cellsAt a.length (by omega) q eq;have HSW:Hid (((((a++[q])++p :: C).set (a.length+1) q).set a.length p)=a++p ::(q :: C)):=by
      show _=_
      simp
     have hmj:a.length+1<=j:=by omega
     have F:Hid (Z4 p R=C.reverse++Z4 p (q :: a.reverse)):=by
      show _=_
      rw[uh HI];simp
     clear ep eq HI;generalize hmm:a.length=m at *;have t2:((0:Int)<(m:Int)+1)=True:=eq_true (by omega);have t3:(0:Int)<=(m:Int):=by omega
     have t4:(m:Int)+1<=(j:Int):=by omega
     by_cases y:p.1<q.1
     ·have hlt:Op.bytesLess (zi p.1).toList (zi q.1).toList=true:=by
       rw[bytesLess_eq,ByteArray.toList_eq,ByteArray.toList_eq,Zd,Zd];exact yi y
      have HI3:Hid (Z4 p R=(q :: C).reverse++Z4 p a.reverse):=by
       show _=_
       rw[uh F,Z4,yf y];simp
      go_wp2_with fail;go_quiet (fail);have P0:(wr.drewN nq).cell? ⟨b,(m+1)*2,none⟩=some (.string (zi p.1)):=p0;have P1:(wr.drewN nq).cell? ⟨b,(m+1)*2+1,none⟩=some (.string (zi p.2)):=p1;have PX:Hid (PR (wr.drewN nq) w.heap.size (.slice (some ⟨b,0,none⟩) (j+1) n) (a++[q]++p :: C)):=uh l;have BX:Hid (Bw w (wr.drewN nq)):=F9 (uh z) _;have hgx:b<(wr.drewN nq).heap.size:=X;have hxs':w.heap.size<=(wr.drewN nq).heap.size:=hxs;clear p0 p1 q0 q1 l z y F;generalize wr.drewN nq=K at *;have G:=uh PX;obtain⟨q0,q1,_⟩:=G.cellsAt m (by omega) q (by subst hmm;simp);obtain⟨pp0,pp1,_⟩:=G.cellsAt (m+1) (by omega) p (by subst hmm;simp);have f0:=G.fz ((m+1)*2);have f1:=G.fz1 ((m+1)*2) ((m+1)*2+1) (.string (zi q.1));have d1:=G.cell1 ((m+1)*2) ((m+1)*2+1) (.string (zi q.1)) _ (by omega) pp1;have L:=G.set T.symm (m+1) (by omega) q;have U:((a++[q]++p :: C).set (m+1) q).length=j+1:=by rw[List.length_set];exact T
      obtain⟨r0,r1,_⟩:=L.cellsAt m (by omega) q (by subst hmm;simp);have f2:=L.fz (m*2);have f3:=L.fz1 (m*2) (m*2+1) (.string (zi p.1));have d3:=L.cell1 (m*2) (m*2+1) (.string (zi p.1)) _ (by omega) r1;have PC:=L.set U.symm m (by omega) p;rw[uh HSW]at PC;have BA:=((((uh BX).setCell (p:=⟨b,(m+1)*2,none⟩) i (.string (zi q.1))).setCell (p:=⟨b,(m+1)*2+1,none⟩) i (.string (zi q.2))).setCell (p:=⟨b,m*2,none⟩) i (.string (zi p.1))).setCell (p:=⟨b,m*2+1,none⟩) i (.string (zi p.2));have HPC:Hid (∀ o,PR (World.alloc ((((K.setCell ⟨b,(m+1)*2,none⟩ (.string (zi q.1))).setCell ⟨b,(m+1)*2+1,none⟩ (.string (zi q.2))).setCell ⟨b,m*2,none⟩ (.string (zi p.1))).setCell ⟨b,m*2+1,none⟩ (.string (zi p.2))) o) w.heap.size (.slice (some ⟨b,0,none⟩) (j+1) n) (a++p :: q :: C)):=fun o=>PC.below (ZJ _ o);have HBC:Hid (∀ o,Bw w (World.alloc ((((K.setCell ⟨b,(m+1)*2,none⟩ (.string (zi q.1))).setCell ⟨b,(m+1)*2+1,none⟩ (.string (zi q.2))).setCell ⟨b,m*2,none⟩ (.string (zi p.1))).setCell ⟨b,m*2+1,none⟩ (.string (zi p.2))) o)):=fun o=>BA.alloc BA.size o;have hne:¬ K.heap.size=b:=by omega
      have hne':¬ b=K.heap.size:=by omega
      clear G L PC BA PX BX;go_wp2;go_roundw
      case rel=>exact⟨a,q :: C,by rw[hmm],by simp;omega,uh HPC _,uh HBC _,uh HI3⟩
      case measure=>simp[intOf]
     ·have hlt:Op.bytesLess (zi p.1).toList (zi q.1).toList=false:=by
       rw[bytesLess_eq,ByteArray.toList_eq,ByteArray.toList_eq,Zd,Zd];exact yj y
      have HF:Hid ((a++[q]++p :: C)=(RR ps (j+1)).reverse):=by
       show _=_
       rw[uh HS,uh F,Z4,ye y];simp
      go_wp2_with fail;go_quiet (fail);go_wp2;exact⟨⟨j+1,by go_num,by omega,by rw[← uh HF];exact uh l,F9 (uh z) _⟩,by simp[intOf];omega⟩
  ·have t1:((j:Int)<(ps.length:Int))=False:=yP (by omega);have HE:=zh (Cr ps j (by omega));go_wp2;go_ret;exact⟨_,rfl,by rw[← uh HE];exact s,uh M⟩
def Va(c:Nat):Bool:=c ==91 || c ==123
def Gq(c:Nat):Bool:=c ==93 || c ==125
def Jw(T:Bs)(i:Nat):Option Nat:=if bt T i=34 then (Zq T i).map (·.2)else some (i+1)
def QF(c op:Nat):Option Nat:=if Va c then some (op+1)else if Gq c then (if op=0 then none else some (op - 1))else some op
def YK(T:Bs)(i:Nat):Bool:=decide (i=T.size) || bt T i ==44 || bt T i ==93 || bt T i ==125
def qR(T:Bs):Nat->Nat->Nat->Option Nat
 | 0,_,_=>none
 | f+1,op,i=>if i<T.size then (Jw T i).bind fun j=>(QF (bt T i) op).bind fun o=>if o=0/\YK T j=true then some j else qR T f o j else none
def Q6(T:Bs):Nat->Nat->Nat->Nat->Option Nat
 | 0,_,_,_=>none
 | f+1,op,mo,i=>if i<T.size then (Jw T i).bind fun j=>(QF (bt T i) op).bind fun o=>Q6 T f o (max mo o) j else some mo
section
variable {T:Bs}
theorem Zr{i:Nat}{c:UInt8}{m:List UInt8}(h:T.data.toList.drop i=c :: m):i<T.size/\bt T i=c.toNat/\T.data.toList.drop (i+1)=m:=by
 refine⟨Cm h (by simp),?_,?_⟩
 ·have:=QV T i 0;rw[h]at this;exact this
 ·exact QQ (m:=[c]) (n:=m) h
def Vy(m:List UInt8):Prop:=m=[]∨∃ c r,m=c :: r/\(c.toNat=44∨c.toNat=93∨c.toNat=125)
theorem Oa{i:Nat}{m:List UInt8}(h:T.data.toList.drop i=m)(hi:i<=T.size)(hm:Vy m):YK T i=true:=by
 unfold YK;rcases hm with rfl |⟨c,r,rfl,a⟩
 ·have:i=T.size:=by
   have:=congrArg List.length h;rw[yt,Zb,yC]at this;omega
  simp[this]
 ·obtain⟨_,b,_⟩:=Zr h;rw[b];rcases a with a | a | a<;>simp[a]
theorem Cs{i:Nat}{c:UInt8}{m:List UInt8}(h:T.data.toList.drop i=c :: m)(h1:c.toNat≠44)(h2:c.toNat≠93)(h3:c.toNat≠125):YK T i=false:=by
 obtain⟨b,a,_⟩:=Zr h;unfold YK;rw[a];simp[h1,h2,h3];omega
def Yn(c:UInt8):Prop:=c.toNat≠34/\c.toNat≠91/\c.toNat≠123/\c.toNat≠93/\c.toNat≠125
theorem KY{c:UInt8}(h:Yn c)(op:Nat):QF c.toNat op=some op:=by
 obtain⟨_,a,b,d,e⟩:=h;simp[QF,Va,Gq,a,b,d,e]
theorem YL{i:Nat}{c:UInt8}(hb:bt T i=c.toNat)(h:c.toNat≠34):Jw T i=some (i+1):=by unfold Jw;rw[ye (by omega)]
def Zs(T:Bs)(t:List UInt8):Prop:=∀ op i m f k,1<=op->T.data.toList.drop i=t++m->qR T f op (i+t.length)=some k->∃ f',qR T f' op i=some k
def Q9(T:Bs)(t:List UInt8):Prop:=∀ i m,T.data.toList.drop i=t++m->Vy m->∃ f,qR T f 0 i=some (i+t.length)
theorem Zs.nil:Zs T []:=fun _ _ _ f _ _ _ h=>⟨f,h⟩
theorem Zs.app{a b:List UInt8}(ha:Zs T a)(hb:Zs T b):Zs T (a++b):=fun op i m f k ho h he=>by
 rw[List.append_assoc]at h;rw[yg,← Nat.add_assoc]at he;obtain⟨d,g⟩:=hb op (i+a.length) m f k ho (QQ h) he;exact ha op i (b++m) d k ho h g
theorem Zs.one{c:UInt8}(hc:Yn c):Zs T [c]:=fun op i m f k ho h he=>by
 obtain⟨b,a,_⟩:=Zr h;refine⟨f+1,?_⟩;rw[qR,yf b,YL a hc.1,a,KY hc];simp only[yz];rw[ye (by omega)];exact he
theorem Zs.plain:∀ {t:List UInt8},(∀ c∈t,Yn c)->Zs T t
 | [],_=>Zs.nil
 | c :: _,h=>Zs.app (a:=[c]) (Zs.one (h c yo)) (Zs.plain fun d hd=>h d (yu _ hd))
theorem Ob{i:Nat}{l m:List UInt8}(hv:Lib.validD l=true)(h:T.data.toList.drop i=quoted l++m):i<T.size/\bt T i=34/\Jw T i=some (i+(quoted l).length):=by
 have b:T.data.toList.drop i=34 ::(qs l++34 :: m):=by rw[h];simp[quoted]
 obtain⟨d,a,_⟩:=Zr b;refine⟨d,a,?_⟩;unfold Jw;rw[yf (by rw[a];rfl),Ut l T m hv i h];rfl
theorem Oc(op:Nat):QF 34 op=some op:=rfl
theorem Zs.quoted{l:List UInt8}(hv:Lib.validD l=true):Zs T (Go.Proofs.YtpaecnbdoljafaaGreatDoor.quoted l):=fun op i m f k ho h he=>by
 obtain⟨b,a,d⟩:=Ob hv h;refine⟨f+1,?_⟩;rw[qR,yf b,d,a,Oc];simp only[yz];rw[ye (by omega)];exact he
theorem Q9.quoted{l:List UInt8}(hv:Lib.validD l=true):Q9 T (Go.Proofs.YtpaecnbdoljafaaGreatDoor.quoted l):=fun i m h hs=>by
 obtain⟨f,b,g⟩:=Ob hv h;have d:=QQ h;have a:i+(Go.Proofs.YtpaecnbdoljafaaGreatDoor.quoted l).length<=T.size:=by
  have:=congrArg List.length h;rw[yt,Zb,yg]at this;omega
 refine⟨1,?_⟩;rw[qR,yf f,g,b,Oc];simp only[yz];rw[yf ⟨trivial,Oa d a hs⟩]
theorem Q9.plain:∀ {t:List UInt8},t≠[]->(∀ c∈t,Yn c/\c.toNat≠44)->Q9 T t
 | [],h,_=>absurd rfl h
 | [c],_,hc=>fun i m h hs=>by
  obtain⟨hl,hb,hd⟩:=Zr (T:=T) (m:=m) h;have a:=hc c yo;refine⟨1,?_⟩;rw[qR,yf hl,YL hb a.1.1,hb,KY a.1];simp only[yz];rw[yf ⟨trivial,Oa hd hl hs⟩];rfl
 | c :: d :: r,_,hc=>fun i m h hs=>by
  obtain⟨hl,hb,hd⟩:=Zr (T:=T) (m:=d :: r++m) h;have a:=hc c yo;have b:=hc d (yu _ yo);obtain⟨f,g⟩:=Q9.plain (t:=d :: r) (by simp) (fun x hx=>hc x (yu _ hx)) (i+1) m hd hs;refine⟨f+1,?_⟩;rw[qR,yf hl,YL hb a.1.1,hb,KY a.1];simp only[yz];rw[ye (by rw[Cs (m:=r++m) hd b.2 b.1.2.2.2.1 b.1.2.2.2.2];simp),g];simp only[ym];congr 1;omega
theorem Zs.wrap{t:List UInt8}{a b:UInt8}(ha:Va a.toNat=true)(hb:Gq b.toNat=true)(ht:Zs T t):Zs T (a ::(t++[b]))/\Q9 T (a ::(t++[b])):=by
 have l:a.toNat≠34:=by intro e;rw[e]at ha;cases ha
 have n:b.toNat≠34:=by intro e;rw[e]at hb;cases hb
 have p:Va b.toNat=false:=by
  simp only[Gq,Bool.or_eq_true,yB]at hb;rcases hb with h | h<;>simp[Va,h]
 refine⟨fun op i m f k ho h he=>?_,fun i m h hs=>?_⟩
 ·have v:T.data.toList.drop i=a ::(t++(b :: m)):=by rw[h];simp
  obtain⟨x,d,q⟩:=Zr v;obtain⟨j,g,r⟩:=Zr (QQ q);have s:∃ f',qR T f' (op+1) (i+1+t.length)=some k:=by
   refine⟨f+1,?_⟩;rw[qR,yf j,YL g n,g];simp only[yz,QF,p,hb,if_true,Bool.false_eq_true,if_false];rw[ye (by omega)];simp only[yz,Nat.add_sub_cancel];rw[ye (by omega)];rw[show i+1+t.length+1=i+(a ::(t++[b])).length by simp;omega];exact he
  obtain⟨y,w⟩:=s;obtain⟨u,o⟩:=ht (op+1) (i+1) (b :: m) y k (by omega) q w;refine⟨u+1,?_⟩;rw[qR,yf x,YL d l,d];simp only[yz,QF,ha,if_true];rw[ye (by omega)];exact o
 ·have v:T.data.toList.drop i=a ::(t++(b :: m)):=by rw[h];simp
  obtain⟨x,d,q⟩:=Zr v;obtain⟨j,g,r⟩:=Zr (QQ q);have s:qR T 1 1 (i+1+t.length)=some (i+(a ::(t++[b])).length):=by
   rw[qR,yf j,YL g n,g];simp only[yz,QF,p,hb,if_true,Bool.false_eq_true,if_false];rw[ye (by omega)];simp only[yz,Nat.sub_self];rw[yf ⟨trivial,Oa r j hs⟩];simp;omega
  obtain⟨u,o⟩:=ht 1 (i+1) (b :: m) 1 _ (by omega) q s;refine⟨u+1,?_⟩;rw[qR,yf x,YL d l,d];simp only[yz,QF,ha,if_true];rw[ye (by omega)];exact o
theorem Zs.joinT:∀ {ts:List (List UInt8)},(∀ t∈ts,Zs T t)->Zs T (Go.Proofs.YtpaecnbdoljafaaGreatDoor.joinT ts)
 | [],_=>Zs.nil
 | t :: r,h=>Zs.app (a:=[44]) (Zs.one ⟨by decide,by decide,by decide,by decide,by decide⟩) (Zs.app (h t yo) (Zs.joinT fun x hx=>h x (yu _ hx)))
theorem Zs.joinC{ts:List (List UInt8)}(h:∀ t∈ts,Zs T t):Zs T (Go.Proofs.YtpaecnbdoljafaaGreatDoor.joinC ts):=by
 cases ts with
 | nil=>exact Zs.nil
 | cons t r=>exact Zs.app (h t yo) (Zs.joinT fun x hx=>h x (yu _ hx))
theorem WD{l:List UInt8}(h:zy (.num l)):l≠[]/\∀ c∈l,Yn c/\c.toNat≠44:=by
 rw[zy]at h;obtain⟨c,r,rfl,b,f⟩:=h;refine⟨by simp,fun d a=>?_⟩;have:d.toNat=45∨zT d.toNat=true:=by
  rcases List.mem_cons.1 a with rfl | a
  ·exact b
  ·exact .inr (f d a)
 have g:d.toNat=45∨(48<=d.toNat/\d.toNat<=57):=this.imp id qL.1;exact⟨⟨by omega,by omega,by omega,by omega,by omega⟩,by omega⟩
theorem WE{l:List UInt8}(h:l∈[[110,117,108,108],[116,114,117,101],([102,97,108,115,101]:List UInt8)]):l≠[]/\∀ c∈l,Yn c/\c.toNat≠44:=by
 unfold Yn;revert l;decide
mutual
theorem KZ:∀ v:JV,zy v->Zs T (ct v)/\Q9 T (ct v)
 | .nul,_=>by
  have:=WE (l:=[110,117,108,108]) (by simp);exact⟨Zs.plain fun c hc=>(this.2 c hc).1,Q9.plain this.1 this.2⟩
 | .tt,_=>by
  have:=WE (l:=[116,114,117,101]) (by simp);exact⟨Zs.plain fun c hc=>(this.2 c hc).1,Q9.plain this.1 this.2⟩
 | .ff,_=>by
  have:=WE (l:=[102,97,108,115,101]) (by simp);exact⟨Zs.plain fun c hc=>(this.2 c hc).1,Q9.plain this.1 this.2⟩
 | .num l,h=>by
  have:=WD h;exact⟨Zs.plain fun c hc=>(this.2 c hc).1,Q9.plain this.1 this.2⟩
 | .str l,h=>by
  rw[zy]at h;exact⟨Zs.quoted h,Q9.quoted h⟩
 | .arr l,h=>by
  rw[zy]at h;exact Zs.wrap rfl rfl (Zs.joinC (Sv l h))
 | .obj m,h=>by
  rw[zy]at h;refine Zs.wrap rfl rfl (Zs.joinC fun t ht=>?_);obtain⟨p,hp,rfl⟩:=yN.1 ht;exact Sw m h p ((qj _).subset hp)
theorem Sv:∀ l:JL,Z8 l->∀ t∈zu l,Zs T t
 | .nil,_,t,ht=>by simp[zu]at ht
 | .cons v r,h,t,ht=>by
  rw[Z8]at h;rw[zu]at ht;rcases List.mem_cons.1 ht with e | ht
  ·rw[e];exact (KZ v h.1).1
  ·exact Sv r h.2 t ht
theorem Sw:∀ m:JM,Z6 m->∀ p∈zn m,Zs T (zt p)
 | .nil,_,p,hp=>by simp[zn]at hp
 | .cons k v r,h,p,hp=>by
  rw[Z6]at h;rw[zn]at hp;rcases List.mem_cons.1 hp with e | hp
  ·rw[e];exact Zs.app (Zs.quoted h.1) (Zs.app (a:=[58]) (Zs.one ⟨by decide,by decide,by decide,by decide,by decide⟩) (KZ v h.2.1).1)
  ·exact Sw r h.2.2 p hp
end
end
def qk:Nat->List (List UInt8)->List (List UInt8×List UInt8)
 | _,[]=>[]
 | b,t :: r=>(zP b,t) :: qk (b+1) r
theorem Sx:∀ (a:List (List UInt8)) (b:Nat) (t:List UInt8),qk b (a++[t])=qk b a++[(zP (b+a.length),t)]
 | [],b,t=>rfl
 | x :: r,b,t=>by
  simp only[List.cons_append,qk,Sx r (b+1) t,ym];rw[show b+1+r.length=b+(r.length+1) by omega]
theorem Vz:∀ (a:List (List UInt8)) (b:Nat),(qk b a).length=a.length
 | [],_=>rfl
 | _ :: r,b=>by simp[qk,Vz r (b+1)]
def zm:JV->List (List UInt8×List UInt8)
 | .arr l=>qk 0 (zu l)
 | .obj m=>zz (zn m)
 | _=>[]
theorem Od:∀ v:JV,zy v->ct v≠[]
 | .nul,_=>by simp[ct]
 | .tt,_=>by simp[ct]
 | .ff,_=>by simp[ct]
 | .num l,h=>(WD h).1
 | .str l,_=>by simp[ct,quoted]
 | .arr l,_=>by simp[ct,Zi]
 | .obj m,_=>by simp[ct,ZD]
theorem Sy(T:Bs):∀ l:JL,Z8 l->∀ t∈zu l,Q9 T t/\t≠[]
 | .nil,_,t,ht=>by simp[zu]at ht
 | .cons v r,h,t,ht=>by
  rw[Z8]at h;rw[zu]at ht;rcases List.mem_cons.1 ht with e | ht
  ·rw[e];exact⟨(KZ v h.1).2,Od v h.1⟩
  ·exact Sy T r h.2 t ht
theorem Sz(T:Bs):∀ m:JM,Z6 m->∀ p∈zn m,Q9 T p.2/\p.2≠[]/\Lib.validD p.1=true
 | .nil,_,p,hp=>by simp[zn]at hp
 | .cons k v r,h,p,hp=>by
  rw[Z6]at h;rw[zn]at hp;rcases List.mem_cons.1 hp with e | hp
  ·rw[e];exact⟨(KZ v h.2.1).2,Od v h.2.1,h.1⟩
  ·exact Sz T r h.2.2 p hp
def pk(cs:List (List UInt8))(k:Nat):Nat:=1+(joinC (cs.take k)).length+(if k=0 then 0 else 1)
theorem SA:∀ (cs:List (List UInt8)) (k:Nat),(h:k<cs.length)->joinT cs=joinT (cs.take k)++44 ::(cs[k]++joinT (cs.drop (k+1)))
 | t :: r,0,_=>by simp[joinT]
 | t :: r,k+1,h=>by
  have:=SA r k (by simpa using h);simp only[List.take_succ_cons,joinT,List.getElem_cons_succ,List.drop_succ_cons];rw[this];simp
theorem Ct(cs:List (List UInt8))(k:Nat)(h:k<cs.length):joinC cs=(joinC (cs.take k)++(if k=0 then []else [44]))++(cs[k]++joinT (cs.drop (k+1))):=by
 cases cs with
 | nil=>simp at h
 | cons t r=>
  cases k with
  | zero=>simp[joinC]
  | succ k=>
   have:=SA r k (by simpa using h);simp only[joinC,List.take_succ_cons,List.getElem_cons_succ,List.drop_succ_cons];rw[this];simp
theorem K0(cs:List (List UInt8))(c:UInt8)(hc:c.toNat=93∨c.toNat=125):Vy (joinT cs++[c]):=by
 cases cs with
 | nil=>exact .inr ⟨c,[],rfl,.inr hc⟩
 | cons t r=>exact .inr ⟨44,_,rfl,.inl rfl⟩
theorem Ux{T:Bs}{cs:List (List UInt8)}{a c:UInt8}(hT:T.data.toList=a ::(joinC cs++[c]))(k:Nat)(h:k<cs.length):T.data.toList.drop (pk cs k)=cs[k]++(joinT (cs.drop (k+1))++[c]):=by
 have e:T.data.toList=(a ::(joinC (cs.take k)++(if k=0 then []else [44])))++(cs[k]++(joinT (cs.drop (k+1))++[c])):=by
  rw[hT,Ct cs k h];simp
 have b:(a ::(joinC (cs.take k)++(if k=0 then []else [44]))).length=pk cs k:=by
  unfold pk;split<;>simp<;>omega
 rw[e,← b,List.drop_left]
theorem K6(cs:List (List UInt8))(k:Nat)(h:k<cs.length):pk cs (k+1)=pk cs k+cs[k].length+1:=by
 have e:(joinC (cs.take (k+1))).length=(joinC (cs.take k)).length+(if k=0 then 0 else 1)+cs[k].length:=by
  rw[yx h,KP];by_cases b:k=0
  ·subst b;simp[joinC]
  ·have a:cs.take k≠[]:=by intro e;have:=congrArg List.length e;rw[yl,yC]at this;omega
   rw[ye a,ye b];simp;omega
 unfold pk;rw[e,ye (Nat.succ_ne_zero k)];omega
theorem Uy{T:Bs}{cs:List (List UInt8)}{a c:UInt8}(hT:T.data.toList=a ::(joinC cs++[c]))(k:Nat)(h:k<cs.length):pk cs k+cs[k].length+1<=T.size:=by
 have b:=congrArg List.length (Ux hT k h);rw[yt,Zb]at b;simp at b;by_cases d:pk cs k<=T.size
 ·omega
 ·omega
theorem Uz{T:Bs}{cs:List (List UInt8)}{a c:UInt8}(hT:T.data.toList=a ::(joinC cs++[c])):T.size<=pk cs cs.length+1:=by
 have b:=congrArg List.length hT;rw[Zb]at b;simp at b;unfold pk;rw[yp (yd _)];omega
theorem SB{T:Bs}{i:Nat}{t m:List UInt8}(h:T.data.toList.drop i=t++m):T.extract i (i+t.length)=zi t:=by
 rw[Wy];unfold zW;rw[h,Nat.add_sub_cancel_left];simp
end Go.Proofs.YtpaecnbdoljafaaGreatDoor
