import Derived.WalkLawsBesides
import Derived.Test.YtpaecnbdoljafaaGreatDoorBz1
import Derived.Deep.CutRange
import Derived.Lib.QuietBelow
import Derived.Lib.ValidLaws
import Derived.Lib.RuneCount
import Derived.Laws.DeepStrings4
import Derived.Handy
import Derived.Sort.Walk0
import Derived.Deep.RegionHeld3
set_option maxRecDepth 100000
set_option maxHeartbeats 8000000
namespace Go.Proofs.YtpaecnbdoljafaaGreatDoor
open Go.RowKit Go.Proofs.Tryz
structure KB(rb:Nat)(w w':Wo):Prop where
 os:w'.os=w.os
 tape:w'.tape=w.tape
 output:w'.output=w.output
 size:w.heap.size<=w'.heap.size
 block:∀ k,k<w.heap.size->k≠rb->w'.heap[k]?=w.heap[k]?
theorem KB.refl(rb:Nat)(w:Wo):KB rb w w:=⟨rfl,rfl,rfl,ye _,fun _ _ _=>rfl⟩
theorem KB.trans{rb:Nat}{a b c:Wo}(h:KB rb a b)(k:KB rb b c):KB rb a c:=
 ⟨k.os.trans h.os,k.tape.trans h.tape,k.output.trans h.output,yQ h.size k.size,fun i hi hn=>(k.block i (yF hi h.size) hn).trans (h.block i hi hn)⟩
theorem KB.drew{rb:Nat}{a w:Wo}(h:KB rb a w):KB rb a w.drew:=⟨h.os,h.tape,h.output,h.size,h.block⟩
theorem KB.drewN{rb:Nat}{a w:Wo}(h:KB rb a w)(n:Nat):KB rb a (w.drewN n):=⟨h.os,h.tape,h.output,h.size,h.block⟩
theorem KB.set{rb:Nat}{a w:Wo}(h:KB rb a w)(j:Nat)(v:Value):KB rb a (w.setCell ⟨rb,j,none⟩ v):=
 h.trans ⟨rfl,rfl,rfl,by simp[World.setCell],fun k _ hn=>Below.heap_setCell _ _ _ _ hn⟩
theorem KB.of_below{rb:Nat}{w w':Wo}(h:Bw w w'):KB rb w w':=⟨h.os,h.tape,h.output,h.size,fun k hk _=>h.block k hk⟩
theorem KB.below{rb B:Nat}{w w':Wo}(h:KB rb w w')(hB:B<=rb)(hs:B<=w.heap.size):Below B w w':=⟨h.os,h.tape,h.output,h.size,fun k hk=>h.block k (by omega) (by omega)⟩
def Js:Ending:=.panicked [{v:=.iface 183 (.agg #[]),recovered:=false}]
theorem Ya(s:Bs)(i:Nat)(h:s.size<=i):bt s i=0:=by
 unfold bt;rw[List.getD_eq_getElem?_getD,List.getElem?_eq_none (by rw[Zg];exact h)];rfl
theorem Zb{s:Bs}{i:Nat}(h:bt s i≠0):i<s.size:=by
 rcases Nat.lt_or_ge i s.size with g | g
 ·exact g
 ·exact absurd (Ya s i g) h
def zE(rb:Nat)(s:Bs)(i:Nat)(tb kt:Bool)(w:Wo):Prop:=w.heap[rb]?=some (.cells #[.string s,.int .i64 (i:Int),.bool tb,.bool kt] 127 (0,0))
theorem zE.text{rb:Nat}{s:Bs}{i:Nat}{tb kt:Bool}{w:Wo}(h:zE rb s i tb kt w):w.cell? ⟨rb,0,none⟩=some (.string s):=by rw[yG h];rfl
theorem zE.at{rb:Nat}{s:Bs}{i:Nat}{tb kt:Bool}{w:Wo}(h:zE rb s i tb kt w):w.cell? ⟨rb,1,none⟩=some (.int .i64 (i:Int)):=by rw[yG h];rfl
theorem zE.frozen{rb:Nat}{s:Bs}{i:Nat}{tb kt:Bool}{w:Wo}(h:zE rb s i tb kt w):w.frozen? ⟨rb,1,none⟩=false:=yJ h 1
theorem zE.lt{rb:Nat}{s:Bs}{i:Nat}{tb kt:Bool}{w:Wo}(h:zE rb s i tb kt w):rb<w.heap.size:=(yC.1 h).1
theorem zE.set{rb:Nat}{s:Bs}{i:Nat}{tb kt:Bool}{w:Wo}(h:zE rb s i tb kt w)(z:Int)(j:Nat)(hz:z=(j:Int)):zE rb s j tb kt (w.setCell ⟨rb,1,none⟩ (.int .i64 z)):=by
 subst hz;have:=heap_setCell_same w rb 1 _ 127 (.int .i64 (j:Int)) h;exact this
theorem zE.drewN{rb:Nat}{s:Bs}{i:Nat}{tb kt:Bool}{w:Wo}(h:zE rb s i tb kt w)(n:Nat):zE rb s i tb kt (w.drewN n):=h
theorem zE.below{rb:Nat}{s:Bs}{i:Nat}{tb kt:Bool}{w w':Wo}(h:zE rb s i tb kt w)(hb:Bw w w'):zE rb s i tb kt w':=(hb.block rb h.lt).trans h
theorem Yp(rb:Nat)(s:Bs)(i:Nat)(tb kt:Bool)(w:Wo)(h:zE rb s i tb kt w)(hs:s.size<=1048576)(hi:i<s.size):
  Calls prog 229 #[.pointer (some ⟨rb,0,none⟩)] w fun e w'=>e= .returned (.int .u8 (bt s i))/\zE rb s (i+1) tb kt w'/\KB rb w w':=by
 have c0:=h.text;have c1:=h.at;have d:=h.frozen;have b:((i:Int) ==(s.size:Int))=false:=by rw[yd];omega
 have a:=ze (Zq s i hi);have H:=ze h;clear h;go_in;go_wp2_with fail;go_quiet (fail);go_wp2_with fail;go_quiet (fail);go_wp2;go_ret;exact⟨by rw[uh a];rfl,((uh H).drewN _).set _ _ (by omega),((KB.refl rb w).drewN _).set 1 _⟩
theorem Pp(rb:Nat)(s:Bs)(i:Nat)(tb kt:Bool)(w:Wo)(h:zE rb s i tb kt w)(hi:i=s.size):
  Calls prog 229 #[.pointer (some ⟨rb,0,none⟩)] w fun e w'=>e=Js/\KB rb w w':=by
 have c0:=h.text;have c1:=h.at;have b:=h.frozen;have a:((i:Int) ==(s.size:Int))=true:=by rw[yD];omega
 clear h;go_in;go_wp2_with fail;go_quiet (fail);go_wp2;exact⟨rfl,rfl,(KB.refl rb w).drewN _⟩
theorem zba(rb:Nat)(s:Bs)(i:Nat)(tb kt:Bool)(w:Wo)(h:zE rb s i tb kt w)(hi:i=s.size):
  Calls prog 78 #[.pointer (some ⟨rb,0,none⟩)] w fun e w'=>e= .returned (.tuple #[])/\zE rb s i tb kt w'/\KB rb w w':=by
 have c0:=h.text;have c1:=h.at;have a:((i:Int) !=(s.size:Int))=false:=by rw[bne_eq_false_iff_eq];omega
 have H:=ze h;clear h hi;go_in;go_wp2_with fail;go_quiet (fail);go_wp2;go_end0;exact⟨rfl,(uh H).drewN _,(KB.refl rb w).drewN _⟩
theorem zbb(rb:Nat)(s:Bs)(i:Nat)(tb kt:Bool)(w:Wo)(h:zE rb s i tb kt w)(hi:i≠s.size):
  Calls prog 78 #[.pointer (some ⟨rb,0,none⟩)] w fun e w'=>e=Js/\KB rb w w':=by
 have c0:=h.text;have c1:=h.at;have a:((i:Int) !=(s.size:Int))=true:=by rw[bne_iff_ne];omega
 clear h hi;go_in;go_wp2_with fail;go_quiet (fail);go_wp2;exact⟨rfl,rfl,(KB.refl rb w).drewN _⟩
theorem Gx(rb:Nat)(s:Bs)(i:Nat)(tb kt:Bool)(w:Wo)(h:zE rb s i tb kt w)(hs:s.size<=1048576)(c:Nat)(hc:bt s i=c)(h0:i<s.size):
  Calls prog 200 #[.pointer (some ⟨rb,0,none⟩),.int .u8 c] w fun e w'=>e= .returned (.tuple #[])/\zE rb s (i+1) tb kt w'/\KB rb w w':=by
 have a:=ze (Yp rb s i tb kt w h hs h0);rw[hc]at a;clear h hc h0 hs;go_in;go_wp2_with fail;refine (uh a).mono ?_;rintro e g ⟨rfl,b,f⟩;have d:=ze b;clear b a;go_wp2;go_end0;exact⟨rfl,uh d,f⟩
theorem Kv(rb:Nat)(s:Bs)(i:Nat)(tb kt:Bool)(w:Wo)(h:zE rb s i tb kt w)(hs:s.size<=1048576)(hi:i<=s.size)(c:Nat)(hc:bt s i≠c∨i=s.size):
  Calls prog 200 #[.pointer (some ⟨rb,0,none⟩),.int .u8 c] w fun e w'=>e=Js/\KB rb w w':=by
 by_cases d:i=s.size
 ·have a:=ze (Pp rb s i tb kt w h d);clear h hc hs;go_in;go_wp2_with fail;refine (uh a).mono ?_;rintro e k ⟨rfl,f⟩;clear a;exact⟨rfl,rfl,f⟩
 ·have a:=ze (Yp rb s i tb kt w h hs (by omega));have g:(((bt s i:Nat):Int) !=(c:Int))=true:=by rw[bne_iff_ne];omega
  generalize bt s i=b at *;clear h hc hs;go_in;go_wp2_with fail;refine (uh a).mono ?_;rintro e k ⟨rfl,j,f⟩;clear j a;go_wp2;exact⟨rfl,rfl,f⟩
theorem VQ(rb:Nat)(s:Bs)(i:Nat)(tb kt:Bool)(w:Wo)(h:zE rb s i tb kt w)(hs:s.size<=1048576)(c:Nat)(hc:bt s i=c)(h0:i<s.size):
  Calls prog 164 #[.pointer (some ⟨rb,0,none⟩),.int .u8 c] w fun e w'=>e= .returned (.bool true)/\zE rb s (i+1) tb kt w'/\KB rb w w':=by
 have c0:=h.text;have c1:=h.at;have b:=h.frozen;have a:((i:Int) ==(s.size:Int))=false:=by rw[yd];omega
 rw[Zq s i h0]at hc;subst hc;have H:=ze h;clear h;go_in;go_wp2_with fail;go_quiet (fail);go_wp2;go_ret;exact⟨rfl,((uh H).drewN _).set _ _ (by omega),((KB.refl rb w).drewN _).set 1 _⟩
theorem Vo(rb:Nat)(s:Bs)(i:Nat)(tb kt:Bool)(w:Wo)(h:zE rb s i tb kt w)(hi:i<=s.size)(c:Nat)(hc:bt s i≠c∨i=s.size):
  Calls prog 164 #[.pointer (some ⟨rb,0,none⟩),.int .u8 c] w fun e w'=>e= .returned (.bool false)/\zE rb s i tb kt w'/\KB rb w w':=by
 have c0:=h.text;have c1:=h.at;have H:=ze h;clear h;by_cases d:i=s.size
 ·have a:((i:Int) ==(s.size:Int))=true:=by rw[yD];omega
  go_in;go_wp2_with fail;go_quiet (fail);go_wp2;go_ret;exact⟨rfl,(uh H).drewN _,(KB.refl rb w).drewN _⟩
 ·have b:i<s.size:=by omega
  have a:((i:Int) ==(s.size:Int))=false:=by rw[yd];omega
  have f:((s[i].toNat:Int) !=(c:Int))=true:=by
   rw[bne_iff_ne];rw[Zq s i b]at hc;omega
  clear hc;go_in;go_wp2_with fail;go_quiet (fail);go_wp2;go_ret;exact⟨rfl,(uh H).drewN _,(KB.refl rb w).drewN _⟩
def Wx(s:Bs):Nat->Nat->Nat
 | 0,i=>i
 | f+1,i=>if bt s i=32∨bt s i=9∨bt s i=10∨bt s i=13 then Wx s f (i+1)else i
def sk(s:Bs)(i:Nat):Nat:=Wx s (s.size - i) i
theorem Uz{s:Bs}{i:Nat}(h:bt s i=32∨bt s i=9∨bt s i=10∨bt s i=13):sk s i=sk s (i+1):=by
 have a:i<s.size:=Zb (by omega);unfold sk;rw[show s.size - i=(s.size - (i+1))+1 by omega,Wx,yg h]
theorem Kw{s:Bs}{i:Nat}(h:¬ (bt s i=32∨bt s i=9∨bt s i=10∨bt s i=13)):sk s i=i:=by
 unfold sk
 cases s.size - i with
 | zero=>rfl
 | succ f=>rw[Wx,yf h]
theorem L3(s:Bs):∀ f i,i+f<=s.size->i<=Wx s f i/\Wx s f i<=i+f
 | 0,i,_=>⟨ye _,ye _⟩
 | f+1,i,h=>by
  rw[Wx];split
  ·have:=L3 s f (i+1) (by omega);omega
  ·omega
theorem Q6{s:Bs}{i:Nat}(h:i<=s.size):i<=sk s i/\sk s i<=s.size:=by
 have:=L3 s (s.size - i) i (by omega);unfold sk;omega
theorem Fd{s:Bs}{i:Nat}(h:s.size<=i):sk s i=i:=by
 unfold sk;rw[show s.size - i=0 by omega];rfl
theorem zbc(s:Bs)(i:Nat):¬ (bt s (sk s i)=32∨bt s (sk s i)=9∨bt s (sk s i)=10∨bt s (sk s i)=13):=by
 generalize hn:s.size - i=n;induction n generalizing i with
 | zero=>rw[Fd (by omega),Ya s i (by omega)];omega
 | succ n ih=>
  by_cases h:bt s i=32∨bt s i=9∨bt s i=10∨bt s i=13
  ·rw[Uz h];exact ih (i+1) (by omega)
  ·rw[Kw h];exact h
theorem UA(rb:Nat)(s:Bs)(i:Nat)(tb kt:Bool)(w:Wo)(h:zE rb s i tb kt w)(hs:s.size<=1048576)(hi:i<=s.size):
  Calls prog 122 #[.pointer (some ⟨rb,0,none⟩)] w fun e w'=>e= .returned (.tuple #[])/\zE rb s (sk s i) tb kt w'/\KB rb w w':=by
 have E:=ze h;clear h;go_in;go_wp2_with fail;go_loopg [] (s.size - i) (fun g wr=>∃ j:Nat,g=s.size - j/\j<=s.size/\zE rb s j tb kt wr/\KB rb w wr/\sk s i=sk s j)
 case atStart=>exact⟨i,rfl,hi,uh E,KB.refl _ _,rfl⟩
 case round=>
  obtain⟨j,J,G,o,r,u⟩:=hrel;have HR:=ze o;have a:=ze u;clear o u E;have y:Hid (∀ (c:Nat) wa,c≠0->bt s j=c->zE rb s j tb kt wa->Calls prog 164 #[.pointer (some ⟨rb,0,none⟩),.int .u8 c] wa fun e w'=>e= .returned (.bool true)/\zE rb s (j+1) tb kt w'/\KB rb wa w'):=fun c wa h0 hc o=>VQ rb s j tb kt wa o hs c hc (Zb (by omega));have l:Hid (∀ (c:Nat) wa,bt s j≠c->zE rb s j tb kt wa->Calls prog 164 #[.pointer (some ⟨rb,0,none⟩),.int .u8 c] wa fun e w'=>e= .returned (.bool false)/\zE rb s j tb kt w'/\KB rb wa w'):=fun c wa hc o=>Vo rb s j tb kt wa o G c (.inl hc);by_cases c1:bt s j=32
  ·have d:Hid (sk s i=sk s (j+1)):=by show _=_;rw[uh a,Uz (.inl c1)]
   have n:j<s.size:=Zb (by omega);go_wp2_with fail;refine (uh y 32 _ (by decide) c1 (uh HR)).mono ?_;rintro e D ⟨rfl,b,f⟩;have m:=ze b;clear b;go_wp2;go_roundg (s.size - (j+1))
   case rel=>exact⟨j+1,rfl,by omega,uh m,r.trans f,uh d⟩
   case measure=>omega
  by_cases c2:bt s j=9
  ·have d:Hid (sk s i=sk s (j+1)):=by show _=_;rw[uh a,Uz (.inr (.inl c2))]
   have n:j<s.size:=Zb (by omega);go_wp2_with fail;refine (uh l 32 _ c1 (uh HR)).mono ?_;rintro e D ⟨rfl,b,f⟩;have m:=ze b;clear b;go_wp2_with fail;refine (uh y 9 _ (by decide) c2 (uh m)).mono ?_;rintro e F ⟨rfl,k,p⟩;have q:=ze k;clear k;go_wp2;go_roundg (s.size - (j+1))
   case rel=>exact⟨j+1,rfl,by omega,uh q,(r.trans f).trans p,uh d⟩
   case measure=>omega
  by_cases c3:bt s j=10
  ·have d:Hid (sk s i=sk s (j+1)):=by show _=_;rw[uh a,Uz (.inr (.inr (.inl c3)))]
   have n:j<s.size:=Zb (by omega);go_wp2_with fail;refine (uh l 32 _ c1 (uh HR)).mono ?_;rintro e D ⟨rfl,b,f⟩;have m:=ze b;clear b;go_wp2_with fail;refine (uh l 9 _ c2 (uh m)).mono ?_;rintro e F ⟨rfl,k,p⟩;have q:=ze k;clear k;go_wp2_with fail;refine (uh y 10 _ (by decide) c3 (uh q)).mono ?_;rintro e H ⟨rfl,v,A⟩;have z:=ze v;clear v;go_wp2;go_roundg (s.size - (j+1))
   case rel=>exact⟨j+1,rfl,by omega,uh z,((r.trans f).trans p).trans A,uh d⟩
   case measure=>omega
  go_wp2_with fail;refine (uh l 32 _ c1 (uh HR)).mono ?_;rintro e D ⟨rfl,b,f⟩;have m:=ze b;clear b;go_wp2_with fail;refine (uh l 9 _ c2 (uh m)).mono ?_;rintro e F ⟨rfl,k,p⟩;have q:=ze k;clear k;go_wp2_with fail;refine (uh l 10 _ c3 (uh q)).mono ?_;rintro e H ⟨rfl,v,A⟩;have z:=ze v;clear v;by_cases c4:bt s j=13
  ·have d:Hid (sk s i=sk s (j+1)):=by show _=_;rw[uh a,Uz (.inr (.inr (.inr c4)))]
   have n:j<s.size:=Zb (by omega);go_wp2_with fail;refine (uh y 13 _ (by decide) c4 (uh z)).mono ?_;rintro e I ⟨rfl,x,C⟩;have B:=ze x;clear x;go_wp2;go_roundg (s.size - (j+1))
   case rel=>exact⟨j+1,rfl,by omega,uh B,(((r.trans f).trans p).trans A).trans C,uh d⟩
   case measure=>omega
  ·have d:Hid (sk s i=j):=by show _=_;rw[uh a,Kw (by omega)]
   go_wp2_with fail;refine (uh l 13 _ c4 (uh z)).mono ?_;rintro e I ⟨rfl,x,C⟩;have B:=ze x;clear x;go_wp2;go_end0;exact⟨rfl,by rw[uh d];exact uh B,(((r.trans f).trans p).trans A).trans C⟩
theorem Pq(rb:Nat)(s:Bs)(i:Nat)(tb kt:Bool)(w:Wo)(h:zE rb s i tb kt w)(hi:i<=s.size):
  Calls prog 165 #[.pointer (some ⟨rb,0,none⟩)] w fun e w'=>e= .returned (.int .u8 (bt s i))/\zE rb s i tb kt w'/\KB rb w w':=by
 have c0:=h.text;have c1:=h.at;have H:=ze h;clear h;by_cases f:i=s.size
 ·have b:((i:Int) ==(s.size:Int))=true:=by rw[yD];omega
  have a:=ze (Ya s i (by omega));go_in;go_wp2_with fail;go_quiet (fail);go_wp2;go_ret;exact⟨by rw[uh a];rfl,(uh H).drewN _,(KB.refl rb w).drewN _⟩
 ·have d:i<s.size:=by omega
  have b:((i:Int) ==(s.size:Int))=false:=by rw[yd];omega
  have a:=ze (Zq s i d);go_in;go_wp2_with fail;go_quiet (fail);go_wp2_with fail;go_quiet (fail);go_wp2;go_ret;exact⟨by rw[uh a];rfl,((uh H).drewN _).drewN _,((KB.refl rb w).drewN _).drewN _⟩
theorem zbd(z:Int)(r:Nat)(hz:z=(r:Int))(w:Wo)(hr:r<=1114111):
  Calls prog 161 #[.int .i64 z] w fun e w'=>e= .returned (.string (zh (ZI r)))/\Bw w w':=by
 subst hz;exact Dm r w hr
theorem L4(c:UInt8):UInt8.ofNat c.toNat=c:=UInt8.ofNat_toNat
def LD(c n r0:Nat):Prop:=1=n/\c<128/\c=r0∨2=n/\192<=c/\c<224/\c - 192=r0∨3=n/\224<=c/\c<240/\c - 224=r0∨4=n/\240<=c/\c<256/\c - 240=r0
def L5(s:Bs)(i r0:Nat):Nat->Nat
 | 0=>r0
 | k+1=>L5 s i r0 k*64+(bt s (i+(k+1)) - 128)
def Pr(s:Bs)(i r0 k z:Nat):Prop:=z=L5 s i r0 (k - 1)/\∀ j,1<=j->j<k->128<=bt s (i+j)/\bt s (i+j)<192
theorem L6{s:Bs}{i n r0:Nat}(h:LD (bt s i) n r0)(hb:s.size<i+n∨∃ k,1<=k/\k<n/\¬ (128<=bt s (i+k)/\bt s (i+k)<192))(hi:i<s.size):rl s i=0:=by
 unfold rl;unfold LD at h;rcases h with ⟨b,h,d⟩ |⟨b,h,a,d⟩ |⟨b,h,a,d⟩ |⟨b,h,a,d⟩<;>subst b d
 ·omega
 ·rw[Uf h a (qi _ _),yf];rcases hb with hb |⟨k,f,g,j⟩
  ·omega
  ·obtain rfl:k=1:=by omega
   omega
 ·rw[Ug h a (qi _ _) (qi _ _),yf];rcases hb with hb |⟨k,f,g,j⟩
  ·omega
  ·rcases (show k=1∨k=2 by omega)with rfl | rfl<;>omega
 ·rw[Uh h a (qi _ _) (qi _ _) (qi _ _),yf];rcases hb with hb |⟨k,f,g,j⟩
  ·omega
  ·rcases (show k=1∨k=2∨k=3 by omega)with rfl | rfl | rfl<;>omega
theorem zbe(s:Bs)(i n:Nat)(h:i+n<=s.size):(s.extract i (i+n)).toList.map UInt8.toNat=(List.range n).map fun k=>bt s (i+k):=by
 have f:=Zg s;apply List.ext_getElem
 ·simp[Lib.toList_data];omega
 ·intro k d a;simp only[yl,List.length_range]at a;have b:=Zq s (i+k) (by omega);simp[Lib.toList_data,b];rfl
theorem zbf{z:Nat}(hz:z<=1114111):∀ x∈qj z,x<256:=by
 unfold qj;repeat' split
 all_goals (simp;omega)
theorem zbg{z:Nat}(hz:z<=1114111)(L:List UInt8):(ZI z ==L)=decide (qj z=L.map UInt8.toNat):=by
 rw[Bool.eq_iff_iff,yD,decide_eq_true_iff];constructor
 ·rintro rfl;unfold ZI;rw[List.map_map];exact (List.map_id'' (fun x=>rfl) _).symm.trans (List.map_congr_left fun x hx=>by
   show x=(UInt8.ofNat x).toNat
   rw[UInt8.toNat_ofNat',Nat.mod_eq_of_lt (zbf hz x hx)])
 ·intro e;unfold ZI;rw[e,List.map_map];exact (List.map_congr_left fun x _=>L4 x).trans (List.map_id'' (fun x=>rfl) _)
theorem zbh{s:Bs}{i n r0 z:Nat}(h:LD (bt s i) n r0)(hn:i+n<=s.size)(ha:Pr s i r0 n z):
  rl s i=if (1114111<z∨55296<=z/\z<57344)∨¬ qj z=(List.range n).map fun k=>bt s (i+k)then 0 else n:=by
 obtain⟨rfl,d⟩:=ha;unfold rl;unfold LD at h;rcases h with ⟨hn,h,g⟩ |⟨hn,h,f,g⟩ |⟨hn,h,f,g⟩ |⟨hn,h,f,g⟩<;>subst hn g
 ·rw[XH h];show _=if (1114111<bt s i∨55296<=bt s i/\bt s i<57344)∨¬ qj (bt s i)=[bt s i]then 0 else 1
  unfold qj;rw[yg h,yf (by simp;omega)]
 ·rw[Uf h f (qi _ _)];have c1:=d 1 (by omega) (by omega);show _=if (1114111<(bt s i - 192)*64+(bt s (i+1) - 128)∨55296<=(bt s i - 192)*64+(bt s (i+1) - 128)/\(bt s i - 192)*64+(bt s (i+1) - 128)<57344)∨¬ qj ((bt s i - 192)*64+(bt s (i+1) - 128))=[bt s i,bt s (i+1)]then 0 else 2
  generalize bt s i=b0,bt s (i+1)=a at *;have e:qj ((b0 - 192)*64+(a - 128))=[b0,a]↔128<=(b0 - 192)*64+(a - 128):=by
   unfold qj;repeat' split
   all_goals (simp;omega)
  simp only[e];split<;>split<;>omega
 ·rw[Ug h f (qi _ _) (qi _ _)];have c1:=d 1 (by omega) (by omega);have c2:=d 2 (by omega) (by omega);show _=if (1114111<((bt s i - 224)*64+(bt s (i+1) - 128))*64+(bt s (i+2) - 128)∨55296<=((bt s i - 224)*64+(bt s (i+1) - 128))*64+(bt s (i+2) - 128)/\((bt s i - 224)*64+(bt s (i+1) - 128))*64+(bt s (i+2) - 128)<57344)∨¬ qj (((bt s i - 224)*64+(bt s (i+1) - 128))*64+(bt s (i+2) - 128))=[bt s i,bt s (i+1),bt s (i+2)]then 0 else 3
  generalize bt s i=b0,bt s (i+1)=a,bt s (i+2)=b at *;have e:qj (((b0 - 224)*64+(a - 128))*64+(b - 128))=[b0,a,b]↔2048<=((b0 - 224)*64+(a - 128))*64+(b - 128):=by
   unfold qj;repeat' split
   all_goals (simp;omega)
  simp only[e];split<;>split<;>omega
 ·rw[Uh h f (qi _ _) (qi _ _) (qi _ _)];have c1:=d 1 (by omega) (by omega);have c2:=d 2 (by omega) (by omega);have c3:=d 3 (by omega) (by omega);show _=if (1114111<(((bt s i - 240)*64+(bt s (i+1) - 128))*64+(bt s (i+2) - 128))*64+(bt s (i+3) - 128)∨55296<=(((bt s i - 240)*64+(bt s (i+1) - 128))*64+(bt s (i+2) - 128))*64+(bt s (i+3) - 128)/\(((bt s i - 240)*64+(bt s (i+1) - 128))*64+(bt s (i+2) - 128))*64+(bt s (i+3) - 128)<57344)∨¬ qj ((((bt s i - 240)*64+(bt s (i+1) - 128))*64+(bt s (i+2) - 128))*64+(bt s (i+3) - 128))=[bt s i,bt s (i+1),bt s (i+2),bt s (i+3)]then 0 else 4
  generalize bt s i=b0,bt s (i+1)=a,bt s (i+2)=b,bt s (i+3)=j at *;have e:qj ((((b0 - 240)*64+(a - 128))*64+(b - 128))*64+(j - 128))=[b0,a,b,j]↔65536<=(((b0 - 240)*64+(a - 128))*64+(b - 128))*64+(j - 128):=by
   unfold qj;repeat' split
   all_goals (simp;omega)
  simp only[e];split<;>split<;>omega
theorem L7(s:Bs)(i:Nat)(w:Wo)(hi:i<s.size)(hs:s.size<=1048576):
  Calls prog 158 #[.string s,.int .i64 i] w fun e w'=>e= .returned (.int .i64 (rl s i))/\Bw w w':=by
 have T:bt s i<256:=qi _ _;have B:=Zq s i hi;by_cases g:128<=bt s i/\bt s i<192
 ·have D:Hid (rl s i=0):=Na g.1 g.2;have P:(128:Int)<=(s[i].toNat:Int):=by omega
  have J:(s[i].toNat:Int)<192:=by omega
  clear B g T;go_in;go_wp2;go_ret;exact⟨by rw[uh D];rfl,yI _ _⟩
 go_in;go_upto_if 15 with fail;go_cut [6,7]from 14 to 27 (fun nv rv wx=>∃ n u:Nat,nv= .int .i64 (n:Int)/\rv= .int .i64 (u:Int)/\Hid (LD (bt s i) n u)/\u<=127/\1<=n/\n<=4/\(1<n->u<32)/\w=wx)
 case first=>
  rcases (show bt s i<128∨192<=bt s i/\bt s i<224∨224<=bt s i/\bt s i<240∨240<=bt s i by omega)with h | h | h | h
  ·have P:(s[i].toNat:Int)<128:=by omega
   have f:Hid (LD (bt s i) 1 (bt s i)):=.inl ⟨rfl,h,rfl⟩;go_wp2;go_meet
   case rel=>exact⟨1,bt s i,rfl,by rw[B],uh f,by omega,by omega,by omega,by omega,rfl⟩
  ·have P:(192:Int)<=(s[i].toNat:Int):=by omega
   have J:(s[i].toNat:Int)<224:=by omega
   have f:Hid (LD (bt s i) 2 (bt s i - 192)):=.inr (.inl ⟨rfl,h.1,h.2,rfl⟩);have y:Hid ((s[i].toNat:Int) - 192=((bt s i - 192:Nat):Int)):=by show _=_;omega
   go_wp2;go_meet
   case rel=>exact⟨2,_,rfl,by rw[uh y],uh f,by omega,by omega,by omega,by omega,rfl⟩
  ·have P:(224:Int)<=(s[i].toNat:Int):=by omega
   have J:(s[i].toNat:Int)<240:=by omega
   have f:Hid (LD (bt s i) 3 (bt s i - 224)):=.inr (.inr (.inl ⟨rfl,h.1,h.2,rfl⟩));have y:Hid ((s[i].toNat:Int) - 224=((bt s i - 224:Nat):Int)):=by show _=_;omega
   go_wp2;go_meet
   case rel=>exact⟨3,_,rfl,by rw[uh y],uh f,by omega,by omega,by omega,by omega,rfl⟩
  ·have P:(240:Int)<=(s[i].toNat:Int):=by omega
   have f:Hid (LD (bt s i) 4 (bt s i - 240)):=.inr (.inr (.inr ⟨rfl,h,T,rfl⟩));have y:Hid ((s[i].toNat:Int) - 240=((bt s i - 240:Nat):Int)):=by show _=_;omega
   go_wp2;go_meet
   case rel=>exact⟨4,_,rfl,by rw[uh y],uh f,by omega,by omega,by omega,by omega,rfl⟩
 obtain⟨n,u,rfl,rfl,f,X,V,hn4,Y,rfl⟩:=hcut;clear B g T;obtain⟨E,hE⟩:∃ E:Nat,E=i+n:=⟨_,rfl⟩;have hEI:(i:Int)+(n:Int)=(E:Int):=by omega
 have hEb:E<=1048580:=by omega
 have H:=ze hE;clear hE;by_cases hlen:s.size<E
 ·have D:Hid (rl s i=0):=L6 (uh f) (.inl (by have:=uh H;omega)) hi;have Q:(s.size:Int)<(E:Int):=by omega
  go_wp2;go_ret;exact⟨by rw[uh D];rfl,yI _ _⟩
 have Q:¬ (s.size:Int)<(E:Int):=by omega
 go_wp2;go_loop [7,8] (fun r k=>∃ K z:Nat,k= .int .i64 (K:Int)/\r= .int .i64 (z:Int)/\1<=K/\K<=n/\Hid (Pr s i u K z)/\(K=1/\z<=127/\(1<n->z<32)∨K=2/\z<2048∨K=3/\z<131072∨K=4/\z<8388608)) (fun _ k=>n - (intOf k).toNat)
 case atStart=>exact⟨1,u,rfl,rfl,by omega,V,⟨rfl,fun j h1 h2=>by omega⟩,.inl ⟨rfl,X,Y⟩⟩
 case round=>
  obtain⟨K,z,rfl,rfl,S,hKn,G,F⟩:=hrel;have hz8:z<8388608:=by omega
  by_cases A:K<n
  ·have u1:((K:Int)<(n:Int))=True:=eq_true (by omega);have hz3:z<131072:=by omega
   obtain⟨q,l⟩:∃ q:Nat,q=i+K:=⟨_,rfl⟩;have hqI:(i:Int)+(K:Int)=(q:Int):=by omega
   have W:q<s.size:=by have:=uh H;omega
   have C:=Zq s q W;by_cases L:128<=bt s q/\bt s q<192
   ·have HN:Hid (Pr s i u (K+1) (z*64+(bt s q - 128))):=by
     obtain⟨I,O⟩:=uh G;obtain⟨k,rfl⟩:∃ k,K=k+1:=⟨K - 1,by omega⟩;refine⟨?_,fun j h1 h2=>?_⟩
     ·rw[I,l];rfl
     ·by_cases hj:j=k+1
      ·rw[hj,← l];exact L
      ·exact O j h1 (by omega)
    have y:Hid ((z:Int)*64+(s[q].toNat:Int) - 128=((z*64+(bt s q - 128):Nat):Int)):=by show _=_;omega
    have Q:¬ (s[q].toNat:Int)<128:=by omega
    have x2:¬ (192:Int)<=(s[q].toNat:Int):=by omega
    have x3:decide ((s[q].toNat:Int)<128)=false:=by simp;omega
    have hz4:z*64+(bt s q - 128)<8388608:=by omega
    have m:Hid (K+1=2/\z*64+(bt s q - 128)<2048∨K+1=3/\z*64+(bt s q - 128)<131072∨K+1=4/\z*64+(bt s q - 128)<8388608):=by show _∨_;omega
    clear l F C L;go_wp2;go_round
    case rel=>exact⟨K+1,z*64+(bt s q - 128),by go_num,by rw[← uh y],by omega,A,uh HN,.inr (uh m)⟩
    case measure=>simp[intOf];omega
   ·have D:Hid (rl s i=0):=L6 (uh f) (.inr ⟨K,S,A,by rw[← l];exact L⟩) hi;rcases (show s[q].toNat<128∨192<=s[q].toNat from by omega)with hlow | U
    ·have Q:(s[q].toNat:Int)<128:=by omega
     clear L l C;go_wp2;go_ret;exact⟨by rw[uh D];rfl,yI _ _⟩
    ·have Q:¬ (s[q].toNat:Int)<128:=by omega
     have x2:(192:Int)<=(s[q].toNat:Int):=by omega
     have x3:decide ((s[q].toNat:Int)<128)=false:=by simp;omega
     clear L l C;go_wp2;go_ret;exact⟨by rw[uh D];rfl,yI _ _⟩
  ·have u1:((K:Int)<(n:Int))=False:=yR (by omega);obtain rfl:K=n:=by omega
   have HR:=ze (zbh (uh f) (by have:=uh H;omega) (uh G));rw[← zbe s i K (by have:=uh H;omega),← uh H]at HR;clear F A;have i1:(E:Int)<=(s.size:Int):=by omega
   have i2:(i:Int)<=(E:Int):=by omega
   have i3:(0:Int)<=(i:Int):=by omega
   have v:Hid (z<=1114111->∀ d os,Calls prog 161 #[.int .i64 z] (Sort.grow (redrawn w d) os) fun e w''=>e= .returned (.string (zh (ZI z)))/\∃ p:Regrown,w''=Sort.grow (redrawn w p.d) p.os):=fun F d os=>Calls.regrown_of (zbd _ _ rfl _ F);obtain⟨q,l⟩:∃ q,((zh (ZI z)).toList ==(s.extract i E).toList)=q:=⟨_,rfl⟩;have N:Hid (z<=1114111->q=decide (qj z=(s.extract i E).toList.map UInt8.toNat)):=fun F=>by rw[← l,Lib.toList_data,Za,zbg F]
   generalize zh (ZI z)=us at *;go_upto_region 23 with fail;go_cut [83]from 63 to 83 (fun x wx=>∃ b:Bool,x= .bool b/\Hid (rl s i=if b then 0 else K)/\Bw w wx)
   case first=>
    have a:Hid (∀ b:Bool,((1114111<z∨55296<=z/\z<57344)∨¬ qj z=(s.extract i E).toList.map UInt8.toNat↔b=true)->rl s i=if b then 0 else K):=fun b h=>by
     rw[uh HR];cases b<;>simp[h]
    rcases (show 1114111<z∨z<=1114111/\55296<=z/\z<57344∨z<=1114111/\z<55296∨z<=1114111/\57344<=z by omega)with h | h | h | h
    case' inl=>
     have I:decide ((1114111:Int)<(z:Int))=true:=by simp;omega
     have y1:(1114111:Int)<(z:Int):=by omega
     have m:=ze (uh a true ⟨fun _=>rfl,fun _=>.inl (.inl h)⟩)
    case' inr.inl=>
     have I:decide ((1114111:Int)<(z:Int))=false:=by simp;omega
     have O:decide ((55296:Int)<=(z:Int))=true:=by simp;omega
     have e3:decide ((z:Int)<(57344:Int))=true:=by simp;omega
     have y1:¬ (1114111:Int)<(z:Int):=by omega
     have y2:(55296:Int)<=(z:Int):=by omega
     have m:=ze (uh a true ⟨fun _=>rfl,fun _=>.inl (.inr h.2)⟩)
    case' inr.inr.inl=>
     have I:decide ((1114111:Int)<(z:Int))=false:=by simp;omega
     have O:decide ((55296:Int)<=(z:Int))=false:=by simp;omega
     have y1:¬ (1114111:Int)<(z:Int):=by omega
     have y2:(z:Int)<(55296:Int):=by omega
     have v:=ze (uh v h.1);have m:=ze (uh a (!q) (by rw[uh N h.1];simp;omega))
     cases q
    case' inr.inr.inr=>
     have I:decide ((1114111:Int)<(z:Int))=false:=by simp;omega
     have O:decide ((55296:Int)<=(z:Int))=true:=by simp;omega
     have e3:decide ((z:Int)<(57344:Int))=false:=by simp;omega
     have y1:¬ (1114111:Int)<(z:Int):=by omega
     have y2:(55296:Int)<=(z:Int):=by omega
     have y3:¬ (z:Int)<(57344:Int):=by omega
     have v:=ze (uh v h.1);have m:=ze (uh a (!q) (by rw[uh N h.1];simp;omega))
     cases q
    all_goals
     clear h N a HR;refine wp_region_quiet_below (by kernel_rfl) (by kernel_rfl) ?_
     repeat (first | go_big_quiet_step ((go_at_call 161;exact uh v _ _)) | quiet_step ((go_at_call 161;exact uh v _ _)))
     refine wpQuiet_nil ?_;intro _ Z;obtain⟨⟨dq,aa⟩,M⟩:=Z;subst M;go_wp2_with fail;go_meet
     case rel=>exact⟨_,rfl,uh m,below_regrown w dq aa⟩
   obtain⟨b,rfl,m,o⟩:=hcut;have R:=ze o;clear HR v N l o
   cases b<;>(go_wp2;go_ret;exact⟨by rw[uh m];rfl,uh R⟩)
theorem L8(s:Bs)(i:Nat):Lib.decodeL (s.data.toList.drop i)=Lib.decodeN (s.size - i) (bt s i) (bt s (i+1)) (bt s (i+2)) (bt s (i+3)):=by
 rw[Lib.decodeL_drop,YI]
theorem zbi(n b0 b1 b2 b3:Nat)(hn:1<=n):Jj n b0 b1 b2 b3<=n:=by
 unfold Jj;split
 ·exact hn
 ·split
  ·omega
  ·unfold Lib.decodeN
   repeat' split
   all_goals first | omega |(simp only[];omega)
theorem L9{n b0 b1 b2 b3:Nat}(h:Jj n b0 b1 b2 b3=0):Lib.decodeN n b0 b1 b2 b3=(65533,1):=by
 unfold Jj at h;split at h
 ·omega
 ·split at h
  ·rename_i h1 a;revert a;unfold Lib.decodeN
   repeat' split
   all_goals first |(intro a;rfl) |(intro a;simp at a;done) |(intro a;exfalso;omega)
  ·rename_i h1 a;have:=Lib.decodeN_ge1 n b0 b1 b2 b3;omega
theorem Ps{n b0 b1 b2 b3:Nat}(h:¬ Jj n b0 b1 b2 b3=0):(Lib.decodeN n b0 b1 b2 b3).2=Jj n b0 b1 b2 b3/\¬ ((Lib.decodeN n b0 b1 b2 b3).1=65533/\(Lib.decodeN n b0 b1 b2 b3).2=1):=by
 unfold Jj at h ⊢;split at h
 ·rename_i h1;rw[yg h1];have e:Lib.decodeN n b0 b1 b2 b3=(b0,1):=by unfold Lib.decodeN;rw[yg h1]
  rw[e];exact⟨rfl,fun hh=>by have:=hh.1;simp at this;omega⟩
 ·rename_i h1;rw[yf h1];split at h
  ·exact absurd rfl h
  ·rename_i h2;rw[yf h2];exact⟨rfl,fun hh=>h2 hh.2⟩
theorem Wy(s:Bs)(i:Nat)(hi:i<s.size):i+rl s i<=s.size:=by
 have:=zbi (s.size - i) (bt s i) (bt s (i+1)) (bt s (i+2)) (bt s (i+3)) (by omega);unfold rl;omega
theorem Ma(s:Bs)(i:Nat)(hi:i<s.size):s.data.toList.drop i≠[]:=by rw[Qw s i hi];simp
theorem Pt(s:Bs)(i:Nat)(hi:i<s.size)(h:rl s i=0):Lib.validD (s.data.toList.drop i)=false:=by
 rw[Lib.validD_step _ (Ma s i hi),L8,L9 h];rfl
theorem Fe(s:Bs)(i:Nat)(hi:i<s.size)(h:¬ rl s i=0):Lib.validD (s.data.toList.drop i)=Lib.validD (s.data.toList.drop (i+rl s i)):=by
 obtain⟨a,b⟩:=Ps h;rw[Lib.validD_step _ (Ma s i hi),L8,yf b,a,List.drop_drop];rfl
theorem zbj(s:Bs)(i:Nat)(hi:i<s.size)(h1:i+1<s.size):(s.data.toList.drop i).take 2=[s[i],s[i+1]]:=by
 rw[Qw s i hi,Qw s (i+1) h1];rfl
theorem zbk(s:Bs)(i:Nat)(hi:i<s.size)(h1:i+1<s.size)(h2:i+2<s.size):(s.data.toList.drop i).take 3=[s[i],s[i+1],s[i+2]]:=by
 rw[Qw s i hi,Qw s (i+1) h1,Qw s (i+2) h2];rfl
theorem zbl(s:Bs)(i:Nat)(hi:i<s.size)(h1:i+1<s.size)(h2:i+2<s.size)(h3:i+3<s.size):(s.data.toList.drop i).take 4=[s[i],s[i+1],s[i+2],s[i+3]]:=by
 rw[Qw s i hi,Qw s (i+1) h1,Qw s (i+2) h2,Qw s (i+3) h3];rfl
theorem Q9(c:UInt8)(x:Int)(h:x=(c.toNat:Int)):x.toNat.toUInt8=c:=by
 subst h;rw[Int.toNat_natCast];exact UInt8.ofNat_toNat
theorem Gy(s:Bs)(i:Nat)(hi:i<s.size)(hv:¬ rl s i=0)(h8:¬ s[i].toNat<128):
  Lib.encodeRune ((Utf8.decode s i).1:Nat)=(s.data.toList.drop i).take (rl s i)/\(∀ c∈(s.data.toList.drop i).take (rl s i),128<=c.toNat)/\128<=(Utf8.decode s i).1/\(Utf8.decode s i).2=rl s i:=by
 have a:=Zq s i hi;have w:(Utf8.decode s i).2=rl s i:=by rw[YI];exact (Ps hv).1
 have j:192<=s[i].toNat:=by
  rcases Nat.lt_or_ge s[i].toNat 192 with h | h
  ·exact absurd (show rl s i=0 by unfold rl;rw[Na (by rw[a];omega) (by rw[a];exact h)]) hv
  ·exact h
 by_cases q:s[i].toNat<224
 ·have e:=Uf (n:=s.size - i) (b0:=bt s i) (b1:=bt s (i+1)) (b2:=bt s (i+2)) (b3:=bt s (i+3)) (by rw[a];exact j) (by rw[a];exact q) (qi _ _);change rl s i=_ at e;by_cases b:2<=s.size - i/\128<=bt s (i+1)/\bt s (i+1)<192/\128<=(bt s i - 192)*64+(bt s (i+1) - 128)
  ·rw[yg b]at e;obtain⟨c1,c2,c3,c4⟩:=b;have f:i+1<s.size:=by omega
   have b1:=Zq s (i+1) f;have g:Utf8.decode s i=(bt s i % 32*64+bt s (i+1) % 64,2):=by
    rw[YI];unfold Lib.decodeN;rw[yf (by omega),yg ⟨by omega,by omega,by omega⟩,yg (by omega)]
   rw[e,g,zbj s i hi f];refine⟨?_,?_,by simp only;omega,rfl⟩
   ·unfold Lib.encodeRune;rw[Lib.encodeRuneZ_two (by simp only;omega) (by simp only;omega)];simp only[yi,List.map_nil];rw[Q9 s[i] _ (by omega),Q9 s[i+1] _ (by omega)]
   ·intro c b;simp at b;rcases b with rfl | rfl<;>omega
  ·rw[yf b]at e;exact absurd e hv
 ·by_cases r:s[i].toNat<240
  ·have e:=Ug (n:=s.size - i) (b0:=bt s i) (b1:=bt s (i+1)) (b2:=bt s (i+2)) (b3:=bt s (i+3)) (by rw[a];omega) (by rw[a];exact r) (qi _ _) (qi _ _);change rl s i=_ at e;split at e
   ·rename_i b;obtain⟨c1,c2,c3,c4,m,o,p⟩:=b;have f:i+1<s.size:=by omega
    have d:i+2<s.size:=by omega
    have b1:=Zq s (i+1) f;have b2:=Zq s (i+2) d;have g:Utf8.decode s i=(bt s i % 16*4096+bt s (i+1) % 64*64+bt s (i+2) % 64,3):=by
     rw[YI];unfold Lib.decodeN;rw[yf (by omega),yf (by omega),yg ⟨by omega,⟨by omega,by omega⟩,by omega,by omega⟩,yg (by omega)]
    rw[e,g,zbk s i hi f d];refine⟨?_,?_,by simp only;omega,rfl⟩
    ·unfold Lib.encodeRune;rw[Lib.encodeRuneZ_three (by simp only;omega)];simp only[yi,List.map_nil];rw[Q9 s[i] _ (by omega),Q9 s[i+1] _ (by omega),Q9 s[i+2] _ (by omega)]
    ·intro c b;simp at b;rcases b with rfl | rfl | rfl<;>omega
   ·exact absurd e hv
  ·have l:s[i].toNat<256:=UInt8.toNat_lt _;have e:=Uh (n:=s.size - i) (b0:=bt s i) (b1:=bt s (i+1)) (b2:=bt s (i+2)) (b3:=bt s (i+3)) (by rw[a];omega) (by rw[a];exact l) (qi _ _) (qi _ _) (qi _ _);change rl s i=_ at e;split at e
   ·rename_i b;obtain⟨c1,c2,c3,c4,m,o,p,u,v⟩:=b;have f:i+1<s.size:=by omega
    have d:i+2<s.size:=by omega
    have k:i+3<s.size:=by omega
    have b1:=Zq s (i+1) f;have b2:=Zq s (i+2) d;have b3:=Zq s (i+3) k;have g:Utf8.decode s i=(bt s i % 8*262144+bt s (i+1) % 64*4096+bt s (i+2) % 64*64+bt s (i+3) % 64,4):=by
     rw[YI];unfold Lib.decodeN;rw[yf (by omega),yf (by omega),yf (by omega),yg ⟨by omega,⟨by omega,by omega⟩,⟨by omega,by omega⟩,by omega,by omega⟩,yg (by omega)]
    rw[e,g,zbl s i hi f d k];refine⟨?_,?_,by simp only;omega,rfl⟩
    ·unfold Lib.encodeRune;rw[Lib.encodeRuneZ_four (by simp only;omega) (by simp only;omega)];simp only[yi,List.map_nil];rw[Q9 s[i] _ (by omega),Q9 s[i+1] _ (by omega),Q9 s[i+2] _ (by omega),Q9 s[i+3] _ (by omega)]
    ·intro c b;simp at b;rcases b with rfl | rfl | rfl | rfl<;>omega
   ·exact absurd e hv
def hx(b:Nat):Option Nat:=if 48<=b/\b<=57 then some (b - 48)else if 97<=b/\b<=102 then some (b - 87)else if 65<=b/\b<=70 then some (b - 55)else none
theorem Pu{b v:Nat}(h:hx b=some v):v<16:=by
 unfold hx at h
 repeat' split at h
 all_goals first |(injection h with h;omega) | cases h
def qW(s:Bs)(i:Nat):Nat->Option Nat
 | 0=>some 0
 | k+1=>(qW s i k).bind fun v=>(hx (bt s (i+k))).map fun h=>v*16+h
theorem Ff(s:Bs)(i:Nat):∀ (k v:Nat),qW s i k=some v->v<16 ^ k
 | 0,v,h=>by injection h with h;omega
 | k+1,v,h=>by
  simp only[qW,Option.bind_eq_some_iff,yA]at h;obtain⟨u,hu,y,hy,rfl⟩:=h;have:=Ff s i k u hu;have:=Pu hy;rw[Nat.pow_succ];omega
theorem UB{s:Bs}{i k v h:Nat}(hv:qW s i k=some v)(hh:hx (bt s (i+k))=some h):qW s i (k+1)=some (v*16+h):=by simp[qW,hv,hh]
theorem Fg{s:Bs}{i k:Nat}(hh:hx (bt s (i+k))=none):qW s i (k+1)=none:=by simp[qW,hh]
theorem Pv{s:Bs}{i k m:Nat}(h:qW s i k=none)(hm:k<=m):qW s i m=none:=by
 induction m with
 | zero => have : k = 0 := by omega
           subst this;exact h
 | succ m ih=>
  rcases Nat.lt_or_ge m k with g | g
  ·have:k=m+1:=by omega
   subst this;exact h
  ·simp[qW,ih g]
theorem Mb{s:Bs}{i k v:Nat}(h:qW s i (k+1)=some v):i+k<s.size:=by
 refine Zb fun e=>?_;have:=Fg (s:=s) (i:=i) (k:=k) (by rw[e];rfl);rw[this]at h;cases h
def Jt(b:Nat):Option Nat:=if b=34 then some 34 else if b=92 then some 92 else if b=47 then some 47 else if b=98 then some 8 else if b=102 then some 12 else if b=110 then some 10 else if b=114 then some 13 else if b=116 then some 9 else none
theorem Pw{b v:Nat}(h:Jt b=some v):v<128:=by
 unfold Jt at h
 repeat' split at h
 all_goals first |(injection h with h;omega) | cases h
def Qr(s:Bs)(i:Nat):Option Nat:=if bt s i=92/\bt s (i+1)=117 then qW s (i+2) 4 else none
theorem Mc{s:Bs}{i u:Nat}(h:Qr s i=some u):u<65536:=by
 unfold Qr at h;split at h
 ·exact Ff s (i+2) 4 u h
 ·cases h
theorem Px{s:Bs}{i u:Nat}(h:Qr s i=some u):i+6<=s.size:=by
 unfold Qr at h;split at h
 ·have:=Mb h;omega
 ·cases h
def q8(s:Bs)(i u:Nat):Option (Nat×Nat):=
 if u<55296∨57344<=u then some (u,6)else if 56320<=u then none else
 (Qr s (i+6)).bind fun v=>if 56320<=v/\v<57344 then some (65536+(u - 55296)*1024+(v - 56320),12)else none
def QQ(s:Bs)(i:Nat):Option (Nat×Nat):=
 match Jt (bt s (i+1))with
 | some v=>some (v,2)
 | none=>(Qr s i).bind (q8 s i)
def piece(s:Bs)(i:Nat):Option (Nat×Nat):=
 if bt s i=92 then QQ s i else if bt s i<32 then none else if bt s i<128 then some (bt s i,1)
 else if rl s i=0 then none else some ((Utf8.decode s i).1,rl s i)
theorem zbm{s:Bs}{i u r n:Nat}(hu:u<65536)(hi:i+6<=s.size)(h:q8 s i u=some (r,n)):i+n<=s.size/\1<=n/\r<=1114111/\(r<55296∨57344<=r):=by
 unfold q8 at h;split at h
 ·injection h with h;injection h with h1 h2;omega
 ·split at h
  ·cases h
  ·simp only[Option.bind_eq_some_iff]at h;obtain⟨v,a,h⟩:=h;have:=Px a;split at h
   ·injection h with h;injection h with h1 h2;omega
   ·cases h
theorem zbn{s:Bs}{i v:Nat}(h:Jt (bt s i)=some v):i<s.size:=Zb fun e=>by rw[e]at h;cases h
theorem Md{s:Bs}{i r n:Nat}(h:QQ s i=some (r,n)):i+n<=s.size/\1<=n/\r<=1114111/\(r<55296∨57344<=r):=by
 unfold QQ at h;split at h
 ·rename_i v hv;injection h with h;injection h with h1 h2;have:=zbn hv;have:=Pw hv;omega
 ·simp only[Option.bind_eq_some_iff]at h;obtain⟨u,a,h⟩:=h;exact zbm (Mc a) (Px a) h
theorem Fh{r:Nat}(h:r<=1114111)(h':r<55296∨57344<=r):ZI r=Lib.encodeRune (r:Int):=by
 unfold ZI qj Lib.encodeRune;split
 ·rw[Lib.encodeRuneZ_one (by omega) (by omega)];simp only[yi,List.map_nil,List.cons.injEq,and_true];exact (Q9 _ _ (by rw[UInt8.toNat_ofNat'];omega)).symm
 ·split
  ·rw[Lib.encodeRuneZ_two (by omega) (by omega)];simp only[yi,List.map_nil];rw[Q9 (UInt8.ofNat (192+r / 64)) _ (by rw[UInt8.toNat_ofNat'];omega),Q9 (UInt8.ofNat (128+r % 64)) _ (by rw[UInt8.toNat_ofNat'];omega)]
  ·split
   ·rw[Lib.encodeRuneZ_three (by omega)];simp only[yi,List.map_nil];rw[Q9 (UInt8.ofNat (224+r / 4096)) _ (by rw[UInt8.toNat_ofNat'];omega),Q9 (UInt8.ofNat (128+r / 64 % 64)) _ (by rw[UInt8.toNat_ofNat'];omega),Q9 (UInt8.ofNat (128+r % 64)) _ (by rw[UInt8.toNat_ofNat'];omega)]
   ·rw[Lib.encodeRuneZ_four (by omega) (by omega)];simp only[yi,List.map_nil];rw[Q9 (UInt8.ofNat (240+r / 262144)) _ (by rw[UInt8.toNat_ofNat'];omega),Q9 (UInt8.ofNat (128+r / 4096 % 64)) _ (by rw[UInt8.toNat_ofNat'];omega),Q9 (UInt8.ofNat (128+r / 64 % 64)) _ (by rw[UInt8.toNat_ofNat'];omega),Q9 (UInt8.ofNat (128+r % 64)) _ (by rw[UInt8.toNat_ofNat'];omega)]
def enc(r:Nat):List UInt8:=Lib.encodeRune (r:Int)
theorem Kx(r:Nat):(enc r).length<=4:=by
 have:=Lib.encodeRuneZ_length r;simp[enc,Lib.encodeRune];omega
theorem Me(s:Bs)(i:Nat):(Utf8.decode s i).1<=1114111:=by
 rw[YI];exact Lib.decodeN_rune_le _ _ _ _ _ (qi s i)
theorem VT{s:Bs}{i r n:Nat}(h:piece s i=some (r,n)):i+n<=s.size/\1<=n/\r<=1114111:=by
 unfold piece at h;split at h
 ·have:=Md h;omega
 ·split at h
  ·cases h
  ·have a:i<s.size:=Zb (by omega);split at h
   ·injection h with h;injection h with h1 h2;omega
   ·split at h
    ·cases h
    ·injection h with h;injection h with h1 h2;have:=Wy s i a;have:=Me s i;omega
theorem Py{s:Bs}{i:Nat}(h:s.size<=i):piece s i=none:=by
 unfold piece;rw[Ya s i h];rfl
def VU(s:Bs):Nat->Nat->Option (List UInt8×Nat)
 | 0,_=>none
 | f+1,i=>if bt s i=34 then some ([],i+1)else (piece s i).bind fun p=>(VU s f (i+p.2)).map fun q=>(enc p.1++q.1,q.2)
def qN(s:Bs)(i:Nat):Option (List UInt8×Nat):=VU s (s.size+1 - i) i
theorem Mf(s:Bs)(f i:Nat)(h:s.size<=i):VU s f i=none:=by
 cases f with
 | zero=>rfl
 | succ f=>simp[VU,Ya s i h,Py h]
theorem Pz(s:Bs):∀ (f g i:Nat),s.size<=i+f->s.size<=i+g->VU s f i=VU s g i
 | 0,g,i,h,_=>by rw[Mf s g i (by omega)];rfl
 | f+1,0,i,_,h=>by rw[Mf s (f+1) i (by omega)];rfl
 | f+1,g+1,i,hf,hg=>by
  rw[VU,VU];split
  ·rfl
  ·cases hp:piece s i with
   | none=>rfl
   | some p=>
    obtain⟨r,n⟩:=p;have:=VT hp;simp only[yB];rw[Pz s f g (i+n) (by omega) (by omega)]
theorem PD(s:Bs)(i:Nat):qN s i=if bt s i=34 then some ([],i+1)else (piece s i).bind fun p=>(qN s (i+p.2)).map fun q=>(enc p.1++q.1,q.2):=by
 unfold qN;rw[Pz s (s.size+1 - i) (s.size+1) i (by omega) (by omega),VU];split
 ·rfl
 ·cases hp:piece s i with
  | none=>rfl
  | some p=>
   obtain⟨r,n⟩:=p;simp only[yB];rw[Pz s s.size (s.size+1 - (i+n)) (i+n) (by omega) (by omega)]
theorem Gz{s:Bs}{i:Nat}(h:bt s i=34):qN s i=some ([],i+1):=by rw[PD,yg h]
theorem VV{s:Bs}{i r n:Nat}(h:bt s i≠34)(hp:piece s i=some (r,n)):qN s i=(qN s (i+n)).map fun q=>(enc r++q.1,q.2):=by rw[PD,yf h,hp];rfl
theorem GA{s:Bs}{i:Nat}(h:bt s i≠34)(hp:piece s i=none):qN s i=none:=by rw[PD,yf h,hp];rfl
theorem zbo{s:Bs}{i:Nat}(h:s.size<=i):qN s i=none:=GA (by rw[Ya s i h];decide) (Py h)
theorem Mg{s:Bs}{i:Nat}(h0:bt s i=92)(h1:bt s (i+1)=117):QQ s i=(qW s (i+2) 4).bind (q8 s i):=by
 unfold QQ Qr;rw[yg ⟨h0,h1⟩,h1];rfl
theorem Vp{s:Bs}{i b v:Nat}(h1:bt s (i+1)=b)(hv:Jt b=some v):QQ s i=some (v,2):=by
 unfold QQ;rw[h1,hv]
theorem Mh{s:Bs}{i b:Nat}(h1:bt s (i+1)=b)(hv:Jt b=none)(hu:b≠117):QQ s i=none:=by
 unfold QQ Qr;rw[h1,hv,yf (fun h=>hu h.2)];rfl
def Zz(s:Bs)(i:Nat):Option (List UInt8×Nat):=if bt s i=34 then qN s (i+1)else none
def Yq(rb:Nat)(s:Bs)(tb kt:Bool)(w:Wo)(o:Option (Value×Nat))(e:Ending)(w':Wo):Prop:=
 KB rb w w'/\o.elim (e=Js) fun p=>e= .returned p.1/\zE rb s p.2 tb kt w'
mutual
inductive JV where
 | nul | tt | ff
 | num (l:List UInt8)
 | str (l:List UInt8)
 | arr (l:JL)
 | obj (m:JM)
inductive JL where
 | nil
 | cons (v:JV) (r:JL)
inductive JM where
 | nil
 | cons (k:List UInt8) (v:JV) (r:JM)
end
def Vq(s:Bs):Nat->Nat->Nat
 | 0,i=>i
 | f+1,i=>if zP (bt s i)=true then Vq s f (i+1)else i
def dg(s:Bs)(i:Nat):Nat:=Vq s (s.size - i) i
theorem VW{s:Bs}{i:Nat}(h:zP (bt s i)=true):dg s i=dg s (i+1):=by
 have a:i<s.size:=Zb (by have:=Qx.1 h;omega);unfold dg;rw[show s.size - i=(s.size - (i+1))+1 by omega,Vq,yg h]
theorem UC{s:Bs}{i:Nat}(h:¬ zP (bt s i)=true):dg s i=i:=by
 unfold dg
 cases s.size - i with
 | zero=>rfl
 | succ f=>rw[Vq,yf h]
theorem Mi(s:Bs):∀ f i,i+f<=s.size->i<=Vq s f i/\Vq s f i<=i+f
 | 0,i,_=>⟨ye _,ye _⟩
 | f+1,i,h=>by
  rw[Vq];split
  ·have:=Mi s f (i+1) (by omega);omega
  ·omega
theorem Fi{s:Bs}{i:Nat}(h:i<=s.size):i<=dg s i/\dg s i<=s.size:=by
 have:=Mi s (s.size - i) i (by omega);unfold dg;omega
def Zh(s:Bs)(i j:Nat):List UInt8:=(s.data.toList.drop i).take (j - i)
def zW(s:Bs)(i:Nat):Nat:=if bt s i=45 then i+1 else i
def qr(s:Bs)(i:Nat):Nat:=if bt s (zW s i)=48 then zW s i+1 else dg s (zW s i)
def Qk(l:List UInt8):List UInt8:=if l=[45,48]then [48]else l
def nm(s:Bs)(i:Nat):Option (List UInt8×Nat):=if zP (bt s (zW s i))=true then some (Qk (Zh s i (qr s i)),qr s i)else none
theorem Ky{s:Bs}{i j:Nat}{l:List UInt8}(h:nm s i=some (l,j)):i<j/\j<=s.size:=by
 unfold nm at h;split at h
 ·rename_i hd;injection h with h;injection h with h1 h2;subst h2;have b:zW s i<s.size:=Zb (by have:=Qx.1 hd;omega);have a:i<=zW s i:=by unfold zW;split<;>omega
  unfold qr;split
  ·omega
  ·rw[VW hd];have:=Fi (s:=s) (i:=zW s i+1) (by omega);omega
 ·cases h
theorem zbp{s:Bs}:∀ {i j:Nat} {l:List UInt8},qN s i=some (l,j)->i<j/\j<=s.size:=by
 intro i;generalize hn:s.size - i=n;induction n using Nat.strongRecOn generalizing i with
 | _ n ih=>
  intro j l h;by_cases a:bt s i=34
  ·rw[Gz a]at h;injection h with h;injection h with h1 h2;have:=Zb (s:=s) (i:=i) (by omega);omega
  ·cases hp:piece s i with
   | none=>rw[GA a hp]at h;cases h
   | some p=>
    obtain⟨r,b⟩:=p;have d:=VT hp;rw[VV a hp]at h;rcases hq:qN s (i+b)with _ |⟨g,f⟩
    ·rw[hq]at h;cases h
    ·rw[hq]at h;injection h with h;injection h with h1 h2;have:=ih (s.size - (i+b)) (by omega) rfl hq;omega
theorem JX{s:Bs}{i j:Nat}{l:List UInt8}(h:Zz s i=some (l,j)):i+1<j/\j<=s.size:=by
 unfold Zz at h;split at h
 ·have:=zbp h;omega
 ·cases h
def QX(s:Bs)(i:Nat):Bool:=bt s i ==110 && bt s (i+1) ==117 && bt s (i+2) ==108 && bt s (i+3) ==108
def Ja(s:Bs)(i:Nat):Bool:=bt s i ==116 && bt s (i+1) ==114 && bt s (i+2) ==117 && bt s (i+3) ==101
def Ju(s:Bs)(i:Nat):Bool:=bt s i ==102 && bt s (i+1) ==97 && bt s (i+2) ==108 && bt s (i+3) ==115 && bt s (i+4) ==101
mutual
def pv(s:Bs):Nat->Nat->Option (JV×Nat)
 | 0,_=>none
 | f+1,i=>
  if bt s i=91 then (if bt s (sk s (i+1))=93 then some (.arr .nil,sk s (i+1)+1)else (pa s f (sk s (i+1))).map fun q=>(.arr q.1,q.2))
  else if bt s i=123 then (if bt s (sk s (i+1))=125 then some (.obj .nil,sk s (i+1)+1)else (po s f (sk s (i+1))).map fun q=>(.obj q.1,q.2))
  else if bt s i=34 then (Zz s i).map fun q=>(.str q.1,q.2)
  else if QX s i=true then some (.nul,i+4)
  else if Ja s i=true then some (.tt,i+4)
  else if Ju s i=true then some (.ff,i+5)
  else (nm s i).map fun q=>(.num q.1,q.2)
def pa(s:Bs):Nat->Nat->Option (JL×Nat)
 | 0,_=>none
 | f+1,i=>(pv s f i).bind fun q=>
  if bt s (sk s q.2)=93 then some (.cons q.1 .nil,sk s q.2+1)
  else if bt s (sk s q.2)=44 then (pa s f (sk s (sk s q.2+1))).map fun r=>(.cons q.1 r.1,r.2)
  else none
def po(s:Bs):Nat->Nat->Option (JM×Nat)
 | 0,_=>none
 | f+1,i=>(Zz s i).bind fun k=>
  if bt s (sk s k.2)=58 then (pv s f (sk s (sk s k.2+1))).bind fun q=>
   if bt s (sk s q.2)=125 then some (.cons k.1 q.1 .nil,sk s q.2+1)
   else if bt s (sk s q.2)=44 then (po s f (sk s (sk s q.2+1))).map fun r=>(.cons k.1 q.1 r.1,r.2)
   else none
  else none
end
theorem z8(s:Bs)(i:Nat):i<=sk s i:=by
 rcases Nat.le_total i s.size with h | h
 ·exact (Q6 h).1
 ·rw[Fd h];exact ye _
theorem UD{s:Bs}{i:Nat}(h:QX s i=true):i+4<=s.size:=by
 simp[QX]at h;have:=Zb (s:=s) (i:=i+3) (by omega);omega
theorem UE{s:Bs}{i:Nat}(h:Ja s i=true):i+4<=s.size:=by
 simp[Ja]at h;have:=Zb (s:=s) (i:=i+3) (by omega);omega
theorem Kz{s:Bs}{i:Nat}(h:Ju s i=true):i+5<=s.size:=by
 simp[Ju]at h;have:=Zb (s:=s) (i:=i+4) (by omega);omega
theorem qO(s:Bs):∀ f i,(∀ v j,pv s f i=some (v,j)->i<j/\j<=s.size)/\(∀ l j,pa s f i=some (l,j)->i<j/\j<=s.size)/\(∀ m j,po s f i=some (m,j)->i<j/\j<=s.size)
 | 0,i=>⟨fun v j h=>by simp[pv]at h,fun v j h=>by simp[pa]at h,fun v j h=>by simp[po]at h⟩
 | f+1,i=>by
  refine⟨fun v j h=>?_,fun l j h=>?_,fun m j h=>?_⟩
  ·rw[pv]at h;have g:=z8 s (i+1);split at h
   ·split at h
    ·have:=Zb (s:=s) (i:=sk s (i+1)) (by omega);injection h with h;injection h with _ h;omega
    ·simp only[yA]at h;obtain⟨⟨l,k⟩,b,h⟩:=h;injection h with _ h;have:=(qO s f (sk s (i+1))).2.1 l k b;simp only at h;omega
   ·split at h
    ·split at h
     ·have:=Zb (s:=s) (i:=sk s (i+1)) (by omega);injection h with h;injection h with _ h;omega
     ·simp only[yA]at h;obtain⟨⟨l,k⟩,b,h⟩:=h;injection h with _ h;have:=(qO s f (sk s (i+1))).2.2 l k b;simp only at h;omega
    ·split at h
     ·simp only[yA]at h;obtain⟨⟨l,k⟩,b,h⟩:=h;injection h with _ h;have:=JX b;simp only at h;omega
     ·split at h
      ·rename_i hw;have:=UD hw;injection h with h;injection h with _ h;omega
      ·split at h
       ·rename_i hw;have:=UE hw;injection h with h;injection h with _ h;omega
       ·split at h
        ·rename_i hw;have:=Kz hw;injection h with h;injection h with _ h;omega
        ·simp only[yA]at h;obtain⟨⟨l,k⟩,b,h⟩:=h;injection h with _ h;have:=Ky b;simp only at h;omega
  ·rw[pa]at h;simp only[Option.bind_eq_some_iff]at h;obtain⟨⟨v,k⟩,b,h⟩:=h;have q:=(qO s f i).1 v k b;have o:=z8 s k;simp only at h;split at h
   ·have:=Zb (s:=s) (i:=sk s k) (by omega);injection h with h;injection h with _ h;omega
   ·split at h
    ·simp only[yA]at h;obtain⟨⟨l,n⟩,d,h⟩:=h;injection h with _ h;have:=(qO s f _).2.1 l n d;have p:=z8 s (sk s k+1);simp only at h;omega
    ·cases h
  ·rw[po]at h;simp only[Option.bind_eq_some_iff]at h;obtain⟨⟨u,a⟩,r,h⟩:=h;have y:=JX r;simp only at h;split at h
   ·simp only[Option.bind_eq_some_iff]at h;obtain⟨⟨v,k⟩,b,h⟩:=h;have q:=(qO s f _).1 v k b;have w:=z8 s a;have x:=z8 s (sk s a+1);have o:=z8 s k;simp only at h;split at h
    ·have:=Zb (s:=s) (i:=sk s k) (by omega);injection h with h;injection h with _ h;omega
    ·split at h
     ·simp only[yA]at h;obtain⟨⟨l,n⟩,d,h⟩:=h;injection h with _ h;have:=(qO s f _).2.2 l n d;have p:=z8 s (sk s k+1);simp only at h;omega
     ·cases h
   ·cases h
theorem Y2(s:Bs):∀ f g i,(2*(s.size - i)+1<=f->2*(s.size - i)+1<=g->pv s f i=pv s g i)/\(2*(s.size - i)+2<=f->2*(s.size - i)+2<=g->pa s f i=pa s g i/\po s f i=po s g i)
 | 0,g,i=>⟨fun h _=>by omega,fun h _=>by omega⟩
 | f+1,0,i=>⟨fun _ h=>by omega,fun _ h=>by omega⟩
 | f+1,g+1,i=>by
  refine⟨fun hf hg=>?_,fun hf hg=>⟨?_,?_⟩⟩
  ·rw[pv,pv];have g0:=z8 s (i+1);by_cases c1:bt s i=91
   ·have l:=Zb (s:=s) (i:=i) (by omega);rw[yg c1,yg c1,((Y2 s f g (sk s (i+1))).2 (by omega) (by omega)).1]
   ·rw[yf c1,yf c1];by_cases c2:bt s i=123
    ·have l:=Zb (s:=s) (i:=i) (by omega);rw[yg c2,yg c2,((Y2 s f g (sk s (i+1))).2 (by omega) (by omega)).2]
    ·rw[yf c2,yf c2]
  ·rw[pa,pa,(Y2 s f g i).1 (by omega) (by omega)]
   cases hk:pv s g i with
   | none=>rfl
   | some q=>
    obtain⟨v,k⟩:=q;have j:=(qO s g i).1 v k hk;have b:=z8 s k;have d:=z8 s (sk s k+1);simp only[yB];rw[((Y2 s f g (sk s (sk s k+1))).2 (by omega) (by omega)).1]
  ·rw[po,po]
   cases ha:Zz s i with
   | none=>rfl
   | some q=>
    obtain⟨m,a⟩:=q;have p:=JX ha;have n:=z8 s a;have o:=z8 s (sk s a+1);simp only[yB];rw[(Y2 s f g (sk s (sk s a+1))).1 (by omega) (by omega)]
    cases hk:pv s g (sk s (sk s a+1))with
    | none=>rfl
    | some q=>
     obtain⟨v,k⟩:=q;have j:=(qO s g _).1 v k hk;have b:=z8 s k;have d:=z8 s (sk s k+1);simp only[yB];rw[((Y2 s f g (sk s (sk s k+1))).2 (by omega) (by omega)).2]
def val(s:Bs)(i:Nat):Option (JV×Nat):=pv s (2*(s.size - i)+1) i
def elems(s:Bs)(i:Nat):Option (JL×Nat):=pa s (2*(s.size - i)+2) i
def QB(s:Bs)(i:Nat):Option (JM×Nat):=po s (2*(s.size - i)+2) i
theorem Y3{s:Bs}{i j:Nat}{v:JV}(h:val s i=some (v,j)):i<j/\j<=s.size:=(qO s _ i).1 v j h
theorem Fj{s:Bs}{i:Nat}(h:bt s i=91):val s i=if bt s (sk s (i+1))=93 then some (.arr .nil,sk s (i+1)+1)else (elems s (sk s (i+1))).map fun q=>(.arr q.1,q.2):=by
 have a:=Zb (s:=s) (i:=i) (by omega);have g:=z8 s (i+1);unfold val elems;rw[pv,yg h,((Y2 s (2*(s.size - i)) (2*(s.size - sk s (i+1))+2) (sk s (i+1))).2 (by omega) (by omega)).1]
theorem Fk{s:Bs}{i:Nat}(h:bt s i=123):val s i=if bt s (sk s (i+1))=125 then some (.obj .nil,sk s (i+1)+1)else (QB s (sk s (i+1))).map fun q=>(.obj q.1,q.2):=by
 have a:=Zb (s:=s) (i:=i) (by omega);have g:=z8 s (i+1);unfold val QB;rw[pv,yf (by omega),yg h,((Y2 s (2*(s.size - i)) (2*(s.size - sk s (i+1))+2) (sk s (i+1))).2 (by omega) (by omega)).2]
theorem PE{s:Bs}{i:Nat}(h:bt s i=34):val s i=(Zz s i).map fun q=>(.str q.1,q.2):=by
 unfold val;rw[pv,yf (by omega),yf (by omega),yg h]
theorem VX{s:Bs}{i:Nat}(h1:bt s i≠91)(h2:bt s i≠123)(h3:bt s i≠34):val s i=
  if QX s i=true then some (.nul,i+4)else if Ja s i=true then some (.tt,i+4)else if Ju s i=true then some (.ff,i+5)else (nm s i).map fun q=>(.num q.1,q.2):=by
 unfold val;rw[pv,yf h1,yf h2,yf h3]
theorem Wz(s:Bs)(i:Nat):elems s i=(val s i).bind fun q=>
  if bt s (sk s q.2)=93 then some (.cons q.1 .nil,sk s q.2+1)
  else if bt s (sk s q.2)=44 then (elems s (sk s (sk s q.2+1))).map fun r=>(.cons q.1 r.1,r.2)
  else none:=by
 have e:elems s i=pa s (2*(s.size - i)+1+1) i:=rfl;rw[e,pa];show (val s i).bind _=_
 cases hk:val s i with
 | none=>rfl
 | some q=>
  obtain⟨v,k⟩:=q;have d:=Y3 hk;have a:=z8 s k;have b:=z8 s (sk s k+1);simp only[yB];rw[show elems s (sk s (sk s k+1))=pa s (2*(s.size - i)+1) (sk s (sk s k+1))from ((Y2 s _ _ _).2 (by omega) (by omega)).1]
theorem KA(s:Bs)(i:Nat):QB s i=(Zz s i).bind fun k=>
  if bt s (sk s k.2)=58 then (val s (sk s (sk s k.2+1))).bind fun q=>
   if bt s (sk s q.2)=125 then some (.cons k.1 q.1 .nil,sk s q.2+1)
   else if bt s (sk s q.2)=44 then (QB s (sk s (sk s q.2+1))).map fun r=>(.cons k.1 q.1 r.1,r.2)
   else none
  else none:=by
 have e:QB s i=po s (2*(s.size - i)+1+1) i:=rfl;rw[e,po]
 cases ha:Zz s i with
 | none=>rfl
 | some q=>
  obtain⟨b,a⟩:=q;have j:=JX ha;have g:=z8 s a;have h:=z8 s (sk s a+1);simp only[yB];rw[show pv s (2*(s.size - i)+1) (sk s (sk s a+1))=val s (sk s (sk s a+1))from (Y2 s _ _ _).1 (by omega) (by omega)]
  cases hk:val s (sk s (sk s a+1))with
  | none=>rfl
  | some q=>
   obtain⟨v,k⟩:=q;have l:=Y3 hk;have d:=z8 s k;have f:=z8 s (sk s k+1);simp only[yB];rw[show QB s (sk s (sk s k+1))=po s (2*(s.size - i)+1) (sk s (sk s k+1))from ((Y2 s _ _ _).2 (by omega) (by omega)).2]
theorem Mj(s:Bs)(i:Nat)(w:Wo)(hs:s.size<=1048576):
  Calls prog 27 #[.string s,.int .i64 i] w fun e w'=>e= .returned (.int .i64 (sk s i))/\w=w':=by
 go_in;go_wp2;go_loopw [1] (fun k wr=>w=wr/\∃ j:Nat,k= .int .i64 (j:Int)/\sk s i=sk s j) (fun k _=>s.size - (intOf k).toNat)
 case atStart=>exact⟨rfl,i,rfl,rfl⟩
 case round=>
  obtain⟨rfl,j,rfl,f⟩:=hrel;have b:=ze f;clear f;by_cases l:j<s.size
  ·have d:(j:Int)<(s.size:Int):=by omega
   have h:=Zq s j l;by_cases c:bt s j=32∨bt s j=9∨bt s j=10∨bt s j=13
   ·have a:Hid (sk s i=sk s (j+1)):=by show _=_;rw[uh b,Uz c]
    rw[h]at c;clear h;rcases c with c | c | c | c
    ·have g:(s[j].toNat:Int)=32:=by omega
     clear c;go_wp2;go_roundw
     case rel=>exact⟨trivial,j+1,by go_num,uh a⟩
     case measure=>simp[intOf];omega
    ·have g:(s[j].toNat:Int)=9:=by omega
     clear c;go_wp2;go_roundw
     case rel=>exact⟨trivial,j+1,by go_num,uh a⟩
     case measure=>simp[intOf];omega
    ·have g:(s[j].toNat:Int)=10:=by omega
     clear c;go_wp2;go_roundw
     case rel=>exact⟨trivial,j+1,by go_num,uh a⟩
     case measure=>simp[intOf];omega
    ·have g:(s[j].toNat:Int)=13:=by omega
     clear c;go_wp2;go_roundw
     case rel=>exact⟨trivial,j+1,by go_num,uh a⟩
     case measure=>simp[intOf];omega
   ·have a:Hid (sk s i=j):=by show _=_;rw[uh b,Kw c]
    have g:((s[j].toNat:Int) ==32)=false:=by rw[yd];omega
    have n:((s[j].toNat:Int) ==9)=false:=by rw[yd];omega
    have o:((s[j].toNat:Int) ==10)=false:=by rw[yd];omega
    have p:((s[j].toNat:Int) ==13)=false:=by rw[yd];omega
    clear c h;go_wp2;go_ret;exact⟨by rw[uh a];rfl,rfl⟩
  ·have d:¬ (j:Int)<(s.size:Int):=by omega
   have m:decide ((j:Int)<(s.size:Int))=false:=by simp;omega
   have a:Hid (sk s i=j):=by show _=_;rw[uh b,Fd (by omega)]
   go_wp2;go_ret;exact⟨by rw[uh a];rfl,rfl⟩
theorem PF(s t:Bs)(i:Nat)(w:Wo)(hs:s.size<=1048576)(ht:t.size<=10)(hi:i<=s.size+1):
  Calls prog 71 #[.string s,.int .i64 i,.string t] w fun e w'=>e= .returned (.bool (decide (i+t.size<=s.size) && (s.extract i (i+t.size)).toList ==t.toList))/\w=w':=by
 by_cases d:i+t.size<=s.size
 ·have b:(i:Int)+(t.size:Int)<=(s.size:Int):=by omega
  have f:(i:Int)<=(i:Int)+(t.size:Int):=by omega
  have g:(0:Int)<=(i:Int):=by omega
  have a:decide (i+t.size<=s.size)=true:=by simp;omega
  rw[a,Bool.true_and];clear a;go_in;go_wp2;go_ret;exact⟨rfl,rfl⟩
 ·have b:¬ (i:Int)+(t.size:Int)<=(s.size:Int):=by omega
  have a:decide (i+t.size<=s.size)=false:=by simp;omega
  rw[a,Bool.false_and];clear a;go_in;go_wp2;go_ret;exact⟨rfl,rfl⟩
def qF(p:List UInt8×List UInt8):List (List UInt8×List UInt8)->List (List UInt8×List UInt8)
 | []=>[p]
 | q :: r=>if p.1<q.1 then q :: qF p r else p :: q :: r
def zJ(l:List (List UInt8×List UInt8)):List (List UInt8×List UInt8):=(l.foldl (fun acc p=>qF p acc) []).reverse
def zz(p:List UInt8×List UInt8):List UInt8:=quoted p.1++58 :: p.2
def joinT:List (List UInt8)->List UInt8
 | []=>[]
 | t :: r=>44 ::(t++joinT r)
def joinC:List (List UInt8)->List UInt8
 | []=>[]
 | t :: r=>t++joinT r
def qb(l:List (List UInt8×List UInt8)):List UInt8:=123 ::(joinC (l.map zz)++[125])
def ZT(l:List (List UInt8)):List UInt8:=91 ::(joinC l++[93])
theorem zbq(a b:List (List UInt8)):joinT (a++b)=joinT a++joinT b:=by
 induction a with
 | nil=>rfl
 | cons t r ih=>simp[joinT,ih]
theorem Fl(a:List (List UInt8))(t:List UInt8):joinC (a++[t])=joinC a++(if a=[]then t else 44 :: t):=by
 cases a with
 | nil=>simp[joinC,joinT]
 | cons x r=>simp[joinC,zbq,joinT]
def UF:List UInt8:=[57,50,50,51,51,55,50,48,51,54,56,53,52,55,55,53,56,48,55]
def UG:List UInt8:=[57,50,50,51,51,55,50,48,51,54,56,53,52,55,55,53,56,48,56]
def over(d lim:List UInt8):Bool:=if d.length≠19 then decide (19<d.length)else (!Op.bytesLess d lim && !(d ==lim))
def QC:List UInt8->Bool
 | []=>false
 | c :: r=>if c=45 then over r UG else over (c :: r) UF
mutual
def ct:JV->List UInt8
 | .nul=>[110,117,108,108]
 | .tt=>[116,114,117,101]
 | .ff=>[102,97,108,115,101]
 | .num l=>l
 | .str l=>quoted l
 | .arr l=>ZT (zF l)
 | .obj m=>qb (zJ (zl m))
def zF:JL->List (List UInt8)
 | .nil=>[]
 | .cons v r=>ct v :: zF r
def zl:JM->List (List UInt8×List UInt8)
 | .nil=>[]
 | .cons k v r=>(k,ct v) :: zl r
end
mutual
def zV:JV->Bool
 | .nul=>false
 | .tt=>false
 | .ff=>false
 | .num l=>QC l
 | .str _=>false
 | .arr l=>qu l
 | .obj m=>ZZ m
def qu:JL->Bool
 | .nil=>false
 | .cons v r=>zV v || qu r
def ZZ:JM->Bool
 | .nil=>false
 | .cons _ v r=>zV v || ZZ r
end
mutual
def zw:JV->Bool
 | .nul=>false
 | .tt=>false
 | .ff=>false
 | .num _=>false
 | .str _=>false
 | .arr l=>qd l
 | .obj m=>ZW [] m
def qd:JL->Bool
 | .nil=>false
 | .cons v r=>zw v || qd r
def ZW:List (List UInt8)->JM->Bool
 | _,.nil=>false
 | ks,.cons k v r=>(zw v || ks.contains k) || ZW (ks++[k]) r
end
mutual
def zm:JV->Nat
 | .nul=>1
 | .tt=>1
 | .ff=>1
 | .num _=>1
 | .str _=>1
 | .arr l=>Yb l+1
 | .obj m=>JC m+1
def Yb:JL->Nat
 | .nil=>0
 | .cons v r=>max (zm v) (Yb r)
def JC:JM->Nat
 | .nil=>0
 | .cons _ v r=>max (zm v) (JC r)
end
mutual
def zj:JV->Nat
 | .nul=>1
 | .tt=>1
 | .ff=>1
 | .num _=>1
 | .str _=>1
 | .arr l=>QD l+1
 | .obj m=>Qd m+1
def QD:JL->Nat
 | .nil=>0
 | .cons v r=>zj v+QD r
def Qd:JM->Nat
 | .nil=>0
 | .cons _ v r=>zj v+Qd r
end
def JL.app:JL->JL->JL
 | .nil,b=>b
 | .cons v r,b=>.cons v (r.app b)
def JM.app:JM->JM->JM
 | .nil,b=>b
 | .cons k v r,b=>.cons k v (r.app b)
theorem JL.app_assoc:∀ a b c:JL,(a.app b).app c=a.app (b.app c)
 | .nil,_,_=>rfl
 | .cons v r,b,c=>by simp[JL.app,JL.app_assoc r b c]
theorem JM.app_assoc:∀ a b c:JM,(a.app b).app c=a.app (b.app c)
 | .nil,_,_=>rfl
 | .cons k v r,b,c=>by simp[JM.app,JM.app_assoc r b c]
theorem JL.app_nil:∀ a:JL,a.app .nil=a
 | .nil=>rfl
 | .cons v r=>by simp[JL.app,JL.app_nil r]
theorem JM.app_nil:∀ a:JM,a.app .nil=a
 | .nil=>rfl
 | .cons k v r=>by simp[JM.app,JM.app_nil r]
theorem Mk:∀ a b:JM,zl (a.app b)=zl a++zl b
 | .nil,b=>by simp[JM.app,zl]
 | .cons k v r,b=>by simp[JM.app,zl,Mk r b]
theorem PG:∀ a b:JL,qu (a.app b)=(qu a || qu b)
 | .nil,b=>by simp[JL.app,qu]
 | .cons v r,b=>by simp[JL.app,qu,PG r b,Bool.or_assoc]
theorem PH:∀ a b:JM,ZZ (a.app b)=(ZZ a || ZZ b)
 | .nil,b=>by simp[JM.app,ZZ]
 | .cons k v r,b=>by simp[JM.app,ZZ,PH r b,Bool.or_assoc]
theorem PI:∀ a b:JL,qd (a.app b)=(qd a || qd b)
 | .nil,b=>by simp[JL.app,qd]
 | .cons v r,b=>by simp[JL.app,qd,PI r b,Bool.or_assoc]
def Ql:JM->List (List UInt8)
 | .nil=>[]
 | .cons k _ r=>k :: Ql r
theorem Ml:∀ a b:JM,Ql (a.app b)=Ql a++Ql b
 | .nil,b=>by simp[JM.app,Ql]
 | .cons k v r,b=>by simp[JM.app,Ql,Ml r b]
theorem PJ:∀ (ks:List (List UInt8)) (a b:JM),ZW ks (a.app b)=(ZW ks a || ZW (ks++Ql a) b)
 | ks,.nil,b=>by simp[JM.app,ZW,Ql]
 | ks,.cons k v r,b=>by simp[JM.app,ZW,Ql,PJ (ks++[k]) r b,Bool.or_assoc]
theorem WA:∀ a:JM,(zl a).map (·.1)=Ql a
 | .nil=>rfl
 | .cons k v r=>by simp[zl,Ql,WA r]
theorem WB(s:Bs)(i j:Nat):(s.extract i j).toList=Zh s i j:=by
 rw[ByteArray.toList_eq,Lib.extract_data];rfl
theorem UH(s:Bs)(i j:Nat):s.extract i j=zh (Zh s i j):=by
 have h:(s.extract i j).data.toList=Zh s i j:=by rw[Lib.extract_data];rfl
 rw[← h]
 cases s.extract i j;simp[zh]
theorem zbr(c:UInt8)(r:List UInt8):Zh (zh (c :: r)) 1 (r.length+1)=r:=by
 unfold Zh;rw[Za];simp
theorem Mm(l:List UInt8)(w:Wo)(h0:l≠[])(hl:l.length<=1048576):
  Calls prog 117 #[.string (zh l)] w fun e w'=>e= .returned (.bool (QC l))/\w=w':=by
 obtain⟨c,r,rfl⟩:∃ c r,l=c :: r:=by cases l with | nil=>exact absurd rfl h0 | cons c r=>exact⟨c,r,rfl⟩
 have m:(zh (c :: r)).size=r.length+1:=by rw[zN];rfl
 have j:0<(zh (c :: r)).size:=by omega
 have f:(zh (c :: r))[0].toNat=c.toNat:=rfl;by_cases d:c=45
 ·subst d;have g:Hid (QC (45 :: r)=over r UG):=by show _=_;rw[QC,yg rfl]
  have h:Hid (((zh (45 :: r)).extract 1 (r.length+1)).toList=r):=by show _=_;rw[WB,zbr]
  have k:((zh (45 :: r))[0].toNat:Int)=45:=by rw[f];rfl
  by_cases b:r.length=19
  ·have i:((r.length:Int) !=19)=false:=by rw[bne_eq_false_iff_eq];omega
   have a:Hid (QC (45 :: r)=(!Op.bytesLess r UG && !(r ==UG))):=by show _=_;rw[uh g];unfold over;rw[yf (by omega)]
   clear b f h0;go_in;go_wp2;go_ret;refine⟨?_,rfl⟩;rw[uh h,uh a];rfl
  ·have i:((r.length:Int) !=19)=true:=by rw[bne_iff_ne];omega
   have a:Hid (QC (45 :: r)=decide (19<(r.length:Int))):=by
    show _=_;rw[uh g];unfold over;rw[yg b];simp;omega
   clear b f h0;go_in;go_wp2;go_ret;refine⟨?_,rfl⟩;rw[uh a];rfl
 ·have g:Hid (QC (c :: r)=over (c :: r) UF):=by show _=_;rw[QC,yf d]
  have h:Hid ((zh (c :: r)).toList=c :: r):=by show _=_;rw[ByteArray.toList_eq,Za]
  have k:(((zh (c :: r))[0].toNat:Int) ==45)=false:=by
   rw[yd,f];intro e;exact d (UInt8.toNat_inj.1 (by show c.toNat=45;omega))
  by_cases b:r.length=18
  ·have i:((r.length+1:Int) !=19)=false:=by rw[bne_eq_false_iff_eq];omega
   have a:Hid (QC (c :: r)=(!Op.bytesLess (c :: r) UF && !((c :: r) ==UF))):=by show _=_;rw[uh g];unfold over;rw[yf (by simp;omega)]
   clear b f h0;go_in;go_wp2;go_ret;refine⟨?_,rfl⟩;rw[uh h,uh a];rfl
  ·have i:((r.length+1:Int) !=19)=true:=by rw[bne_iff_ne];omega
   have a:Hid (QC (c :: r)=decide (19<(r.length+1:Int))):=by
    show _=_;rw[uh g];unfold over;rw[yg (by simp;omega)];simp;omega
   clear b f h0;go_in;go_wp2;go_ret;refine⟨?_,rfl⟩;rw[uh a];rfl
def Vr(o:Option Nat):Int:=o.elim (-1) fun n=>(n:Int)
theorem zbs(b:Nat)(hb:b<256)(w:Wo):
  Calls prog 196 #[.int .u8 b] w fun e w'=>w=w'/\e= .returned (.int .i64 (Vr (hx b))):=by
 by_cases a:48<=b/\b<=57
 ·have d:Hid (hx b=some (b - 48)):=by show _=_;unfold hx;rw[yg a]
  have i:(48:Int)<=(b:Int):=by omega
  have k:(b:Int)<=57:=by omega
  clear a;go_in;go_wp2;go_ret;refine⟨rfl,?_⟩;rw[uh d];exact Wj (show _=((b - 48:Nat):Int) by go_num)
 ·by_cases f:97<=b/\b<=102
  ·have d:Hid (hx b=some (b - 87)):=by show _=_;unfold hx;rw[yf a,yg f]
   have i:(97:Int)<=(b:Int):=by omega
   have k:(b:Int)<=102:=by omega
   clear a f;go_in;go_wp2;go_ret;refine⟨rfl,?_⟩;rw[uh d];exact Wj (show _=((b - 87:Nat):Int) by go_num)
  ·by_cases h:65<=b/\b<=70
   ·have d:Hid (hx b=some (b - 55)):=by show _=_;unfold hx;rw[yf a,yf f,yg h]
    have i:(65:Int)<=(b:Int):=by omega
    have k:(b:Int)<=70:=by omega
    clear a f h;go_in;go_wp2;go_ret;refine⟨rfl,?_⟩;rw[uh d];exact Wj (show _=((b - 55:Nat):Int) by go_num)
   ·have d:Hid (hx b=none):=by show _=_;unfold hx;rw[yf a,yf f,yf h]
    rcases (show b<48∨(57<b/\b<65)∨(70<b/\b<97)∨102<b from by omega)with g | g | g | g
    ·have j:(b:Int)<48:=by omega
     clear a f h g;go_in;go_wp2;go_ret;exact⟨rfl,by rw[uh d];rfl⟩
    ·have j:(57:Int)<(b:Int):=by omega
     have i:(b:Int)<65:=by omega
     clear a f h g;go_in;go_wp2;go_ret;exact⟨rfl,by rw[uh d];rfl⟩
    ·have j:(70:Int)<(b:Int):=by omega
     have i:(b:Int)<97:=by omega
     clear a f h g;go_in;go_wp2;go_ret;exact⟨rfl,by rw[uh d];rfl⟩
    ·have j:(102:Int)<(b:Int):=by omega
     clear a f h g;go_in;go_wp2;go_ret;exact⟨rfl,by rw[uh d];rfl⟩
def zbt(c:Nat)(k:Value):Prop:=∃ j:Nat,j<=8/\k= .int .i64 j/\(0<j->c≠34)/\(1<j->c≠92)/\(2<j->c≠47)/\(3<j->c≠98)/\(4<j->c≠102)/\(5<j->c≠110)/\(6<j->c≠114)/\(7<j->c≠116)
abbrev zbu(w:Wo):Wo:=w.alloc (.cells #[.int .u8 34,.int .u8 92,.int .u8 47,.int .u8 8,.int .u8 12,.int .u8 10,.int .u8 13,.int .u8 9] 5)
theorem Mn(c:Nat)(hc:c<256)(w:Wo):
  Calls prog 159 #[.int .u8 c] w fun e w'=>e= .returned (.int .i64 (Vr (Jt c)))/\Bw w w':=by
 go_in;go_wp2;go_loopw [5] (fun k wr=>zbt c k/\zbu w=wr) (fun k _=>8 - (intOf k).toNat)
 case atStart=>exact⟨⟨0,by omega,rfl,by omega,by omega,by omega,by omega,by omega,by omega,by omega,by omega⟩,rfl⟩
 case round=>
  obtain⟨⟨j,q,rfl,a,d,f,h,l,m,n,o⟩,rfl⟩:=hrel;have b:Hid ((0<j->c≠34)/\(1<j->c≠92)/\(2<j->c≠47)/\(3<j->c≠98)/\(4<j->c≠102)/\(5<j->c≠110)/\(6<j->c≠114)/\(7<j->c≠116)):=⟨a,d,f,h,l,m,n,o⟩;clear a d f h l m n o;rcases (show j=0∨j=1∨j=2∨j=3∨j=4∨j=5∨j=6∨j=7∨j=8 from by omega)with rfl | rfl | rfl | rfl | rfl | rfl | rfl | rfl | rfl
  ·have g:((⟨#[34,92,47,98,102,110,114,116]⟩:Bs)[0]'(by decide)).toNat=34:=rfl;by_cases e:c=34
   ·subst e;clear b;go_wp2;go_ret;exact⟨rfl,(yI _ _).alloc (ye _) _⟩
   ·have t:((34:Int) ==(c:Int))=false:=by rw[yd];omega
    have i:=ze e;clear e;go_wp2;go_roundw
    case rel=>
     obtain⟨a,d,f,h,l,m,n,o⟩:=uh b;have e:=uh i;exact⟨⟨1,by omega,by go_num,fun _=>e,by omega,by omega,by omega,by omega,by omega,by omega,by omega⟩,trivial⟩
    case measure=>simp[intOf]
  ·have g:((⟨#[34,92,47,98,102,110,114,116]⟩:Bs)[1]'(by decide)).toNat=92:=rfl;by_cases e:c=92
   ·subst e;clear b;go_wp2;go_ret;exact⟨rfl,(yI _ _).alloc (ye _) _⟩
   ·have t:((92:Int) ==(c:Int))=false:=by rw[yd];omega
    have i:=ze e;clear e;go_wp2;go_roundw
    case rel=>
     obtain⟨a,d,f,h,l,m,n,o⟩:=uh b;have e:=uh i;exact⟨⟨2,by omega,by go_num,fun _=>a (by omega),fun _=>e,by omega,by omega,by omega,by omega,by omega,by omega⟩,trivial⟩
    case measure=>simp[intOf]
  ·have g:((⟨#[34,92,47,98,102,110,114,116]⟩:Bs)[2]'(by decide)).toNat=47:=rfl;by_cases e:c=47
   ·subst e;clear b;go_wp2;go_ret;exact⟨rfl,(yI _ _).alloc (ye _) _⟩
   ·have t:((47:Int) ==(c:Int))=false:=by rw[yd];omega
    have i:=ze e;clear e;go_wp2;go_roundw
    case rel=>
     obtain⟨a,d,f,h,l,m,n,o⟩:=uh b;have e:=uh i;exact⟨⟨3,by omega,by go_num,fun _=>a (by omega),fun _=>d (by omega),fun _=>e,by omega,by omega,by omega,by omega,by omega⟩,trivial⟩
    case measure=>simp[intOf]
  ·have g:((⟨#[34,92,47,98,102,110,114,116]⟩:Bs)[3]'(by decide)).toNat=98:=rfl;by_cases e:c=98
   ·subst e;clear b;go_wp2;go_ret;exact⟨rfl,(yI _ _).alloc (ye _) _⟩
   ·have t:((98:Int) ==(c:Int))=false:=by rw[yd];omega
    have i:=ze e;clear e;go_wp2;go_roundw
    case rel=>
     obtain⟨a,d,f,h,l,m,n,o⟩:=uh b;have e:=uh i;exact⟨⟨4,by omega,by go_num,fun _=>a (by omega),fun _=>d (by omega),fun _=>f (by omega),fun _=>e,by omega,by omega,by omega,by omega⟩,trivial⟩
    case measure=>simp[intOf]
  ·have g:((⟨#[34,92,47,98,102,110,114,116]⟩:Bs)[4]'(by decide)).toNat=102:=rfl;by_cases e:c=102
   ·subst e;clear b;go_wp2;go_ret;exact⟨rfl,(yI _ _).alloc (ye _) _⟩
   ·have t:((102:Int) ==(c:Int))=false:=by rw[yd];omega
    have i:=ze e;clear e;go_wp2;go_roundw
    case rel=>
     obtain⟨a,d,f,h,l,m,n,o⟩:=uh b;have e:=uh i;exact⟨⟨5,by omega,by go_num,fun _=>a (by omega),fun _=>d (by omega),fun _=>f (by omega),fun _=>h (by omega),fun _=>e,by omega,by omega,by omega⟩,trivial⟩
    case measure=>simp[intOf]
  ·have g:((⟨#[34,92,47,98,102,110,114,116]⟩:Bs)[5]'(by decide)).toNat=110:=rfl;by_cases e:c=110
   ·subst e;clear b;go_wp2;go_ret;exact⟨rfl,(yI _ _).alloc (ye _) _⟩
   ·have t:((110:Int) ==(c:Int))=false:=by rw[yd];omega
    have i:=ze e;clear e;go_wp2;go_roundw
    case rel=>
     obtain⟨a,d,f,h,l,m,n,o⟩:=uh b;have e:=uh i;exact⟨⟨6,by omega,by go_num,fun _=>a (by omega),fun _=>d (by omega),fun _=>f (by omega),fun _=>h (by omega),fun _=>l (by omega),fun _=>e,by omega,by omega⟩,trivial⟩
    case measure=>simp[intOf]
  ·have g:((⟨#[34,92,47,98,102,110,114,116]⟩:Bs)[6]'(by decide)).toNat=114:=rfl;by_cases e:c=114
   ·subst e;clear b;go_wp2;go_ret;exact⟨rfl,(yI _ _).alloc (ye _) _⟩
   ·have t:((114:Int) ==(c:Int))=false:=by rw[yd];omega
    have i:=ze e;clear e;go_wp2;go_roundw
    case rel=>
     obtain⟨a,d,f,h,l,m,n,o⟩:=uh b;have e:=uh i;exact⟨⟨7,by omega,by go_num,fun _=>a (by omega),fun _=>d (by omega),fun _=>f (by omega),fun _=>h (by omega),fun _=>l (by omega),fun _=>m (by omega),fun _=>e,by omega⟩,trivial⟩
    case measure=>simp[intOf]
  ·have g:((⟨#[34,92,47,98,102,110,114,116]⟩:Bs)[7]'(by decide)).toNat=116:=rfl;by_cases e:c=116
   ·subst e;clear b;go_wp2;go_ret;exact⟨rfl,(yI _ _).alloc (ye _) _⟩
   ·have t:((116:Int) ==(c:Int))=false:=by rw[yd];omega
    have i:=ze e;clear e;go_wp2;go_roundw
    case rel=>
     obtain⟨a,d,f,h,l,m,n,o⟩:=uh b;have e:=uh i;exact⟨⟨8,by omega,by go_num,fun _=>a (by omega),fun _=>d (by omega),fun _=>f (by omega),fun _=>h (by omega),fun _=>l (by omega),fun _=>m (by omega),fun _=>n (by omega),fun _=>e⟩,trivial⟩
    case measure=>simp[intOf]
  ·have p:Hid (Jt c=none):=by
    obtain⟨a,d,f,h,l,m,n,o⟩:=uh b;show _=_
    unfold Jt;rw[yf (a (by omega)),yf (d (by omega)),yf (f (by omega)),yf (h (by omega)),yf (l (by omega)),yf (m (by omega)),yf (n (by omega)),yf (o (by omega))]
   clear b;go_wp2;go_ret;exact⟨by rw[uh p];rfl,(yI _ _).alloc (ye _) _⟩
def Qm(t:Bs)(n:Nat)(ok b tw:Bool):Value:=.agg #[.string t,.int .i64 (n:Int),.bool ok,.bool b,.bool tw]
def GP(w:Wo)(o:Option (JV×Nat))(e:Ending)(w':Wo):Prop:=
 Bw w w'/\o.elim (∃ (t:Bs) (n:Nat) (b tw:Bool),e= .returned (Qm t n false b tw)) fun q=>e= .returned (Qm (zh (ct q.1)) q.2 true (zV q.1) (zw q.1))
theorem GP.bad{w w':Wo}{o:Option (JV×Nat)}(h:o=none)(b:Bw w w'):GP w o (.returned (.agg #[.string ⟨#[]⟩,.int .i64 0,.bool false,.bool false,.bool false])) w':=by
 subst h;exact⟨b,_,0,_,_,rfl⟩
theorem PK(b:Nat)(w:Wo):
  Calls prog 90 #[.int .u8 b] w fun e w'=>e= .returned (.bool (zP b))/\w=w':=by
 by_cases h:48<=b
 ·have a:Hid (zP b=decide ((b:Int)<=57)):=by
   show _=_
   unfold zP;rw[yj h,Bool.true_and];apply decide_eq_decide.2;omega
  have d:(48:Int)<=(b:Int):=by omega
  go_in;go_wp2;go_ret;exact⟨by rw[uh a];rfl,rfl⟩
 ·have a:Hid (zP b=false):=by
   show _=_
   unfold zP;rw[yk h,Bool.false_and]
  have d:¬ (48:Int)<=(b:Int):=by omega
  go_in;go_wp2;go_ret;exact⟨by rw[uh a];rfl,rfl⟩
theorem Z0(w:Wo)(o:Obj):Bw w (w.alloc o):=(yI _ _).alloc (ye _) _
theorem zbv(s:Bs)(i:Nat)(w:Wo)(hs:s.size<=1048576)(hi:i<=s.size+1):
  Calls prog 72 #[.string s,.int .i64 i] w (GP w ((nm s i).map fun q=>(.num q.1,q.2))):=by
 have G:=ze fun w=>Gk s (i:Int) i rfl 45 w;have z:Hid (Jy s i 45=decide (bt s i=45)):=by
  show _=_
  by_cases h:i<s.size
  ·rw[Vk h,Zq s i h,Bool.eq_iff_iff,yD,decide_eq_true_iff];omega
  ·rw[Ul h,Ya s i (by omega)];rfl
 have u:Hid (nm s i=if zP (bt s (zW s i))=true then some (Qk (Zh s i (qr s i)),qr s i)else none):=rfl;have L:zW s i=i/\bt s i≠45∨zW s i=i+1/\bt s i=45:=by unfold zW;split<;>simp[*]
 have v:qr s i=if bt s (zW s i)=48 then zW s i+1 else dg s (zW s i):=rfl
 generalize zW s i=d,qr s i=E at *;have C:=ze v;clear v;go_in;go_wp2_with fail;refine (uh G _).mono ?_;rintro e W ⟨rfl,rfl⟩;have D:=ze (Z0 w (.cells #[.string ⟨#[]⟩,.int .i64 0,.bool false,.bool false,.bool false] 51));rw[uh z];go_upto_if 10 with fail;go_cut [1]from 8 to 12 (fun x wx=>x= .int .i64 (d:Int)/\wx=w.alloc (.cells #[.string ⟨#[]⟩,.int .i64 0,.bool false,.bool false,.bool false] 51))
 case first=>
  rcases L with ⟨rfl,h⟩ |⟨rfl,h⟩<;>(go_wp2;go_meet;case rel=>exact⟨rfl,rfl⟩)
 obtain⟨rfl,rfl⟩:=hcut;have M:i<=d:=by omega
 by_cases f:d<s.size
 ·have N:((s.size:Int)<=(d:Int))=False:=yR (by omega);have O:((d:Int)<(s.size:Int))=True:=eq_true (by omega);have l:Hid (∀ (j:Nat) (hj:j<s.size) w,Calls prog 90 #[.int .u8 (s[j].toNat:Int)] w (Rk (.bool (zP (bt s j))) w)):=fun j hj w=>by
   rw[Zq s j hj];exact PK _ w
  have n:=Zq s d f;go_wp2_with fail;refine (uh l d f _).mono ?_;rintro e X ⟨rfl,rfl⟩
  cases hdg:zP (bt s d)with
  | false=>
   have HR:Hid (((nm s i).map fun q=>(JV.num q.1,q.2))=none):=by show _=_;rw[uh u,yf (by rw[hdg];simp)];rfl
   clear hdg;go_wp2;go_returns;exact GP.bad (uh HR) (uh D)
  | true=>
   have I:=ze hdg;rw[yg hdg]at u;obtain⟨q,y⟩:∃ q,((s[d].toNat:Int) ==48)=q:=⟨_,rfl⟩;have B:Hid (q=decide (bt s d=48)):=by show _=_;rw[← y,n,Bool.eq_iff_iff,yD,decide_eq_true_iff];omega
   clear hdg n;go_upto_if 28 with fail;go_cut [1]from 25 to 42 (fun x wx=>x= .int .i64 (E:Int)/\d<E/\E<=s.size/\wx=w.alloc (.cells #[.string ⟨#[]⟩,.int .i64 0,.bool false,.bool false,.bool false] 51))
   case first=>
    cases q with
    | true=>
     have v:=(uh C).trans (yg (of_decide_eq_true (uh B).symm));subst v;go_wp2;go_meet
     case rel=>exact⟨rfl,by omega,f,rfl⟩
    | false=>
     have A:=ze ((uh C).trans (yf (of_decide_eq_false (uh B).symm)));go_wp2_with fail;go_loopw [1] (fun k wr=>wr=w.alloc (.cells #[.string ⟨#[]⟩,.int .i64 0,.bool false,.bool false,.bool false] 51)/\∃ j:Nat,k= .int .i64 (j:Int)/\j<=s.size/\Hid (E=dg s j)/\(d<j∨j=d)) (fun k _=>s.size - (intOf k).toNat)
     case atStart=>exact⟨rfl,d,by go_num,by omega,uh A,.inr rfl⟩
     case round=>
      obtain⟨rfl,j,rfl,o,a,p⟩:=hrel;by_cases r:j<s.size
      ·have P:((j:Int)<(s.size:Int))=True:=eq_true (by omega);go_wp2_with fail;refine (uh l j r _).mono ?_;rintro e Q ⟨rfl,rfl⟩
       cases hjd:zP (bt s j)with
       | true=>
        have m:Hid (E=dg s (j+1)):=by show _=_;rw[uh a,VW hjd]
        clear hjd;go_wp2;go_roundw
        case rel=>exact⟨trivial,j+1,by go_num,by omega,uh m,.inl (by omega)⟩
        case measure=>simp[intOf];omega
       | false=>
        have m:E=j:=by rw[uh a,UC (by rw[hjd];simp)]
        have g:d<j:=by
         rcases p with h | h
         ·exact h
         ·subst h;have:=uh I;rw[hjd]at this;cases this
        subst m;clear hjd p;go_wp2;go_meet
        case rel=>exact⟨rfl,g,o,rfl⟩
      ·have P:((j:Int)<(s.size:Int))=False:=yR (by omega);have m:E=j:=by rw[uh a,UC (by rw[Ya s j (by omega)];simp[zP])]
       subst m;have g:d<E:=by omega
       go_wp2;go_meet
       case rel=>exact⟨rfl,g,o,rfl⟩
   obtain⟨rfl,R,S,rfl⟩:=hcut;clear y B;have T:(i:Int)<=(E:Int):=by omega
   have U:(E:Int)<=(s.size:Int):=by omega
   have V:(0:Int)<=(i:Int):=by omega
   have b:(Zh s i E).length=E - i:=by unfold Zh;rw[ym,yv,Zg];omega
   have H:Hid (∀ w,Calls prog 117 #[.string (zh (Qk (Zh s i E)))] w fun F w'=>F= .returned (.bool (QC (Qk (Zh s i E))))/\w=w'):=fun w=>by
    unfold Qk;split
    ·exact Mm _ w (by simp) (by simp)
    ·exact Mm _ w (by intro h;rw[h]at b;simp at b;omega) (by omega)
   obtain⟨q,y⟩:∃ q,((s.extract i E).toList ==[45,48])=q:=⟨_,rfl⟩;have K:Hid (Qk (Zh s i E)=if q then [48]else Zh s i E):=by show _=_;rw[← y,WB];simp only[yD];rfl
   have J:=ze (UH s i E);clear b;go_upto_if 48 with fail;go_cut [6]from 47 to 48 (fun x wx=>x= .string (zh (Qk (Zh s i E)))/\wx=w.alloc (.cells #[.string ⟨#[]⟩,.int .i64 0,.bool false,.bool false,.bool false] 51))
   case first=>
    cases q<;>(go_wp2;go_meet;case rel=>exact⟨by rw[uh K];first | rfl |(rw[uh J];rfl),rfl⟩)
   obtain⟨rfl,rfl⟩:=hcut;go_wp2_with fail;refine (uh H _).mono ?_;rintro F Q ⟨rfl,rfl⟩;go_wp2;go_returns;rw[uh u];exact⟨Z0 w _,rfl⟩
 ·have N:((s.size:Int)<=(d:Int))=True:=eq_true (by omega);have HR:Hid (((nm s i).map fun q=>(JV.num q.1,q.2))=none):=by
   show _=_
   rw[uh u,yf (by rw[Ya s d (by omega)];simp[zP])];rfl
  go_wp2;go_returns;exact GP.bad (uh HR) (uh D)
def Qn:JL->List UInt8
 | .nil=>[]
 | .cons v r=>ct v++44 :: Qn r
theorem PL:∀ (a:JL) (v:JV),Qn (a.app (.cons v .nil))=Qn a++(ct v++[44])
 | .nil,v=>by simp[JL.app,Qn]
 | .cons u r,v=>by simp[JL.app,Qn,PL r v]
theorem Mo:∀ (a:JL) (v:JV),44 ::(Qn a++ct v)=joinT (zF (a.app (.cons v .nil)))
 | .nil,v=>by simp[JL.app,Qn,zF,joinT]
 | .cons u r,v=>by
  have:=Mo r v;simp[JL.app,Qn,zF,joinT,← this]
theorem zbw(a:JL)(v:JV):Qn a++ct v=joinC (zF (a.app (.cons v .nil))):=by
 cases a with
 | nil=>simp[JL.app,Qn,zF,joinC,joinT]
 | cons u r=>
  have:=Mo r v;simp[JL.app,Qn,zF,joinC,← this]
abbrev qX(t:Bs)(n:Nat)(ok b tw:Bool):Obj:=.cells #[.string t,.int .i64 (n:Int),.bool ok,.bool b,.bool tw] 51 (0,0)
def Zf(g:Nat)(t:Bs)(n:Nat)(ok b tw:Bool)(w:Wo):Prop:=w.heap[g]?=some (qX t n ok b tw)
theorem Zf.c0{g n:Nat}{t:Bs}{ok b tw:Bool}{w:Wo}(h:Zf g t n ok b tw w):w.cell? ⟨g,0,none⟩=some (.string t):=by rw[yG h];rfl
theorem Zf.c1{g n:Nat}{t:Bs}{ok b tw:Bool}{w:Wo}(h:Zf g t n ok b tw w):w.cell? ⟨g,1,none⟩=some (.int .i64 (n:Int)):=by rw[yG h];rfl
theorem Zf.c2{g n:Nat}{t:Bs}{ok b tw:Bool}{w:Wo}(h:Zf g t n ok b tw w):w.cell? ⟨g,2,none⟩=some (.bool ok):=by rw[yG h];rfl
theorem Zf.c3{g n:Nat}{t:Bs}{ok b tw:Bool}{w:Wo}(h:Zf g t n ok b tw w):w.cell? ⟨g,3,none⟩=some (.bool b):=by rw[yG h];rfl
theorem Zf.c4{g n:Nat}{t:Bs}{ok b tw:Bool}{w:Wo}(h:Zf g t n ok b tw w):w.cell? ⟨g,4,none⟩=some (.bool tw):=by rw[yG h];rfl
theorem Zf.fz{g n:Nat}{t:Bs}{ok b tw:Bool}{w:Wo}(h:Zf g t n ok b tw w)(k:Nat):w.frozen? ⟨g,k,none⟩=false:=yJ h k
theorem Zf.lt{g n:Nat}{t:Bs}{ok b tw:Bool}{w:Wo}(h:Zf g t n ok b tw w):g<w.heap.size:=(yC.1 h).1
theorem Zf.below{g n:Nat}{t:Bs}{ok b tw:Bool}{w w':Wo}(h:Zf g t n ok b tw w)(hb:Bw w w'):Zf g t n ok b tw w':=(hb.block g h.lt).trans h
theorem Zf.alloc{g n:Nat}{t:Bs}{ok b tw:Bool}{w:Wo}(h:Zf g t n ok b tw w)(o:Obj):Zf g t n ok b tw (w.alloc o):=h.below (Z0 w o)
theorem Zf.other{g n:Nat}{t:Bs}{ok b tw:Bool}{w:Wo}(h:Zf g t n ok b tw w){p:Addr}(hp:g≠p.block)(v:Value):Zf g t n ok b tw (w.setCell p v):=(Below.heap_setCell w p v g hp).trans h
theorem Zf.set0{g n:Nat}{t:Bs}{ok b tw:Bool}{w:Wo}(h:Zf g t n ok b tw w)(t':Bs):Zf g t' n ok b tw (w.setCell ⟨g,0,none⟩ (.string t')):=heap_setCell_same w g 0 _ 51 (.string t') h
theorem Zf.set1{g n:Nat}{t:Bs}{ok b tw:Bool}{w:Wo}(h:Zf g t n ok b tw w)(z:Int)(n':Nat)(hz:z=(n':Int)):Zf g t n' ok b tw (w.setCell ⟨g,1,none⟩ (.int .i64 z)):=by
 subst hz;exact heap_setCell_same w g 1 _ 51 (.int .i64 (n':Int)) h
theorem Zf.set3{g n:Nat}{t:Bs}{ok b tw:Bool}{w:Wo}(h:Zf g t n ok b tw w)(b':Bool):Zf g t n ok b' tw (w.setCell ⟨g,3,none⟩ (.bool b')):=heap_setCell_same w g 3 _ 51 (.bool b') h
theorem Zf.set4{g n:Nat}{t:Bs}{ok b tw:Bool}{w:Wo}(h:Zf g t n ok b tw w)(b':Bool):Zf g t n ok b b' (w.setCell ⟨g,4,none⟩ (.bool b')):=heap_setCell_same w g 4 _ 51 (.bool b') h
theorem Zf.set2{g n:Nat}{t:Bs}{ok b tw:Bool}{w:Wo}(h:Zf g t n ok b tw w)(b':Bool):Zf g t n b' b tw (w.setCell ⟨g,2,none⟩ (.bool b')):=heap_setCell_same w g 2 _ 51 (.bool b') h
theorem Zf.put{g n:Nat}{t:Bs}{ok b tw:Bool}{w:Wo}(h:Zf g t n ok b tw w)(t':Bs)(z:Int)(n':Nat)(hz:z=(n':Int))(ok' b' tw':Bool):
  Zf g t' n' ok' b' tw' (((((w.setCell ⟨g,0,none⟩ (.string t')).setCell ⟨g,1,none⟩ (.int .i64 z)).setCell ⟨g,2,none⟩ (.bool ok')).setCell ⟨g,3,none⟩ (.bool b')).setCell ⟨g,4,none⟩ (.bool tw')):=
 ((((h.set0 t').set1 z n' hz).set2 ok').set3 b').set4 tw'
theorem Zf.copyTo{r g n n0:Nat}{t t0:Bs}{ok b tw ok0 b0 tw0:Bool}{w:Wo}(h:Zf r t0 n0 ok0 b0 tw0 w)(_:Zf g t n ok b tw w)(z:Int)(hz:z=(n:Int)):
  Zf r t n ok b tw (((((w.setCell ⟨r,0,none⟩ (.string t)).setCell ⟨r,1,none⟩ (.int .i64 z)).setCell ⟨r,2,none⟩ (.bool ok)).setCell ⟨r,3,none⟩ (.bool b)).setCell ⟨r,4,none⟩ (.bool tw)):=h.put t z n hz ok b tw
theorem YO{B g:Nat}{w w':Wo}(h:Below B w w')(hg:B<=g)(a b c d e:Value):
  Below B w (((((w'.setCell ⟨g,0,none⟩ a).setCell ⟨g,1,none⟩ b).setCell ⟨g,2,none⟩ c).setCell ⟨g,3,none⟩ d).setCell ⟨g,4,none⟩ e):=
 ((((h.setCell (p:=⟨g,0,none⟩) hg _).setCell (p:=⟨g,1,none⟩) hg _).setCell (p:=⟨g,2,none⟩) hg _).setCell (p:=⟨g,3,none⟩) hg _).setCell (p:=⟨g,4,none⟩) hg _
theorem YP{fn:Func}(hres:fn.results=#[.cell 4 51]){tmps:Array Value}{g n:Nat}{t:Bs}{ok b tw:Bool}{w:Wo}(hp:tmps.getD 4 undef= .pointer (some ⟨g,0,none⟩))(h:Zf g t n ok b tw w):
  (results fn tmps).run prog w= .ok (Qm t n ok b tw) w:=
 results_cell_row hres tmps w g 51 _ (0,0) _ hp h underlying51 rfl (by kernel_rfl)
theorem Mp:∀ a b c:Bool,(a || b)=c->a=true/\c=true∨a=false/\b=c:=by decide
def zbx(g:Nat)(a b c d e:Value)(w:Wo):Prop:=w.cell? ⟨g,0,none⟩=some a/\w.cell? ⟨g,1,none⟩=some b/\w.cell? ⟨g,2,none⟩=some c/\w.cell? ⟨g,3,none⟩=some d/\w.cell? ⟨g,4,none⟩=some e
theorem Zf.cells{g n:Nat}{t:Bs}{ok b tw:Bool}{w:Wo}(h:Zf g t n ok b tw w):zbx g (.string t) (.int .i64 (n:Int)) (.bool ok) (.bool b) (.bool tw) w:=⟨h.c0,h.c1,h.c2,h.c3,h.c4⟩
theorem Zf.fzs{g n:Nat}{t:Bs}{ok b tw:Bool}{w:Wo}(h:Zf g t n ok b tw w):w.frozen? ⟨g,0,none⟩=false/\w.frozen? ⟨g,1,none⟩=false/\w.frozen? ⟨g,2,none⟩=false/\w.frozen? ⟨g,3,none⟩=false/\w.frozen? ⟨g,4,none⟩=false:=⟨h.fz 0,h.fz 1,h.fz 2,h.fz 3,h.fz 4⟩
theorem Vs(a b:List UInt8):zh a++zh b=zh (a++b):=by
 apply Go.WideShapes.bytes_inj;rw[ByteArray.data_append,Array.toList_append,Za,Za,Za]
def zby(s:Bs):Prop:=
 (∀ (z:Int) (j:Nat) w,z=(j:Int)->Calls prog 27 #[.string s,.int .i64 z] w (Rk (.int .i64 (sk s j)) w)) /\
 (∀ (c j:Nat) w,c≠0->Calls prog 66 #[.string s,.int .i64 j,.int .u8 c] w (Rk (.bool (decide (bt s j=c))) w))
theorem PM(s:Bs)(hs:s.size<=1048576):zby s:=by
 refine⟨fun z j w hz=>?_,fun c j w hc=>?_⟩
 ·subst hz;exact Mj s j w hs
 ·have h:=Gk s (j:Int) j rfl c w;have e:Jy s j (c:Int)=decide (bt s j=c):=by
   by_cases a:j<s.size
   ·rw[Vk a,← Zq s j a];by_cases g:bt s j=c
    ·rw[g];simp
    ·rw[yk g,yd];omega
   ·rw[Ul a,Ya s j (by omega)];exact (yk (fun g=>hc g.symm)).symm
  rw[e]at h;exact h
abbrev zL:=List UInt8×List UInt8
def Zm(p:zL):List Value:=[.string (zh p.1),.string (zh p.2)]
def PR(w:Wo)(B:Nat)(v:Value)(ps:List zL):Prop:=w.ownsRow B 97 2 v ps.length (ps.flatMap Zm)
theorem Mq(ps:List zL)(j:Nat)(h:j<ps.length):(ps.flatMap Zm)[j*2]?=some (.string (zh ps[j].1))/\(ps.flatMap Zm)[j*2+1]?=some (.string (zh ps[j].2)):=by
 induction ps generalizing j with
 | nil=>simp at h
 | cons p r ih=>
  cases j with
  | zero=>exact⟨rfl,rfl⟩
  | succ j=>
   have:=ih j (by simpa using h);rw[List.flatMap_cons,show (j+1)*2=j*2+2 from by omega];exact this
theorem PR.cells{w:Wo}{B:Nat}{v:Value}{ps:List zL}(h:PR w B v ps)(j:Nat)(hj:j<ps.length):
  ∃ g cap,v= .slice (some ⟨g,0,none⟩) ps.length cap/\B<=g/\g<w.heap.size/\w.cell? ⟨g,j*2,none⟩=some (.string (zh ps[j].1))/\w.cell? ⟨g,j*2+1,none⟩=some (.string (zh ps[j].2)):=by
 obtain⟨o,m |⟨g,cap,f,l,i,b,p,n,k,d⟩⟩:=h
 ·omega
 ·have a:=Mq ps j hj;refine⟨g,cap,l,i,(yC.1 b).1,?_,?_⟩
  ·rw[yG b,← Array.getElem?_toList,← a.1,← d,List.getElem?_take_of_lt (by omega)]
  ·rw[yG b,← Array.getElem?_toList,← a.2,← d,List.getElem?_take_of_lt (by omega)]
theorem PR.below{w w':Wo}{B:Nat}{v:Value}{ps:List zL}(h:PR w B v ps)(hb:Bw w w'):PR w' B v ps:=Zd h hb
theorem PR.mono{w:Wo}{B B':Nat}{v:Value}{ps:List zL}(h:PR w B v ps)(hB:B'<=B):PR w B' v ps:=QO h hB
def VY(ps:List zL)(key:List UInt8):Bool:=(ps.map (·.1)).contains key
theorem Fm(a b:List UInt8):((zh a).toList ==(zh b).toList)=(a ==b):=by
 rw[ByteArray.toList_eq,ByteArray.toList_eq,Za,Za]
theorem PN(B:Nat)(v:Value)(ps:List zL)(key:List UInt8)(w:Wo)(h:PR w B v ps)(hn:ps.length<=40000000):
  Calls prog 115 #[v,.string (zh key)] w fun e w'=>∃ z:Int,e= .returned (.int .i64 z)/\decide ((0:Int)<=z)=VY ps key/\w=w':=by
 obtain⟨x,len,a,rfl,l⟩:∃ x len a,v= .slice x len a/\len=ps.length:=by
  rcases h.2 with ⟨p,y⟩ |⟨g,a,u,p,_⟩
  ·exact⟨_,_,_,p,y.symm⟩
  ·exact⟨_,_,_,p,rfl⟩
 subst l;have r:=ze h;clear h;go_in;go_wp2_with fail;go_loopw [5] (fun k wr=>w=wr/\∃ j:Nat,k= .int .i64 (j:Int)/\j<=ps.length/\((ps.take j).map (·.1)).contains key=false) (fun k _=>ps.length - (intOf k).toNat)
 case atStart=>exact⟨rfl,0,rfl,yu _,by simp⟩
 case round=>
  obtain⟨rfl,j,rfl,F,m⟩:=hrel;have d:=ze m;clear m;by_cases i:j<ps.length
  ·have D:((j:Int)<(ps.length:Int))=True:=eq_true (by omega);obtain⟨g,q,A,E,C,c0,c1⟩:=(uh r).cells j i;injection A with he1 he2 he3;subst he1;subst he3;have f:=Fm ps[j].1 key;by_cases b:ps[j].1=key
   ·have n:(ps[j].1 ==key)=true:=by rw[yD];exact b
    have o:Hid (VY ps key=true):=by
     show _=_
     unfold VY;rw[List.contains_iff_mem];exact yP.2 ⟨ps[j],yt _,b⟩
    rw[n]at f;clear b n;go_wp2;go_ret;exact⟨_,rfl,by rw[uh o];exact yj (by omega),rfl⟩
   ·have n:(ps[j].1 ==key)=false:=by rw[yd];exact b
    have s:Hid (((ps.take (j+1)).map (·.1)).contains key=false):=by
     show _=_
     have:=uh d;rw[yz i,yx,List.contains_append,this];simp;exact fun e=>b e.symm
    rw[n]at f;clear b n;go_wp2;go_roundw
    case rel=>exact⟨trivial,j+1,by go_num,by omega,uh s⟩
    case measure=>simp[intOf];omega
  ·have D:((j:Int)<(ps.length:Int))=False:=yR (by omega);have o:Hid (VY ps key=false):=by
    show _=_
    unfold VY;have:=uh d
    rwa [yr (by omega)]at this
   go_wp2;go_ret;exact⟨_,rfl,by rw[uh o];rfl,rfl⟩
theorem zbz{s:Bs}:∀ {i j:Nat} {l:List UInt8},qN s i=some (l,j)->l.length+4*(i+1)<=4*j:=by
 intro i;generalize hn:s.size - i=n;induction n using Nat.strongRecOn generalizing i with
 | _ n ih=>
  intro j l h;by_cases a:bt s i=34
  ·rw[Gz a]at h;injection h with h;injection h with h1 h2;subst h1;simp;omega
  ·cases hp:piece s i with
   | none=>rw[GA a hp]at h;cases h
   | some p=>
    obtain⟨r,b⟩:=p;have f:=VT hp;have d:=Kx r;rw[VV a hp]at h;rcases hq:qN s (i+b)with _ |⟨k,g⟩
    ·rw[hq]at h;cases h
    ·rw[hq]at h;injection h with h;injection h with h1 h2;have:=ih (s.size - (i+b)) (by omega) rfl hq;subst h1;simp only[yh];simp only at h2;omega
theorem KC{s:Bs}{i j:Nat}{l:List UInt8}(h:Zz s i=some (l,j)):l.length+4*(i+2)<=4*j:=by
 unfold Zz at h;split at h
 ·have:=zbz h;omega
 ·cases h
theorem GC(l:List UInt8):(quoted l).length<=6*l.length+2:=by
 have:=Dn l;unfold quoted;simp only[yp,yh,yE];omega
theorem Mr{s:Bs}{i j:Nat}{l:List UInt8}(h:nm s i=some (l,j)):l.length+i<=j:=by
 have a:=Ky h;unfold nm at h;split at h
 ·injection h with h;injection h with h1 h2;subst h1;subst h2;unfold Qk Zh;split
  ·simp;omega
  ·rw[ym,yv,Zg];omega
 ·cases h
def sumT(l:List (List UInt8×List UInt8)):Nat:=(l.map fun p=>(zz p).length+1).sum
theorem Ms(p:List UInt8×List UInt8):∀ l,sumT (qF p l)=(zz p).length+1+sumT l
 | []=>by simp[qF,sumT]
 | q :: r=>by
  have:=Ms p r;unfold qF;split
  ·simp[sumT]at *;omega
  ·simp[sumT]
theorem Mt:∀ (l acc:List (List UInt8×List UInt8)),sumT (l.foldl (fun acc p=>qF p acc) acc)=sumT l+sumT acc
 | [],acc=>by simp[sumT]
 | p :: l,acc=>by
  rw[List.foldl_cons,Mt l,Ms];simp[sumT];omega
theorem zbA(l:List (List UInt8×List UInt8)):sumT l.reverse=sumT l:=by
 unfold sumT;rw[List.map_reverse,List.sum_reverse]
theorem KE(l:List (List UInt8×List UInt8)):sumT (zJ l)=sumT l:=by
 unfold zJ;rw[zbA,Mt];simp[sumT]
theorem PO:∀ l:List (List UInt8),(joinT l).length=(l.map fun t=>t.length+1).sum
 | []=>rfl
 | t :: r=>by simp[joinT,PO r];omega
theorem Fo(l:List (List UInt8)):(joinC l).length<=(l.map fun t=>t.length+1).sum:=by
 cases l with
 | nil=>simp[joinC]
 | cons t r=>simp[joinC,PO]
theorem zbB(l:List (List UInt8×List UInt8)):(qb (zJ l)).length<=sumT l+2:=by
 have h:=Fo ((zJ l).map zz);rw[List.map_map]at h;have e:((zJ l).map ((fun t=>t.length+1)∘zz)).sum=sumT l:=by rw[← KE l];rfl
 rw[e]at h;unfold qb;simp only[yp,yh,yE];omega
theorem WC(s:Bs):∀ f i,(∀ v j,pv s f i=some (v,j)->(ct v).length<=30*(j - i))/\(∀ l j,pa s f i=some (l,j)->((zF l).map fun t=>t.length+1).sum+2<=30*(j - i))/\(∀ m j,po s f i=some (m,j)->sumT (zl m)+2<=30*(j - i))
 | 0,i=>⟨fun v j h=>by simp[pv]at h,fun v j h=>by simp[pa]at h,fun v j h=>by simp[po]at h⟩
 | f+1,i=>by
  refine⟨fun v j h=>?_,fun l j h=>?_,fun m j h=>?_⟩
  ·have hok:=(qO s (f+1) i).1 v j h;rw[pv]at h;have g:=z8 s (i+1);split at h
   ·split at h
    ·injection h with h;injection h with b h;subst b;simp[ct,zF,ZT,joinC];omega
    ·simp only[yA]at h;obtain⟨⟨l,k⟩,d,h⟩:=h;injection h with b h;have p:=(WC s f (sk s (i+1))).2.1 l k d;have r:=(qO s f (sk s (i+1))).2.1 l k d;have B:=Fo (zF l);subst b;simp only[ct,ZT,yp,yh,yE];simp only at h;omega
   ·split at h
    ·split at h
     ·injection h with h;injection h with b h;subst b;simp[ct,zl,qb,zJ,joinC];omega
     ·simp only[yA]at h;obtain⟨⟨l,k⟩,d,h⟩:=h;injection h with b h;have p:=(WC s f (sk s (i+1))).2.2 l k d;have r:=(qO s f (sk s (i+1))).2.2 l k d;have B:=zbB (zl l);subst b;simp only[ct];simp only at h;omega
    ·split at h
     ·simp only[yA]at h;obtain⟨⟨l,k⟩,d,h⟩:=h;injection h with b h;have p:=KC d;have r:=GC l;subst b;simp only[ct];simp only at h;omega
     ·split at h
      ·injection h with h;injection h with b h;subst b;simp[ct];omega
      ·split at h
       ·injection h with h;injection h with b h;subst b;simp[ct];omega
       ·split at h
        ·injection h with h;injection h with b h;subst b;simp[ct];omega
        ·simp only[yA]at h;obtain⟨⟨l,k⟩,d,h⟩:=h;injection h with b h;have p:=Mr d;subst b;simp only[ct];simp only at h;omega
  ·rw[pa]at h;simp only[Option.bind_eq_some_iff]at h;obtain⟨⟨v,k⟩,d,h⟩:=h;have p:=(qO s f i).1 v k d;have u:=(WC s f i).1 v k d;have y:=z8 s k;simp only at h;split at h
   ·injection h with h;injection h with b h;subst b;simp[zF];omega
   ·split at h
    ·simp only[yA]at h;obtain⟨⟨l,n⟩,q,h⟩:=h;injection h with b h;have r:=(qO s f _).2.1 l n q;have w:=(WC s f _).2.1 l n q;have z:=z8 s (sk s k+1);subst b;simp only[zF,yi,yM];simp only at h;omega
    ·cases h
  ·rw[po]at h;simp only[Option.bind_eq_some_iff]at h;obtain⟨⟨o,a⟩,x,h⟩:=h;have b:=JX x;have A:=KC x;have F:=GC o;simp only at h;split at h
   ·simp only[Option.bind_eq_some_iff]at h;obtain⟨⟨v,k⟩,d,h⟩:=h;have p:=(qO s f _).1 v k d;have u:=(WC s f _).1 v k d;have D:=z8 s a;have E:=z8 s (sk s a+1);have y:=z8 s k;simp only at h;split at h
    ·injection h with h;injection h with b h;subst b;simp[zl,sumT,zz];omega
    ·split at h
     ·simp only[yA]at h;obtain⟨⟨l,n⟩,q,h⟩:=h;injection h with b h;have r:=(qO s f _).2.2 l n q;have w:=(WC s f _).2.2 l n q;have z:=z8 s (sk s k+1);subst b;have e:sumT (zl (.cons o v l))=(zz (o,ct v)).length+1+sumT (zl l):=by simp[zl,sumT]
      have C:(zz (o,ct v)).length=(quoted o).length+1+(ct v).length:=by simp[zz];omega
      simp only at h ⊢;omega
     ·cases h
   ·cases h
theorem Fp{s:Bs}{i j:Nat}{v:JV}(h:val s i=some (v,j)):(ct v).length<=30*(j - i):=(WC s _ i).1 v j h
def Y4:Nat->Nat->List UInt8
 | 0,_=>[]
 | f+1,n=>if n<10 then [UInt8.ofNat (48+n)]else Y4 f (n / 10)++[UInt8.ofNat (48+n % 10)]
def zM(n:Nat):List UInt8:=Y4 (n+1) n
theorem Mu:∀ (f g n:Nat),n<f->n<g->Y4 f n=Y4 g n
 | 0,_,_,h,_=>by omega
 | _+1,0,_,_,h=>by omega
 | f+1,g+1,n,hf,hg=>by
  rw[Y4,Y4];by_cases h:n<10
  ·rw[yg h,yg h]
  ·rw[yf h,yf h,Mu f g (n / 10) (by omega) (by omega)]
theorem Jb{n:Nat}(h:n<10):zM n=[UInt8.ofNat (48+n)]:=by unfold zM;rw[Y4,yg h]
theorem GD{n:Nat}(h:¬ n<10):zM n=zM (n / 10)++zM (n % 10):=by
 rw[Jb (n:=n % 10) (by omega)];unfold zM;rw[Y4,yf h,Mu n (n / 10+1) (n / 10) (by omega) (by omega)]
theorem Fq:∀ n:Nat,(zM n).length<=n+1:=fun n=>by
 have:∀ f n,(Y4 f n).length<=f:=by
  intro f;induction f with
  | zero=>intro n;simp[Y4]
  | succ f ih=>
   intro n;rw[Y4];split
   ·simp
   ·have:=ih (n / 10);simp;omega
 exact this (n+1) n
theorem UI:∀ (b n:Nat) (w:Wo),n<=b->n<=1000000000->Calls prog 119 #[.int .i64 (n:Int)] w fun e w'=>e= .returned (.string (zh (zM n)))/\Bw w w':=by
 intro b;induction b with
 | zero=>
  intro n w m _;obtain rfl:n=0:=by omega
  have a:=Wk w (zM 0) #[.int .u8 48] 1 rfl rfl;generalize zM 0=u at *;go_in;go_wp2;go_ret;exact⟨rfl,(yI _ _).alloc (ye _) _⟩
 | succ b ih=>
  intro n w m p;by_cases h:n<10
  ·have a:=Wk w (zM n) #[.int .u8 (48+(n:Int))] 1 (by rw[Jb h];rfl) (by rw[Jb h];simp[Lib.byteCells];omega);have l:(n:Int)<10:=by omega
   generalize zM n=u at *;clear ih;go_in;go_wp2;go_ret;exact⟨rfl,(yI _ _).alloc (ye _) _⟩
  ·have l:¬ (n:Int)<10:=by omega
   have o:(n:Int) / 10=((n / 10:Nat):Int):=by omega
   have s:(n:Int) % 10=((n % 10:Nat):Int):=by omega
   have d:Hid (∀ w,Calls prog 119 #[.int .i64 ((n / 10:Nat):Int)] w (Rb (.string (zh (zM (n / 10)))) w)):=fun w=>ih (n / 10) w (by omega) (by omega);have f:Hid (∀ w,Calls prog 119 #[.int .i64 ((n % 10:Nat):Int)] w (Rb (.string (zh (zM (n % 10)))) w)):=fun w=>ih (n % 10) w (by omega) (by omega);have i:Hid (zh (zM (n / 10))++zh (zM (n % 10))=zh (zM n)):=by show _=_;rw[Vs,← GD h]
   have A:(zh (zM (n / 10))).size<=1000000001:=by rw[zN];have:=Fq (n / 10);omega
   have B:(zh (zM (n % 10))).size<=1000000001:=by rw[zN];have:=Fq (n % 10);omega
   have C:(9223372036854775807<(zh (zM (n / 10))).size+(zh (zM (n % 10))).size)=False:=yR (by omega);generalize zh (zM n)=u at *;generalize zh (zM (n / 10))=v at *;generalize zh (zM (n % 10))=x at *;generalize n / 10=q at *;generalize n % 10=r at *;clear ih h;go_in;go_wp2_with fail;refine (uh d _).mono ?_;rintro e y ⟨rfl,j⟩;go_wp2_with fail;refine (uh f _).mono ?_;rintro e z ⟨rfl,k⟩;have g:=zi j k;clear d f;go_wp2;go_ret;exact⟨by rw[← uh i];rfl,g⟩
theorem PQ(p:List UInt8×List UInt8):∀ l,(qF p l).Perm (p :: l)
 | []=>List.Perm.refl _
 | q :: r=>by
  unfold qF;split
  ·exact ((PQ p r).cons q).trans (List.Perm.swap p q r)
  ·exact List.Perm.refl _
theorem Mv:∀ (l acc:List (List UInt8×List UInt8)),(l.foldl (fun acc p=>qF p acc) acc).Perm (l++acc)
 | [],acc=>List.Perm.refl _
 | p :: l,acc=>by
  rw[List.foldl_cons];exact (Mv l _).trans (((PQ p acc).append_left l).trans (List.perm_middle))
theorem qw(l:List (List UInt8×List UInt8)):(zJ l).Perm l:=by
 unfold zJ;have:=Mv l [];rw[yT]at this;exact (List.reverse_perm _).trans this
theorem Mw(p:List UInt8×List UInt8):∀ l,l.Pairwise (fun a b=>b.1<=a.1)->(qF p l).Pairwise (fun a b=>b.1<=a.1)
 | [],_=>by simp[qF]
 | q :: r,h=>by
  rw[List.pairwise_cons]at h;unfold qF;split
  ·rename_i hlt;rw[List.pairwise_cons];refine⟨fun a ha=>?_,Mw p r h.2⟩;rcases List.mem_cons.1 ((PQ p r).subset ha)with rfl | ha
   ·exact List.le_of_lt hlt
   ·exact h.1 a ha
  ·rename_i hlt;have hqp:q.1<=p.1:=List.not_lt.1 hlt;rw[List.pairwise_cons,List.pairwise_cons];refine⟨fun a ha=>?_,h⟩;rcases List.mem_cons.1 ha with rfl | ha
   ·exact hqp
   ·exact List.le_trans (h.1 a ha) hqp
theorem Mx:∀ (l acc:List (List UInt8×List UInt8)),acc.Pairwise (fun a b=>b.1<=a.1)->(l.foldl (fun acc p=>qF p acc) acc).Pairwise (fun a b=>b.1<=a.1)
 | [],acc,h=>h
 | p :: l,acc,h=>by rw[List.foldl_cons];exact Mx l _ (Mw p acc h)
theorem UJ(l:List (List UInt8×List UInt8)):(zJ l).Pairwise (fun a b=>a.1<=b.1):=by
 unfold zJ;rw[List.pairwise_reverse];exact Mx l [] List.Pairwise.nil
theorem My{l:List (List UInt8×List UInt8)}{ss:List (List UInt8)}(h:ss.Perm (l.map (·.1))):ss.mergeSort (fun x y=>decide (x<=y))=(zJ l).map (·.1):=by
 have d:∀ a b c:List UInt8,decide (a<=b)=true->decide (b<=c)=true->decide (a<=c)=true:=fun a b c h1 h2=>by simp only[decide_eq_true_eq]at *;exact List.le_trans h1 h2
 have f:∀ a b:List UInt8,(decide (a<=b) || decide (b<=a))=true:=fun a b=>by simp only[Bool.or_eq_true,decide_eq_true_eq];exact List.le_total a b
 refine List.Perm.eq_of_pairwise (le:=fun a b=>decide (a<=b)=true) (fun a b _ _ h1 h2=>?_) (List.pairwise_mergeSort d f ss) ?_ (((List.mergeSort_perm _ _).trans h).trans ((qw l).map _).symm)
 ·simp only[decide_eq_true_eq]at h1 h2;exact List.le_antisymm h1 h2
 ·rw[List.pairwise_map];exact (UJ l).imp fun h=>by simpa using h
def JM.toL:JM->List (List UInt8×JV)
 | .nil=>[]
 | .cons k v r=>(k,v) :: r.toL
theorem qh:∀ m:JM,zl m=m.toL.map fun p=>(p.1,ct p.2)
 | .nil=>rfl
 | .cons k v r=>by rw[zl,JM.toL,yi,qh r]
theorem Qs:∀ m:JM,Ql m=m.toL.map (·.1)
 | .nil=>rfl
 | .cons k v r=>by rw[Ql,JM.toL,yi,Qs r]
theorem WD:∀ (m:JM) (ks:List (List UInt8)),ZW ks m=false->(Ql m).Nodup/\∀ k∈Ql m,k ∉ ks
 | .nil,ks,_=>⟨List.nodup_nil,fun k hk=>by simp[Ql]at hk⟩
 | .cons k v r,ks,h=>by
  rw[ZW]at h;simp only[Bool.or_eq_false_iff]at h;obtain⟨⟨_,h1⟩,h2⟩:=h;obtain⟨g,f⟩:=WD r (ks++[k]) h2;rw[Ql,List.nodup_cons];refine⟨⟨fun hk=>f k hk (by simp),g⟩,fun a b=>?_⟩;rcases List.mem_cons.1 b with rfl | b
  ·intro d;rw[List.contains_eq_mem,decide_eq_false_iff_not]at h1;exact h1 d
  ·intro d;exact f a b (List.mem_append_left _ d)
theorem zbC(s:Bs)(w:Wo)(hs:s.size<=1048576):
  Calls prog 152 #[.string s] w fun e w'=>e= .returned (.bool (Lib.validD s.data.toList))/\Bw w w':=by
 go_in;go_wp2;go_loopw [3] (fun i wr=>∃ j:Nat,j<=s.size/\i= .int .i64 j/\Lib.validD s.data.toList=Lib.validD (s.data.toList.drop j)/\Bw w wr) (fun i _=>s.size - (intOf i).toNat)
 case atStart=>exact⟨0,yu _,rfl,by simp,yI _ _⟩
 case round=>
  obtain⟨j,p,rfl,m,g⟩:=hrel;have k:=ze m;clear m;by_cases a:j<s.size
  ·have HC:=ze (L7 s j wr a hs);have l:=Wy s j a;by_cases f:rl s j=0
   ·have b:Hid (Lib.validD s.data.toList=false):=by have e:=uh k;show _=_;rw[e,Pt s j a f]
    rw[f]at HC;clear f l;go_wp2_with fail;refine (uh HC).mono ?_;rintro e o ⟨rfl,d⟩;have h:=zi g d;go_wp2;go_ret;exact⟨by rw[uh b];rfl,h⟩
   ·have b:Hid (Lib.validD s.data.toList=Lib.validD (s.data.toList.drop (j+rl s j))):=by have e:=uh k;show _=_;rw[e,Fe s j a f]
    generalize rl s j=n at *;have q:((n:Int) ==0)=false:=by rw[yd];omega
    go_wp2_with fail;refine (uh HC).mono ?_;rintro e o ⟨rfl,d⟩;have h:=zi g d;clear HC d g;go_wp2;go_roundw
    case rel=>exact⟨j+n,by omega,by go_num,uh b,h⟩
    case measure=>simp[intOf];omega
  ·have b:Hid (Lib.validD s.data.toList=true):=by
    have e:=uh k;show _=_;rw[e,Ue s j a];rfl
   go_wp2;go_ret;exact⟨by rw[uh b];rfl,g⟩
theorem JD(s:Bs)(i k:Nat):bt s (i+k)=((s.data.toList.drop i).getD k 0).toNat:=by
 unfold bt;rw[List.getD_eq_getElem?_getD,List.getD_eq_getElem?_getD,List.getElem?_drop]
theorem PS{s:Bs}{i:Nat}{m:List UInt8}(h:s.data.toList.drop i=m)(hm:m≠[]):s.size=i+m.length:=by
 have a:(s.data.toList.drop i).length=m.length:=by rw[h]
 have b:0<m.length:=List.length_pos_iff.2 hm;rw[yv,Zg]at a;omega
theorem Mz:∀ k:Fin 16,hx (Jx.getD k.val 0).toNat=some k.val:=by decide
theorem PT{r:Nat}(h:r<128):enc r=[UInt8.ofNat r]:=by
 unfold enc;rw[← Fh (by omega) (by omega)];unfold ZI qj;rw[yg h];rfl
theorem WE{T:Bs}{i:Nat}{c x:UInt8}{m:List UInt8}(hq:qB c=[92,x])(hs:Jt x.toNat=some c.toNat)(h:T.data.toList.drop i=qB c++m):
  bt T i≠34/\piece T i=some (c.toNat,(qB c).length):=by
 have a:=JD T i 0;have b:=JD T i 1;rw[h,hq]at a b;change bt T i=92 at a;change bt T (i+1)=x.toNat at b;refine⟨by omega,?_⟩;unfold piece;rw[yg a,Vp b hs,hq];rfl
theorem zbD{T:Bs}{i:Nat}{c:UInt8}{m:List UInt8}(hc:Uk c.toNat)(h:T.data.toList.drop i=qB c++m):
  bt T i≠34/\piece T i=some (c.toNat,(qB c).length):=by
 have n:=Nj hc;have q:=hc.1;have o:=Mz ⟨c.toNat / 16,by omega⟩;have p:=Mz ⟨c.toNat % 16,by omega⟩;simp only at o p;generalize Jx.getD (c.toNat / 16) 0=a at *;generalize Jx.getD (c.toNat % 16) 0=b at *;have d:=JD T i 0;have f:=JD T i 1;have g:=JD T i 2;have j:=JD T i 3;have k:=JD T i 4;have l:=JD T i 5;rw[h,n]at d f g j k l;change bt T i=92 at d;change bt T (i+1)=117 at f;change bt T (i+2)=48 at g;change bt T (i+3)=48 at j;change bt T (i+4)=a.toNat at k;change bt T (i+5)=b.toNat at l;have e:qW T (i+2) 4=some ((((0*16+0)*16+0)*16+c.toNat / 16)*16+c.toNat % 16):=by
  refine UB (UB (UB (UB rfl ?_) ?_) ?_) ?_
  ·show hx (bt T (i+2))=_
   rw[g];rfl
  ·show hx (bt T (i+3))=_
   rw[j];rfl
  ·show hx (bt T (i+4))=_
   rw[k];exact o
  ·show hx (bt T (i+5))=_
   rw[l];exact p
 refine⟨by omega,?_⟩;unfold piece;rw[yg d,Mg d f,e,n];show q8 T i _=_
 unfold q8;rw[yg (by omega)];congr 2;omega
theorem zbE{T:Bs}{i:Nat}{c:UInt8}{m:List UInt8}(hc:c.toNat<128)(h:T.data.toList.drop i=qB c++m):
  bt T i≠34/\piece T i=some (c.toNat,(qB c).length):=by
 by_cases b:c.toNat=34
 ·exact WE (Uj (by omega)) (by rw[b];rfl) h
 by_cases d:c.toNat=92
 ·exact WE (Uj (by omega)) (by rw[d];rfl) h
 by_cases f:c.toNat=8
 ·exact WE (Nd (by omega)) (by rw[f];rfl) h
 by_cases g:c.toNat=9
 ·exact WE (Nf (by omega)) (by rw[g];rfl) h
 by_cases j:c.toNat=10
 ·exact WE (Ng (by omega)) (by rw[j];rfl) h
 by_cases k:c.toNat=12
 ·exact WE (Nh (by omega)) (by rw[k];rfl) h
 by_cases l:c.toNat=13
 ·exact WE (Ni (by omega)) (by rw[l];rfl) h
 by_cases o:c.toNat<32
 ·exact zbD ⟨o,f,g,j,k,l⟩ h
 have n:=XI b d (by omega);have a:=JD T i 0;rw[h,n]at a;change bt T i=c.toNat at a;refine⟨by omega,?_⟩;unfold piece;rw[yf (by omega),yf (by omega),yg (by omega),a,n];rfl
theorem MA(l:List UInt8)(n k:Nat)(m:List UInt8)(h:k<n)(hn:n<=l.length):(l.take n++m).getD k 0=l.getD k 0:=by
 rw[List.getD_eq_getElem?_getD,List.getD_eq_getElem?_getD,List.getElem?_append_left (by rw[ym];omega),List.getElem?_take_of_lt h]
theorem MB{s T:Bs}{i j:Nat}{m:List UInt8}(hi:i<s.size)(h8:¬ s[i].toNat<128)(hr:¬ rl s i=0)(h:T.data.toList.drop j=(s.data.toList.drop i).take (rl s i)++m):rl T j=rl s i:=by
 have y:=Wy s i hi;have d:(s.data.toList.drop i).length=s.size - i:=by rw[yv,Zg]
 have f:∀ k,k<rl s i->bt T (j+k)=bt s (i+k):=fun k hk=>by
  rw[JD,JD,h,MA _ _ _ _ hk (by omega)]
 have B:rl s i<=T.size - j:=by
  have u:=PS h (by
   intro e;have:=congrArg List.length e;rw[yh,ym,d]at this;simp at this;omega)
  rw[yh,ym,d]at u;omega
 have x:=Zq s i hi;have l:192<=bt s i:=by
  rcases Nat.lt_or_ge (bt s i) 192 with g | g
  ·exact absurd (show rl s i=0 by unfold rl;rw[Na (by omega) g]) hr
  ·exact g
 have a:=f 0 (by omega);rw[Nat.add_zero,Nat.add_zero]at a;have p:=qi s (i+1);have r:=qi s (i+2);have z:=qi s (i+3);by_cases v:bt s i<224
 ·have e:=Uf (n:=s.size - i) (b0:=bt s i) (b1:=bt s (i+1)) (b2:=bt s (i+2)) (b3:=bt s (i+3)) l v p;have b:=Uf (n:=T.size - j) (b0:=bt T j) (b1:=bt T (j+1)) (b2:=bt T (j+2)) (b3:=bt T (j+3)) (by omega) (by omega) (qi _ _);change rl s i=_ at e;change rl T j=_ at b;split at e
  ·rename_i hc;have o:=f 1 (by omega);rw[b,e,yg (by rw[a,o];omega)]
  ·omega
 by_cases w:bt s i<240
 ·have e:=Ug (n:=s.size - i) (b0:=bt s i) (b1:=bt s (i+1)) (b2:=bt s (i+2)) (b3:=bt s (i+3)) (by omega) w p r;have b:=Ug (n:=T.size - j) (b0:=bt T j) (b1:=bt T (j+1)) (b2:=bt T (j+2)) (b3:=bt T (j+3)) (by omega) (by omega) (qi _ _) (qi _ _);change rl s i=_ at e;change rl T j=_ at b;split at e
  ·rename_i hc;have o:=f 1 (by omega);have q:=f 2 (by omega);rw[b,e,yg (by rw[a,o,q];omega)]
  ·omega
 ·have e:=Uh (n:=s.size - i) (b0:=bt s i) (b1:=bt s (i+1)) (b2:=bt s (i+2)) (b3:=bt s (i+3)) (by omega) (qi _ _) p r z;have b:=Uh (n:=T.size - j) (b0:=bt T j) (b1:=bt T (j+1)) (b2:=bt T (j+2)) (b3:=bt T (j+3)) (by omega) (qi _ _) (qi _ _) (qi _ _) (qi _ _);change rl s i=_ at e;change rl T j=_ at b;split at e
  ·rename_i hc;have o:=f 1 (by omega);have q:=f 2 (by omega);have A:=f 3 (by omega);rw[b,e,yg (by rw[a,o,q,A];omega)]
  ·omega
theorem Jc{l m n:List UInt8}{j:Nat}(h:l.drop j=m++n):l.drop (j+m.length)=n:=by
 rw[← List.drop_drop,h,List.drop_left]
theorem Vt(a l:List UInt8)(k:Nat)(h:k<a.length):bt (zh (a++l)) k=(a.getD k 0).toNat:=by
 unfold bt;rw[Za];simp only[List.getD];rw[List.getElem?_append_left h]
theorem Yr{n:Nat}(h:n<256):(UInt8.ofNat n).toNat=n:=by rw[UInt8.toNat_ofNat'];omega
theorem zbF(r:Nat)(h:r<=1114111)(h':r<55296∨57344<=r)(l:List UInt8):rl (zh (ZI r++l)) 0=(ZI r).length/\0<(ZI r).length:=by
 have k:(zh (ZI r++l)).size - 0=(ZI r).length+l.length:=by rw[zN,yh];omega
 unfold rl;rw[k];by_cases d:r<128
 ·have e:ZI r=[UInt8.ofNat r]:=by unfold ZI qj;rw[yg d];rfl
  rw[e];refine⟨?_,by simp⟩;rw[Vt _ _ 0 (by simp),XH]
  ·rfl
  ·show (UInt8.ofNat r).toNat<128
   rw[Yr (by omega)];exact d
 ·by_cases g:r<2048
  ·have e:ZI r=[UInt8.ofNat (192+r / 64),UInt8.ofNat (128+r % 64)]:=by unfold ZI qj;rw[yf d,yg g];rfl
   rw[e];refine⟨?_,by simp⟩;rw[Vt _ _ 0 (by simp),Vt _ _ (0+1) (by simp)];have a:([UInt8.ofNat (192+r / 64),UInt8.ofNat (128+r % 64)].getD 0 0).toNat=192+r / 64:=Yr (by omega);have b:([UInt8.ofNat (192+r / 64),UInt8.ofNat (128+r % 64)].getD (0+1) 0).toNat=128+r % 64:=Yr (by omega);rw[a,b,Uf (by omega) (by omega) (by omega),yg (by simp only[yp,yE];omega)];rfl
  ·by_cases i:r<65536
   ·have e:ZI r=[UInt8.ofNat (224+r / 4096),UInt8.ofNat (128+r / 64 % 64),UInt8.ofNat (128+r % 64)]:=by unfold ZI qj;rw[yf d,yf g,yg i];rfl
    rw[e];refine⟨?_,by simp⟩;rw[Vt _ _ 0 (by simp),Vt _ _ (0+1) (by simp),Vt _ _ (0+2) (by simp)];have a:([UInt8.ofNat (224+r / 4096),UInt8.ofNat (128+r / 64 % 64),UInt8.ofNat (128+r % 64)].getD 0 0).toNat=224+r / 4096:=Yr (by omega);have b:([UInt8.ofNat (224+r / 4096),UInt8.ofNat (128+r / 64 % 64),UInt8.ofNat (128+r % 64)].getD (0+1) 0).toNat=128+r / 64 % 64:=Yr (by omega);have f:([UInt8.ofNat (224+r / 4096),UInt8.ofNat (128+r / 64 % 64),UInt8.ofNat (128+r % 64)].getD (0+2) 0).toNat=128+r % 64:=Yr (by omega);rw[a,b,f,Ug (by omega) (by omega) (by omega) (by omega),yg (by simp only[yp,yE];omega)];rfl
   ·have e:ZI r=[UInt8.ofNat (240+r / 262144),UInt8.ofNat (128+r / 4096 % 64),UInt8.ofNat (128+r / 64 % 64),UInt8.ofNat (128+r % 64)]:=by unfold ZI qj;rw[yf d,yf g,yf i];rfl
    rw[e];refine⟨?_,by simp⟩;rw[Vt _ _ 0 (by simp),Vt _ _ (0+1) (by simp),Vt _ _ (0+2) (by simp),Vt _ _ (0+3) (by simp)];have a:([UInt8.ofNat (240+r / 262144),UInt8.ofNat (128+r / 4096 % 64),UInt8.ofNat (128+r / 64 % 64),UInt8.ofNat (128+r % 64)].getD 0 0).toNat=240+r / 262144:=Yr (by omega);have b:([UInt8.ofNat (240+r / 262144),UInt8.ofNat (128+r / 4096 % 64),UInt8.ofNat (128+r / 64 % 64),UInt8.ofNat (128+r % 64)].getD (0+1) 0).toNat=128+r / 4096 % 64:=Yr (by omega);have f:([UInt8.ofNat (240+r / 262144),UInt8.ofNat (128+r / 4096 % 64),UInt8.ofNat (128+r / 64 % 64),UInt8.ofNat (128+r % 64)].getD (0+2) 0).toNat=128+r / 64 % 64:=Yr (by omega);have j:([UInt8.ofNat (240+r / 262144),UInt8.ofNat (128+r / 4096 % 64),UInt8.ofNat (128+r / 64 % 64),UInt8.ofNat (128+r % 64)].getD (0+3) 0).toNat=128+r % 64:=Yr (by omega);rw[a,b,f,j,Uh (by omega) (by omega) (by omega) (by omega) (by omega),yg (by simp only[yp,yE];omega)];rfl
theorem MC{a l:List UInt8}(h0:0<a.length)(h:rl (zh (a++l)) 0=a.length):Lib.validD (a++l)=Lib.validD l:=by
 have:=Fe (zh (a++l)) 0 (by rw[zN,yh];omega) (by rw[h];omega);rw[Za,h,Nat.zero_add,List.drop_zero,List.drop_left]at this;exact this
theorem zbG{s:Bs}{i r n:Nat}(h:piece s i=some (r,n))(l:List UInt8):Lib.validD (enc r++l)=Lib.validD l:=by
 have fin:r<=1114111->(r<55296∨57344<=r)->Lib.validD (enc r++l)=Lib.validD l:=fun h1 h2=>by
  have e:enc r=ZI r:=(Fh h1 h2).symm;rw[e];obtain⟨a,b⟩:=zbF r h1 h2 l;exact MC b a
 unfold piece at h;split at h
 ·have:=Md h;exact fin this.2.2.1 this.2.2.2
 ·split at h
  ·cases h
  ·have g:i<s.size:=Zb (by omega);split at h
   ·injection h with h;injection h with h1 h2;exact fin (by omega) (by omega)
   ·rename_i h8;split at h
    ·cases h
    ·rename_i hr;injection h with h;injection h with h1 h2;have d:¬ s[i].toNat<128:=by rw[← Zq s i g];exact h8
     obtain⟨j,o,p,q⟩:=Gy s i g hr d;have e:enc r=(s.data.toList.drop i).take (rl s i):=by unfold enc;rw[← h1];exact j
     have k:=Wy s i g;have f:((s.data.toList.drop i).take (rl s i)).length=rl s i:=by rw[ym,yv,Zg];omega
     rw[e];refine MC (by omega) ?_;rw[f];exact MB (m:=l) g d hr (by rw[Za,List.drop_zero])
theorem zbH{s:Bs}:∀ {i j:Nat} {l:List UInt8},qN s i=some (l,j)->Lib.validD l=true:=by
 intro i;generalize hn:s.size - i=n;induction n using Nat.strongRecOn generalizing i with
 | _ n ih=>
  intro j l h;by_cases a:bt s i=34
  ·rw[Gz a]at h;injection h with h;injection h with h1 h2;subst h1;rfl
  ·cases hp:piece s i with
   | none=>rw[GA a hp]at h;cases h
   | some p=>
    obtain⟨r,b⟩:=p;have d:=VT hp;rw[VV a hp]at h;rcases hq:qN s (i+b)with _ |⟨g,f⟩
    ·rw[hq]at h;cases h
    ·rw[hq]at h;injection h with h;injection h with h1 h2;simp only at h1;rw[← h1,zbG hp];exact ih (s.size - (i+b)) (by omega) rfl hq
theorem Fs{s:Bs}{i j:Nat}{l:List UInt8}(h:Zz s i=some (l,j)):Lib.validD l=true:=by
 unfold Zz at h;split at h
 ·exact zbH h
 ·cases h
theorem zbI{s:Bs}{i:Nat}{m:List UInt8}(h:s.data.toList.drop i=m)(hm:m≠[]):i<s.size:=by
 have:=PS h hm;have:0<m.length:=by cases m with
  | nil=>exact absurd rfl hm
  | cons _ _=>simp
 omega
theorem PU(s T:Bs)(m:List UInt8):∀ (f pos:Nat),s.size<=pos+f->Lib.validD (s.data.toList.drop pos)=true->∀ j,T.data.toList.drop j=qs (s.data.toList.drop pos)++34 :: m->qN T j=some (s.data.toList.drop pos,j+(qs (s.data.toList.drop pos)).length+1)
 | f,pos,h,hv,j,hj=>by
  by_cases hp:pos<s.size
  ·cases f with
   | zero=>omega
   | succ f=>
    have hr:¬ rl s pos=0:=fun e=>by rw[Pt s pos hp e]at hv;cases hv
    have g:=hv;rw[Fe s pos hp hr]at g;by_cases k:s[pos].toNat<128
    ·have u:rl s pos=1:=by unfold rl;rw[XH (by rw[Zq s pos hp];exact k)]
     rw[u]at g;have i:T.data.toList.drop j=qB s[pos]++(qs (s.data.toList.drop (pos+1))++34 :: m):=by
      rw[hj,Qw s pos hp];simp[qs]
     obtain⟨p1,C⟩:=zbE k i;have q:=PU s T m f (pos+1) (by omega) g (j+(qB s[pos]).length) (Jc i);rw[VV p1 C,q,PT k,show UInt8.ofNat s[pos].toNat=s[pos]from UInt8.ofNat_toNat,Qw s pos hp];have v:(qs (s[pos] :: s.data.toList.drop (pos+1))).length=(qB s[pos]).length+(qs (s.data.toList.drop (pos+1))).length:=by simp[qs]
     rw[v];simp only[Option.map_some,Option.some.injEq,Prod.mk.injEq];exact⟨rfl,by omega⟩
    ·obtain⟨D,w,E,F⟩:=Gy s pos hp hr k;have a:=(List.take_append_drop (rl s pos) (s.data.toList.drop pos)).symm;rw[List.drop_drop]at a;have n:qs (s.data.toList.drop pos)=(s.data.toList.drop pos).take (rl s pos)++qs (s.data.toList.drop (pos+rl s pos)):=by
      conv=>lhs;rw[a]
      rw[Nc,Nk _ w]
     have i:T.data.toList.drop j=(s.data.toList.drop pos).take (rl s pos)++(qs (s.data.toList.drop (pos+rl s pos))++34 :: m):=by
      rw[hj,n,List.append_assoc]
     have A:=Wy s pos hp;have b:((s.data.toList.drop pos).take (rl s pos)).length=rl s pos:=by rw[ym,yv,Zg];omega
     have d:=MB hp k hr i;have q:=PU s T m f (pos+rl s pos) (by omega) g (j+rl s pos) (by have:=Jc i;rwa [b]at this);have l:j<T.size:=by
      have:=PS i (by intro e;have:=congrArg List.length e;rw[yh,b,yE]at this;omega);rw[yh,b]at this;omega
     have o:bt T j=bt s pos:=by
      have x:=JD T j 0;have y:=JD s pos 0;rw[Nat.add_zero]at x y;rw[x,y,i,MA _ _ _ _ (by omega) (by rw[yv,Zg];omega)]
     have z:=Zq s pos hp;have r:¬ T[j].toNat<128:=by rw[← Zq T j l];omega
     obtain⟨B,G,H,I⟩:=Gy T j l (by rw[d];exact hr) r;have p:piece T j=some ((Utf8.decode T j).1,rl s pos):=by
      unfold piece;rw[yf (by omega),yf (by omega),yf (by omega),yf (by rw[d];exact hr),d]
     rw[VV (by omega) p,q];unfold enc;rw[B,i,d,n];simp only[Option.map_some,Option.some.injEq,Prod.mk.injEq];refine⟨?_,by rw[yh,b];omega⟩
     conv=>rhs;rw[a]
     rw[List.take_append_of_le_length (by omega),yr (by omega)]
  ·rw[Ue s pos hp]at hj ⊢;have o:=JD T j 0;rw[hj]at o;change bt T j=34 at o;rw[Gz o];rfl
theorem VZ(l:List UInt8)(T:Bs)(m:List UInt8)(hv:Lib.validD l=true)(j:Nat)(hj:T.data.toList.drop j=quoted l++m):Zz T j=some (l,j+(quoted l).length):=by
 have a:T.data.toList.drop j=34 ::(qs l++34 :: m):=by rw[hj];simp[quoted]
 have b:bt T j=34:=by have:=JD T j 0;rw[a]at this;exact this
 have h:=PU (zh l) T m l.length 0 (by rw[zN];omega) (by rw[Za];exact hv) (j+1) (by
  have:=Jc (m:=[34]) (n:=qs l++34 :: m) a;rw[Za];exact this)
 rw[Za,List.drop_zero]at h;unfold Zz;rw[yg b,h];have e:(quoted l).length=(qs l).length+2:=by simp[quoted]
 rw[e];congr 2;omega
mutual
def zD:JV->Prop
 | .nul=>True
 | .tt=>True
 | .ff=>True
 | .num l=>∃ (c:UInt8) (r:List UInt8),l=c :: r/\(c.toNat=45∨zP c.toNat=true)/\∀ b∈r,zP b.toNat=true
 | .str l=>Lib.validD l=true
 | .arr l=>qJ l
 | .obj m=>qG m
def qJ:JL->Prop
 | .nil=>True
 | .cons v r=>zD v/\qJ r
def qG:JM->Prop
 | .nil=>True
 | .cons k v r=>Lib.validD k=true/\zD v/\qG r
end
theorem MD(s:Bs):∀ f i k,i<=k->k<Vq s f i->zP (bt s k)=true
 | 0,i,k,h1,h2=>by simp[Vq]at h2;omega
 | f+1,i,k,h1,h2=>by
  rw[Vq]at h2;split at h2
  ·rename_i hd;by_cases e:k=i
   ·subst e;exact hd
   ·exact MD s f (i+1) k (by omega) h2
  ·omega
theorem ME{s:Bs}{i k:Nat}(h1:i<=k)(h2:k<dg s i):zP (bt s k)=true:=MD s _ i k h1 h2
theorem MF{s:Bs}{i j:Nat}{c:UInt8}(h:c∈Zh s i j):∃ k,i<=k/\k<j/\c.toNat=bt s k:=by
 unfold Zh at h;obtain⟨n,a,rfl⟩:=List.getElem_of_mem h;rw[ym,yv]at a;refine⟨i+n,by omega,by omega,?_⟩;unfold bt;rw[Zg]at a;have b:i+n<s.data.size:=by show i+n<s.size;omega
 simp only[List.getD,List.getElem_take,List.getElem_drop,Array.getElem_toList,Array.getElem?_toList];rw[Array.getElem?_eq_getElem b];rfl
theorem PV{s:Bs}{i j:Nat}(h:i<j)(hi:i<s.size):Zh s i j=s.data.toList.getD i 0 :: Zh s (i+1) j:=by
 unfold Zh;rw[Qw s i hi,show j - i=(j - (i+1))+1 by omega,List.take_succ_cons];congr 1;rw[List.getD,yy (by rw[Zg];exact hi)];rfl
theorem zbJ{s:Bs}{i j:Nat}{l:List UInt8}(h:nm s i=some (l,j)):∃ (c:UInt8) (r:List UInt8),l=c :: r/\(c.toNat=45∨zP c.toNat=true)/\∀ b∈r,zP b.toNat=true:=by
 have o:=Ky h;unfold nm at h;split at h
 ·rename_i hd;injection h with h;injection h with h1 h2;have n:zW s i<s.size:=Zb (by have:=Qx.1 hd;omega);have m:i<=zW s i:=by unfold zW;split<;>omega
  have f:∀ k,zW s i<=k->k<qr s i->zP (bt s k)=true:=fun k h1 h2=>by
   unfold qr at h2;split at h2
   ·have:k=zW s i:=by omega
    rw[this];exact hd
   ·exact ME h1 h2
  have g:∃ (c:UInt8) (r:List UInt8),Zh s i (qr s i)=c :: r/\(c.toNat=45∨zP c.toNat=true)/\∀ b∈r,zP b.toNat=true:=by
   refine⟨_,_,PV (by omega) (by omega),?_,fun b hb=>?_⟩
   ·by_cases d:bt s i=45
    ·exact .inl d
    ·right;have e:zW s i=i:=by unfold zW;rw[yf d]
     rw[e]at hd;exact hd
   ·obtain⟨k,u,p,q⟩:=MF hb;rw[q];refine f k ?_ p;unfold zW;split<;>omega
  unfold Qk at h1;split at h1
  ·exact⟨48,[],h1.symm,.inr rfl,fun b hb=>by simp at hb⟩
  ·obtain⟨c,r,e,a,b⟩:=g;exact⟨c,r,by rw[← h1,e],a,b⟩
 ·cases h
theorem WF(s:Bs):∀ f i,(∀ v j,pv s f i=some (v,j)->zD v)/\(∀ l j,pa s f i=some (l,j)->qJ l)/\(∀ m j,po s f i=some (m,j)->qG m)
 | 0,i=>⟨fun v j h=>by simp[pv]at h,fun v j h=>by simp[pa]at h,fun v j h=>by simp[po]at h⟩
 | f+1,i=>by
  refine⟨fun v j h=>?_,fun l j h=>?_,fun m j h=>?_⟩
  ·rw[pv]at h;split at h
   ·split at h
    ·injection h with h;injection h with hv h;subst hv;rw[zD,qJ];trivial
    ·simp only[yA]at h;obtain⟨⟨l,k⟩,hk,h⟩:=h;injection h with hv h;subst hv;rw[zD];exact (WF s f (sk s (i+1))).2.1 l k hk
   ·split at h
    ·split at h
     ·injection h with h;injection h with hv h;subst hv;rw[zD,qG];trivial
     ·simp only[yA]at h;obtain⟨⟨l,k⟩,hk,h⟩:=h;injection h with hv h;subst hv;rw[zD];exact (WF s f (sk s (i+1))).2.2 l k hk
    ·split at h
     ·simp only[yA]at h;obtain⟨⟨l,k⟩,hk,h⟩:=h;injection h with hv h;subst hv;rw[zD];exact Fs hk
     ·split at h
      ·injection h with h;injection h with hv h;subst hv;rw[zD];trivial
      ·split at h
       ·injection h with h;injection h with hv h;subst hv;rw[zD];trivial
       ·split at h
        ·injection h with h;injection h with hv h;subst hv;rw[zD];trivial
        ·simp only[yA]at h;obtain⟨⟨l,k⟩,hk,h⟩:=h;injection h with hv h;subst hv;rw[zD];exact zbJ hk
  ·rw[pa]at h;simp only[Option.bind_eq_some_iff]at h;obtain⟨⟨v,k⟩,hk,h⟩:=h;have b:=(WF s f i).1 v k hk;simp only at h;split at h
   ·injection h with h;injection h with hv h;subst hv;rw[qJ,qJ];exact⟨b,trivial⟩
   ·split at h
    ·simp only[yA]at h;obtain⟨⟨l,n⟩,d,h⟩:=h;injection h with hv h;subst hv;rw[qJ];exact⟨b,(WF s f _).2.1 l n d⟩
    ·cases h
  ·rw[po]at h;simp only[Option.bind_eq_some_iff]at h;obtain⟨⟨p,a⟩,o,h⟩:=h;have g:=Fs o;simp only at h;split at h
   ·simp only[Option.bind_eq_some_iff]at h;obtain⟨⟨v,k⟩,hk,h⟩:=h;have b:=(WF s f _).1 v k hk;simp only at h;split at h
    ·injection h with h;injection h with hv h;subst hv;rw[qG,qG];exact⟨g,b,trivial⟩
    ·split at h
     ·simp only[yA]at h;obtain⟨⟨l,n⟩,d,h⟩:=h;injection h with hv h;subst hv;rw[qG];exact⟨g,b,(WF s f _).2.2 l n d⟩
     ·cases h
   ·cases h
theorem MG{s:Bs}{i j:Nat}{v:JV}(h:val s i=some (v,j)):zD v:=(WF s _ i).1 v j h
mutual
theorem qz:∀ v:JV,zm v<=zj v/\1<=zm v
 | .nul=>⟨ye _,ye _⟩
 | .tt=>⟨ye _,ye _⟩
 | .ff=>⟨ye _,ye _⟩
 | .num _=>⟨ye _,ye _⟩
 | .str _=>⟨ye _,ye _⟩
 | .arr l=>by rw[zm,zj];have:=MH l;omega
 | .obj m=>by rw[zm,zj];have:=MI m;omega
theorem MH:∀ l:JL,Yb l<=QD l
 | .nil=>ye _
 | .cons v r=>by rw[Yb,QD];have:=MH r;have:=qz v;omega
theorem MI:∀ m:JM,JC m<=Qd m
 | .nil=>ye _
 | .cons k v r=>by rw[JC,Qd];have:=MI r;have:=qz v;omega
end
theorem zbK(c:UInt8):1<=(qB c).length:=by
 unfold qB
 repeat' split
 all_goals simp
theorem MJ(l:List UInt8):l.length<=(qs l).length:=by
 induction l with
 | nil=>simp
 | cons c l ih=>
  have:=zbK c;simp only[qs,List.flatMap_cons,yh,yp]at *;omega
def JL.toL:JL->List JV
 | .nil=>[]
 | .cons v r=>v :: r.toL
theorem Z6:∀ l:JL,zF l=l.toL.map ct
 | .nil=>rfl
 | .cons v r=>by rw[zF,JL.toL,yi,Z6 r]
theorem KF(l:List UInt8):l.length+2<=(quoted l).length:=by
 have:=MJ l;simp[quoted];omega
theorem PY(p:List UInt8×List UInt8):(zz p).length=(quoted p.1).length+1+p.2.length:=by simp[zz];omega
def hold(n:Nat):Nat:=2+(n - 1)
def dl:List JV->Nat
 | []=>0
 | v :: r=>max (zm v) (dl r)
def cl(vs:List JV):Nat:=(vs.map zj).sum
def nl(ts:List (List UInt8)):Nat:=(ts.map List.length).sum
theorem PZ(a:List JV)(v:JV):dl (a++[v])=max (dl a) (zm v):=by
 induction a with
 | nil=>simp[dl]
 | cons x r ih=>simp only[List.cons_append,dl,ih];omega
theorem MK(a:List JV)(v:JV):cl (a++[v])=cl a+zj v:=by simp[cl]
theorem Vu:∀ l:JL,Yb l=dl l.toL
 | .nil=>rfl
 | .cons v r=>by rw[Yb,JL.toL,dl,Vu r]
theorem Vv:∀ l:JL,QD l=cl l.toL
 | .nil=>rfl
 | .cons v r=>by rw[QD,JL.toL,Vv r];simp[cl]
theorem MM(a:List JV)(k:Nat):dl (a.take k)<=dl a:=by
 induction a generalizing k with
 | nil=>simp
 | cons x r ih=>
  cases k with
  | zero=>simp[dl]
  | succ k=>simp only[List.take_succ_cons,dl];have:=ih k;omega
theorem P8(a:List JV)(k:Nat)(h:k<a.length):zm a[k]<=dl a:=by
 induction a generalizing k with
 | nil=>simp at h
 | cons x r ih=>
  cases k with
  | zero=>simp only[List.getElem_cons_zero,dl];omega
  | succ k=>simp only[List.getElem_cons_succ,dl];have:=ih k (by simpa using h);omega
theorem Fu(a:List Nat)(k:Nat):(a.take k).sum<=a.sum:=by
 have:a.sum=(a.take k).sum+(a.drop k).sum:=by rw[← List.sum_append,List.take_append_drop]
 omega
theorem V2(a:List Nat)(k:Nat)(h:k<a.length):a[k]<=a.sum:=by
 have b:=Fu a (k+1);rw[yz h,List.sum_append]at b;simp at b;omega
theorem MN:∀ ts:List (List UInt8),(joinT ts).length=ts.length+nl ts
 | []=>rfl
 | t :: r=>by
  have:=MN r;simp[joinT,nl]at this ⊢;omega
theorem UK(ts:List (List UInt8)):(joinC ts).length+2=hold ts.length+nl ts:=by
 cases ts with
 | nil=>simp[joinC,hold,nl]
 | cons t r=>
  have:=MN r;simp[joinC,hold,nl]at this ⊢;omega
theorem JE:∀ m:JM,JC m=dl (m.toL.map (·.2))
 | .nil=>rfl
 | .cons k v r=>by rw[JC,JM.toL,yi,dl,JE r]
theorem Ys:∀ m:JM,Qd m=(m.toL.map fun q=>zj q.2).sum
 | .nil=>rfl
 | .cons k v r=>by rw[Qd,JM.toL,yi,yM,Ys r]
def Zo(q:List UInt8×JV):Nat:=(quoted q.1).length+1+(ct q.2).length
theorem Jm(m:JM):(ct (.obj m)).length=hold m.toL.length+(m.toL.map Zo).sum:=by
 show (qb (zJ (zl m))).length=_
 have h:=UK ((zJ (zl m)).map zz);have a:((zJ (zl m)).map zz).length=m.toL.length:=by rw[yl,(qw _).length_eq,qh,yl]
 have b:nl ((zJ (zl m)).map zz)=(m.toL.map Zo).sum:=by
  unfold nl;have p:=(((qw (zl m)).map zz).map List.length).sum_nat;rw[p,qh];simp only[List.map_map];congr 1;apply List.map_congr_left;intro q _;simp only[Function.comp_apply,Zo];exact PY _
 rw[a,b]at h;simp[qb];omega
theorem V8(f:List UInt8×JV->Nat){qs:List (List UInt8×JV)}{q:List UInt8×JV}(h:q∈qs):f q<=(qs.map f).sum:=by
 obtain⟨j,a,rfl⟩:=List.getElem_of_mem h;have:=V2 (qs.map f) j (by simpa using a);simpa using this
theorem MO:∀ L:List zL,(L.flatMap Zm).length=L.length*2
 | []=>rfl
 | p :: r=>by rw[List.flatMap_cons,yh,MO r];simp[Zm];omega
theorem zbL(L:List zL)(j:Nat)(p:zL)(h:j<L.length):((L.flatMap Zm).set (j*2) (.string (zh p.1))).set (j*2+1) (.string (zh p.2))=(L.set j p).flatMap Zm:=by
 induction L generalizing j with
 | nil=>simp at h
 | cons q r ih=>
  cases j with
  | zero=>rfl
  | succ j=>
   have:=ih j (by simpa using h);rw[List.set_cons_succ,List.flatMap_cons,List.flatMap_cons,← this,show (j+1)*2=j*2+2 from by omega];rfl
theorem PR.set{w:Wo}{B g n cap:Nat}{L:List zL}(h:PR w B (.slice (some ⟨g,0,none⟩) n cap) L)(hn':n=L.length)(j:Nat)(hj:j<L.length)(p:zL):
  PR ((w.setCell ⟨g,j*2,none⟩ (.string (zh p.1))).setCell ⟨g,j*2+1,none⟩ (.string (zh p.2))) B (.slice (some ⟨g,0,none⟩) n cap) (L.set j p):=by
 subst hn';obtain⟨v,⟨f,u⟩ |⟨s,d,a,f,l,o,q,m,b,r⟩⟩:=h
 ·omega
 ·injection f with hv1 hv2 hv3;injection hv1 with hv1;injection hv1 with hv1;subst hv1;subst hv3;have i:=heap_setCell_same w g (j*2) a 97 (.string (zh p.1)) o;have k:=heap_setCell_same _ g (j*2+1) _ 97 (.string (zh p.2)) i;unfold PR;refine⟨MO _,.inr ⟨g,cap,_,by simp,l,k,by simpa using q,m,by simp[b],?_⟩⟩;rw[← zbL L j p hj,← r,List.length_set,Array.toList_setIfInBounds,Array.toList_setIfInBounds,List.take_set,List.take_set]
theorem zbM(A:List zL):A=[]∨∃ A' q,A=A'++[q]:=by
 rcases List.eq_nil_or_concat A with h |⟨A',q,h⟩
 ·exact .inl h
 ·exact .inr ⟨A',q,by rw[h];simp⟩
theorem YQ{B:Nat}{w w':Wo}(h:Below B w w')(n:Nat):Below B w (w'.drewN n):=⟨h.os,h.tape,h.output,h.size,h.block⟩
theorem PR.fz{w:Wo}{B g n cap:Nat}{L:List zL}(h:PR w B (.slice (some ⟨g,0,none⟩) n cap) L)(o:Nat):w.frozen? ⟨g,o,none⟩=false:=by
 obtain⟨l,⟨a,j⟩ |⟨i,b,d,a,k,f,_⟩⟩:=h
 ·cases a
 ·injection a with hv1 hv2 hv3;injection hv1 with hv1;injection hv1 with hv1;subst hv1;exact yJ f o
theorem PR.fz1{w:Wo}{B g n cap:Nat}{L:List zL}(h:PR w B (.slice (some ⟨g,0,none⟩) n cap) L)(o o':Nat)(v:Value):(w.setCell ⟨g,o,none⟩ v).frozen? ⟨g,o',none⟩=false:=by
 obtain⟨l,⟨b,j⟩ |⟨i,d,a,b,k,f,_⟩⟩:=h
 ·cases b
 ·injection b with hv1 hv2 hv3;injection hv1 with hv1;injection hv1 with hv1;subst hv1;exact yJ (heap_setCell_same w g o a 97 v f) o'
theorem PR.cell1{w:Wo}{B g n cap:Nat}{L:List zL}(h:PR w B (.slice (some ⟨g,0,none⟩) n cap) L)(o o':Nat)(v u:Value)(ho:o≠o')(hc:w.cell? ⟨g,o',none⟩=some u):(w.setCell ⟨g,o,none⟩ v).cell? ⟨g,o',none⟩=some u:=by
 obtain⟨l,⟨b,j⟩ |⟨i,d,a,b,k,f,_⟩⟩:=h
 ·cases b
 ·injection b with hv1 hv2 hv3;injection hv1 with hv1;injection hv1 with hv1;subst hv1;rw[yG f]at hc;rw[yG (heap_setCell_same w g o a 97 v f),Array.getElem?_setIfInBounds_ne ho,hc]
theorem PR.cellsAt{w:Wo}{B g n cap:Nat}{L:List zL}(h:PR w B (.slice (some ⟨g,0,none⟩) n cap) L)(j:Nat)(hj:j<L.length)(p:zL)(hp:L[j]=p):
  w.cell? ⟨g,j*2,none⟩=some (.string (zh p.1))/\w.cell? ⟨g,j*2+1,none⟩=some (.string (zh p.2))/\g<w.heap.size:=by
 obtain⟨k,f,i,_,d,a,b⟩:=h.cells j hj;injection i with he1 he2 he3;injection he1 with he1;injection he1 with he1;subst he1;subst hp;exact⟨a,b,d⟩
theorem WG:(prog.info? 97).map (fun i=>(i.zero,i.size,i.bytes))=some (some (.agg #[.string ByteArray.empty,.string ByteArray.empty]),2,32):=by kernel_rfl
def RR(ps:List zL)(j:Nat):List zL:=(ps.take j).foldl (fun acc p=>qF p acc) []
theorem MP(ps:List zL)(j:Nat)(h:j<ps.length):RR ps (j+1)=qF ps[j] (RR ps j):=by
 unfold RR;rw[yz h,List.foldl_append];rfl
theorem zbN(ps:List zL)(j:Nat)(h:ps.length<=j):(RR ps j).reverse=zJ ps:=by
 unfold RR zJ;rw[yr h]
theorem MQ(p:zL):∀ l,(qF p l).length=l.length+1
 | []=>rfl
 | q :: r=>by unfold qF;split<;>simp[MQ p r]
theorem MR(ps:List zL):∀ j,j<=ps.length->(RR ps j).length=j
 | 0,_=>by simp[RR]
 | j+1,h=>by rw[MP ps j (by omega),MQ,MR ps j (by omega)]
theorem Yt(w:Wo)(t:TypeId)(x y:Value):∀ j u,[x,y][j]?=some u->(w.alloc (.cells #[x,y] t)).cell? ((⟨w.heap.size,0,none⟩:Addr).add j)=some u:=Jw w t x y
theorem MS(B:Nat)(v:Value)(ps:List zL)(w:Wo)(h:PR w B v ps)(hl:ps.length<=40000000):
  Calls prog 107 #[v] w fun e w'=>∃ v',e= .returned v'/\PR w' w.heap.size v' (zJ ps)/\Bw w w':=by
 obtain⟨i0,hi0,hz0,hz1,hz2⟩:=info_parts WG;obtain⟨x,len,H,rfl,d⟩:∃ x len H,v= .slice x len H/\len=ps.length:=by
  rcases h.2 with ⟨hv,h0⟩ |⟨g,H,cur,hv,_⟩
  ·exact⟨_,_,_,hv,h0.symm⟩
  ·exact⟨_,_,_,hv,rfl⟩
 subst d;have HP:=ze h;clear h;go_in;go_wp2_with fail;go_loopw [3,4] (fun r k wr=>∃ j:Nat,k= .int .i64 (j:Int)/\j<=ps.length/\PR wr w.heap.size r (RR ps j).reverse/\Bw w wr) (fun _ k _=>ps.length - (intOf k).toNat)
 case atStart=>
  exact⟨0,rfl,yu _,⟨rfl,.inr ⟨w.heap.size,0,#[],rfl,ye _,yH w _,ye _,by unfold maxLen;omega,rfl,rfl⟩⟩,(yI _ _).alloc (ye _) _⟩
 case round=>
  obtain⟨j,rfl,hj,s,hb⟩:=hrel;have M:=ze hb;have aa:=hb.size;clear hb;by_cases Y:j<ps.length
  ·have t1:((j:Int)<(ps.length:Int))=True:=eq_true (by omega);obtain⟨g,cap',he,hgB,W,P,Q⟩:=(uh HP).cells j Y;injection he with he1 he2 he3;subst he1;subst he3;have c0:=((uh M).cell (p:=⟨g,j*2,none⟩) W).trans P;have c1:=((uh M).cell (p:=⟨g,j*2+1,none⟩) W).trans Q;have HS:=ze (MP ps j Y);have d:=MR ps j hj;have HLEN:=ze d;generalize ps[j]=p at *;generalize hR:RR ps j=R at *;have J:R.reverse.length=j:=by rw[List.length_reverse];exact d
   clear P Q d hR;have f:wr.ownsRow w.heap.size 97 2 u3 R.reverse.length (R.reverse.flatMap Zm):=s;go_wp2_with (at_builtin;refine wpList_append_own _ rfl (.tmp 14) (.tmp 19) 94 rfl w.heap.size 97 i0 (.agg #[.string ByteArray.empty,.string ByteArray.empty]) 2 32 underlying94 hi0 hz0 hz1 hz2 rfl (by decide) _ _ _ rfl (f.alloc _) ⟨wr.heap.size,0,none⟩ 1 1 (Zm p) rfl rfl (Yt _ _ _ _) (fun u hu=>by {simp[Zm]at hu;rcases hu with rfl | rfl<;>rfl}) (by unfold maxLen;omega) (by omega) (by simp;omega) ?_;intro v1 w1 E V _;have N:=ze (((uh M).alloc aa _).grown V (by simp;omega) (fun k hk=>(f.lt k hk).1));have P1:PR w1 w.heap.size v1 (R.reverse++[p]):=(by unfold PR;rw[yh,List.flatMap_append];simpa using E);have hL1:(R.reverse++[p]).length=j+1:=(by rw[yh,J];rfl);obtain⟨b,n,Z,i,_,_,_⟩:=P1.cells j (by omega);rw[hL1]at Z;subst Z;have O:=ze P1;clear E V P1);clear s f M c0 c1;go_loopw [5] (fun k K=>∃ (A C:List zL),k= .int .i64 (A.length:Int)/\A.length+C.length=j/\PR K w.heap.size (.slice (some ⟨b,0,none⟩) (j+1) n) (A++p :: C)/\Bw w K/\qF p R=C.reverse++qF p A.reverse) (fun k _=>(intOf k).toNat)
   case atStart=>
    exact⟨R.reverse,[],by rw[J],by simpa using J,uh O,uh N,by simp⟩
   case round=>
    obtain⟨A,C,rfl,S,hP,I,D⟩:=hrel;have HI:=ze D;have l:=ze hP;have z:=ze I;have hxs:=I.size;clear D hP I O N;rcases zbM A with rfl |⟨a,q,rfl⟩
    ·have HF:Hid (([]++p :: C)=(RR ps (j+1)).reverse):=by
      show _=_
      rw[uh HS,uh HI];simp[qF]
     have t2:(0<(0:Int))=False:=by simp
     simp only[yE,Int.natCast_zero];go_wp2_with fail;go_quiet (fail);go_wp2;exact⟨⟨j+1,by go_num,by omega,by rw[← uh HF];exact uh l,YQ (uh z) _⟩,by simp[intOf];omega⟩
    ·have hm:(a++[q]).length=a.length+1:=by simp
     rw[hm];rw[hm]at S;have T:((a++[q])++p :: C).length=j+1:=by simp at S ⊢;omega
     have ep:((a++[q])++p :: C)[a.length+1]'(by omega)=p:=by simp
     have eq:((a++[q])++p :: C)[a.length]'(by omega)=q:=by simp
     obtain⟨p0,p1,X⟩:=(uh l).cellsAt (a.length+1) (by omega) p ep;obtain⟨q0,q1,_⟩:=(uh l).cellsAt a.length (by omega) q eq;have HSW:Hid (((((a++[q])++p :: C).set (a.length+1) q).set a.length p)=a++p ::(q :: C)):=by
      show _=_
      simp
     have hmj:a.length+1<=j:=by omega
     have F:Hid (qF p R=C.reverse++qF p (q :: a.reverse)):=by
      show _=_
      rw[uh HI];simp
     clear ep eq HI;generalize hmm:a.length=m at *;have t2:((0:Int)<(m:Int)+1)=True:=eq_true (by omega);have t3:(0:Int)<=(m:Int):=by omega
     have t4:(m:Int)+1<=(j:Int):=by omega
     by_cases y:p.1<q.1
     ·have hlt:Op.bytesLess (zh p.1).toList (zh q.1).toList=true:=by
       rw[bytesLess_eq,ByteArray.toList_eq,ByteArray.toList_eq,Za,Za];exact yj y
      have HI3:Hid (qF p R=(q :: C).reverse++qF p a.reverse):=by
       show _=_
       rw[uh F,qF,yg y];simp
      go_wp2_with fail;go_quiet (fail);have P0:(wr.drewN nq).cell? ⟨b,(m+1)*2,none⟩=some (.string (zh p.1)):=p0;have P1:(wr.drewN nq).cell? ⟨b,(m+1)*2+1,none⟩=some (.string (zh p.2)):=p1;have PX:Hid (PR (wr.drewN nq) w.heap.size (.slice (some ⟨b,0,none⟩) (j+1) n) (a++[q]++p :: C)):=uh l;have BX:Hid (Bw w (wr.drewN nq)):=YQ (uh z) _;have hgx:b<(wr.drewN nq).heap.size:=X;have hxs':w.heap.size<=(wr.drewN nq).heap.size:=hxs;clear p0 p1 q0 q1 l z y F;generalize wr.drewN nq=K at *;have G:=uh PX;obtain⟨q0,q1,_⟩:=G.cellsAt m (by omega) q (by subst hmm;simp);obtain⟨pp0,pp1,_⟩:=G.cellsAt (m+1) (by omega) p (by subst hmm;simp);have f0:=G.fz ((m+1)*2);have f1:=G.fz1 ((m+1)*2) ((m+1)*2+1) (.string (zh q.1));have d1:=G.cell1 ((m+1)*2) ((m+1)*2+1) (.string (zh q.1)) _ (by omega) pp1;have L:=G.set T.symm (m+1) (by omega) q;have U:((a++[q]++p :: C).set (m+1) q).length=j+1:=by rw[List.length_set];exact T
      obtain⟨r0,r1,_⟩:=L.cellsAt m (by omega) q (by subst hmm;simp);have f2:=L.fz (m*2);have f3:=L.fz1 (m*2) (m*2+1) (.string (zh p.1));have d3:=L.cell1 (m*2) (m*2+1) (.string (zh p.1)) _ (by omega) r1;have PC:=L.set U.symm m (by omega) p;rw[uh HSW]at PC;have BA:=((((uh BX).setCell (p:=⟨b,(m+1)*2,none⟩) i (.string (zh q.1))).setCell (p:=⟨b,(m+1)*2+1,none⟩) i (.string (zh q.2))).setCell (p:=⟨b,m*2,none⟩) i (.string (zh p.1))).setCell (p:=⟨b,m*2+1,none⟩) i (.string (zh p.2));have HPC:Hid (∀ o,PR (World.alloc ((((K.setCell ⟨b,(m+1)*2,none⟩ (.string (zh q.1))).setCell ⟨b,(m+1)*2+1,none⟩ (.string (zh q.2))).setCell ⟨b,m*2,none⟩ (.string (zh p.1))).setCell ⟨b,m*2+1,none⟩ (.string (zh p.2))) o) w.heap.size (.slice (some ⟨b,0,none⟩) (j+1) n) (a++p :: q :: C)):=fun o=>PC.below (Z0 _ o);have HBC:Hid (∀ o,Bw w (World.alloc ((((K.setCell ⟨b,(m+1)*2,none⟩ (.string (zh q.1))).setCell ⟨b,(m+1)*2+1,none⟩ (.string (zh q.2))).setCell ⟨b,m*2,none⟩ (.string (zh p.1))).setCell ⟨b,m*2+1,none⟩ (.string (zh p.2))) o)):=fun o=>BA.alloc BA.size o;have hne:¬ K.heap.size=b:=by omega
      have hne':¬ b=K.heap.size:=by omega
      clear G L PC BA PX BX;go_wp2;go_roundw
      case rel=>exact⟨a,q :: C,by rw[hmm],by simp;omega,uh HPC _,uh HBC _,uh HI3⟩
      case measure=>simp[intOf]
     ·have hlt:Op.bytesLess (zh p.1).toList (zh q.1).toList=false:=by
       rw[bytesLess_eq,ByteArray.toList_eq,ByteArray.toList_eq,Za,Za];exact yk y
      have HF:Hid ((a++[q]++p :: C)=(RR ps (j+1)).reverse):=by
       show _=_
       rw[uh HS,uh F,qF,yf y];simp
      go_wp2_with fail;go_quiet (fail);go_wp2;exact⟨⟨j+1,by go_num,by omega,by rw[← uh HF];exact uh l,YQ (uh z) _⟩,by simp[intOf];omega⟩
  ·have t1:((j:Int)<(ps.length:Int))=False:=yR (by omega);have HE:=ze (zbN ps j (by omega));go_wp2;go_ret;exact⟨_,rfl,by rw[← uh HE];exact s,uh M⟩
def V9(c:Nat):Bool:=c ==91 || c ==123
def WH(c:Nat):Bool:=c ==93 || c ==125
def JY(T:Bs)(i:Nat):Option Nat:=if bt T i=34 then (Zz T i).map (·.2)else some (i+1)
def Jd(c op:Nat):Option Nat:=if V9 c then some (op+1)else if WH c then (if op=0 then none else some (op - 1))else some op
def Y5(T:Bs)(i:Nat):Bool:=decide (i=T.size) || bt T i ==44 || bt T i ==93 || bt T i ==125
def qY(T:Bs):Nat->Nat->Nat->Option Nat
 | 0,_,_=>none
 | f+1,op,i=>if i<T.size then (JY T i).bind fun j=>(Jd (bt T i) op).bind fun o=>if o=0/\Y5 T j=true then some j else qY T f o j else none
def JZ(T:Bs):Nat->Nat->Nat->Nat->Option Nat
 | 0,_,_,_=>none
 | f+1,op,mo,i=>if i<T.size then (JY T i).bind fun j=>(Jd (bt T i) op).bind fun o=>JZ T f o (max mo o) j else some mo
section
variable {T:Bs}
theorem ZA{i:Nat}{c:UInt8}{m:List UInt8}(h:T.data.toList.drop i=c :: m):i<T.size/\bt T i=c.toNat/\T.data.toList.drop (i+1)=m:=by
 refine⟨zbI h (by simp),?_,?_⟩
 ·have:=JD T i 0;rw[h]at this;exact this
 ·exact Jc (m:=[c]) (n:=m) h
def GE(m:List UInt8):Prop:=m=[]∨∃ c r,m=c :: r/\(c.toNat=44∨c.toNat=93∨c.toNat=125)
theorem P9{i:Nat}{m:List UInt8}(h:T.data.toList.drop i=m)(hi:i<=T.size)(hm:GE m):Y5 T i=true:=by
 unfold Y5;rcases hm with rfl |⟨c,r,rfl,a⟩
 ·have:i=T.size:=by
   have:=congrArg List.length h;rw[yv,Zg,yE]at this;omega
  simp[this]
 ·obtain⟨_,b,_⟩:=ZA h;rw[b];rcases a with a | a | a<;>simp[a]
theorem zbO{i:Nat}{c:UInt8}{m:List UInt8}(h:T.data.toList.drop i=c :: m)(h1:c.toNat≠44)(h2:c.toNat≠93)(h3:c.toNat≠125):Y5 T i=false:=by
 obtain⟨b,a,_⟩:=ZA h;unfold Y5;rw[a];simp[h1,h2,h3];omega
def Y6(c:UInt8):Prop:=c.toNat≠34/\c.toNat≠91/\c.toNat≠123/\c.toNat≠93/\c.toNat≠125
theorem Fv{c:UInt8}(h:Y6 c)(op:Nat):Jd c.toNat op=some op:=by
 obtain⟨_,a,b,d,e⟩:=h;simp[Jd,V9,WH,a,b,d,e]
theorem Vw{i:Nat}{c:UInt8}(hb:bt T i=c.toNat)(h:c.toNat≠34):JY T i=some (i+1):=by unfold JY;rw[yf (by omega)]
def ZE(T:Bs)(t:List UInt8):Prop:=∀ op i m f k,1<=op->T.data.toList.drop i=t++m->qY T f op (i+t.length)=some k->∃ f',qY T f' op i=some k
def Jv(T:Bs)(t:List UInt8):Prop:=∀ i m,T.data.toList.drop i=t++m->GE m->∃ f,qY T f 0 i=some (i+t.length)
theorem ZE.nil:ZE T []:=fun _ _ _ f _ _ _ h=>⟨f,h⟩
theorem ZE.app{a b:List UInt8}(ha:ZE T a)(hb:ZE T b):ZE T (a++b):=fun op i m f k ho h he=>by
 rw[List.append_assoc]at h;rw[yh,← Nat.add_assoc]at he;obtain⟨d,g⟩:=hb op (i+a.length) m f k ho (Jc h) he;exact ha op i (b++m) d k ho h g
theorem ZE.one{c:UInt8}(hc:Y6 c):ZE T [c]:=fun op i m f k ho h he=>by
 obtain⟨b,a,_⟩:=ZA h;refine⟨f+1,?_⟩;rw[qY,yg b,Vw a hc.1,a,Fv hc];simp only[yB];rw[yf (by omega)];exact he
theorem ZE.plain:∀ {t:List UInt8},(∀ c∈t,Y6 c)->ZE T t
 | [],_=>ZE.nil
 | c :: _,h=>ZE.app (a:=[c]) (ZE.one (h c yq)) (ZE.plain fun d hd=>h d (yw _ hd))
theorem Ra{i:Nat}{l m:List UInt8}(hv:Lib.validD l=true)(h:T.data.toList.drop i=quoted l++m):i<T.size/\bt T i=34/\JY T i=some (i+(quoted l).length):=by
 have b:T.data.toList.drop i=34 ::(qs l++34 :: m):=by rw[h];simp[quoted]
 obtain⟨d,a,_⟩:=ZA b;refine⟨d,a,?_⟩;unfold JY;rw[yg (by rw[a];rfl),VZ l T m hv i h];rfl
theorem Rc(op:Nat):Jd 34 op=some op:=rfl
theorem ZE.quoted{l:List UInt8}(hv:Lib.validD l=true):ZE T (Go.Proofs.YtpaecnbdoljafaaGreatDoor.quoted l):=fun op i m f k ho h he=>by
 obtain⟨b,a,d⟩:=Ra hv h;refine⟨f+1,?_⟩;rw[qY,yg b,d,a,Rc];simp only[yB];rw[yf (by omega)];exact he
theorem Jv.quoted{l:List UInt8}(hv:Lib.validD l=true):Jv T (Go.Proofs.YtpaecnbdoljafaaGreatDoor.quoted l):=fun i m h hs=>by
 obtain⟨f,b,g⟩:=Ra hv h;have d:=Jc h;have a:i+(Go.Proofs.YtpaecnbdoljafaaGreatDoor.quoted l).length<=T.size:=by
  have:=congrArg List.length h;rw[yv,Zg,yh]at this;omega
 refine⟨1,?_⟩;rw[qY,yg f,g,b,Rc];simp only[yB];rw[yg ⟨trivial,P9 d a hs⟩]
theorem Jv.plain:∀ {t:List UInt8},t≠[]->(∀ c∈t,Y6 c/\c.toNat≠44)->Jv T t
 | [],h,_=>absurd rfl h
 | [c],_,hc=>fun i m h hs=>by
  obtain⟨hl,hb,hd⟩:=ZA (T:=T) (m:=m) h;have a:=hc c yq;refine⟨1,?_⟩;rw[qY,yg hl,Vw hb a.1.1,hb,Fv a.1];simp only[yB];rw[yg ⟨trivial,P9 hd hl hs⟩];rfl
 | c :: d :: r,_,hc=>fun i m h hs=>by
  obtain⟨hl,hb,hd⟩:=ZA (T:=T) (m:=d :: r++m) h;have a:=hc c yq;have b:=hc d (yw _ yq);obtain⟨f,g⟩:=Jv.plain (t:=d :: r) (by simp) (fun x hx=>hc x (yw _ hx)) (i+1) m hd hs;refine⟨f+1,?_⟩;rw[qY,yg hl,Vw hb a.1.1,hb,Fv a.1];simp only[yB];rw[yf (by rw[zbO (m:=r++m) hd b.2 b.1.2.2.2.1 b.1.2.2.2.2];simp),g];simp only[yp];congr 1;omega
theorem ZE.wrap{t:List UInt8}{a b:UInt8}(ha:V9 a.toNat=true)(hb:WH b.toNat=true)(ht:ZE T t):ZE T (a ::(t++[b]))/\Jv T (a ::(t++[b])):=by
 have l:a.toNat≠34:=by intro e;rw[e]at ha;cases ha
 have n:b.toNat≠34:=by intro e;rw[e]at hb;cases hb
 have p:V9 b.toNat=false:=by
  simp only[WH,Bool.or_eq_true,yD]at hb;rcases hb with h | h<;>simp[V9,h]
 refine⟨fun op i m f k ho h he=>?_,fun i m h hs=>?_⟩
 ·have v:T.data.toList.drop i=a ::(t++(b :: m)):=by rw[h];simp
  obtain⟨x,d,q⟩:=ZA v;obtain⟨j,g,r⟩:=ZA (Jc q);have s:∃ f',qY T f' (op+1) (i+1+t.length)=some k:=by
   refine⟨f+1,?_⟩;rw[qY,yg j,Vw g n,g];simp only[yB,Jd,p,hb,if_true,Bool.false_eq_true,if_false];rw[yf (by omega)];simp only[yB,Nat.add_sub_cancel];rw[yf (by omega)];rw[show i+1+t.length+1=i+(a ::(t++[b])).length by simp;omega];exact he
  obtain⟨y,w⟩:=s;obtain⟨u,o⟩:=ht (op+1) (i+1) (b :: m) y k (by omega) q w;refine⟨u+1,?_⟩;rw[qY,yg x,Vw d l,d];simp only[yB,Jd,ha,if_true];rw[yf (by omega)];exact o
 ·have v:T.data.toList.drop i=a ::(t++(b :: m)):=by rw[h];simp
  obtain⟨x,d,q⟩:=ZA v;obtain⟨j,g,r⟩:=ZA (Jc q);have s:qY T 1 1 (i+1+t.length)=some (i+(a ::(t++[b])).length):=by
   rw[qY,yg j,Vw g n,g];simp only[yB,Jd,p,hb,if_true,Bool.false_eq_true,if_false];rw[yf (by omega)];simp only[yB,Nat.sub_self];rw[yg ⟨trivial,P9 r j hs⟩];simp;omega
  obtain⟨u,o⟩:=ht 1 (i+1) (b :: m) 1 _ (by omega) q s;refine⟨u+1,?_⟩;rw[qY,yg x,Vw d l,d];simp only[yB,Jd,ha,if_true];rw[yf (by omega)];exact o
theorem ZE.joinT:∀ {ts:List (List UInt8)},(∀ t∈ts,ZE T t)->ZE T (Go.Proofs.YtpaecnbdoljafaaGreatDoor.joinT ts)
 | [],_=>ZE.nil
 | t :: r,h=>ZE.app (a:=[44]) (ZE.one ⟨by decide,by decide,by decide,by decide,by decide⟩) (ZE.app (h t yq) (ZE.joinT fun x hx=>h x (yw _ hx)))
theorem ZE.joinC{ts:List (List UInt8)}(h:∀ t∈ts,ZE T t):ZE T (Go.Proofs.YtpaecnbdoljafaaGreatDoor.joinC ts):=by
 cases ts with
 | nil=>exact ZE.nil
 | cons t r=>exact ZE.app (h t yq) (ZE.joinT fun x hx=>h x (yw _ hx))
theorem UL{l:List UInt8}(h:zD (.num l)):l≠[]/\∀ c∈l,Y6 c/\c.toNat≠44:=by
 rw[zD]at h;obtain⟨c,r,rfl,b,f⟩:=h;refine⟨by simp,fun d a=>?_⟩;have:d.toNat=45∨zP d.toNat=true:=by
  rcases List.mem_cons.1 a with rfl | a
  ·exact b
  ·exact .inr (f d a)
 have g:d.toNat=45∨(48<=d.toNat/\d.toNat<=57):=this.imp id Qx.1;exact⟨⟨by omega,by omega,by omega,by omega,by omega⟩,by omega⟩
theorem UM{l:List UInt8}(h:l∈[[110,117,108,108],[116,114,117,101],([102,97,108,115,101]:List UInt8)]):l≠[]/\∀ c∈l,Y6 c/\c.toNat≠44:=by
 unfold Y6;revert l;decide
mutual
theorem Fw:∀ v:JV,zD v->ZE T (ct v)/\Jv T (ct v)
 | .nul,_=>by
  have:=UM (l:=[110,117,108,108]) (by simp);exact⟨ZE.plain fun c hc=>(this.2 c hc).1,Jv.plain this.1 this.2⟩
 | .tt,_=>by
  have:=UM (l:=[116,114,117,101]) (by simp);exact⟨ZE.plain fun c hc=>(this.2 c hc).1,Jv.plain this.1 this.2⟩
 | .ff,_=>by
  have:=UM (l:=[102,97,108,115,101]) (by simp);exact⟨ZE.plain fun c hc=>(this.2 c hc).1,Jv.plain this.1 this.2⟩
 | .num l,h=>by
  have:=UL h;exact⟨ZE.plain fun c hc=>(this.2 c hc).1,Jv.plain this.1 this.2⟩
 | .str l,h=>by
  rw[zD]at h;exact⟨ZE.quoted h,Jv.quoted h⟩
 | .arr l,h=>by
  rw[zD]at h;exact ZE.wrap rfl rfl (ZE.joinC (MT l h))
 | .obj m,h=>by
  rw[zD]at h;refine ZE.wrap rfl rfl (ZE.joinC fun t ht=>?_);obtain⟨p,hp,rfl⟩:=yP.1 ht;exact MU m h p ((qw _).subset hp)
theorem MT:∀ l:JL,qJ l->∀ t∈zF l,ZE T t
 | .nil,_,t,ht=>by simp[zF]at ht
 | .cons v r,h,t,ht=>by
  rw[qJ]at h;rw[zF]at ht;rcases List.mem_cons.1 ht with e | ht
  ·rw[e];exact (Fw v h.1).1
  ·exact MT r h.2 t ht
theorem MU:∀ m:JM,qG m->∀ p∈zl m,ZE T (zz p)
 | .nil,_,p,hp=>by simp[zl]at hp
 | .cons k v r,h,p,hp=>by
  rw[qG]at h;rw[zl]at hp;rcases List.mem_cons.1 hp with e | hp
  ·rw[e];exact ZE.app (ZE.quoted h.1) (ZE.app (a:=[58]) (ZE.one ⟨by decide,by decide,by decide,by decide,by decide⟩) (Fw v h.2.1).1)
  ·exact MU r h.2.2 p hp
end
end
def qP:Nat->List (List UInt8)->List (List UInt8×List UInt8)
 | _,[]=>[]
 | b,t :: r=>(zM b,t) :: qP (b+1) r
theorem MV:∀ (a:List (List UInt8)) (b:Nat) (t:List UInt8),qP b (a++[t])=qP b a++[(zM (b+a.length),t)]
 | [],b,t=>rfl
 | x :: r,b,t=>by
  simp only[List.cons_append,qP,MV r (b+1) t,yp];rw[show b+1+r.length=b+(r.length+1) by omega]
theorem GF:∀ (a:List (List UInt8)) (b:Nat),(qP b a).length=a.length
 | [],_=>rfl
 | _ :: r,b=>by simp[qP,GF r (b+1)]
def zt:JV->List (List UInt8×List UInt8)
 | .arr l=>qP 0 (zF l)
 | .obj m=>zJ (zl m)
 | _=>[]
theorem Rd:∀ v:JV,zD v->ct v≠[]
 | .nul,_=>by simp[ct]
 | .tt,_=>by simp[ct]
 | .ff,_=>by simp[ct]
 | .num l,h=>(UL h).1
 | .str l,_=>by simp[ct,quoted]
 | .arr l,_=>by simp[ct,ZT]
 | .obj m,_=>by simp[ct,qb]
theorem Fx(T:Bs):∀ l:JL,qJ l->∀ t∈zF l,Jv T t/\t≠[]
 | .nil,_,t,ht=>by simp[zF]at ht
 | .cons v r,h,t,ht=>by
  rw[qJ]at h;rw[zF]at ht;rcases List.mem_cons.1 ht with e | ht
  ·rw[e];exact⟨(Fw v h.1).2,Rd v h.1⟩
  ·exact Fx T r h.2 t ht
theorem Fy(T:Bs):∀ m:JM,qG m->∀ p∈zl m,Jv T p.2/\p.2≠[]/\Lib.validD p.1=true
 | .nil,_,p,hp=>by simp[zl]at hp
 | .cons k v r,h,p,hp=>by
  rw[qG]at h;rw[zl]at hp;rcases List.mem_cons.1 hp with e | hp
  ·rw[e];exact⟨(Fw v h.2.1).2,Rd v h.2.1,h.1⟩
  ·exact Fy T r h.2.2 p hp
def pk(cs:List (List UInt8))(k:Nat):Nat:=1+(joinC (cs.take k)).length+(if k=0 then 0 else 1)
theorem MW:∀ (cs:List (List UInt8)) (k:Nat),(h:k<cs.length)->joinT cs=joinT (cs.take k)++44 ::(cs[k]++joinT (cs.drop (k+1)))
 | t :: r,0,_=>by simp[joinT]
 | t :: r,k+1,h=>by
  have:=MW r k (by simpa using h);simp only[List.take_succ_cons,joinT,List.getElem_cons_succ,List.drop_succ_cons];rw[this];simp
theorem zbP(cs:List (List UInt8))(k:Nat)(h:k<cs.length):joinC cs=(joinC (cs.take k)++(if k=0 then []else [44]))++(cs[k]++joinT (cs.drop (k+1))):=by
 cases cs with
 | nil=>simp at h
 | cons t r=>
  cases k with
  | zero=>simp[joinC]
  | succ k=>
   have:=MW r k (by simpa using h);simp only[joinC,List.take_succ_cons,List.getElem_cons_succ,List.drop_succ_cons];rw[this];simp
theorem Fz(cs:List (List UInt8))(c:UInt8)(hc:c.toNat=93∨c.toNat=125):GE (joinT cs++[c]):=by
 cases cs with
 | nil=>exact .inr ⟨c,[],rfl,.inr hc⟩
 | cons t r=>exact .inr ⟨44,_,rfl,.inl rfl⟩
theorem KG{T:Bs}{cs:List (List UInt8)}{a c:UInt8}(hT:T.data.toList=a ::(joinC cs++[c]))(k:Nat)(h:k<cs.length):T.data.toList.drop (pk cs k)=cs[k]++(joinT (cs.drop (k+1))++[c]):=by
 have e:T.data.toList=(a ::(joinC (cs.take k)++(if k=0 then []else [44])))++(cs[k]++(joinT (cs.drop (k+1))++[c])):=by
  rw[hT,zbP cs k h];simp
 have b:(a ::(joinC (cs.take k)++(if k=0 then []else [44]))).length=pk cs k:=by
  unfold pk;split<;>simp<;>omega
 rw[e,← b,List.drop_left]
theorem FB(cs:List (List UInt8))(k:Nat)(h:k<cs.length):pk cs (k+1)=pk cs k+cs[k].length+1:=by
 have e:(joinC (cs.take (k+1))).length=(joinC (cs.take k)).length+(if k=0 then 0 else 1)+cs[k].length:=by
  rw[yz h,Fl];by_cases b:k=0
  ·subst b;simp[joinC]
  ·have a:cs.take k≠[]:=by intro e;have:=congrArg List.length e;rw[ym,yE]at this;omega
   rw[yf a,yf b];simp;omega
 unfold pk;rw[e,yf (Nat.succ_ne_zero k)];omega
theorem KH{T:Bs}{cs:List (List UInt8)}{a c:UInt8}(hT:T.data.toList=a ::(joinC cs++[c]))(k:Nat)(h:k<cs.length):pk cs k+cs[k].length+1<=T.size:=by
 have b:=congrArg List.length (KG hT k h);rw[yv,Zg]at b;simp at b;by_cases d:pk cs k<=T.size
 ·omega
 ·omega
theorem KI{T:Bs}{cs:List (List UInt8)}{a c:UInt8}(hT:T.data.toList=a ::(joinC cs++[c])):T.size<=pk cs cs.length+1:=by
 have b:=congrArg List.length hT;rw[Zg]at b;simp at b;unfold pk;rw[yr (ye _)];omega
theorem MX{T:Bs}{i:Nat}{t m:List UInt8}(h:T.data.toList.drop i=t++m):T.extract i (i+t.length)=zh t:=by
 rw[UH];unfold Zh;rw[h,Nat.add_sub_cancel_left];simp
end Go.Proofs.YtpaecnbdoljafaaGreatDoor
