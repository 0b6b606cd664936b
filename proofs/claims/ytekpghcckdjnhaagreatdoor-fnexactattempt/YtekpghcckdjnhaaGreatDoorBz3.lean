import Derived.WalkLawsBesides
import Derived.Test.YtekpghcckdjnhaaGreatDoorBz1
import Derived.Deep.CutRange
import Derived.Lib.QuietBelow
import Derived.Lib.ValidLaws
import Derived.Lib.RuneCount
import Derived.Laws.DeepStrings4
import Derived.Handy
set_option maxRecDepth 100000
set_option maxHeartbeats 8000000
namespace Go.Proofs.YtekpghcckdjnhaaGreatDoor
open Go.RowKit Go.Proofs.Tryz
structure KB(rb:Nat)(w w':Wo):Prop where
 os:w'.os=w.os
 tape:w'.tape=w.tape
 output:w'.output=w.output
 size:w.heap.size<=w'.heap.size
 block:∀ k,k<w.heap.size->k≠rb->w'.heap[k]?=w.heap[k]?
theorem KB.refl(rb:Nat)(w:Wo):KB rb w w:=⟨rfl,rfl,rfl,ye _,fun _ _ _=>rfl⟩
theorem KB.trans{rb:Nat}{a b c:Wo}(h:KB rb a b)(k:KB rb b c):KB rb a c:=
 ⟨k.os.trans h.os,k.tape.trans h.tape,k.output.trans h.output,yP h.size k.size,fun i hi hn=>(k.block i (yE hi h.size) hn).trans (h.block i hi hn)⟩
theorem KB.drewN{rb:Nat}{a w:Wo}(h:KB rb a w)(n:Nat):KB rb a (w.drewN n):=⟨h.os,h.tape,h.output,h.size,h.block⟩
theorem KB.set{rb:Nat}{a w:Wo}(h:KB rb a w)(j:Nat)(v:Value):KB rb a (w.setCell ⟨rb,j,none⟩ v):=
 h.trans ⟨rfl,rfl,rfl,by simp[World.setCell],fun k _ hn=>Below.heap_setCell _ _ _ _ hn⟩
theorem KB.of_below{rb:Nat}{w w':Wo}(h:Bw w w'):KB rb w w':=⟨h.os,h.tape,h.output,h.size,fun k hk _=>h.block k hk⟩
theorem KB.below{rb B:Nat}{w w':Wo}(h:KB rb w w')(hB:B<=rb)(hs:B<=w.heap.size):Below B w w':=⟨h.os,h.tape,h.output,h.size,fun k hk=>h.block k (by omega) (by omega)⟩
def Jg:Ending:=.panicked [{v:=.iface 220 (.agg #[]),recovered:=false}]
theorem JY(s:Bs)(i:Nat)(h:s.size<=i):bt s i=0:=by
 unfold bt;rw[List.getD_eq_getElem?_getD,List.getElem?_eq_none (by rw[Zn];exact h)];rfl
theorem zZ{s:Bs}{i:Nat}(h:bt s i≠0):i<s.size:=by
 rcases Nat.lt_or_ge i s.size with g | g
 ·exact g
 ·exact absurd (JY s i g) h
def zo(rb:Nat)(s:Bs)(i:Nat)(tb kt:Bool)(w:Wo):Prop:=w.heap[rb]?=some (.cells #[.string s,.int .i64 (i:Int),.bool tb,.bool kt] 184 (0,0))
theorem zo.text{rb:Nat}{s:Bs}{i:Nat}{tb kt:Bool}{w:Wo}(h:zo rb s i tb kt w):w.cell? ⟨rb,0,none⟩=some (.string s):=by rw[yF h];rfl
theorem zo.at{rb:Nat}{s:Bs}{i:Nat}{tb kt:Bool}{w:Wo}(h:zo rb s i tb kt w):w.cell? ⟨rb,1,none⟩=some (.int .i64 (i:Int)):=by rw[yF h];rfl
theorem zo.frozen{rb:Nat}{s:Bs}{i:Nat}{tb kt:Bool}{w:Wo}(h:zo rb s i tb kt w):w.frozen? ⟨rb,1,none⟩=false:=yI h 1
theorem zo.lt{rb:Nat}{s:Bs}{i:Nat}{tb kt:Bool}{w:Wo}(h:zo rb s i tb kt w):rb<w.heap.size:=(yB.1 h).1
theorem zo.set{rb:Nat}{s:Bs}{i:Nat}{tb kt:Bool}{w:Wo}(h:zo rb s i tb kt w)(z:Int)(j:Nat)(hz:z=(j:Int)):zo rb s j tb kt (w.setCell ⟨rb,1,none⟩ (.int .i64 z)):=by
 subst hz;have:=heap_setCell_same w rb 1 _ 184 (.int .i64 (j:Int)) h;exact this
theorem zo.drewN{rb:Nat}{s:Bs}{i:Nat}{tb kt:Bool}{w:Wo}(h:zo rb s i tb kt w)(n:Nat):zo rb s i tb kt (w.drewN n):=h
theorem zo.below{rb:Nat}{s:Bs}{i:Nat}{tb kt:Bool}{w w':Wo}(h:zo rb s i tb kt w)(hb:Bw w w'):zo rb s i tb kt w':=(hb.block rb h.lt).trans h
theorem Yc(rb:Nat)(s:Bs)(i:Nat)(tb kt:Bool)(w:Wo)(h:zo rb s i tb kt w)(hs:s.size<=1048576)(hi:i<s.size):
  Calls prog 231 #[.pointer (some ⟨rb,0,none⟩)] w fun e w'=>e= .returned (.int .u8 (bt s i))/\zo rb s (i+1) tb kt w'/\KB rb w w':=by
 have c0:=h.text;have c1:=h.at;have d:=h.frozen;have b:((i:Int) ==(s.size:Int))=false:=by rw[yd];omega
 have a:=zb (Zr s i hi);have H:=zb h;clear h;go_in;go_wp2_with fail;go_quiet (fail);go_wp2_with fail;go_quiet (fail);go_wp2;go_ret;exact⟨by rw[uh a];rfl,((uh H).drewN _).set _ _ (by omega),((KB.refl rb w).drewN _).set 1 _⟩
theorem NE(rb:Nat)(s:Bs)(i:Nat)(tb kt:Bool)(w:Wo)(h:zo rb s i tb kt w)(hi:i=s.size):
  Calls prog 231 #[.pointer (some ⟨rb,0,none⟩)] w fun e w'=>e=Jg/\KB rb w w':=by
 have c0:=h.text;have c1:=h.at;have b:=h.frozen;have a:((i:Int) ==(s.size:Int))=true:=by rw[yC];omega
 clear h;go_in;go_wp2_with fail;go_quiet (fail);go_wp2;exact⟨rfl,rfl,(KB.refl rb w).drewN _⟩
theorem za8(rb:Nat)(s:Bs)(i:Nat)(tb kt:Bool)(w:Wo)(h:zo rb s i tb kt w)(hi:i=s.size):
  Calls prog 128 #[.pointer (some ⟨rb,0,none⟩)] w fun e w'=>e= .returned (.tuple #[])/\zo rb s i tb kt w'/\KB rb w w':=by
 have c0:=h.text;have c1:=h.at;have a:((i:Int) !=(s.size:Int))=false:=by rw[bne_eq_false_iff_eq];omega
 have H:=zb h;clear h hi;go_in;go_wp2_with fail;go_quiet (fail);go_wp2;go_end0;exact⟨rfl,(uh H).drewN _,(KB.refl rb w).drewN _⟩
theorem za9(rb:Nat)(s:Bs)(i:Nat)(tb kt:Bool)(w:Wo)(h:zo rb s i tb kt w)(hi:i≠s.size):
  Calls prog 128 #[.pointer (some ⟨rb,0,none⟩)] w fun e w'=>e=Jg/\KB rb w w':=by
 have c0:=h.text;have c1:=h.at;have a:((i:Int) !=(s.size:Int))=true:=by rw[bne_iff_ne];omega
 clear h hi;go_in;go_wp2_with fail;go_quiet (fail);go_wp2;exact⟨rfl,rfl,(KB.refl rb w).drewN _⟩
theorem Gv(rb:Nat)(s:Bs)(i:Nat)(tb kt:Bool)(w:Wo)(h:zo rb s i tb kt w)(hs:s.size<=1048576)(c:Nat)(hc:bt s i=c)(h0:i<s.size):
  Calls prog 205 #[.pointer (some ⟨rb,0,none⟩),.int .u8 c] w fun e w'=>e= .returned (.tuple #[])/\zo rb s (i+1) tb kt w'/\KB rb w w':=by
 have a:=zb (Yc rb s i tb kt w h hs h0);rw[hc]at a;clear h hc h0 hs;go_in;go_wp2_with fail;refine (uh a).mono ?_;rintro e g ⟨rfl,b,f⟩;have d:=zb b;clear b a;go_wp2;go_end0;exact⟨rfl,uh d,f⟩
theorem Kg(rb:Nat)(s:Bs)(i:Nat)(tb kt:Bool)(w:Wo)(h:zo rb s i tb kt w)(hs:s.size<=1048576)(hi:i<=s.size)(c:Nat)(hc:bt s i≠c∨i=s.size):
  Calls prog 205 #[.pointer (some ⟨rb,0,none⟩),.int .u8 c] w fun e w'=>e=Jg/\KB rb w w':=by
 by_cases d:i=s.size
 ·have a:=zb (NE rb s i tb kt w h d);clear h hc hs;go_in;go_wp2_with fail;refine (uh a).mono ?_;rintro e k ⟨rfl,f⟩;clear a;exact⟨rfl,rfl,f⟩
 ·have a:=zb (Yc rb s i tb kt w h hs (by omega));have g:(((bt s i:Nat):Int) !=(c:Int))=true:=by rw[bne_iff_ne];omega
  generalize bt s i=b at *;clear h hc hs;go_in;go_wp2_with fail;refine (uh a).mono ?_;rintro e k ⟨rfl,j,f⟩;clear j a;go_wp2;exact⟨rfl,rfl,f⟩
theorem VJ(rb:Nat)(s:Bs)(i:Nat)(tb kt:Bool)(w:Wo)(h:zo rb s i tb kt w)(hs:s.size<=1048576)(c:Nat)(hc:bt s i=c)(h0:i<s.size):
  Calls prog 172 #[.pointer (some ⟨rb,0,none⟩),.int .u8 c] w fun e w'=>e= .returned (.bool true)/\zo rb s (i+1) tb kt w'/\KB rb w w':=by
 have c0:=h.text;have c1:=h.at;have b:=h.frozen;have a:((i:Int) ==(s.size:Int))=false:=by rw[yd];omega
 rw[Zr s i h0]at hc;subst hc;have H:=zb h;clear h;go_in;go_wp2_with fail;go_quiet (fail);go_wp2;go_ret;exact⟨rfl,((uh H).drewN _).set _ _ (by omega),((KB.refl rb w).drewN _).set 1 _⟩
theorem Vc(rb:Nat)(s:Bs)(i:Nat)(tb kt:Bool)(w:Wo)(h:zo rb s i tb kt w)(hi:i<=s.size)(c:Nat)(hc:bt s i≠c∨i=s.size):
  Calls prog 172 #[.pointer (some ⟨rb,0,none⟩),.int .u8 c] w fun e w'=>e= .returned (.bool false)/\zo rb s i tb kt w'/\KB rb w w':=by
 have c0:=h.text;have c1:=h.at;have H:=zb h;clear h;by_cases d:i=s.size
 ·have a:((i:Int) ==(s.size:Int))=true:=by rw[yC];omega
  go_in;go_wp2_with fail;go_quiet (fail);go_wp2;go_ret;exact⟨rfl,(uh H).drewN _,(KB.refl rb w).drewN _⟩
 ·have b:i<s.size:=by omega
  have a:((i:Int) ==(s.size:Int))=false:=by rw[yd];omega
  have f:((s[i].toNat:Int) !=(c:Int))=true:=by
   rw[bne_iff_ne];rw[Zr s i b]at hc;omega
  clear hc;go_in;go_wp2_with fail;go_quiet (fail);go_wp2;go_ret;exact⟨rfl,(uh H).drewN _,(KB.refl rb w).drewN _⟩
def Wk(s:Bs):Nat->Nat->Nat
 | 0,i=>i
 | f+1,i=>if bt s i=32∨bt s i=9∨bt s i=10∨bt s i=13 then Wk s f (i+1)else i
def sk(s:Bs)(i:Nat):Nat:=Wk s (s.size - i) i
theorem Uh{s:Bs}{i:Nat}(h:bt s i=32∨bt s i=9∨bt s i=10∨bt s i=13):sk s i=sk s (i+1):=by
 have a:i<s.size:=zZ (by omega);unfold sk;rw[show s.size - i=(s.size - (i+1))+1 by omega,Wk,yg h]
theorem Kh{s:Bs}{i:Nat}(h:¬ (bt s i=32∨bt s i=9∨bt s i=10∨bt s i=13)):sk s i=i:=by
 unfold sk
 cases s.size - i with
 | zero=>rfl
 | succ f=>rw[Wk,yf h]
theorem LB(s:Bs):∀ f i,i+f<=s.size->i<=Wk s f i/\Wk s f i<=i+f
 | 0,i,_=>⟨ye _,ye _⟩
 | f+1,i,h=>by
  rw[Wk];split
  ·have:=LB s f (i+1) (by omega);omega
  ·omega
theorem QV{s:Bs}{i:Nat}(h:i<=s.size):i<=sk s i/\sk s i<=s.size:=by
 have:=LB s (s.size - i) i (by omega);unfold sk;omega
theorem XR{s:Bs}{i:Nat}(h:s.size<=i):sk s i=i:=by
 unfold sk;rw[show s.size - i=0 by omega];rfl
theorem zba(s:Bs)(i:Nat):¬ (bt s (sk s i)=32∨bt s (sk s i)=9∨bt s (sk s i)=10∨bt s (sk s i)=13):=by
 generalize hn:s.size - i=n;induction n generalizing i with
 | zero=>rw[XR (by omega),JY s i (by omega)];omega
 | succ n ih=>
  by_cases h:bt s i=32∨bt s i=9∨bt s i=10∨bt s i=13
  ·rw[Uh h];exact ih (i+1) (by omega)
  ·rw[Kh h];exact h
theorem Ui(rb:Nat)(s:Bs)(i:Nat)(tb kt:Bool)(w:Wo)(h:zo rb s i tb kt w)(hs:s.size<=1048576)(hi:i<=s.size):
  Calls prog 154 #[.pointer (some ⟨rb,0,none⟩)] w fun e w'=>e= .returned (.tuple #[])/\zo rb s (sk s i) tb kt w'/\KB rb w w':=by
 have F:=zb h;clear h;go_in;go_wp2_with fail;go_loopg [] (s.size - i) (fun g wr=>∃ j:Nat,g=s.size - j/\j<=s.size/\zo rb s j tb kt wr/\KB rb w wr/\sk s i=sk s j)
 case atStart=>exact⟨i,rfl,hi,uh F,KB.refl _ _,rfl⟩
 case round=>
  obtain⟨j,K,H,o,r,u⟩:=hrel;have y:=zb o;have a:=zb u;clear o u F;have z:Hid (∀ (c:Nat) wa,c≠0->bt s j=c->zo rb s j tb kt wa->Calls prog 172 #[.pointer (some ⟨rb,0,none⟩),.int .u8 c] wa fun e w'=>e= .returned (.bool true)/\zo rb s (j+1) tb kt w'/\KB rb wa w'):=fun c wa h0 hc o=>VJ rb s j tb kt wa o hs c hc (zZ (by omega));have l:Hid (∀ (c:Nat) wa,bt s j≠c->zo rb s j tb kt wa->Calls prog 172 #[.pointer (some ⟨rb,0,none⟩),.int .u8 c] wa fun e w'=>e= .returned (.bool false)/\zo rb s j tb kt w'/\KB rb wa w'):=fun c wa hc o=>Vc rb s j tb kt wa o H c (.inl hc);by_cases c1:bt s j=32
  ·have d:Hid (sk s i=sk s (j+1)):=by show _=_;rw[uh a,Uh (.inl c1)]
   have n:j<s.size:=zZ (by omega);go_wp2_with fail;refine (uh z 32 _ (by decide) c1 (uh y)).mono ?_;rintro e E ⟨rfl,b,f⟩;have m:=zb b;clear b;go_wp2;go_roundg (s.size - (j+1))
   case rel=>exact⟨j+1,rfl,by omega,uh m,r.trans f,uh d⟩
   case measure=>omega
  by_cases c2:bt s j=9
  ·have d:Hid (sk s i=sk s (j+1)):=by show _=_;rw[uh a,Uh (.inr (.inl c2))]
   have n:j<s.size:=zZ (by omega);go_wp2_with fail;refine (uh l 32 _ c1 (uh y)).mono ?_;rintro e E ⟨rfl,b,f⟩;have m:=zb b;clear b;go_wp2_with fail;refine (uh z 9 _ (by decide) c2 (uh m)).mono ?_;rintro e G ⟨rfl,k,p⟩;have q:=zb k;clear k;go_wp2;go_roundg (s.size - (j+1))
   case rel=>exact⟨j+1,rfl,by omega,uh q,(r.trans f).trans p,uh d⟩
   case measure=>omega
  by_cases c3:bt s j=10
  ·have d:Hid (sk s i=sk s (j+1)):=by show _=_;rw[uh a,Uh (.inr (.inr (.inl c3)))]
   have n:j<s.size:=zZ (by omega);go_wp2_with fail;refine (uh l 32 _ c1 (uh y)).mono ?_;rintro e E ⟨rfl,b,f⟩;have m:=zb b;clear b;go_wp2_with fail;refine (uh l 9 _ c2 (uh m)).mono ?_;rintro e G ⟨rfl,k,p⟩;have q:=zb k;clear k;go_wp2_with fail;refine (uh z 10 _ (by decide) c3 (uh q)).mono ?_;rintro e I ⟨rfl,v,B⟩;have A:=zb v;clear v;go_wp2;go_roundg (s.size - (j+1))
   case rel=>exact⟨j+1,rfl,by omega,uh A,((r.trans f).trans p).trans B,uh d⟩
   case measure=>omega
  go_wp2_with fail;refine (uh l 32 _ c1 (uh y)).mono ?_;rintro e E ⟨rfl,b,f⟩;have m:=zb b;clear b;go_wp2_with fail;refine (uh l 9 _ c2 (uh m)).mono ?_;rintro e G ⟨rfl,k,p⟩;have q:=zb k;clear k;go_wp2_with fail;refine (uh l 10 _ c3 (uh q)).mono ?_;rintro e I ⟨rfl,v,B⟩;have A:=zb v;clear v;by_cases c4:bt s j=13
  ·have d:Hid (sk s i=sk s (j+1)):=by show _=_;rw[uh a,Uh (.inr (.inr (.inr c4)))]
   have n:j<s.size:=zZ (by omega);go_wp2_with fail;refine (uh z 13 _ (by decide) c4 (uh A)).mono ?_;rintro e J ⟨rfl,x,D⟩;have C:=zb x;clear x;go_wp2;go_roundg (s.size - (j+1))
   case rel=>exact⟨j+1,rfl,by omega,uh C,(((r.trans f).trans p).trans B).trans D,uh d⟩
   case measure=>omega
  ·have d:Hid (sk s i=j):=by show _=_;rw[uh a,Kh (by omega)]
   go_wp2_with fail;refine (uh l 13 _ c4 (uh A)).mono ?_;rintro e J ⟨rfl,x,D⟩;have C:=zb x;clear x;go_wp2;go_end0;exact⟨rfl,by rw[uh d];exact uh C,(((r.trans f).trans p).trans B).trans D⟩
theorem NG(rb:Nat)(s:Bs)(i:Nat)(tb kt:Bool)(w:Wo)(h:zo rb s i tb kt w)(hi:i<=s.size):
  Calls prog 173 #[.pointer (some ⟨rb,0,none⟩)] w fun e w'=>e= .returned (.int .u8 (bt s i))/\zo rb s i tb kt w'/\KB rb w w':=by
 have c0:=h.text;have c1:=h.at;have H:=zb h;clear h;by_cases f:i=s.size
 ·have b:((i:Int) ==(s.size:Int))=true:=by rw[yC];omega
  have a:=zb (JY s i (by omega));go_in;go_wp2_with fail;go_quiet (fail);go_wp2;go_ret;exact⟨by rw[uh a];rfl,(uh H).drewN _,(KB.refl rb w).drewN _⟩
 ·have d:i<s.size:=by omega
  have b:((i:Int) ==(s.size:Int))=false:=by rw[yd];omega
  have a:=zb (Zr s i d);go_in;go_wp2_with fail;go_quiet (fail);go_wp2_with fail;go_quiet (fail);go_wp2;go_ret;exact⟨by rw[uh a];rfl,((uh H).drewN _).drewN _,((KB.refl rb w).drewN _).drewN _⟩
theorem zbb(z:Int)(r:Nat)(hz:z=(r:Int))(w:Wo)(hr:r<=1114111):
  Calls prog 151 #[.int .i64 z] w fun e w'=>e= .returned (.string (ze (ZC r)))/\Bw w w':=by
 subst hz;exact RZ r w hr
theorem LC(c:UInt8):UInt8.ofNat c.toNat=c:=UInt8.ofNat_toNat
def LD(c n r0:Nat):Prop:=1=n/\c<128/\c=r0∨2=n/\192<=c/\c<224/\c - 192=r0∨3=n/\224<=c/\c<240/\c - 224=r0∨4=n/\240<=c/\c<256/\c - 240=r0
def LE(s:Bs)(i r0:Nat):Nat->Nat
 | 0=>r0
 | k+1=>LE s i r0 k*64+(bt s (i+(k+1)) - 128)
def NH(s:Bs)(i r0 k z:Nat):Prop:=z=LE s i r0 (k - 1)/\∀ j,1<=j->j<k->128<=bt s (i+j)/\bt s (i+j)<192
theorem LF{s:Bs}{i n r0:Nat}(h:LD (bt s i) n r0)(hb:s.size<i+n∨∃ k,1<=k/\k<n/\¬ (128<=bt s (i+k)/\bt s (i+k)<192))(hi:i<s.size):rl s i=0:=by
 unfold rl;unfold LD at h;rcases h with ⟨b,h,d⟩ |⟨b,h,a,d⟩ |⟨b,h,a,d⟩ |⟨b,h,a,d⟩<;>subst b d
 ·omega
 ·rw[WR h a (Z7 _ _),yf];rcases hb with hb |⟨k,f,g,j⟩
  ·omega
  ·obtain rfl:k=1:=by omega
   omega
 ·rw[WS h a (Z7 _ _) (Z7 _ _),yf];rcases hb with hb |⟨k,f,g,j⟩
  ·omega
  ·rcases (show k=1∨k=2 by omega)with rfl | rfl<;>omega
 ·rw[WT h a (Z7 _ _) (Z7 _ _) (Z7 _ _),yf];rcases hb with hb |⟨k,f,g,j⟩
  ·omega
  ·rcases (show k=1∨k=2∨k=3 by omega)with rfl | rfl | rfl<;>omega
theorem zbc(s:Bs)(i n:Nat)(h:i+n<=s.size):(s.extract i (i+n)).toList.map UInt8.toNat=(List.range n).map fun k=>bt s (i+k):=by
 have f:=Zn s;apply List.ext_getElem
 ·simp[Lib.toList_data];omega
 ·intro k d a;simp only[yl,List.length_range]at a;have b:=Zr s (i+k) (by omega);simp[Lib.toList_data,b];rfl
theorem zbd{z:Nat}(hz:z<=1114111):∀ x∈Z8 z,x<256:=by
 unfold Z8;repeat' split
 all_goals (simp;omega)
theorem zbe{z:Nat}(hz:z<=1114111)(L:List UInt8):(ZC z ==L)=decide (Z8 z=L.map UInt8.toNat):=by
 rw[Bool.eq_iff_iff,yC,decide_eq_true_iff];constructor
 ·rintro rfl;unfold ZC;rw[List.map_map];exact (List.map_id'' (fun x=>rfl) _).symm.trans (List.map_congr_left fun x hx=>by
   show x=(UInt8.ofNat x).toNat
   rw[UInt8.toNat_ofNat',Nat.mod_eq_of_lt (zbd hz x hx)])
 ·intro e;unfold ZC;rw[e,List.map_map];exact (List.map_congr_left fun x _=>LC x).trans (List.map_id'' (fun x=>rfl) _)
theorem zbf{s:Bs}{i n r0 z:Nat}(h:LD (bt s i) n r0)(hn:i+n<=s.size)(ha:NH s i r0 n z):
  rl s i=if (1114111<z∨55296<=z/\z<57344)∨¬ Z8 z=(List.range n).map fun k=>bt s (i+k)then 0 else n:=by
 obtain⟨rfl,d⟩:=ha;unfold rl;unfold LD at h;rcases h with ⟨hn,h,g⟩ |⟨hn,h,f,g⟩ |⟨hn,h,f,g⟩ |⟨hn,h,f,g⟩<;>subst hn g
 ·rw[Xi h];show _=if (1114111<bt s i∨55296<=bt s i/\bt s i<57344)∨¬ Z8 (bt s i)=[bt s i]then 0 else 1
  unfold Z8;rw[yg h,yf (by simp;omega)]
 ·rw[WR h f (Z7 _ _)];have c1:=d 1 (by omega) (by omega);show _=if (1114111<(bt s i - 192)*64+(bt s (i+1) - 128)∨55296<=(bt s i - 192)*64+(bt s (i+1) - 128)/\(bt s i - 192)*64+(bt s (i+1) - 128)<57344)∨¬ Z8 ((bt s i - 192)*64+(bt s (i+1) - 128))=[bt s i,bt s (i+1)]then 0 else 2
  generalize bt s i=b0,bt s (i+1)=a at *;have e:Z8 ((b0 - 192)*64+(a - 128))=[b0,a]↔128<=(b0 - 192)*64+(a - 128):=by
   unfold Z8;repeat' split
   all_goals (simp;omega)
  simp only[e];split<;>split<;>omega
 ·rw[WS h f (Z7 _ _) (Z7 _ _)];have c1:=d 1 (by omega) (by omega);have c2:=d 2 (by omega) (by omega);show _=if (1114111<((bt s i - 224)*64+(bt s (i+1) - 128))*64+(bt s (i+2) - 128)∨55296<=((bt s i - 224)*64+(bt s (i+1) - 128))*64+(bt s (i+2) - 128)/\((bt s i - 224)*64+(bt s (i+1) - 128))*64+(bt s (i+2) - 128)<57344)∨¬ Z8 (((bt s i - 224)*64+(bt s (i+1) - 128))*64+(bt s (i+2) - 128))=[bt s i,bt s (i+1),bt s (i+2)]then 0 else 3
  generalize bt s i=b0,bt s (i+1)=a,bt s (i+2)=b at *;have e:Z8 (((b0 - 224)*64+(a - 128))*64+(b - 128))=[b0,a,b]↔2048<=((b0 - 224)*64+(a - 128))*64+(b - 128):=by
   unfold Z8;repeat' split
   all_goals (simp;omega)
  simp only[e];split<;>split<;>omega
 ·rw[WT h f (Z7 _ _) (Z7 _ _) (Z7 _ _)];have c1:=d 1 (by omega) (by omega);have c2:=d 2 (by omega) (by omega);have c3:=d 3 (by omega) (by omega);show _=if (1114111<(((bt s i - 240)*64+(bt s (i+1) - 128))*64+(bt s (i+2) - 128))*64+(bt s (i+3) - 128)∨55296<=(((bt s i - 240)*64+(bt s (i+1) - 128))*64+(bt s (i+2) - 128))*64+(bt s (i+3) - 128)/\(((bt s i - 240)*64+(bt s (i+1) - 128))*64+(bt s (i+2) - 128))*64+(bt s (i+3) - 128)<57344)∨¬ Z8 ((((bt s i - 240)*64+(bt s (i+1) - 128))*64+(bt s (i+2) - 128))*64+(bt s (i+3) - 128))=[bt s i,bt s (i+1),bt s (i+2),bt s (i+3)]then 0 else 4
  generalize bt s i=b0,bt s (i+1)=a,bt s (i+2)=b,bt s (i+3)=j at *;have e:Z8 ((((b0 - 240)*64+(a - 128))*64+(b - 128))*64+(j - 128))=[b0,a,b,j]↔65536<=(((b0 - 240)*64+(a - 128))*64+(b - 128))*64+(j - 128):=by
   unfold Z8;repeat' split
   all_goals (simp;omega)
  simp only[e];split<;>split<;>omega
theorem LG(s:Bs)(i:Nat)(w:Wo)(hi:i<s.size)(hs:s.size<=1048576):
  Calls prog 148 #[.string s,.int .i64 i] w fun e w'=>e= .returned (.int .i64 (rl s i))/\Bw w w':=by
 have U:bt s i<256:=Z7 _ _;have B:=Zr s i hi;by_cases g:128<=bt s i/\bt s i<192
 ·have D:Hid (rl s i=0):=Oa g.1 g.2;have Q:(128:Int)<=(s[i].toNat:Int):=by omega
  have J:(s[i].toNat:Int)<192:=by omega
  clear B g U;go_in;go_wp2;go_ret;exact⟨by rw[uh D];rfl,yH _ _⟩
 go_in;go_upto_if 15 with fail;go_cut [6,7]from 14 to 27 (fun nv rv wx=>∃ n u:Nat,nv= .int .i64 (n:Int)/\rv= .int .i64 (u:Int)/\Hid (LD (bt s i) n u)/\u<=127/\1<=n/\n<=4/\(1<n->u<32)/\w=wx)
 case first=>
  rcases (show bt s i<128∨192<=bt s i/\bt s i<224∨224<=bt s i/\bt s i<240∨240<=bt s i by omega)with h | h | h | h
  ·have Q:(s[i].toNat:Int)<128:=by omega
   have f:Hid (LD (bt s i) 1 (bt s i)):=.inl ⟨rfl,h,rfl⟩;go_wp2;go_meet
   case rel=>exact⟨1,bt s i,rfl,by rw[B],uh f,by omega,by omega,by omega,by omega,rfl⟩
  ·have Q:(192:Int)<=(s[i].toNat:Int):=by omega
   have J:(s[i].toNat:Int)<224:=by omega
   have f:Hid (LD (bt s i) 2 (bt s i - 192)):=.inr (.inl ⟨rfl,h.1,h.2,rfl⟩);have y:Hid ((s[i].toNat:Int) - 192=((bt s i - 192:Nat):Int)):=by show _=_;omega
   go_wp2;go_meet
   case rel=>exact⟨2,_,rfl,by rw[uh y],uh f,by omega,by omega,by omega,by omega,rfl⟩
  ·have Q:(224:Int)<=(s[i].toNat:Int):=by omega
   have J:(s[i].toNat:Int)<240:=by omega
   have f:Hid (LD (bt s i) 3 (bt s i - 224)):=.inr (.inr (.inl ⟨rfl,h.1,h.2,rfl⟩));have y:Hid ((s[i].toNat:Int) - 224=((bt s i - 224:Nat):Int)):=by show _=_;omega
   go_wp2;go_meet
   case rel=>exact⟨3,_,rfl,by rw[uh y],uh f,by omega,by omega,by omega,by omega,rfl⟩
  ·have Q:(240:Int)<=(s[i].toNat:Int):=by omega
   have f:Hid (LD (bt s i) 4 (bt s i - 240)):=.inr (.inr (.inr ⟨rfl,h,U,rfl⟩));have y:Hid ((s[i].toNat:Int) - 240=((bt s i - 240:Nat):Int)):=by show _=_;omega
   go_wp2;go_meet
   case rel=>exact⟨4,_,rfl,by rw[uh y],uh f,by omega,by omega,by omega,by omega,rfl⟩
 obtain⟨n,u,rfl,rfl,f,Y,W,hn4,Z,rfl⟩:=hcut;clear B g U;obtain⟨E,hE⟩:∃ E:Nat,E=i+n:=⟨_,rfl⟩;have hEI:(i:Int)+(n:Int)=(E:Int):=by omega
 have hEb:E<=1048580:=by omega
 have H:=zb hE;clear hE;by_cases hlen:s.size<E
 ·have D:Hid (rl s i=0):=LF (uh f) (.inl (by have:=uh H;omega)) hi;have R:(s.size:Int)<(E:Int):=by omega
  go_wp2;go_ret;exact⟨by rw[uh D];rfl,yH _ _⟩
 have R:¬ (s.size:Int)<(E:Int):=by omega
 go_wp2;go_loop [7,8] (fun r k=>∃ K z:Nat,k= .int .i64 (K:Int)/\r= .int .i64 (z:Int)/\1<=K/\K<=n/\Hid (NH s i u K z)/\(K=1/\z<=127/\(1<n->z<32)∨K=2/\z<2048∨K=3/\z<131072∨K=4/\z<8388608)) (fun _ k=>n - (intOf k).toNat)
 case atStart=>exact⟨1,u,rfl,rfl,by omega,W,⟨rfl,fun j h1 h2=>by omega⟩,.inl ⟨rfl,Y,Z⟩⟩
 case round=>
  obtain⟨K,z,rfl,rfl,T,hKn,G,F⟩:=hrel;have hz8:z<8388608:=by omega
  by_cases A:K<n
  ·have u1:((K:Int)<(n:Int))=True:=eq_true (by omega);have hz3:z<131072:=by omega
   obtain⟨q,l⟩:∃ q:Nat,q=i+K:=⟨_,rfl⟩;have hqI:(i:Int)+(K:Int)=(q:Int):=by omega
   have X:q<s.size:=by have:=uh H;omega
   have C:=Zr s q X;by_cases L:128<=bt s q/\bt s q<192
   ·have HN:Hid (NH s i u (K+1) (z*64+(bt s q - 128))):=by
     obtain⟨I,P⟩:=uh G;obtain⟨k,rfl⟩:∃ k,K=k+1:=⟨K - 1,by omega⟩;refine⟨?_,fun j h1 h2=>?_⟩
     ·rw[I,l];rfl
     ·by_cases hj:j=k+1
      ·rw[hj,← l];exact L
      ·exact P j h1 (by omega)
    have y:Hid ((z:Int)*64+(s[q].toNat:Int) - 128=((z*64+(bt s q - 128):Nat):Int)):=by show _=_;omega
    have R:¬ (s[q].toNat:Int)<128:=by omega
    have x2:¬ (192:Int)<=(s[q].toNat:Int):=by omega
    have x3:decide ((s[q].toNat:Int)<128)=false:=by simp;omega
    have hz4:z*64+(bt s q - 128)<8388608:=by omega
    have m:Hid (K+1=2/\z*64+(bt s q - 128)<2048∨K+1=3/\z*64+(bt s q - 128)<131072∨K+1=4/\z*64+(bt s q - 128)<8388608):=by show _∨_;omega
    clear l F C L;go_wp2;go_round
    case rel=>exact⟨K+1,z*64+(bt s q - 128),by go_num,by rw[← uh y],by omega,A,uh HN,.inr (uh m)⟩
    case measure=>simp[intOf];omega
   ·have D:Hid (rl s i=0):=LF (uh f) (.inr ⟨K,T,A,by rw[← l];exact L⟩) hi;rcases (show s[q].toNat<128∨192<=s[q].toNat from by omega)with hlow | V
    ·have R:(s[q].toNat:Int)<128:=by omega
     clear L l C;go_wp2;go_ret;exact⟨by rw[uh D];rfl,yH _ _⟩
    ·have R:¬ (s[q].toNat:Int)<128:=by omega
     have x2:(192:Int)<=(s[q].toNat:Int):=by omega
     have x3:decide ((s[q].toNat:Int)<128)=false:=by simp;omega
     clear L l C;go_wp2;go_ret;exact⟨by rw[uh D];rfl,yH _ _⟩
  ·have u1:((K:Int)<(n:Int))=False:=yQ (by omega);obtain rfl:K=n:=by omega
   have O:=zb (zbf (uh f) (by have:=uh H;omega) (uh G));rw[← zbc s i K (by have:=uh H;omega),← uh H]at O;clear F A;have i1:(E:Int)<=(s.size:Int):=by omega
   have i2:(i:Int)<=(E:Int):=by omega
   have i3:(0:Int)<=(i:Int):=by omega
   have v:Hid (z<=1114111->∀ d os,Calls prog 151 #[.int .i64 z] (Sort.grow (redrawn w d) os) fun e w''=>e= .returned (.string (ze (ZC z)))/\∃ p:Regrown,w''=Sort.grow (redrawn w p.d) p.os):=fun F d os=>Calls.regrown_of (zbb _ _ rfl _ F);obtain⟨q,l⟩:∃ q,((ze (ZC z)).toList ==(s.extract i E).toList)=q:=⟨_,rfl⟩;have N:Hid (z<=1114111->q=decide (Z8 z=(s.extract i E).toList.map UInt8.toNat)):=fun F=>by rw[← l,Lib.toList_data,Zf,zbe F]
   generalize ze (ZC z)=us at *;go_upto_region 23 with fail;go_cut [83]from 63 to 83 (fun x wx=>∃ b:Bool,x= .bool b/\Hid (rl s i=if b then 0 else K)/\Bw w wx)
   case first=>
    have a:Hid (∀ b:Bool,((1114111<z∨55296<=z/\z<57344)∨¬ Z8 z=(s.extract i E).toList.map UInt8.toNat↔b=true)->rl s i=if b then 0 else K):=fun b h=>by
     rw[uh O];cases b<;>simp[h]
    rcases (show 1114111<z∨z<=1114111/\55296<=z/\z<57344∨z<=1114111/\z<55296∨z<=1114111/\57344<=z by omega)with h | h | h | h
    case' inl=>
     have I:decide ((1114111:Int)<(z:Int))=true:=by simp;omega
     have y1:(1114111:Int)<(z:Int):=by omega
     have m:=zb (uh a true ⟨fun _=>rfl,fun _=>.inl (.inl h)⟩)
    case' inr.inl=>
     have I:decide ((1114111:Int)<(z:Int))=false:=by simp;omega
     have P:decide ((55296:Int)<=(z:Int))=true:=by simp;omega
     have e3:decide ((z:Int)<(57344:Int))=true:=by simp;omega
     have y1:¬ (1114111:Int)<(z:Int):=by omega
     have y2:(55296:Int)<=(z:Int):=by omega
     have m:=zb (uh a true ⟨fun _=>rfl,fun _=>.inl (.inr h.2)⟩)
    case' inr.inr.inl=>
     have I:decide ((1114111:Int)<(z:Int))=false:=by simp;omega
     have P:decide ((55296:Int)<=(z:Int))=false:=by simp;omega
     have y1:¬ (1114111:Int)<(z:Int):=by omega
     have y2:(z:Int)<(55296:Int):=by omega
     have v:=zb (uh v h.1);have m:=zb (uh a (!q) (by rw[uh N h.1];simp;omega))
     cases q
    case' inr.inr.inr=>
     have I:decide ((1114111:Int)<(z:Int))=false:=by simp;omega
     have P:decide ((55296:Int)<=(z:Int))=true:=by simp;omega
     have e3:decide ((z:Int)<(57344:Int))=false:=by simp;omega
     have y1:¬ (1114111:Int)<(z:Int):=by omega
     have y2:(55296:Int)<=(z:Int):=by omega
     have y3:¬ (z:Int)<(57344:Int):=by omega
     have v:=zb (uh v h.1);have m:=zb (uh a (!q) (by rw[uh N h.1];simp;omega))
     cases q
    all_goals
     clear h N a O;refine wp_region_quiet_below (by kernel_rfl) (by kernel_rfl) ?_
     repeat (first | go_big_quiet_step ((go_at_call 151;exact uh v _ _)) | quiet_step ((go_at_call 151;exact uh v _ _)))
     refine wpQuiet_nil ?_;intro _ aa;obtain⟨⟨dq,ab⟩,M⟩:=aa;subst M;go_wp2_with fail;go_meet
     case rel=>exact⟨_,rfl,uh m,below_regrown w dq ab⟩
   obtain⟨b,rfl,m,o⟩:=hcut;have S:=zb o;clear O v N l o
   cases b<;>(go_wp2;go_ret;exact⟨by rw[uh m];rfl,uh S⟩)
theorem LH(s:Bs)(i:Nat):Lib.decodeL (s.data.toList.drop i)=Lib.decodeN (s.size - i) (bt s i) (bt s (i+1)) (bt s (i+2)) (bt s (i+3)):=by
 rw[Lib.decodeL_drop,Yk]
theorem zbg(n b0 b1 b2 b3:Nat)(hn:1<=n):Q6 n b0 b1 b2 b3<=n:=by
 unfold Q6;split
 ·exact hn
 ·split
  ·omega
  ·unfold Lib.decodeN
   repeat' split
   all_goals first | omega |(simp only[];omega)
theorem LI{n b0 b1 b2 b3:Nat}(h:Q6 n b0 b1 b2 b3=0):Lib.decodeN n b0 b1 b2 b3=(65533,1):=by
 unfold Q6 at h;split at h
 ·omega
 ·split at h
  ·rename_i h1 a;revert a;unfold Lib.decodeN
   repeat' split
   all_goals first |(intro a;rfl) |(intro a;simp at a;done) |(intro a;exfalso;omega)
  ·rename_i h1 a;have:=Lib.decodeN_ge1 n b0 b1 b2 b3;omega
theorem NI{n b0 b1 b2 b3:Nat}(h:¬ Q6 n b0 b1 b2 b3=0):(Lib.decodeN n b0 b1 b2 b3).2=Q6 n b0 b1 b2 b3/\¬ ((Lib.decodeN n b0 b1 b2 b3).1=65533/\(Lib.decodeN n b0 b1 b2 b3).2=1):=by
 unfold Q6 at h ⊢;split at h
 ·rename_i h1;rw[yg h1];have e:Lib.decodeN n b0 b1 b2 b3=(b0,1):=by unfold Lib.decodeN;rw[yg h1]
  rw[e];exact⟨rfl,fun hh=>by have:=hh.1;simp at this;omega⟩
 ·rename_i h1;rw[yf h1];split at h
  ·exact absurd rfl h
  ·rename_i h2;rw[yf h2];exact⟨rfl,fun hh=>h2 hh.2⟩
theorem Wl(s:Bs)(i:Nat)(hi:i<s.size):i+rl s i<=s.size:=by
 have:=zbg (s.size - i) (bt s i) (bt s (i+1)) (bt s (i+2)) (bt s (i+3)) (by omega);unfold rl;omega
theorem LJ(s:Bs)(i:Nat)(hi:i<s.size):s.data.toList.drop i≠[]:=by rw[Qn s i hi];simp
theorem NJ(s:Bs)(i:Nat)(hi:i<s.size)(h:rl s i=0):Lib.validD (s.data.toList.drop i)=false:=by
 rw[Lib.validD_step _ (LJ s i hi),LH,LI h];rfl
theorem XS(s:Bs)(i:Nat)(hi:i<s.size)(h:¬ rl s i=0):Lib.validD (s.data.toList.drop i)=Lib.validD (s.data.toList.drop (i+rl s i)):=by
 obtain⟨a,b⟩:=NI h;rw[Lib.validD_step _ (LJ s i hi),LH,yf b,a,List.drop_drop];rfl
theorem zbh(s:Bs)(i:Nat)(hi:i<s.size)(h1:i+1<s.size):(s.data.toList.drop i).take 2=[s[i],s[i+1]]:=by
 rw[Qn s i hi,Qn s (i+1) h1];rfl
theorem zbi(s:Bs)(i:Nat)(hi:i<s.size)(h1:i+1<s.size)(h2:i+2<s.size):(s.data.toList.drop i).take 3=[s[i],s[i+1],s[i+2]]:=by
 rw[Qn s i hi,Qn s (i+1) h1,Qn s (i+2) h2];rfl
theorem zbj(s:Bs)(i:Nat)(hi:i<s.size)(h1:i+1<s.size)(h2:i+2<s.size)(h3:i+3<s.size):(s.data.toList.drop i).take 4=[s[i],s[i+1],s[i+2],s[i+3]]:=by
 rw[Qn s i hi,Qn s (i+1) h1,Qn s (i+2) h2,Qn s (i+3) h3];rfl
theorem QW(c:UInt8)(x:Int)(h:x=(c.toNat:Int)):x.toNat.toUInt8=c:=by
 subst h;rw[Int.toNat_natCast];exact UInt8.ofNat_toNat
theorem Wm(s:Bs)(i:Nat)(hi:i<s.size)(hv:¬ rl s i=0)(h8:¬ s[i].toNat<128):
  Lib.encodeRune ((Utf8.decode s i).1:Nat)=(s.data.toList.drop i).take (rl s i)/\(∀ c∈(s.data.toList.drop i).take (rl s i),128<=c.toNat)/\128<=(Utf8.decode s i).1/\(Utf8.decode s i).2=rl s i:=by
 have a:=Zr s i hi;have w:(Utf8.decode s i).2=rl s i:=by rw[Yk];exact (NI hv).1
 have j:192<=s[i].toNat:=by
  rcases Nat.lt_or_ge s[i].toNat 192 with h | h
  ·exact absurd (show rl s i=0 by unfold rl;rw[Oa (by rw[a];omega) (by rw[a];exact h)]) hv
  ·exact h
 by_cases q:s[i].toNat<224
 ·have e:=WR (n:=s.size - i) (b0:=bt s i) (b1:=bt s (i+1)) (b2:=bt s (i+2)) (b3:=bt s (i+3)) (by rw[a];exact j) (by rw[a];exact q) (Z7 _ _);change rl s i=_ at e;by_cases b:2<=s.size - i/\128<=bt s (i+1)/\bt s (i+1)<192/\128<=(bt s i - 192)*64+(bt s (i+1) - 128)
  ·rw[yg b]at e;obtain⟨c1,c2,c3,c4⟩:=b;have f:i+1<s.size:=by omega
   have b1:=Zr s (i+1) f;have g:Utf8.decode s i=(bt s i % 32*64+bt s (i+1) % 64,2):=by
    rw[Yk];unfold Lib.decodeN;rw[yf (by omega),yg ⟨by omega,by omega,by omega⟩,yg (by omega)]
   rw[e,g,zbh s i hi f];refine⟨?_,?_,by simp only;omega,rfl⟩
   ·unfold Lib.encodeRune;rw[Lib.encodeRuneZ_two (by simp only;omega) (by simp only;omega)];simp only[yi,List.map_nil];rw[QW s[i] _ (by omega),QW s[i+1] _ (by omega)]
   ·intro c b;simp at b;rcases b with rfl | rfl<;>omega
  ·rw[yf b]at e;exact absurd e hv
 ·by_cases r:s[i].toNat<240
  ·have e:=WS (n:=s.size - i) (b0:=bt s i) (b1:=bt s (i+1)) (b2:=bt s (i+2)) (b3:=bt s (i+3)) (by rw[a];omega) (by rw[a];exact r) (Z7 _ _) (Z7 _ _);change rl s i=_ at e;split at e
   ·rename_i b;obtain⟨c1,c2,c3,c4,m,o,p⟩:=b;have f:i+1<s.size:=by omega
    have d:i+2<s.size:=by omega
    have b1:=Zr s (i+1) f;have b2:=Zr s (i+2) d;have g:Utf8.decode s i=(bt s i % 16*4096+bt s (i+1) % 64*64+bt s (i+2) % 64,3):=by
     rw[Yk];unfold Lib.decodeN;rw[yf (by omega),yf (by omega),yg ⟨by omega,⟨by omega,by omega⟩,by omega,by omega⟩,yg (by omega)]
    rw[e,g,zbi s i hi f d];refine⟨?_,?_,by simp only;omega,rfl⟩
    ·unfold Lib.encodeRune;rw[Lib.encodeRuneZ_three (by simp only;omega)];simp only[yi,List.map_nil];rw[QW s[i] _ (by omega),QW s[i+1] _ (by omega),QW s[i+2] _ (by omega)]
    ·intro c b;simp at b;rcases b with rfl | rfl | rfl<;>omega
   ·exact absurd e hv
  ·have l:s[i].toNat<256:=UInt8.toNat_lt _;have e:=WT (n:=s.size - i) (b0:=bt s i) (b1:=bt s (i+1)) (b2:=bt s (i+2)) (b3:=bt s (i+3)) (by rw[a];omega) (by rw[a];exact l) (Z7 _ _) (Z7 _ _) (Z7 _ _);change rl s i=_ at e;split at e
   ·rename_i b;obtain⟨c1,c2,c3,c4,m,o,p,u,v⟩:=b;have f:i+1<s.size:=by omega
    have d:i+2<s.size:=by omega
    have k:i+3<s.size:=by omega
    have b1:=Zr s (i+1) f;have b2:=Zr s (i+2) d;have b3:=Zr s (i+3) k;have g:Utf8.decode s i=(bt s i % 8*262144+bt s (i+1) % 64*4096+bt s (i+2) % 64*64+bt s (i+3) % 64,4):=by
     rw[Yk];unfold Lib.decodeN;rw[yf (by omega),yf (by omega),yf (by omega),yg ⟨by omega,⟨by omega,by omega⟩,⟨by omega,by omega⟩,by omega,by omega⟩,yg (by omega)]
    rw[e,g,zbj s i hi f d k];refine⟨?_,?_,by simp only;omega,rfl⟩
    ·unfold Lib.encodeRune;rw[Lib.encodeRuneZ_four (by simp only;omega) (by simp only;omega)];simp only[yi,List.map_nil];rw[QW s[i] _ (by omega),QW s[i+1] _ (by omega),QW s[i+2] _ (by omega),QW s[i+3] _ (by omega)]
    ·intro c b;simp at b;rcases b with rfl | rfl | rfl | rfl<;>omega
   ·exact absurd e hv
def hx(b:Nat):Option Nat:=if 48<=b/\b<=57 then some (b - 48)else if 97<=b/\b<=102 then some (b - 87)else if 65<=b/\b<=70 then some (b - 55)else none
theorem NK{b v:Nat}(h:hx b=some v):v<16:=by
 unfold hx at h
 repeat' split at h
 all_goals first |(injection h with h;omega) | cases h
def qF(s:Bs)(i:Nat):Nat->Option Nat
 | 0=>some 0
 | k+1=>(qF s i k).bind fun v=>(hx (bt s (i+k))).map fun h=>v*16+h
theorem XT(s:Bs)(i:Nat):∀ (k v:Nat),qF s i k=some v->v<16 ^ k
 | 0,v,h=>by injection h with h;omega
 | k+1,v,h=>by
  simp only[qF,Option.bind_eq_some_iff,yz]at h;obtain⟨u,hu,y,hy,rfl⟩:=h;have:=XT s i k u hu;have:=NK hy;rw[Nat.pow_succ];omega
theorem Uj{s:Bs}{i k v h:Nat}(hv:qF s i k=some v)(hh:hx (bt s (i+k))=some h):qF s i (k+1)=some (v*16+h):=by simp[qF,hv,hh]
theorem XU{s:Bs}{i k:Nat}(hh:hx (bt s (i+k))=none):qF s i (k+1)=none:=by simp[qF,hh]
theorem NM{s:Bs}{i k m:Nat}(h:qF s i k=none)(hm:k<=m):qF s i m=none:=by
 induction m with
 | zero => have : k = 0 := by omega
           subst this;exact h
 | succ m ih=>
  rcases Nat.lt_or_ge m k with g | g
  ·have:k=m+1:=by omega
   subst this;exact h
  ·simp[qF,ih g]
theorem LK{s:Bs}{i k v:Nat}(h:qF s i (k+1)=some v):i+k<s.size:=by
 refine zZ fun e=>?_;have:=XU (s:=s) (i:=i) (k:=k) (by rw[e];rfl);rw[this]at h;cases h
def Jh(b:Nat):Option Nat:=if b=34 then some 34 else if b=92 then some 92 else if b=47 then some 47 else if b=98 then some 8 else if b=102 then some 12 else if b=110 then some 10 else if b=114 then some 13 else if b=116 then some 9 else none
theorem LL{b v:Nat}(h:Jh b=some v):v<128:=by
 unfold Jh at h
 repeat' split at h
 all_goals first |(injection h with h;omega) | cases h
def Qm(s:Bs)(i:Nat):Option Nat:=if bt s i=92/\bt s (i+1)=117 then qF s (i+2) 4 else none
theorem LM{s:Bs}{i u:Nat}(h:Qm s i=some u):u<65536:=by
 unfold Qm at h;split at h
 ·exact XT s (i+2) 4 u h
 ·cases h
theorem NO{s:Bs}{i u:Nat}(h:Qm s i=some u):i+6<=s.size:=by
 unfold Qm at h;split at h
 ·have:=LK h;omega
 ·cases h
def qW(s:Bs)(i u:Nat):Option (Nat×Nat):=
 if u<55296∨57344<=u then some (u,6)else if 56320<=u then none else
 (Qm s (i+6)).bind fun v=>if 56320<=v/\v<57344 then some (65536+(u - 55296)*1024+(v - 56320),12)else none
def QJ(s:Bs)(i:Nat):Option (Nat×Nat):=
 match Jh (bt s (i+1))with
 | some v=>some (v,2)
 | none=>(Qm s i).bind (qW s i)
def piece(s:Bs)(i:Nat):Option (Nat×Nat):=
 if bt s i=92 then QJ s i else if bt s i<32 then none else if bt s i<128 then some (bt s i,1)
 else if rl s i=0 then none else some ((Utf8.decode s i).1,rl s i)
theorem zbk{s:Bs}{i u r n:Nat}(hu:u<65536)(hi:i+6<=s.size)(h:qW s i u=some (r,n)):i+n<=s.size/\1<=n/\r<=1114111/\(r<55296∨57344<=r):=by
 unfold qW at h;split at h
 ·injection h with h;injection h with h1 h2;omega
 ·split at h
  ·cases h
  ·simp only[Option.bind_eq_some_iff]at h;obtain⟨v,a,h⟩:=h;have:=NO a;split at h
   ·injection h with h;injection h with h1 h2;omega
   ·cases h
theorem zbl{s:Bs}{i v:Nat}(h:Jh (bt s i)=some v):i<s.size:=zZ fun e=>by rw[e]at h;cases h
theorem LN{s:Bs}{i r n:Nat}(h:QJ s i=some (r,n)):i+n<=s.size/\1<=n/\r<=1114111/\(r<55296∨57344<=r):=by
 unfold QJ at h;split at h
 ·rename_i v hv;injection h with h;injection h with h1 h2;have:=zbl hv;have:=LL hv;omega
 ·simp only[Option.bind_eq_some_iff]at h;obtain⟨u,a,h⟩:=h;exact zbk (LM a) (NO a) h
theorem XV{r:Nat}(h:r<=1114111)(h':r<55296∨57344<=r):ZC r=Lib.encodeRune (r:Int):=by
 unfold ZC Z8 Lib.encodeRune;split
 ·rw[Lib.encodeRuneZ_one (by omega) (by omega)];simp only[yi,List.map_nil,List.cons.injEq,and_true];exact (QW _ _ (by rw[UInt8.toNat_ofNat'];omega)).symm
 ·split
  ·rw[Lib.encodeRuneZ_two (by omega) (by omega)];simp only[yi,List.map_nil];rw[QW (UInt8.ofNat (192+r / 64)) _ (by rw[UInt8.toNat_ofNat'];omega),QW (UInt8.ofNat (128+r % 64)) _ (by rw[UInt8.toNat_ofNat'];omega)]
  ·split
   ·rw[Lib.encodeRuneZ_three (by omega)];simp only[yi,List.map_nil];rw[QW (UInt8.ofNat (224+r / 4096)) _ (by rw[UInt8.toNat_ofNat'];omega),QW (UInt8.ofNat (128+r / 64 % 64)) _ (by rw[UInt8.toNat_ofNat'];omega),QW (UInt8.ofNat (128+r % 64)) _ (by rw[UInt8.toNat_ofNat'];omega)]
   ·rw[Lib.encodeRuneZ_four (by omega) (by omega)];simp only[yi,List.map_nil];rw[QW (UInt8.ofNat (240+r / 262144)) _ (by rw[UInt8.toNat_ofNat'];omega),QW (UInt8.ofNat (128+r / 4096 % 64)) _ (by rw[UInt8.toNat_ofNat'];omega),QW (UInt8.ofNat (128+r / 64 % 64)) _ (by rw[UInt8.toNat_ofNat'];omega),QW (UInt8.ofNat (128+r % 64)) _ (by rw[UInt8.toNat_ofNat'];omega)]
def enc(r:Nat):List UInt8:=Lib.encodeRune (r:Int)
theorem XW(r:Nat):(enc r).length<=4:=by
 have:=Lib.encodeRuneZ_length r;simp[enc,Lib.encodeRune];omega
theorem LO(s:Bs)(i:Nat):(Utf8.decode s i).1<=1114111:=by
 rw[Yk];exact Lib.decodeN_rune_le _ _ _ _ _ (Z7 s i)
theorem Gw{s:Bs}{i r n:Nat}(h:piece s i=some (r,n)):i+n<=s.size/\1<=n/\r<=1114111:=by
 unfold piece at h;split at h
 ·have:=LN h;omega
 ·split at h
  ·cases h
  ·have a:i<s.size:=zZ (by omega);split at h
   ·injection h with h;injection h with h1 h2;omega
   ·split at h
    ·cases h
    ·injection h with h;injection h with h1 h2;have:=Wl s i a;have:=LO s i;omega
theorem NP{s:Bs}{i:Nat}(h:s.size<=i):piece s i=none:=by
 unfold piece;rw[JY s i h];rfl
def VK(s:Bs):Nat->Nat->Option (List UInt8×Nat)
 | 0,_=>none
 | f+1,i=>if bt s i=34 then some ([],i+1)else (piece s i).bind fun p=>(VK s f (i+p.2)).map fun q=>(enc p.1++q.1,q.2)
def qK(s:Bs)(i:Nat):Option (List UInt8×Nat):=VK s (s.size+1 - i) i
theorem LP(s:Bs)(f i:Nat)(h:s.size<=i):VK s f i=none:=by
 cases f with
 | zero=>rfl
 | succ f=>simp[VK,JY s i h,NP h]
theorem NQ(s:Bs):∀ (f g i:Nat),s.size<=i+f->s.size<=i+g->VK s f i=VK s g i
 | 0,g,i,h,_=>by rw[LP s g i (by omega)];rfl
 | f+1,0,i,_,h=>by rw[LP s (f+1) i (by omega)];rfl
 | f+1,g+1,i,hf,hg=>by
  rw[VK,VK];split
  ·rfl
  ·cases hp:piece s i with
   | none=>rfl
   | some p=>
    obtain⟨r,n⟩:=p;have:=Gw hp;simp only[yA];rw[NQ s f g (i+n) (by omega) (by omega)]
theorem NR(s:Bs)(i:Nat):qK s i=if bt s i=34 then some ([],i+1)else (piece s i).bind fun p=>(qK s (i+p.2)).map fun q=>(enc p.1++q.1,q.2):=by
 unfold qK;rw[NQ s (s.size+1 - i) (s.size+1) i (by omega) (by omega),VK];split
 ·rfl
 ·cases hp:piece s i with
  | none=>rfl
  | some p=>
   obtain⟨r,n⟩:=p;simp only[yA];rw[NQ s s.size (s.size+1 - (i+n)) (i+n) (by omega) (by omega)]
theorem Wn{s:Bs}{i:Nat}(h:bt s i=34):qK s i=some ([],i+1):=by rw[NR,yg h]
theorem Gx{s:Bs}{i r n:Nat}(h:bt s i≠34)(hp:piece s i=some (r,n)):qK s i=(qK s (i+n)).map fun q=>(enc r++q.1,q.2):=by rw[NR,yf h,hp];rfl
theorem Wp{s:Bs}{i:Nat}(h:bt s i≠34)(hp:piece s i=none):qK s i=none:=by rw[NR,yf h,hp];rfl
theorem zbm{s:Bs}{i:Nat}(h:s.size<=i):qK s i=none:=Wp (by rw[JY s i h];decide) (NP h)
theorem LQ{s:Bs}{i:Nat}(h0:bt s i=92)(h1:bt s (i+1)=117):QJ s i=(qF s (i+2) 4).bind (qW s i):=by
 unfold QJ Qm;rw[yg ⟨h0,h1⟩,h1];rfl
theorem Vd{s:Bs}{i b v:Nat}(h1:bt s (i+1)=b)(hv:Jh b=some v):QJ s i=some (v,2):=by
 unfold QJ;rw[h1,hv]
theorem LR{s:Bs}{i b:Nat}(h1:bt s (i+1)=b)(hv:Jh b=none)(hu:b≠117):QJ s i=none:=by
 unfold QJ Qm;rw[h1,hv,yf (fun h=>hu h.2)];rfl
def ZD(s:Bs)(i:Nat):Option (List UInt8×Nat):=if bt s i=34 then qK s (i+1)else none
def Yd(rb:Nat)(s:Bs)(tb kt:Bool)(w:Wo)(o:Option (Value×Nat))(e:Ending)(w':Wo):Prop:=
 KB rb w w'/\o.elim (e=Jg) fun p=>e= .returned p.1/\zo rb s p.2 tb kt w'
mutual
inductive JV where
 | nul | tt | ff
 | num (l:List UInt8)
 | str (l:List UInt8)
 | arr (l:JL)
 | obj (m:JM)
inductive JL where
 | nil
 | cons (v:JV) (r:JL)
inductive JM where
 | nil
 | cons (k:List UInt8) (v:JV) (r:JM)
end
def Ve(s:Bs):Nat->Nat->Nat
 | 0,i=>i
 | f+1,i=>if zI (bt s i)=true then Ve s f (i+1)else i
def dg(s:Bs)(i:Nat):Nat:=Ve s (s.size - i) i
theorem VL{s:Bs}{i:Nat}(h:zI (bt s i)=true):dg s i=dg s (i+1):=by
 have a:i<s.size:=zZ (by have:=Qo.1 h;omega);unfold dg;rw[show s.size - i=(s.size - (i+1))+1 by omega,Ve,yg h]
theorem Uk{s:Bs}{i:Nat}(h:¬ zI (bt s i)=true):dg s i=i:=by
 unfold dg
 cases s.size - i with
 | zero=>rfl
 | succ f=>rw[Ve,yf h]
theorem LT(s:Bs):∀ f i,i+f<=s.size->i<=Ve s f i/\Ve s f i<=i+f
 | 0,i,_=>⟨ye _,ye _⟩
 | f+1,i,h=>by
  rw[Ve];split
  ·have:=LT s f (i+1) (by omega);omega
  ·omega
theorem XX{s:Bs}{i:Nat}(h:i<=s.size):i<=dg s i/\dg s i<=s.size:=by
 have:=LT s (s.size - i) i (by omega);unfold dg;omega
def Zc(s:Bs)(i j:Nat):List UInt8:=(s.data.toList.drop i).take (j - i)
def zX(s:Bs)(i:Nat):Nat:=if bt s i=45 then i+1 else i
def qf(s:Bs)(i:Nat):Nat:=if bt s (zX s i)=48 then zX s i+1 else dg s (zX s i)
def Qc(l:List UInt8):List UInt8:=if l=[45,48]then [48]else l
def nm(s:Bs)(i:Nat):Option (List UInt8×Nat):=if zI (bt s (zX s i))=true then some (Qc (Zc s i (qf s i)),qf s i)else none
theorem Ki{s:Bs}{i j:Nat}{l:List UInt8}(h:nm s i=some (l,j)):i<j/\j<=s.size:=by
 unfold nm at h;split at h
 ·rename_i hd;injection h with h;injection h with h1 h2;subst h2;have b:zX s i<s.size:=zZ (by have:=Qo.1 hd;omega);have a:i<=zX s i:=by unfold zX;split<;>omega
  unfold qf;split
  ·omega
  ·rw[VL hd];have:=XX (s:=s) (i:=zX s i+1) (by omega);omega
 ·cases h
theorem zbn{s:Bs}:∀ {i j:Nat} {l:List UInt8},qK s i=some (l,j)->i<j/\j<=s.size:=by
 intro i;generalize hn:s.size - i=n;induction n using Nat.strongRecOn generalizing i with
 | _ n ih=>
  intro j l h;by_cases a:bt s i=34
  ·rw[Wn a]at h;injection h with h;injection h with h1 h2;have:=zZ (s:=s) (i:=i) (by omega);omega
  ·cases hp:piece s i with
   | none=>rw[Wp a hp]at h;cases h
   | some p=>
    obtain⟨r,b⟩:=p;have d:=Gw hp;rw[Gx a hp]at h;rcases hq:qK s (i+b)with _ |⟨g,f⟩
    ·rw[hq]at h;cases h
    ·rw[hq]at h;injection h with h;injection h with h1 h2;have:=ih (s.size - (i+b)) (by omega) rfl hq;omega
theorem Ye{s:Bs}{i j:Nat}{l:List UInt8}(h:ZD s i=some (l,j)):i+1<j/\j<=s.size:=by
 unfold ZD at h;split at h
 ·have:=zbn h;omega
 ·cases h
def QK(s:Bs)(i:Nat):Bool:=bt s i ==110 && bt s (i+1) ==117 && bt s (i+2) ==108 && bt s (i+3) ==108
def QX(s:Bs)(i:Nat):Bool:=bt s i ==116 && bt s (i+1) ==114 && bt s (i+2) ==117 && bt s (i+3) ==101
def Ji(s:Bs)(i:Nat):Bool:=bt s i ==102 && bt s (i+1) ==97 && bt s (i+2) ==108 && bt s (i+3) ==115 && bt s (i+4) ==101
mutual
def pv(s:Bs):Nat->Nat->Option (JV×Nat)
 | 0,_=>none
 | f+1,i=>
  if bt s i=91 then (if bt s (sk s (i+1))=93 then some (.arr .nil,sk s (i+1)+1)else (pa s f (sk s (i+1))).map fun q=>(.arr q.1,q.2))
  else if bt s i=123 then (if bt s (sk s (i+1))=125 then some (.obj .nil,sk s (i+1)+1)else (po s f (sk s (i+1))).map fun q=>(.obj q.1,q.2))
  else if bt s i=34 then (ZD s i).map fun q=>(.str q.1,q.2)
  else if QK s i=true then some (.nul,i+4)
  else if QX s i=true then some (.tt,i+4)
  else if Ji s i=true then some (.ff,i+5)
  else (nm s i).map fun q=>(.num q.1,q.2)
def pa(s:Bs):Nat->Nat->Option (JL×Nat)
 | 0,_=>none
 | f+1,i=>(pv s f i).bind fun q=>
  if bt s (sk s q.2)=93 then some (.cons q.1 .nil,sk s q.2+1)
  else if bt s (sk s q.2)=44 then (pa s f (sk s (sk s q.2+1))).map fun r=>(.cons q.1 r.1,r.2)
  else none
def po(s:Bs):Nat->Nat->Option (JM×Nat)
 | 0,_=>none
 | f+1,i=>(ZD s i).bind fun k=>
  if bt s (sk s k.2)=58 then (pv s f (sk s (sk s k.2+1))).bind fun q=>
   if bt s (sk s q.2)=125 then some (.cons k.1 q.1 .nil,sk s q.2+1)
   else if bt s (sk s q.2)=44 then (po s f (sk s (sk s q.2+1))).map fun r=>(.cons k.1 q.1 r.1,r.2)
   else none
  else none
end
theorem Ze(s:Bs)(i:Nat):i<=sk s i:=by
 rcases Nat.le_total i s.size with h | h
 ·exact (QV h).1
 ·rw[XR h];exact ye _
theorem Ul{s:Bs}{i:Nat}(h:QK s i=true):i+4<=s.size:=by
 simp[QK]at h;have:=zZ (s:=s) (i:=i+3) (by omega);omega
theorem Um{s:Bs}{i:Nat}(h:QX s i=true):i+4<=s.size:=by
 simp[QX]at h;have:=zZ (s:=s) (i:=i+3) (by omega);omega
theorem Kj{s:Bs}{i:Nat}(h:Ji s i=true):i+5<=s.size:=by
 simp[Ji]at h;have:=zZ (s:=s) (i:=i+4) (by omega);omega
theorem Qs(s:Bs):∀ f i,(∀ v j,pv s f i=some (v,j)->i<j/\j<=s.size)/\(∀ l j,pa s f i=some (l,j)->i<j/\j<=s.size)/\(∀ m j,po s f i=some (m,j)->i<j/\j<=s.size)
 | 0,i=>⟨fun v j h=>by simp[pv]at h,fun v j h=>by simp[pa]at h,fun v j h=>by simp[po]at h⟩
 | f+1,i=>by
  refine⟨fun v j h=>?_,fun l j h=>?_,fun m j h=>?_⟩
  ·rw[pv]at h;have g:=Ze s (i+1);split at h
   ·split at h
    ·have:=zZ (s:=s) (i:=sk s (i+1)) (by omega);injection h with h;injection h with _ h;omega
    ·simp only[yz]at h;obtain⟨⟨l,k⟩,b,h⟩:=h;injection h with _ h;have:=(Qs s f (sk s (i+1))).2.1 l k b;simp only at h;omega
   ·split at h
    ·split at h
     ·have:=zZ (s:=s) (i:=sk s (i+1)) (by omega);injection h with h;injection h with _ h;omega
     ·simp only[yz]at h;obtain⟨⟨l,k⟩,b,h⟩:=h;injection h with _ h;have:=(Qs s f (sk s (i+1))).2.2 l k b;simp only at h;omega
    ·split at h
     ·simp only[yz]at h;obtain⟨⟨l,k⟩,b,h⟩:=h;injection h with _ h;have:=Ye b;simp only at h;omega
     ·split at h
      ·rename_i hw;have:=Ul hw;injection h with h;injection h with _ h;omega
      ·split at h
       ·rename_i hw;have:=Um hw;injection h with h;injection h with _ h;omega
       ·split at h
        ·rename_i hw;have:=Kj hw;injection h with h;injection h with _ h;omega
        ·simp only[yz]at h;obtain⟨⟨l,k⟩,b,h⟩:=h;injection h with _ h;have:=Ki b;simp only at h;omega
  ·rw[pa]at h;simp only[Option.bind_eq_some_iff]at h;obtain⟨⟨v,k⟩,b,h⟩:=h;have q:=(Qs s f i).1 v k b;have o:=Ze s k;simp only at h;split at h
   ·have:=zZ (s:=s) (i:=sk s k) (by omega);injection h with h;injection h with _ h;omega
   ·split at h
    ·simp only[yz]at h;obtain⟨⟨l,n⟩,d,h⟩:=h;injection h with _ h;have:=(Qs s f _).2.1 l n d;have p:=Ze s (sk s k+1);simp only at h;omega
    ·cases h
  ·rw[po]at h;simp only[Option.bind_eq_some_iff]at h;obtain⟨⟨u,a⟩,r,h⟩:=h;have y:=Ye r;simp only at h;split at h
   ·simp only[Option.bind_eq_some_iff]at h;obtain⟨⟨v,k⟩,b,h⟩:=h;have q:=(Qs s f _).1 v k b;have w:=Ze s a;have x:=Ze s (sk s a+1);have o:=Ze s k;simp only at h;split at h
    ·have:=zZ (s:=s) (i:=sk s k) (by omega);injection h with h;injection h with _ h;omega
    ·split at h
     ·simp only[yz]at h;obtain⟨⟨l,n⟩,d,h⟩:=h;injection h with _ h;have:=(Qs s f _).2.2 l n d;have p:=Ze s (sk s k+1);simp only at h;omega
     ·cases h
   ·cases h
theorem YO(s:Bs):∀ f g i,(2*(s.size - i)+1<=f->2*(s.size - i)+1<=g->pv s f i=pv s g i)/\(2*(s.size - i)+2<=f->2*(s.size - i)+2<=g->pa s f i=pa s g i/\po s f i=po s g i)
 | 0,g,i=>⟨fun h _=>by omega,fun h _=>by omega⟩
 | f+1,0,i=>⟨fun _ h=>by omega,fun _ h=>by omega⟩
 | f+1,g+1,i=>by
  refine⟨fun hf hg=>?_,fun hf hg=>⟨?_,?_⟩⟩
  ·rw[pv,pv];have g0:=Ze s (i+1);by_cases c1:bt s i=91
   ·have l:=zZ (s:=s) (i:=i) (by omega);rw[yg c1,yg c1,((YO s f g (sk s (i+1))).2 (by omega) (by omega)).1]
   ·rw[yf c1,yf c1];by_cases c2:bt s i=123
    ·have l:=zZ (s:=s) (i:=i) (by omega);rw[yg c2,yg c2,((YO s f g (sk s (i+1))).2 (by omega) (by omega)).2]
    ·rw[yf c2,yf c2]
  ·rw[pa,pa,(YO s f g i).1 (by omega) (by omega)]
   cases hk:pv s g i with
   | none=>rfl
   | some q=>
    obtain⟨v,k⟩:=q;have j:=(Qs s g i).1 v k hk;have b:=Ze s k;have d:=Ze s (sk s k+1);simp only[yA];rw[((YO s f g (sk s (sk s k+1))).2 (by omega) (by omega)).1]
  ·rw[po,po]
   cases ha:ZD s i with
   | none=>rfl
   | some q=>
    obtain⟨m,a⟩:=q;have p:=Ye ha;have n:=Ze s a;have o:=Ze s (sk s a+1);simp only[yA];rw[(YO s f g (sk s (sk s a+1))).1 (by omega) (by omega)]
    cases hk:pv s g (sk s (sk s a+1))with
    | none=>rfl
    | some q=>
     obtain⟨v,k⟩:=q;have j:=(Qs s g _).1 v k hk;have b:=Ze s k;have d:=Ze s (sk s k+1);simp only[yA];rw[((YO s f g (sk s (sk s k+1))).2 (by omega) (by omega)).2]
def val(s:Bs)(i:Nat):Option (JV×Nat):=pv s (2*(s.size - i)+1) i
def elems(s:Bs)(i:Nat):Option (JL×Nat):=pa s (2*(s.size - i)+2) i
def Qt(s:Bs)(i:Nat):Option (JM×Nat):=po s (2*(s.size - i)+2) i
theorem Vf{s:Bs}{i j:Nat}{v:JV}(h:val s i=some (v,j)):i<j/\j<=s.size:=(Qs s _ i).1 v j h
theorem XY{s:Bs}{i:Nat}(h:bt s i=91):val s i=if bt s (sk s (i+1))=93 then some (.arr .nil,sk s (i+1)+1)else (elems s (sk s (i+1))).map fun q=>(.arr q.1,q.2):=by
 have a:=zZ (s:=s) (i:=i) (by omega);have g:=Ze s (i+1);unfold val elems;rw[pv,yg h,((YO s (2*(s.size - i)) (2*(s.size - sk s (i+1))+2) (sk s (i+1))).2 (by omega) (by omega)).1]
theorem XZ{s:Bs}{i:Nat}(h:bt s i=123):val s i=if bt s (sk s (i+1))=125 then some (.obj .nil,sk s (i+1)+1)else (Qt s (sk s (i+1))).map fun q=>(.obj q.1,q.2):=by
 have a:=zZ (s:=s) (i:=i) (by omega);have g:=Ze s (i+1);unfold val Qt;rw[pv,yf (by omega),yg h,((YO s (2*(s.size - i)) (2*(s.size - sk s (i+1))+2) (sk s (i+1))).2 (by omega) (by omega)).2]
theorem NS{s:Bs}{i:Nat}(h:bt s i=34):val s i=(ZD s i).map fun q=>(.str q.1,q.2):=by
 unfold val;rw[pv,yf (by omega),yf (by omega),yg h]
theorem VM{s:Bs}{i:Nat}(h1:bt s i≠91)(h2:bt s i≠123)(h3:bt s i≠34):val s i=
  if QK s i=true then some (.nul,i+4)else if QX s i=true then some (.tt,i+4)else if Ji s i=true then some (.ff,i+5)else (nm s i).map fun q=>(.num q.1,q.2):=by
 unfold val;rw[pv,yf h1,yf h2,yf h3]
theorem Wq(s:Bs)(i:Nat):elems s i=(val s i).bind fun q=>
  if bt s (sk s q.2)=93 then some (.cons q.1 .nil,sk s q.2+1)
  else if bt s (sk s q.2)=44 then (elems s (sk s (sk s q.2+1))).map fun r=>(.cons q.1 r.1,r.2)
  else none:=by
 have e:elems s i=pa s (2*(s.size - i)+1+1) i:=rfl;rw[e,pa];show (val s i).bind _=_
 cases hk:val s i with
 | none=>rfl
 | some q=>
  obtain⟨v,k⟩:=q;have d:=Vf hk;have a:=Ze s k;have b:=Ze s (sk s k+1);simp only[yA];rw[show elems s (sk s (sk s k+1))=pa s (2*(s.size - i)+1) (sk s (sk s k+1))from ((YO s _ _ _).2 (by omega) (by omega)).1]
theorem Kk(s:Bs)(i:Nat):Qt s i=(ZD s i).bind fun k=>
  if bt s (sk s k.2)=58 then (val s (sk s (sk s k.2+1))).bind fun q=>
   if bt s (sk s q.2)=125 then some (.cons k.1 q.1 .nil,sk s q.2+1)
   else if bt s (sk s q.2)=44 then (Qt s (sk s (sk s q.2+1))).map fun r=>(.cons k.1 q.1 r.1,r.2)
   else none
  else none:=by
 have e:Qt s i=po s (2*(s.size - i)+1+1) i:=rfl;rw[e,po]
 cases ha:ZD s i with
 | none=>rfl
 | some q=>
  obtain⟨b,a⟩:=q;have j:=Ye ha;have g:=Ze s a;have h:=Ze s (sk s a+1);simp only[yA];rw[show pv s (2*(s.size - i)+1) (sk s (sk s a+1))=val s (sk s (sk s a+1))from (YO s _ _ _).1 (by omega) (by omega)]
  cases hk:val s (sk s (sk s a+1))with
  | none=>rfl
  | some q=>
   obtain⟨v,k⟩:=q;have l:=Vf hk;have d:=Ze s k;have f:=Ze s (sk s k+1);simp only[yA];rw[show Qt s (sk s (sk s k+1))=po s (2*(s.size - i)+1) (sk s (sk s k+1))from ((YO s _ _ _).2 (by omega) (by omega)).2]
def qn(p:List UInt8×List UInt8):List (List UInt8×List UInt8)->List (List UInt8×List UInt8)
 | []=>[p]
 | q :: r=>if p.1<q.1 then q :: qn p r else p :: q :: r
def zH(l:List (List UInt8×List UInt8)):List (List UInt8×List UInt8):=(l.foldl (fun acc p=>qn p acc) []).reverse
def zn(p:List UInt8×List UInt8):List UInt8:=quoted p.1++58 :: p.2
def joinT:List (List UInt8)->List UInt8
 | []=>[]
 | t :: r=>44 ::(t++joinT r)
def joinC:List (List UInt8)->List UInt8
 | []=>[]
 | t :: r=>t++joinT r
def qX(l:List (List UInt8×List UInt8)):List UInt8:=123 ::(joinC (l.map zn)++[125])
def qg(l:List (List UInt8)):List UInt8:=91 ::(joinC l++[93])
theorem zbo(a b:List (List UInt8)):joinT (a++b)=joinT a++joinT b:=by
 induction a with
 | nil=>rfl
 | cons t r ih=>simp[joinT,ih]
theorem X0(a:List (List UInt8))(t:List UInt8):joinC (a++[t])=joinC a++(if a=[]then t else 44 :: t):=by
 cases a with
 | nil=>simp[joinC,joinT]
 | cons x r=>simp[joinC,zbo,joinT]
def Un:List UInt8:=[57,50,50,51,51,55,50,48,51,54,56,53,52,55,55,53,56,48,55]
def Uo:List UInt8:=[57,50,50,51,51,55,50,48,51,54,56,53,52,55,55,53,56,48,56]
def over(d lim:List UInt8):Bool:=if d.length≠19 then decide (19<d.length)else (!Op.bytesLess d lim && !(d ==lim))
def Qu:List UInt8->Bool
 | []=>false
 | c :: r=>if c=45 then over r Uo else over (c :: r) Un
mutual
def ct:JV->List UInt8
 | .nul=>[110,117,108,108]
 | .tt=>[116,114,117,101]
 | .ff=>[102,97,108,115,101]
 | .num l=>l
 | .str l=>quoted l
 | .arr l=>qg (zr l)
 | .obj m=>qX (zH (zj m))
def zr:JL->List (List UInt8)
 | .nil=>[]
 | .cons v r=>ct v :: zr r
def zj:JM->List (List UInt8×List UInt8)
 | .nil=>[]
 | .cons k v r=>(k,ct v) :: zj r
end
mutual
def zY:JV->Bool
 | .nul=>false
 | .tt=>false
 | .ff=>false
 | .num l=>Qu l
 | .str _=>false
 | .arr l=>qo l
 | .obj m=>ZW m
def qo:JL->Bool
 | .nil=>false
 | .cons v r=>zY v || qo r
def ZW:JM->Bool
 | .nil=>false
 | .cons _ v r=>zY v || ZW r
end
mutual
def zy:JV->Bool
 | .nul=>false
 | .tt=>false
 | .ff=>false
 | .num _=>false
 | .str _=>false
 | .arr l=>ZX l
 | .obj m=>ZN [] m
def ZX:JL->Bool
 | .nil=>false
 | .cons v r=>zy v || ZX r
def ZN:List (List UInt8)->JM->Bool
 | _,.nil=>false
 | ks,.cons k v r=>(zy v || ks.contains k) || ZN (ks++[k]) r
end
mutual
def zL:JV->Nat
 | .nul=>1
 | .tt=>1
 | .ff=>1
 | .num _=>1
 | .str _=>1
 | .arr l=>Yv l+1
 | .obj m=>JZ m+1
def Yv:JL->Nat
 | .nil=>0
 | .cons v r=>max (zL v) (Yv r)
def JZ:JM->Nat
 | .nil=>0
 | .cons _ v r=>max (zL v) (JZ r)
end
mutual
def zt:JV->Nat
 | .nul=>1
 | .tt=>1
 | .ff=>1
 | .num _=>1
 | .str _=>1
 | .arr l=>Qv l+1
 | .obj m=>qY m+1
def Qv:JL->Nat
 | .nil=>0
 | .cons v r=>zt v+Qv r
def qY:JM->Nat
 | .nil=>0
 | .cons _ v r=>zt v+qY r
end
def JL.app:JL->JL->JL
 | .nil,b=>b
 | .cons v r,b=>.cons v (r.app b)
def JM.app:JM->JM->JM
 | .nil,b=>b
 | .cons k v r,b=>.cons k v (r.app b)
theorem JL.app_assoc:∀ a b c:JL,(a.app b).app c=a.app (b.app c)
 | .nil,_,_=>rfl
 | .cons v r,b,c=>by simp[JL.app,JL.app_assoc r b c]
theorem JM.app_assoc:∀ a b c:JM,(a.app b).app c=a.app (b.app c)
 | .nil,_,_=>rfl
 | .cons k v r,b,c=>by simp[JM.app,JM.app_assoc r b c]
theorem JL.app_nil:∀ a:JL,a.app .nil=a
 | .nil=>rfl
 | .cons v r=>by simp[JL.app,JL.app_nil r]
theorem JM.app_nil:∀ a:JM,a.app .nil=a
 | .nil=>rfl
 | .cons k v r=>by simp[JM.app,JM.app_nil r]
theorem zbp:∀ a b:JL,zr (a.app b)=zr a++zr b
 | .nil,b=>by simp[JL.app,zr]
 | .cons v r,b=>by simp[JL.app,zr,zbp r b]
theorem LU:∀ a b:JM,zj (a.app b)=zj a++zj b
 | .nil,b=>by simp[JM.app,zj]
 | .cons k v r,b=>by simp[JM.app,zj,LU r b]
theorem NT:∀ a b:JL,qo (a.app b)=(qo a || qo b)
 | .nil,b=>by simp[JL.app,qo]
 | .cons v r,b=>by simp[JL.app,qo,NT r b,Bool.or_assoc]
theorem NU:∀ a b:JM,ZW (a.app b)=(ZW a || ZW b)
 | .nil,b=>by simp[JM.app,ZW]
 | .cons k v r,b=>by simp[JM.app,ZW,NU r b,Bool.or_assoc]
theorem NW:∀ a b:JL,ZX (a.app b)=(ZX a || ZX b)
 | .nil,b=>by simp[JL.app,ZX]
 | .cons v r,b=>by simp[JL.app,ZX,NW r b,Bool.or_assoc]
def Qd:JM->List (List UInt8)
 | .nil=>[]
 | .cons k _ r=>k :: Qd r
theorem LV:∀ a b:JM,Qd (a.app b)=Qd a++Qd b
 | .nil,b=>by simp[JM.app,Qd]
 | .cons k v r,b=>by simp[JM.app,Qd,LV r b]
theorem NX:∀ (ks:List (List UInt8)) (a b:JM),ZN ks (a.app b)=(ZN ks a || ZN (ks++Qd a) b)
 | ks,.nil,b=>by simp[JM.app,ZN,Qd]
 | ks,.cons k v r,b=>by simp[JM.app,ZN,Qd,NX (ks++[k]) r b,Bool.or_assoc]
theorem Kl:∀ a:JM,(zj a).map (·.1)=Qd a
 | .nil=>rfl
 | .cons k v r=>by simp[zj,Qd,Kl r]
theorem zbq(s:Bs)(w:Wo)(hs:s.size<=1048576):
  Calls prog 122 #[.string s] w fun e w'=>e= .returned (.bool (Lib.validD s.data.toList))/\Bw w w':=by
 go_in;go_wp2;go_loopw [3] (fun i wr=>∃ j:Nat,j<=s.size/\i= .int .i64 j/\Lib.validD s.data.toList=Lib.validD (s.data.toList.drop j)/\Bw w wr) (fun i _=>s.size - (intOf i).toNat)
 case atStart=>exact⟨0,yt _,rfl,by simp,yH _ _⟩
 case round=>
  obtain⟨j,q,rfl,o,h⟩:=hrel;have l:=zb o;clear o;by_cases a:j<s.size
  ·have d:=zb (LG s j wr a hs);have m:=Wl s j a;by_cases g:rl s j=0
   ·have b:Hid (Lib.validD s.data.toList=false):=by have e:=uh l;show _=_;rw[e,NJ s j a g]
    rw[g]at d;clear g m;go_wp2_with fail;refine (uh d).mono ?_;rintro e p ⟨rfl,f⟩;have k:=zh h f;go_wp2;go_ret;exact⟨by rw[uh b];rfl,k⟩
   ·have b:Hid (Lib.validD s.data.toList=Lib.validD (s.data.toList.drop (j+rl s j))):=by have e:=uh l;show _=_;rw[e,XS s j a g]
    generalize rl s j=n at *;have r:((n:Int) ==0)=false:=by rw[yd];omega
    go_wp2_with fail;refine (uh d).mono ?_;rintro e p ⟨rfl,f⟩;have k:=zh h f;clear d f h;go_wp2;go_roundw
    case rel=>exact⟨j+n,by omega,by go_num,uh b,k⟩
    case measure=>simp[intOf];omega
  ·have b:Hid (Lib.validD s.data.toList=true):=by
    have e:=uh l;show _=_;rw[e,WQ s j a];rfl
   go_wp2;go_ret;exact⟨by rw[uh b];rfl,h⟩
theorem Js(s:Bs)(i k:Nat):bt s (i+k)=((s.data.toList.drop i).getD k 0).toNat:=by
 unfold bt;rw[List.getD_eq_getElem?_getD,List.getD_eq_getElem?_getD,List.getElem?_drop]
theorem NY{s:Bs}{i:Nat}{m:List UInt8}(h:s.data.toList.drop i=m)(hm:m≠[]):s.size=i+m.length:=by
 have a:(s.data.toList.drop i).length=m.length:=by rw[h]
 have b:0<m.length:=List.length_pos_iff.2 hm;rw[yu,Zn]at a;omega
theorem LW:∀ k:Fin 16,hx (Jm.getD k.val 0).toNat=some k.val:=by decide
theorem NZ{r:Nat}(h:r<128):enc r=[UInt8.ofNat r]:=by
 unfold enc;rw[← XV (by omega) (by omega)];unfold ZC Z8;rw[yg h];rfl
theorem Wr{T:Bs}{i:Nat}{c x:UInt8}{m:List UInt8}(hq:qB c=[92,x])(hs:Jh x.toNat=some c.toNat)(h:T.data.toList.drop i=qB c++m):
  bt T i≠34/\piece T i=some (c.toNat,(qB c).length):=by
 have a:=Js T i 0;have b:=Js T i 1;rw[h,hq]at a b;change bt T i=92 at a;change bt T (i+1)=x.toNat at b;refine⟨by omega,?_⟩;unfold piece;rw[yg a,Vd b hs,hq];rfl
theorem zbr{T:Bs}{i:Nat}{c:UInt8}{m:List UInt8}(hc:WY c.toNat)(h:T.data.toList.drop i=qB c++m):
  bt T i≠34/\piece T i=some (c.toNat,(qB c).length):=by
 have n:=Oi hc;have q:=hc.1;have o:=LW ⟨c.toNat / 16,by omega⟩;have p:=LW ⟨c.toNat % 16,by omega⟩;simp only at o p;generalize Jm.getD (c.toNat / 16) 0=a at *;generalize Jm.getD (c.toNat % 16) 0=b at *;have d:=Js T i 0;have f:=Js T i 1;have g:=Js T i 2;have j:=Js T i 3;have k:=Js T i 4;have l:=Js T i 5;rw[h,n]at d f g j k l;change bt T i=92 at d;change bt T (i+1)=117 at f;change bt T (i+2)=48 at g;change bt T (i+3)=48 at j;change bt T (i+4)=a.toNat at k;change bt T (i+5)=b.toNat at l;have e:qF T (i+2) 4=some ((((0*16+0)*16+0)*16+c.toNat / 16)*16+c.toNat % 16):=by
  refine Uj (Uj (Uj (Uj rfl ?_) ?_) ?_) ?_
  ·show hx (bt T (i+2))=_
   rw[g];rfl
  ·show hx (bt T (i+3))=_
   rw[j];rfl
  ·show hx (bt T (i+4))=_
   rw[k];exact o
  ·show hx (bt T (i+5))=_
   rw[l];exact p
 refine⟨by omega,?_⟩;unfold piece;rw[yg d,LQ d f,e,n];show qW T i _=_
 unfold qW;rw[yg (by omega)];congr 2;omega
theorem zbs{T:Bs}{i:Nat}{c:UInt8}{m:List UInt8}(hc:c.toNat<128)(h:T.data.toList.drop i=qB c++m):
  bt T i≠34/\piece T i=some (c.toNat,(qB c).length):=by
 by_cases b:c.toNat=34
 ·exact Wr (WX (by omega)) (by rw[b];rfl) h
 by_cases d:c.toNat=92
 ·exact Wr (WX (by omega)) (by rw[d];rfl) h
 by_cases f:c.toNat=8
 ·exact Wr (Od (by omega)) (by rw[f];rfl) h
 by_cases g:c.toNat=9
 ·exact Wr (Oe (by omega)) (by rw[g];rfl) h
 by_cases j:c.toNat=10
 ·exact Wr (Of (by omega)) (by rw[j];rfl) h
 by_cases k:c.toNat=12
 ·exact Wr (Og (by omega)) (by rw[k];rfl) h
 by_cases l:c.toNat=13
 ·exact Wr (Oh (by omega)) (by rw[l];rfl) h
 by_cases o:c.toNat<32
 ·exact zbr ⟨o,f,g,j,k,l⟩ h
 have n:=Xk b d (by omega);have a:=Js T i 0;rw[h,n]at a;change bt T i=c.toNat at a;refine⟨by omega,?_⟩;unfold piece;rw[yf (by omega),yf (by omega),yg (by omega),a,n];rfl
theorem LX(l:List UInt8)(n k:Nat)(m:List UInt8)(h:k<n)(hn:n<=l.length):(l.take n++m).getD k 0=l.getD k 0:=by
 rw[List.getD_eq_getElem?_getD,List.getD_eq_getElem?_getD,List.getElem?_append_left (by rw[ym];omega),List.getElem?_take_of_lt h]
theorem LY{s T:Bs}{i j:Nat}{m:List UInt8}(hi:i<s.size)(h8:¬ s[i].toNat<128)(hr:¬ rl s i=0)(h:T.data.toList.drop j=(s.data.toList.drop i).take (rl s i)++m):rl T j=rl s i:=by
 have y:=Wl s i hi;have d:(s.data.toList.drop i).length=s.size - i:=by rw[yu,Zn]
 have f:∀ k,k<rl s i->bt T (j+k)=bt s (i+k):=fun k hk=>by
  rw[Js,Js,h,LX _ _ _ _ hk (by omega)]
 have B:rl s i<=T.size - j:=by
  have u:=NY h (by
   intro e;have:=congrArg List.length e;rw[yh,ym,d]at this;simp at this;omega)
  rw[yh,ym,d]at u;omega
 have x:=Zr s i hi;have l:192<=bt s i:=by
  rcases Nat.lt_or_ge (bt s i) 192 with g | g
  ·exact absurd (show rl s i=0 by unfold rl;rw[Oa (by omega) g]) hr
  ·exact g
 have a:=f 0 (by omega);rw[Nat.add_zero,Nat.add_zero]at a;have p:=Z7 s (i+1);have r:=Z7 s (i+2);have z:=Z7 s (i+3);by_cases v:bt s i<224
 ·have e:=WR (n:=s.size - i) (b0:=bt s i) (b1:=bt s (i+1)) (b2:=bt s (i+2)) (b3:=bt s (i+3)) l v p;have b:=WR (n:=T.size - j) (b0:=bt T j) (b1:=bt T (j+1)) (b2:=bt T (j+2)) (b3:=bt T (j+3)) (by omega) (by omega) (Z7 _ _);change rl s i=_ at e;change rl T j=_ at b;split at e
  ·rename_i hc;have o:=f 1 (by omega);rw[b,e,yg (by rw[a,o];omega)]
  ·omega
 by_cases w:bt s i<240
 ·have e:=WS (n:=s.size - i) (b0:=bt s i) (b1:=bt s (i+1)) (b2:=bt s (i+2)) (b3:=bt s (i+3)) (by omega) w p r;have b:=WS (n:=T.size - j) (b0:=bt T j) (b1:=bt T (j+1)) (b2:=bt T (j+2)) (b3:=bt T (j+3)) (by omega) (by omega) (Z7 _ _) (Z7 _ _);change rl s i=_ at e;change rl T j=_ at b;split at e
  ·rename_i hc;have o:=f 1 (by omega);have q:=f 2 (by omega);rw[b,e,yg (by rw[a,o,q];omega)]
  ·omega
 ·have e:=WT (n:=s.size - i) (b0:=bt s i) (b1:=bt s (i+1)) (b2:=bt s (i+2)) (b3:=bt s (i+3)) (by omega) (Z7 _ _) p r z;have b:=WT (n:=T.size - j) (b0:=bt T j) (b1:=bt T (j+1)) (b2:=bt T (j+2)) (b3:=bt T (j+3)) (by omega) (Z7 _ _) (Z7 _ _) (Z7 _ _) (Z7 _ _);change rl s i=_ at e;change rl T j=_ at b;split at e
  ·rename_i hc;have o:=f 1 (by omega);have q:=f 2 (by omega);have A:=f 3 (by omega);rw[b,e,yg (by rw[a,o,q,A];omega)]
  ·omega
theorem QY{l m n:List UInt8}{j:Nat}(h:l.drop j=m++n):l.drop (j+m.length)=n:=by
 rw[← List.drop_drop,h,List.drop_left]
theorem Vg(a l:List UInt8)(k:Nat)(h:k<a.length):bt (ze (a++l)) k=(a.getD k 0).toNat:=by
 unfold bt;rw[Zf];simp only[List.getD];rw[List.getElem?_append_left h]
theorem Yf{n:Nat}(h:n<256):(UInt8.ofNat n).toNat=n:=by rw[UInt8.toNat_ofNat'];omega
theorem zbt(r:Nat)(h:r<=1114111)(h':r<55296∨57344<=r)(l:List UInt8):rl (ze (ZC r++l)) 0=(ZC r).length/\0<(ZC r).length:=by
 have k:(ze (ZC r++l)).size - 0=(ZC r).length+l.length:=by rw[Zw,yh];omega
 unfold rl;rw[k];by_cases d:r<128
 ·have e:ZC r=[UInt8.ofNat r]:=by unfold ZC Z8;rw[yg d];rfl
  rw[e];refine⟨?_,by simp⟩;rw[Vg _ _ 0 (by simp),Xi]
  ·rfl
  ·show (UInt8.ofNat r).toNat<128
   rw[Yf (by omega)];exact d
 ·by_cases g:r<2048
  ·have e:ZC r=[UInt8.ofNat (192+r / 64),UInt8.ofNat (128+r % 64)]:=by unfold ZC Z8;rw[yf d,yg g];rfl
   rw[e];refine⟨?_,by simp⟩;rw[Vg _ _ 0 (by simp),Vg _ _ (0+1) (by simp)];have a:([UInt8.ofNat (192+r / 64),UInt8.ofNat (128+r % 64)].getD 0 0).toNat=192+r / 64:=Yf (by omega);have b:([UInt8.ofNat (192+r / 64),UInt8.ofNat (128+r % 64)].getD (0+1) 0).toNat=128+r % 64:=Yf (by omega);rw[a,b,WR (by omega) (by omega) (by omega),yg (by simp only[yn,yD];omega)];rfl
  ·by_cases i:r<65536
   ·have e:ZC r=[UInt8.ofNat (224+r / 4096),UInt8.ofNat (128+r / 64 % 64),UInt8.ofNat (128+r % 64)]:=by unfold ZC Z8;rw[yf d,yf g,yg i];rfl
    rw[e];refine⟨?_,by simp⟩;rw[Vg _ _ 0 (by simp),Vg _ _ (0+1) (by simp),Vg _ _ (0+2) (by simp)];have a:([UInt8.ofNat (224+r / 4096),UInt8.ofNat (128+r / 64 % 64),UInt8.ofNat (128+r % 64)].getD 0 0).toNat=224+r / 4096:=Yf (by omega);have b:([UInt8.ofNat (224+r / 4096),UInt8.ofNat (128+r / 64 % 64),UInt8.ofNat (128+r % 64)].getD (0+1) 0).toNat=128+r / 64 % 64:=Yf (by omega);have f:([UInt8.ofNat (224+r / 4096),UInt8.ofNat (128+r / 64 % 64),UInt8.ofNat (128+r % 64)].getD (0+2) 0).toNat=128+r % 64:=Yf (by omega);rw[a,b,f,WS (by omega) (by omega) (by omega) (by omega),yg (by simp only[yn,yD];omega)];rfl
   ·have e:ZC r=[UInt8.ofNat (240+r / 262144),UInt8.ofNat (128+r / 4096 % 64),UInt8.ofNat (128+r / 64 % 64),UInt8.ofNat (128+r % 64)]:=by unfold ZC Z8;rw[yf d,yf g,yf i];rfl
    rw[e];refine⟨?_,by simp⟩;rw[Vg _ _ 0 (by simp),Vg _ _ (0+1) (by simp),Vg _ _ (0+2) (by simp),Vg _ _ (0+3) (by simp)];have a:([UInt8.ofNat (240+r / 262144),UInt8.ofNat (128+r / 4096 % 64),UInt8.ofNat (128+r / 64 % 64),UInt8.ofNat (128+r % 64)].getD 0 0).toNat=240+r / 262144:=Yf (by omega);have b:([UInt8.ofNat (240+r / 262144),UInt8.ofNat (128+r / 4096 % 64),UInt8.ofNat (128+r / 64 % 64),UInt8.ofNat (128+r % 64)].getD (0+1) 0).toNat=128+r / 4096 % 64:=Yf (by omega);have f:([UInt8.ofNat (240+r / 262144),UInt8.ofNat (128+r / 4096 % 64),UInt8.ofNat (128+r / 64 % 64),UInt8.ofNat (128+r % 64)].getD (0+2) 0).toNat=128+r / 64 % 64:=Yf (by omega);have j:([UInt8.ofNat (240+r / 262144),UInt8.ofNat (128+r / 4096 % 64),UInt8.ofNat (128+r / 64 % 64),UInt8.ofNat (128+r % 64)].getD (0+3) 0).toNat=128+r % 64:=Yf (by omega);rw[a,b,f,j,WT (by omega) (by omega) (by omega) (by omega) (by omega),yg (by simp only[yn,yD];omega)];rfl
theorem LZ{a l:List UInt8}(h0:0<a.length)(h:rl (ze (a++l)) 0=a.length):Lib.validD (a++l)=Lib.validD l:=by
 have:=XS (ze (a++l)) 0 (by rw[Zw,yh];omega) (by rw[h];omega);rw[Zf,h,Nat.zero_add,List.drop_zero,List.drop_left]at this;exact this
theorem zbu{s:Bs}{i r n:Nat}(h:piece s i=some (r,n))(l:List UInt8):Lib.validD (enc r++l)=Lib.validD l:=by
 have fin:r<=1114111->(r<55296∨57344<=r)->Lib.validD (enc r++l)=Lib.validD l:=fun h1 h2=>by
  have e:enc r=ZC r:=(XV h1 h2).symm;rw[e];obtain⟨a,b⟩:=zbt r h1 h2 l;exact LZ b a
 unfold piece at h;split at h
 ·have:=LN h;exact fin this.2.2.1 this.2.2.2
 ·split at h
  ·cases h
  ·have g:i<s.size:=zZ (by omega);split at h
   ·injection h with h;injection h with h1 h2;exact fin (by omega) (by omega)
   ·rename_i h8;split at h
    ·cases h
    ·rename_i hr;injection h with h;injection h with h1 h2;have d:¬ s[i].toNat<128:=by rw[← Zr s i g];exact h8
     obtain⟨j,o,p,q⟩:=Wm s i g hr d;have e:enc r=(s.data.toList.drop i).take (rl s i):=by unfold enc;rw[← h1];exact j
     have k:=Wl s i g;have f:((s.data.toList.drop i).take (rl s i)).length=rl s i:=by rw[ym,yu,Zn];omega
     rw[e];refine LZ (by omega) ?_;rw[f];exact LY (m:=l) g d hr (by rw[Zf,List.drop_zero])
theorem zbv{s:Bs}:∀ {i j:Nat} {l:List UInt8},qK s i=some (l,j)->Lib.validD l=true:=by
 intro i;generalize hn:s.size - i=n;induction n using Nat.strongRecOn generalizing i with
 | _ n ih=>
  intro j l h;by_cases a:bt s i=34
  ·rw[Wn a]at h;injection h with h;injection h with h1 h2;subst h1;rfl
  ·cases hp:piece s i with
   | none=>rw[Wp a hp]at h;cases h
   | some p=>
    obtain⟨r,b⟩:=p;have d:=Gw hp;rw[Gx a hp]at h;rcases hq:qK s (i+b)with _ |⟨g,f⟩
    ·rw[hq]at h;cases h
    ·rw[hq]at h;injection h with h;injection h with h1 h2;simp only at h1;rw[← h1,zbu hp];exact ih (s.size - (i+b)) (by omega) rfl hq
theorem X1{s:Bs}{i j:Nat}{l:List UInt8}(h:ZD s i=some (l,j)):Lib.validD l=true:=by
 unfold ZD at h;split at h
 ·exact zbv h
 ·cases h
theorem zbw{s:Bs}{i:Nat}{m:List UInt8}(h:s.data.toList.drop i=m)(hm:m≠[]):i<s.size:=by
 have:=NY h hm;have:0<m.length:=by cases m with
  | nil=>exact absurd rfl hm
  | cons _ _=>simp
 omega
theorem N0(s T:Bs)(m:List UInt8):∀ (f pos:Nat),s.size<=pos+f->Lib.validD (s.data.toList.drop pos)=true->∀ j,T.data.toList.drop j=qs (s.data.toList.drop pos)++34 :: m->qK T j=some (s.data.toList.drop pos,j+(qs (s.data.toList.drop pos)).length+1)
 | f,pos,h,hv,j,hj=>by
  by_cases hp:pos<s.size
  ·cases f with
   | zero=>omega
   | succ f=>
    have hr:¬ rl s pos=0:=fun e=>by rw[NJ s pos hp e]at hv;cases hv
    have g:=hv;rw[XS s pos hp hr]at g;by_cases k:s[pos].toNat<128
    ·have u:rl s pos=1:=by unfold rl;rw[Xi (by rw[Zr s pos hp];exact k)]
     rw[u]at g;have i:T.data.toList.drop j=qB s[pos]++(qs (s.data.toList.drop (pos+1))++34 :: m):=by
      rw[hj,Qn s pos hp];simp[qs]
     obtain⟨C,D⟩:=zbs k i;have q:=N0 s T m f (pos+1) (by omega) g (j+(qB s[pos]).length) (QY i);rw[Gx C D,q,NZ k,show UInt8.ofNat s[pos].toNat=s[pos]from UInt8.ofNat_toNat,Qn s pos hp];have v:(qs (s[pos] :: s.data.toList.drop (pos+1))).length=(qB s[pos]).length+(qs (s.data.toList.drop (pos+1))).length:=by simp[qs]
     rw[v];simp only[Option.map_some,Option.some.injEq,Prod.mk.injEq];exact⟨rfl,by omega⟩
    ·obtain⟨E,w,F,G⟩:=Wm s pos hp hr k;have a:=(List.take_append_drop (rl s pos) (s.data.toList.drop pos)).symm;rw[List.drop_drop]at a;have n:qs (s.data.toList.drop pos)=(s.data.toList.drop pos).take (rl s pos)++qs (s.data.toList.drop (pos+rl s pos)):=by
      conv=>lhs;rw[a]
      rw[Oc,Oj _ w]
     have i:T.data.toList.drop j=(s.data.toList.drop pos).take (rl s pos)++(qs (s.data.toList.drop (pos+rl s pos))++34 :: m):=by
      rw[hj,n,List.append_assoc]
     have A:=Wl s pos hp;have b:((s.data.toList.drop pos).take (rl s pos)).length=rl s pos:=by rw[ym,yu,Zn];omega
     have d:=LY hp k hr i;have q:=N0 s T m f (pos+rl s pos) (by omega) g (j+rl s pos) (by have:=QY i;rwa [b]at this);have l:j<T.size:=by
      have:=NY i (by intro e;have:=congrArg List.length e;rw[yh,b,yD]at this;omega);rw[yh,b]at this;omega
     have o:bt T j=bt s pos:=by
      have x:=Js T j 0;have y:=Js s pos 0;rw[Nat.add_zero]at x y;rw[x,y,i,LX _ _ _ _ (by omega) (by rw[yu,Zn];omega)]
     have z:=Zr s pos hp;have r:¬ T[j].toNat<128:=by rw[← Zr T j l];omega
     obtain⟨B,H,I,J⟩:=Wm T j l (by rw[d];exact hr) r;have p:piece T j=some ((Utf8.decode T j).1,rl s pos):=by
      unfold piece;rw[yf (by omega),yf (by omega),yf (by omega),yf (by rw[d];exact hr),d]
     rw[Gx (by omega) p,q];unfold enc;rw[B,i,d,n];simp only[Option.map_some,Option.some.injEq,Prod.mk.injEq];refine⟨?_,by rw[yh,b];omega⟩
     conv=>rhs;rw[a]
     rw[List.take_append_of_le_length (by omega),yq (by omega)]
  ·rw[WQ s pos hp]at hj ⊢;have o:=Js T j 0;rw[hj]at o;change bt T j=34 at o;rw[Wn o];rfl
theorem VN(l:List UInt8)(T:Bs)(m:List UInt8)(hv:Lib.validD l=true)(j:Nat)(hj:T.data.toList.drop j=quoted l++m):ZD T j=some (l,j+(quoted l).length):=by
 have a:T.data.toList.drop j=34 ::(qs l++34 :: m):=by rw[hj];simp[quoted]
 have b:bt T j=34:=by have:=Js T j 0;rw[a]at this;exact this
 have h:=N0 (ze l) T m l.length 0 (by rw[Zw];omega) (by rw[Zf];exact hv) (j+1) (by
  have:=QY (m:=[34]) (n:=qs l++34 :: m) a;rw[Zf];exact this)
 rw[Zf,List.drop_zero]at h;unfold ZD;rw[yg b,h];have e:(quoted l).length=(qs l).length+2:=by simp[quoted]
 rw[e];congr 2;omega
mutual
def zF:JV->Prop
 | .nul=>True
 | .tt=>True
 | .ff=>True
 | .num l=>∃ (c:UInt8) (r:List UInt8),l=c :: r/\(c.toNat=45∨zI c.toNat=true)/\∀ b∈r,zI b.toNat=true
 | .str l=>Lib.validD l=true
 | .arr l=>qw l
 | .obj m=>qq m
def qw:JL->Prop
 | .nil=>True
 | .cons v r=>zF v/\qw r
def qq:JM->Prop
 | .nil=>True
 | .cons k v r=>Lib.validD k=true/\zF v/\qq r
end
theorem L0(s:Bs):∀ f i k,i<=k->k<Ve s f i->zI (bt s k)=true
 | 0,i,k,h1,h2=>by simp[Ve]at h2;omega
 | f+1,i,k,h1,h2=>by
  rw[Ve]at h2;split at h2
  ·rename_i hd;by_cases e:k=i
   ·subst e;exact hd
   ·exact L0 s f (i+1) k (by omega) h2
  ·omega
theorem L3{s:Bs}{i k:Nat}(h1:i<=k)(h2:k<dg s i):zI (bt s k)=true:=L0 s _ i k h1 h2
theorem L4{s:Bs}{i j:Nat}{c:UInt8}(h:c∈Zc s i j):∃ k,i<=k/\k<j/\c.toNat=bt s k:=by
 unfold Zc at h;obtain⟨n,a,rfl⟩:=List.getElem_of_mem h;rw[ym,yu]at a;refine⟨i+n,by omega,by omega,?_⟩;unfold bt;rw[Zn]at a;have b:i+n<s.data.size:=by show i+n<s.size;omega
 simp only[List.getD,List.getElem_take,List.getElem_drop,Array.getElem_toList,Array.getElem?_toList];rw[Array.getElem?_eq_getElem b];rfl
theorem N6{s:Bs}{i j:Nat}(h:i<j)(hi:i<s.size):Zc s i j=s.data.toList.getD i 0 :: Zc s (i+1) j:=by
 unfold Zc;rw[Qn s i hi,show j - i=(j - (i+1))+1 by omega,List.take_succ_cons];congr 1;rw[List.getD,yx (by rw[Zn];exact hi)];rfl
theorem zbx{s:Bs}{i j:Nat}{l:List UInt8}(h:nm s i=some (l,j)):∃ (c:UInt8) (r:List UInt8),l=c :: r/\(c.toNat=45∨zI c.toNat=true)/\∀ b∈r,zI b.toNat=true:=by
 have o:=Ki h;unfold nm at h;split at h
 ·rename_i hd;injection h with h;injection h with h1 h2;have n:zX s i<s.size:=zZ (by have:=Qo.1 hd;omega);have m:i<=zX s i:=by unfold zX;split<;>omega
  have f:∀ k,zX s i<=k->k<qf s i->zI (bt s k)=true:=fun k h1 h2=>by
   unfold qf at h2;split at h2
   ·have:k=zX s i:=by omega
    rw[this];exact hd
   ·exact L3 h1 h2
  have g:∃ (c:UInt8) (r:List UInt8),Zc s i (qf s i)=c :: r/\(c.toNat=45∨zI c.toNat=true)/\∀ b∈r,zI b.toNat=true:=by
   refine⟨_,_,N6 (by omega) (by omega),?_,fun b hb=>?_⟩
   ·by_cases d:bt s i=45
    ·exact .inl d
    ·right;have e:zX s i=i:=by unfold zX;rw[yf d]
     rw[e]at hd;exact hd
   ·obtain⟨k,u,p,q⟩:=L4 hb;rw[q];refine f k ?_ p;unfold zX;split<;>omega
  unfold Qc at h1;split at h1
  ·exact⟨48,[],h1.symm,.inr rfl,fun b hb=>by simp at hb⟩
  ·obtain⟨c,r,e,a,b⟩:=g;exact⟨c,r,by rw[← h1,e],a,b⟩
 ·cases h
theorem Ws(s:Bs):∀ f i,(∀ v j,pv s f i=some (v,j)->zF v)/\(∀ l j,pa s f i=some (l,j)->qw l)/\(∀ m j,po s f i=some (m,j)->qq m)
 | 0,i=>⟨fun v j h=>by simp[pv]at h,fun v j h=>by simp[pa]at h,fun v j h=>by simp[po]at h⟩
 | f+1,i=>by
  refine⟨fun v j h=>?_,fun l j h=>?_,fun m j h=>?_⟩
  ·rw[pv]at h;split at h
   ·split at h
    ·injection h with h;injection h with hv h;subst hv;rw[zF,qw];trivial
    ·simp only[yz]at h;obtain⟨⟨l,k⟩,hk,h⟩:=h;injection h with hv h;subst hv;rw[zF];exact (Ws s f (sk s (i+1))).2.1 l k hk
   ·split at h
    ·split at h
     ·injection h with h;injection h with hv h;subst hv;rw[zF,qq];trivial
     ·simp only[yz]at h;obtain⟨⟨l,k⟩,hk,h⟩:=h;injection h with hv h;subst hv;rw[zF];exact (Ws s f (sk s (i+1))).2.2 l k hk
    ·split at h
     ·simp only[yz]at h;obtain⟨⟨l,k⟩,hk,h⟩:=h;injection h with hv h;subst hv;rw[zF];exact X1 hk
     ·split at h
      ·injection h with h;injection h with hv h;subst hv;rw[zF];trivial
      ·split at h
       ·injection h with h;injection h with hv h;subst hv;rw[zF];trivial
       ·split at h
        ·injection h with h;injection h with hv h;subst hv;rw[zF];trivial
        ·simp only[yz]at h;obtain⟨⟨l,k⟩,hk,h⟩:=h;injection h with hv h;subst hv;rw[zF];exact zbx hk
  ·rw[pa]at h;simp only[Option.bind_eq_some_iff]at h;obtain⟨⟨v,k⟩,hk,h⟩:=h;have b:=(Ws s f i).1 v k hk;simp only at h;split at h
   ·injection h with h;injection h with hv h;subst hv;rw[qw,qw];exact⟨b,trivial⟩
   ·split at h
    ·simp only[yz]at h;obtain⟨⟨l,n⟩,d,h⟩:=h;injection h with hv h;subst hv;rw[qw];exact⟨b,(Ws s f _).2.1 l n d⟩
    ·cases h
  ·rw[po]at h;simp only[Option.bind_eq_some_iff]at h;obtain⟨⟨p,a⟩,o,h⟩:=h;have g:=X1 o;simp only at h;split at h
   ·simp only[Option.bind_eq_some_iff]at h;obtain⟨⟨v,k⟩,hk,h⟩:=h;have b:=(Ws s f _).1 v k hk;simp only at h;split at h
    ·injection h with h;injection h with hv h;subst hv;rw[qq,qq];exact⟨g,b,trivial⟩
    ·split at h
     ·simp only[yz]at h;obtain⟨⟨l,n⟩,d,h⟩:=h;injection h with hv h;subst hv;rw[qq];exact⟨g,b,(Ws s f _).2.2 l n d⟩
     ·cases h
   ·cases h
theorem L5{s:Bs}{i j:Nat}{v:JV}(h:val s i=some (v,j)):zF v:=(Ws s _ i).1 v j h
mutual
theorem Gy:∀ v:JV,zL v<=zt v/\1<=zL v
 | .nul=>⟨ye _,ye _⟩
 | .tt=>⟨ye _,ye _⟩
 | .ff=>⟨ye _,ye _⟩
 | .num _=>⟨ye _,ye _⟩
 | .str _=>⟨ye _,ye _⟩
 | .arr l=>by rw[zL,zt];have:=L6 l;omega
 | .obj m=>by rw[zL,zt];have:=L7 m;omega
theorem L6:∀ l:JL,Yv l<=Qv l
 | .nil=>ye _
 | .cons v r=>by rw[Yv,Qv];have:=L6 r;have:=Gy v;omega
theorem L7:∀ m:JM,JZ m<=qY m
 | .nil=>ye _
 | .cons k v r=>by rw[JZ,qY];have:=L7 r;have:=Gy v;omega
end
theorem N7(p:List UInt8×List UInt8):∀ l,(qn p l).Perm (p :: l)
 | []=>List.Perm.refl _
 | q :: r=>by
  unfold qn;split
  ·exact ((N7 p r).cons q).trans (List.Perm.swap p q r)
  ·exact List.Perm.refl _
theorem L8:∀ (l acc:List (List UInt8×List UInt8)),(l.foldl (fun acc p=>qn p acc) acc).Perm (l++acc)
 | [],acc=>List.Perm.refl _
 | p :: l,acc=>by
  rw[List.foldl_cons];exact (L8 l _).trans (((N7 p acc).append_left l).trans (List.perm_middle))
theorem qL(l:List (List UInt8×List UInt8)):(zH l).Perm l:=by
 unfold zH;have:=L8 l [];rw[yS]at this;exact (List.reverse_perm _).trans this
theorem L9(p:List UInt8×List UInt8):∀ l,l.Pairwise (fun a b=>b.1<=a.1)->(qn p l).Pairwise (fun a b=>b.1<=a.1)
 | [],_=>by simp[qn]
 | q :: r,h=>by
  rw[List.pairwise_cons]at h;unfold qn;split
  ·rename_i hlt;rw[List.pairwise_cons];refine⟨fun a ha=>?_,L9 p r h.2⟩;rcases List.mem_cons.1 ((N7 p r).subset ha)with rfl | ha
   ·exact List.le_of_lt hlt
   ·exact h.1 a ha
  ·rename_i hlt;have hqp:q.1<=p.1:=List.not_lt.1 hlt;rw[List.pairwise_cons,List.pairwise_cons];refine⟨fun a ha=>?_,h⟩;rcases List.mem_cons.1 ha with rfl | ha
   ·exact hqp
   ·exact List.le_trans (h.1 a ha) hqp
theorem Ma:∀ (l acc:List (List UInt8×List UInt8)),acc.Pairwise (fun a b=>b.1<=a.1)->(l.foldl (fun acc p=>qn p acc) acc).Pairwise (fun a b=>b.1<=a.1)
 | [],acc,h=>h
 | p :: l,acc,h=>by rw[List.foldl_cons];exact Ma l _ (L9 p acc h)
theorem X4(l:List (List UInt8×List UInt8)):(zH l).Pairwise (fun a b=>a.1<=b.1):=by
 unfold zH;rw[List.pairwise_reverse];exact Ma l [] List.Pairwise.nil
theorem zby{l:List (List UInt8×List UInt8)}{ss:List (List UInt8)}(h:ss.Perm (l.map (·.1))):ss.mergeSort (fun x y=>decide (x<=y))=(zH l).map (·.1):=by
 have d:∀ a b c:List UInt8,decide (a<=b)=true->decide (b<=c)=true->decide (a<=c)=true:=fun a b c h1 h2=>by simp only[decide_eq_true_eq]at *;exact List.le_trans h1 h2
 have f:∀ a b:List UInt8,(decide (a<=b) || decide (b<=a))=true:=fun a b=>by simp only[Bool.or_eq_true,decide_eq_true_eq];exact List.le_total a b
 refine List.Perm.eq_of_pairwise (le:=fun a b=>decide (a<=b)=true) (fun a b _ _ h1 h2=>?_) (List.pairwise_mergeSort d f ss) ?_ (((List.mergeSort_perm _ _).trans h).trans ((qL l).map _).symm)
 ·simp only[decide_eq_true_eq]at h1 h2;exact List.le_antisymm h1 h2
 ·rw[List.pairwise_map];exact (X4 l).imp fun h=>by simpa using h
def JM.toL:JM->List (List UInt8×JV)
 | .nil=>[]
 | .cons k v r=>(k,v) :: r.toL
theorem qQ:∀ m:JM,zj m=m.toL.map fun p=>(p.1,ct p.2)
 | .nil=>rfl
 | .cons k v r=>by rw[zj,JM.toL,yi,qQ r]
theorem QE:∀ m:JM,Qd m=m.toL.map (·.1)
 | .nil=>rfl
 | .cons k v r=>by rw[Qd,JM.toL,yi,QE r]
theorem Km:∀ (m:JM) (ks:List (List UInt8)),ZN ks m=false->(Qd m).Nodup/\∀ k∈Qd m,k ∉ ks
 | .nil,ks,_=>⟨List.nodup_nil,fun k hk=>by simp[Qd]at hk⟩
 | .cons k v r,ks,h=>by
  rw[ZN]at h;simp only[Bool.or_eq_false_iff]at h;obtain⟨⟨_,h1⟩,h2⟩:=h;obtain⟨g,f⟩:=Km r (ks++[k]) h2;rw[Qd,List.nodup_cons];refine⟨⟨fun hk=>f k hk (by simp),g⟩,fun a b=>?_⟩;rcases List.mem_cons.1 b with rfl | b
  ·intro d;rw[List.contains_eq_mem,decide_eq_false_iff_not]at h1;exact h1 d
  ·intro d;exact f a b (List.mem_append_left _ d)
def VO(c:Nat):Bool:=c ==91 || c ==123
def Wt(c:Nat):Bool:=c ==93 || c ==125
def JI(T:Bs)(i:Nat):Option Nat:=if bt T i=34 then (ZD T i).map (·.2)else some (i+1)
def QZ(c op:Nat):Option Nat:=if VO c then some (op+1)else if Wt c then (if op=0 then none else some (op - 1))else some op
def YP(T:Bs)(i:Nat):Bool:=decide (i=T.size) || bt T i ==44 || bt T i ==93 || bt T i ==125
def qG(T:Bs):Nat->Nat->Nat->Option Nat
 | 0,_,_=>none
 | f+1,op,i=>if i<T.size then (JI T i).bind fun j=>(QZ (bt T i) op).bind fun o=>if o=0/\YP T j=true then some j else qG T f o j else none
def JJ(T:Bs):Nat->Nat->Nat->Nat->Option Nat
 | 0,_,_,_=>none
 | f+1,op,mo,i=>if i<T.size then (JI T i).bind fun j=>(QZ (bt T i) op).bind fun o=>JJ T f o (max mo o) j else some mo
section
variable {T:Bs}
theorem Zx{i:Nat}{c:UInt8}{m:List UInt8}(h:T.data.toList.drop i=c :: m):i<T.size/\bt T i=c.toNat/\T.data.toList.drop (i+1)=m:=by
 refine⟨zbw h (by simp),?_,?_⟩
 ·have:=Js T i 0;rw[h]at this;exact this
 ·exact QY (m:=[c]) (n:=m) h
def Gz(m:List UInt8):Prop:=m=[]∨∃ c r,m=c :: r/\(c.toNat=44∨c.toNat=93∨c.toNat=125)
theorem N9{i:Nat}{m:List UInt8}(h:T.data.toList.drop i=m)(hi:i<=T.size)(hm:Gz m):YP T i=true:=by
 unfold YP;rcases hm with rfl |⟨c,r,rfl,a⟩
 ·have:i=T.size:=by
   have:=congrArg List.length h;rw[yu,Zn,yD]at this;omega
  simp[this]
 ·obtain⟨_,b,_⟩:=Zx h;rw[b];rcases a with a | a | a<;>simp[a]
theorem zbz{i:Nat}{c:UInt8}{m:List UInt8}(h:T.data.toList.drop i=c :: m)(h1:c.toNat≠44)(h2:c.toNat≠93)(h3:c.toNat≠125):YP T i=false:=by
 obtain⟨b,a,_⟩:=Zx h;unfold YP;rw[a];simp[h1,h2,h3];omega
def YQ(c:UInt8):Prop:=c.toNat≠34/\c.toNat≠91/\c.toNat≠123/\c.toNat≠93/\c.toNat≠125
theorem X5{c:UInt8}(h:YQ c)(op:Nat):QZ c.toNat op=some op:=by
 obtain⟨_,a,b,d,e⟩:=h;simp[QZ,VO,Wt,a,b,d,e]
theorem Vh{i:Nat}{c:UInt8}(hb:bt T i=c.toNat)(h:c.toNat≠34):JI T i=some (i+1):=by unfold JI;rw[yf (by omega)]
def Zz(T:Bs)(t:List UInt8):Prop:=∀ op i m f k,1<=op->T.data.toList.drop i=t++m->qG T f op (i+t.length)=some k->∃ f',qG T f' op i=some k
def Jj(T:Bs)(t:List UInt8):Prop:=∀ i m,T.data.toList.drop i=t++m->Gz m->∃ f,qG T f 0 i=some (i+t.length)
theorem Zz.nil:Zz T []:=fun _ _ _ f _ _ _ h=>⟨f,h⟩
theorem Zz.app{a b:List UInt8}(ha:Zz T a)(hb:Zz T b):Zz T (a++b):=fun op i m f k ho h he=>by
 rw[List.append_assoc]at h;rw[yh,← Nat.add_assoc]at he;obtain⟨d,g⟩:=hb op (i+a.length) m f k ho (QY h) he;exact ha op i (b++m) d k ho h g
theorem Zz.one{c:UInt8}(hc:YQ c):Zz T [c]:=fun op i m f k ho h he=>by
 obtain⟨b,a,_⟩:=Zx h;refine⟨f+1,?_⟩;rw[qG,yg b,Vh a hc.1,a,X5 hc];simp only[yA];rw[yf (by omega)];exact he
theorem Zz.plain:∀ {t:List UInt8},(∀ c∈t,YQ c)->Zz T t
 | [],_=>Zz.nil
 | c :: _,h=>Zz.app (a:=[c]) (Zz.one (h c yp)) (Zz.plain fun d hd=>h d (yv _ hd))
theorem Pa{i:Nat}{l m:List UInt8}(hv:Lib.validD l=true)(h:T.data.toList.drop i=quoted l++m):i<T.size/\bt T i=34/\JI T i=some (i+(quoted l).length):=by
 have b:T.data.toList.drop i=34 ::(qs l++34 :: m):=by rw[h];simp[quoted]
 obtain⟨d,a,_⟩:=Zx b;refine⟨d,a,?_⟩;unfold JI;rw[yg (by rw[a];rfl),VN l T m hv i h];rfl
theorem Pb(op:Nat):QZ 34 op=some op:=rfl
theorem Zz.quoted{l:List UInt8}(hv:Lib.validD l=true):Zz T (Go.Proofs.YtekpghcckdjnhaaGreatDoor.quoted l):=fun op i m f k ho h he=>by
 obtain⟨b,a,d⟩:=Pa hv h;refine⟨f+1,?_⟩;rw[qG,yg b,d,a,Pb];simp only[yA];rw[yf (by omega)];exact he
theorem Jj.quoted{l:List UInt8}(hv:Lib.validD l=true):Jj T (Go.Proofs.YtekpghcckdjnhaaGreatDoor.quoted l):=fun i m h hs=>by
 obtain⟨f,b,g⟩:=Pa hv h;have d:=QY h;have a:i+(Go.Proofs.YtekpghcckdjnhaaGreatDoor.quoted l).length<=T.size:=by
  have:=congrArg List.length h;rw[yu,Zn,yh]at this;omega
 refine⟨1,?_⟩;rw[qG,yg f,g,b,Pb];simp only[yA];rw[yg ⟨trivial,N9 d a hs⟩]
theorem Jj.plain:∀ {t:List UInt8},t≠[]->(∀ c∈t,YQ c/\c.toNat≠44)->Jj T t
 | [],h,_=>absurd rfl h
 | [c],_,hc=>fun i m h hs=>by
  obtain⟨hl,hb,hd⟩:=Zx (T:=T) (m:=m) h;have a:=hc c yp;refine⟨1,?_⟩;rw[qG,yg hl,Vh hb a.1.1,hb,X5 a.1];simp only[yA];rw[yg ⟨trivial,N9 hd hl hs⟩];rfl
 | c :: d :: r,_,hc=>fun i m h hs=>by
  obtain⟨hl,hb,hd⟩:=Zx (T:=T) (m:=d :: r++m) h;have a:=hc c yp;have b:=hc d (yv _ yp);obtain⟨f,g⟩:=Jj.plain (t:=d :: r) (by simp) (fun x hx=>hc x (yv _ hx)) (i+1) m hd hs;refine⟨f+1,?_⟩;rw[qG,yg hl,Vh hb a.1.1,hb,X5 a.1];simp only[yA];rw[yf (by rw[zbz (m:=r++m) hd b.2 b.1.2.2.2.1 b.1.2.2.2.2];simp),g];simp only[yn];congr 1;omega
theorem Zz.wrap{t:List UInt8}{a b:UInt8}(ha:VO a.toNat=true)(hb:Wt b.toNat=true)(ht:Zz T t):Zz T (a ::(t++[b]))/\Jj T (a ::(t++[b])):=by
 have l:a.toNat≠34:=by intro e;rw[e]at ha;cases ha
 have n:b.toNat≠34:=by intro e;rw[e]at hb;cases hb
 have p:VO b.toNat=false:=by
  simp only[Wt,Bool.or_eq_true,yC]at hb;rcases hb with h | h<;>simp[VO,h]
 refine⟨fun op i m f k ho h he=>?_,fun i m h hs=>?_⟩
 ·have v:T.data.toList.drop i=a ::(t++(b :: m)):=by rw[h];simp
  obtain⟨x,d,q⟩:=Zx v;obtain⟨j,g,r⟩:=Zx (QY q);have s:∃ f',qG T f' (op+1) (i+1+t.length)=some k:=by
   refine⟨f+1,?_⟩;rw[qG,yg j,Vh g n,g];simp only[yA,QZ,p,hb,if_true,Bool.false_eq_true,if_false];rw[yf (by omega)];simp only[yA,Nat.add_sub_cancel];rw[yf (by omega)];rw[show i+1+t.length+1=i+(a ::(t++[b])).length by simp;omega];exact he
  obtain⟨y,w⟩:=s;obtain⟨u,o⟩:=ht (op+1) (i+1) (b :: m) y k (by omega) q w;refine⟨u+1,?_⟩;rw[qG,yg x,Vh d l,d];simp only[yA,QZ,ha,if_true];rw[yf (by omega)];exact o
 ·have v:T.data.toList.drop i=a ::(t++(b :: m)):=by rw[h];simp
  obtain⟨x,d,q⟩:=Zx v;obtain⟨j,g,r⟩:=Zx (QY q);have s:qG T 1 1 (i+1+t.length)=some (i+(a ::(t++[b])).length):=by
   rw[qG,yg j,Vh g n,g];simp only[yA,QZ,p,hb,if_true,Bool.false_eq_true,if_false];rw[yf (by omega)];simp only[yA,Nat.sub_self];rw[yg ⟨trivial,N9 r j hs⟩];simp;omega
  obtain⟨u,o⟩:=ht 1 (i+1) (b :: m) 1 _ (by omega) q s;refine⟨u+1,?_⟩;rw[qG,yg x,Vh d l,d];simp only[yA,QZ,ha,if_true];rw[yf (by omega)];exact o
theorem Zz.joinT:∀ {ts:List (List UInt8)},(∀ t∈ts,Zz T t)->Zz T (Go.Proofs.YtekpghcckdjnhaaGreatDoor.joinT ts)
 | [],_=>Zz.nil
 | t :: r,h=>Zz.app (a:=[44]) (Zz.one ⟨by decide,by decide,by decide,by decide,by decide⟩) (Zz.app (h t yp) (Zz.joinT fun x hx=>h x (yv _ hx)))
theorem Zz.joinC{ts:List (List UInt8)}(h:∀ t∈ts,Zz T t):Zz T (Go.Proofs.YtekpghcckdjnhaaGreatDoor.joinC ts):=by
 cases ts with
 | nil=>exact Zz.nil
 | cons t r=>exact Zz.app (h t yp) (Zz.joinT fun x hx=>h x (yv _ hx))
theorem Up{l:List UInt8}(h:zF (.num l)):l≠[]/\∀ c∈l,YQ c/\c.toNat≠44:=by
 rw[zF]at h;obtain⟨c,r,rfl,b,f⟩:=h;refine⟨by simp,fun d a=>?_⟩;have:d.toNat=45∨zI d.toNat=true:=by
  rcases List.mem_cons.1 a with rfl | a
  ·exact b
  ·exact .inr (f d a)
 have g:d.toNat=45∨(48<=d.toNat/\d.toNat<=57):=this.imp id Qo.1;exact⟨⟨by omega,by omega,by omega,by omega,by omega⟩,by omega⟩
theorem Uq{l:List UInt8}(h:l∈[[110,117,108,108],[116,114,117,101],([102,97,108,115,101]:List UInt8)]):l≠[]/\∀ c∈l,YQ c/\c.toNat≠44:=by
 unfold YQ;revert l;decide
mutual
theorem X6:∀ v:JV,zF v->Zz T (ct v)/\Jj T (ct v)
 | .nul,_=>by
  have:=Uq (l:=[110,117,108,108]) (by simp);exact⟨Zz.plain fun c hc=>(this.2 c hc).1,Jj.plain this.1 this.2⟩
 | .tt,_=>by
  have:=Uq (l:=[116,114,117,101]) (by simp);exact⟨Zz.plain fun c hc=>(this.2 c hc).1,Jj.plain this.1 this.2⟩
 | .ff,_=>by
  have:=Uq (l:=[102,97,108,115,101]) (by simp);exact⟨Zz.plain fun c hc=>(this.2 c hc).1,Jj.plain this.1 this.2⟩
 | .num l,h=>by
  have:=Up h;exact⟨Zz.plain fun c hc=>(this.2 c hc).1,Jj.plain this.1 this.2⟩
 | .str l,h=>by
  rw[zF]at h;exact⟨Zz.quoted h,Jj.quoted h⟩
 | .arr l,h=>by
  rw[zF]at h;exact Zz.wrap rfl rfl (Zz.joinC (Mb l h))
 | .obj m,h=>by
  rw[zF]at h;refine Zz.wrap rfl rfl (Zz.joinC fun t ht=>?_);obtain⟨p,hp,rfl⟩:=yO.1 ht;exact Mc m h p ((qL _).subset hp)
theorem Mb:∀ l:JL,qw l->∀ t∈zr l,Zz T t
 | .nil,_,t,ht=>by simp[zr]at ht
 | .cons v r,h,t,ht=>by
  rw[qw]at h;rw[zr]at ht;rcases List.mem_cons.1 ht with e | ht
  ·rw[e];exact (X6 v h.1).1
  ·exact Mb r h.2 t ht
theorem Mc:∀ m:JM,qq m->∀ p∈zj m,Zz T (zn p)
 | .nil,_,p,hp=>by simp[zj]at hp
 | .cons k v r,h,p,hp=>by
  rw[qq]at h;rw[zj]at hp;rcases List.mem_cons.1 hp with e | hp
  ·rw[e];exact Zz.app (Zz.quoted h.1) (Zz.app (a:=[58]) (Zz.one ⟨by decide,by decide,by decide,by decide,by decide⟩) (X6 v h.2.1).1)
  ·exact Mc r h.2.2 p hp
end
end
theorem Md(s:Bs)(i:Nat)(w:Wo)(hs:s.size<=1048576):
  Calls prog 83 #[.string s,.int .i64 i] w fun e w'=>e= .returned (.int .i64 (sk s i))/\w=w':=by
 go_in;go_wp2;go_loopw [1] (fun k wr=>w=wr/\∃ j:Nat,k= .int .i64 (j:Int)/\sk s i=sk s j) (fun k _=>s.size - (intOf k).toNat)
 case atStart=>exact⟨rfl,i,rfl,rfl⟩
 case round=>
  obtain⟨rfl,j,rfl,f⟩:=hrel;have b:=zb f;clear f;by_cases l:j<s.size
  ·have d:(j:Int)<(s.size:Int):=by omega
   have h:=Zr s j l;by_cases c:bt s j=32∨bt s j=9∨bt s j=10∨bt s j=13
   ·have a:Hid (sk s i=sk s (j+1)):=by show _=_;rw[uh b,Uh c]
    rw[h]at c;clear h;rcases c with c | c | c | c
    ·have g:(s[j].toNat:Int)=32:=by omega
     clear c;go_wp2;go_roundw
     case rel=>exact⟨trivial,j+1,by go_num,uh a⟩
     case measure=>simp[intOf];omega
    ·have g:(s[j].toNat:Int)=9:=by omega
     clear c;go_wp2;go_roundw
     case rel=>exact⟨trivial,j+1,by go_num,uh a⟩
     case measure=>simp[intOf];omega
    ·have g:(s[j].toNat:Int)=10:=by omega
     clear c;go_wp2;go_roundw
     case rel=>exact⟨trivial,j+1,by go_num,uh a⟩
     case measure=>simp[intOf];omega
    ·have g:(s[j].toNat:Int)=13:=by omega
     clear c;go_wp2;go_roundw
     case rel=>exact⟨trivial,j+1,by go_num,uh a⟩
     case measure=>simp[intOf];omega
   ·have a:Hid (sk s i=j):=by show _=_;rw[uh b,Kh c]
    have g:((s[j].toNat:Int) ==32)=false:=by rw[yd];omega
    have n:((s[j].toNat:Int) ==9)=false:=by rw[yd];omega
    have o:((s[j].toNat:Int) ==10)=false:=by rw[yd];omega
    have p:((s[j].toNat:Int) ==13)=false:=by rw[yd];omega
    clear c h;go_wp2;go_ret;exact⟨by rw[uh a];rfl,rfl⟩
  ·have d:¬ (j:Int)<(s.size:Int):=by omega
   have m:decide ((j:Int)<(s.size:Int))=false:=by simp;omega
   have a:Hid (sk s i=j):=by show _=_;rw[uh b,XR (by omega)]
   go_wp2;go_ret;exact⟨by rw[uh a];rfl,rfl⟩
theorem Pc(s t:Bs)(i:Nat)(w:Wo)(hs:s.size<=1048576)(ht:t.size<=10)(hi:i<=s.size+1):
  Calls prog 118 #[.string s,.int .i64 i,.string t] w fun e w'=>e= .returned (.bool (decide (i+t.size<=s.size) && (s.extract i (i+t.size)).toList ==t.toList))/\w=w':=by
 by_cases d:i+t.size<=s.size
 ·have b:(i:Int)+(t.size:Int)<=(s.size:Int):=by omega
  have f:(i:Int)<=(i:Int)+(t.size:Int):=by omega
  have g:(0:Int)<=(i:Int):=by omega
  have a:decide (i+t.size<=s.size)=true:=by simp;omega
  rw[a,Bool.true_and];clear a;go_in;go_wp2;go_ret;exact⟨rfl,rfl⟩
 ·have b:¬ (i:Int)+(t.size:Int)<=(s.size:Int):=by omega
  have a:decide (i+t.size<=s.size)=false:=by simp;omega
  rw[a,Bool.false_and];clear a;go_in;go_wp2;go_ret;exact⟨rfl,rfl⟩
theorem Wu(s:Bs)(i j:Nat):(s.extract i j).toList=Zc s i j:=by
 rw[ByteArray.toList_eq,Lib.extract_data];rfl
theorem Ur(s:Bs)(i j:Nat):s.extract i j=ze (Zc s i j):=by
 have h:(s.extract i j).data.toList=Zc s i j:=by rw[Lib.extract_data];rfl
 rw[← h]
 cases s.extract i j;simp[ze]
theorem zbA(c:UInt8)(r:List UInt8):Zc (ze (c :: r)) 1 (r.length+1)=r:=by
 unfold Zc;rw[Zf];simp
theorem Me(l:List UInt8)(w:Wo)(h0:l≠[])(hl:l.length<=1048576):
  Calls prog 147 #[.string (ze l)] w fun e w'=>e= .returned (.bool (Qu l))/\w=w':=by
 obtain⟨c,r,rfl⟩:∃ c r,l=c :: r:=by cases l with | nil=>exact absurd rfl h0 | cons c r=>exact⟨c,r,rfl⟩
 have m:(ze (c :: r)).size=r.length+1:=by rw[Zw];rfl
 have j:0<(ze (c :: r)).size:=by omega
 have f:(ze (c :: r))[0].toNat=c.toNat:=rfl;by_cases d:c=45
 ·subst d;have g:Hid (Qu (45 :: r)=over r Uo):=by show _=_;rw[Qu,yg rfl]
  have h:Hid (((ze (45 :: r)).extract 1 (r.length+1)).toList=r):=by show _=_;rw[Wu,zbA]
  have k:((ze (45 :: r))[0].toNat:Int)=45:=by rw[f];rfl
  by_cases b:r.length=19
  ·have i:((r.length:Int) !=19)=false:=by rw[bne_eq_false_iff_eq];omega
   have a:Hid (Qu (45 :: r)=(!Op.bytesLess r Uo && !(r ==Uo))):=by show _=_;rw[uh g];unfold over;rw[yf (by omega)]
   clear b f h0;go_in;go_wp2;go_ret;refine⟨?_,rfl⟩;rw[uh h,uh a];rfl
  ·have i:((r.length:Int) !=19)=true:=by rw[bne_iff_ne];omega
   have a:Hid (Qu (45 :: r)=decide (19<(r.length:Int))):=by
    show _=_;rw[uh g];unfold over;rw[yg b];simp;omega
   clear b f h0;go_in;go_wp2;go_ret;refine⟨?_,rfl⟩;rw[uh a];rfl
 ·have g:Hid (Qu (c :: r)=over (c :: r) Un):=by show _=_;rw[Qu,yf d]
  have h:Hid ((ze (c :: r)).toList=c :: r):=by show _=_;rw[ByteArray.toList_eq,Zf]
  have k:(((ze (c :: r))[0].toNat:Int) ==45)=false:=by
   rw[yd,f];intro e;exact d (UInt8.toNat_inj.1 (by show c.toNat=45;omega))
  by_cases b:r.length=18
  ·have i:((r.length+1:Int) !=19)=false:=by rw[bne_eq_false_iff_eq];omega
   have a:Hid (Qu (c :: r)=(!Op.bytesLess (c :: r) Un && !((c :: r) ==Un))):=by show _=_;rw[uh g];unfold over;rw[yf (by simp;omega)]
   clear b f h0;go_in;go_wp2;go_ret;refine⟨?_,rfl⟩;rw[uh h,uh a];rfl
  ·have i:((r.length+1:Int) !=19)=true:=by rw[bne_iff_ne];omega
   have a:Hid (Qu (c :: r)=decide (19<(r.length+1:Int))):=by
    show _=_;rw[uh g];unfold over;rw[yg (by simp;omega)];simp;omega
   clear b f h0;go_in;go_wp2;go_ret;refine⟨?_,rfl⟩;rw[uh a];rfl
def Vi(o:Option Nat):Int:=o.elim (-1) fun n=>(n:Int)
theorem zbB(b:Nat)(hb:b<256)(w:Wo):
  Calls prog 171 #[.int .u8 b] w fun e w'=>w=w'/\e= .returned (.int .i64 (Vi (hx b))):=by
 by_cases a:48<=b/\b<=57
 ·have d:Hid (hx b=some (b - 48)):=by show _=_;unfold hx;rw[yg a]
  have i:(48:Int)<=(b:Int):=by omega
  have k:(b:Int)<=57:=by omega
  clear a;go_in;go_wp2;go_ret;refine⟨rfl,?_⟩;rw[uh d];exact Jl (show _=((b - 48:Nat):Int) by go_num)
 ·by_cases f:97<=b/\b<=102
  ·have d:Hid (hx b=some (b - 87)):=by show _=_;unfold hx;rw[yf a,yg f]
   have i:(97:Int)<=(b:Int):=by omega
   have k:(b:Int)<=102:=by omega
   clear a f;go_in;go_wp2;go_ret;refine⟨rfl,?_⟩;rw[uh d];exact Jl (show _=((b - 87:Nat):Int) by go_num)
  ·by_cases h:65<=b/\b<=70
   ·have d:Hid (hx b=some (b - 55)):=by show _=_;unfold hx;rw[yf a,yf f,yg h]
    have i:(65:Int)<=(b:Int):=by omega
    have k:(b:Int)<=70:=by omega
    clear a f h;go_in;go_wp2;go_ret;refine⟨rfl,?_⟩;rw[uh d];exact Jl (show _=((b - 55:Nat):Int) by go_num)
   ·have d:Hid (hx b=none):=by show _=_;unfold hx;rw[yf a,yf f,yf h]
    rcases (show b<48∨(57<b/\b<65)∨(70<b/\b<97)∨102<b from by omega)with g | g | g | g
    ·have j:(b:Int)<48:=by omega
     clear a f h g;go_in;go_wp2;go_ret;exact⟨rfl,by rw[uh d];rfl⟩
    ·have j:(57:Int)<(b:Int):=by omega
     have i:(b:Int)<65:=by omega
     clear a f h g;go_in;go_wp2;go_ret;exact⟨rfl,by rw[uh d];rfl⟩
    ·have j:(70:Int)<(b:Int):=by omega
     have i:(b:Int)<97:=by omega
     clear a f h g;go_in;go_wp2;go_ret;exact⟨rfl,by rw[uh d];rfl⟩
    ·have j:(102:Int)<(b:Int):=by omega
     clear a f h g;go_in;go_wp2;go_ret;exact⟨rfl,by rw[uh d];rfl⟩
def zbC(c:Nat)(k:Value):Prop:=∃ j:Nat,j<=8/\k= .int .i64 j/\(0<j->c≠34)/\(1<j->c≠92)/\(2<j->c≠47)/\(3<j->c≠98)/\(4<j->c≠102)/\(5<j->c≠110)/\(6<j->c≠114)/\(7<j->c≠116)
abbrev zbD(w:Wo):Wo:=w.alloc (.cells #[.int .u8 34,.int .u8 92,.int .u8 47,.int .u8 8,.int .u8 12,.int .u8 10,.int .u8 13,.int .u8 9] 5)
theorem Mf(c:Nat)(hc:c<256)(w:Wo):
  Calls prog 149 #[.int .u8 c] w fun e w'=>e= .returned (.int .i64 (Vi (Jh c)))/\Bw w w':=by
 go_in;go_wp2;go_loopw [5] (fun k wr=>zbC c k/\zbD w=wr) (fun k _=>8 - (intOf k).toNat)
 case atStart=>exact⟨⟨0,by omega,rfl,by omega,by omega,by omega,by omega,by omega,by omega,by omega,by omega⟩,rfl⟩
 case round=>
  obtain⟨⟨j,q,rfl,a,d,f,h,l,m,n,o⟩,rfl⟩:=hrel;have b:Hid ((0<j->c≠34)/\(1<j->c≠92)/\(2<j->c≠47)/\(3<j->c≠98)/\(4<j->c≠102)/\(5<j->c≠110)/\(6<j->c≠114)/\(7<j->c≠116)):=⟨a,d,f,h,l,m,n,o⟩;clear a d f h l m n o;rcases (show j=0∨j=1∨j=2∨j=3∨j=4∨j=5∨j=6∨j=7∨j=8 from by omega)with rfl | rfl | rfl | rfl | rfl | rfl | rfl | rfl | rfl
  ·have g:((⟨#[34,92,47,98,102,110,114,116]⟩:Bs)[0]'(by decide)).toNat=34:=rfl;by_cases e:c=34
   ·subst e;clear b;go_wp2;go_ret;exact⟨rfl,(yH _ _).alloc (ye _) _⟩
   ·have t:((34:Int) ==(c:Int))=false:=by rw[yd];omega
    have i:=zb e;clear e;go_wp2;go_roundw
    case rel=>
     obtain⟨a,d,f,h,l,m,n,o⟩:=uh b;have e:=uh i;exact⟨⟨1,by omega,by go_num,fun _=>e,by omega,by omega,by omega,by omega,by omega,by omega,by omega⟩,trivial⟩
    case measure=>simp[intOf]
  ·have g:((⟨#[34,92,47,98,102,110,114,116]⟩:Bs)[1]'(by decide)).toNat=92:=rfl;by_cases e:c=92
   ·subst e;clear b;go_wp2;go_ret;exact⟨rfl,(yH _ _).alloc (ye _) _⟩
   ·have t:((92:Int) ==(c:Int))=false:=by rw[yd];omega
    have i:=zb e;clear e;go_wp2;go_roundw
    case rel=>
     obtain⟨a,d,f,h,l,m,n,o⟩:=uh b;have e:=uh i;exact⟨⟨2,by omega,by go_num,fun _=>a (by omega),fun _=>e,by omega,by omega,by omega,by omega,by omega,by omega⟩,trivial⟩
    case measure=>simp[intOf]
  ·have g:((⟨#[34,92,47,98,102,110,114,116]⟩:Bs)[2]'(by decide)).toNat=47:=rfl;by_cases e:c=47
   ·subst e;clear b;go_wp2;go_ret;exact⟨rfl,(yH _ _).alloc (ye _) _⟩
   ·have t:((47:Int) ==(c:Int))=false:=by rw[yd];omega
    have i:=zb e;clear e;go_wp2;go_roundw
    case rel=>
     obtain⟨a,d,f,h,l,m,n,o⟩:=uh b;have e:=uh i;exact⟨⟨3,by omega,by go_num,fun _=>a (by omega),fun _=>d (by omega),fun _=>e,by omega,by omega,by omega,by omega,by omega⟩,trivial⟩
    case measure=>simp[intOf]
  ·have g:((⟨#[34,92,47,98,102,110,114,116]⟩:Bs)[3]'(by decide)).toNat=98:=rfl;by_cases e:c=98
   ·subst e;clear b;go_wp2;go_ret;exact⟨rfl,(yH _ _).alloc (ye _) _⟩
   ·have t:((98:Int) ==(c:Int))=false:=by rw[yd];omega
    have i:=zb e;clear e;go_wp2;go_roundw
    case rel=>
     obtain⟨a,d,f,h,l,m,n,o⟩:=uh b;have e:=uh i;exact⟨⟨4,by omega,by go_num,fun _=>a (by omega),fun _=>d (by omega),fun _=>f (by omega),fun _=>e,by omega,by omega,by omega,by omega⟩,trivial⟩
    case measure=>simp[intOf]
  ·have g:((⟨#[34,92,47,98,102,110,114,116]⟩:Bs)[4]'(by decide)).toNat=102:=rfl;by_cases e:c=102
   ·subst e;clear b;go_wp2;go_ret;exact⟨rfl,(yH _ _).alloc (ye _) _⟩
   ·have t:((102:Int) ==(c:Int))=false:=by rw[yd];omega
    have i:=zb e;clear e;go_wp2;go_roundw
    case rel=>
     obtain⟨a,d,f,h,l,m,n,o⟩:=uh b;have e:=uh i;exact⟨⟨5,by omega,by go_num,fun _=>a (by omega),fun _=>d (by omega),fun _=>f (by omega),fun _=>h (by omega),fun _=>e,by omega,by omega,by omega⟩,trivial⟩
    case measure=>simp[intOf]
  ·have g:((⟨#[34,92,47,98,102,110,114,116]⟩:Bs)[5]'(by decide)).toNat=110:=rfl;by_cases e:c=110
   ·subst e;clear b;go_wp2;go_ret;exact⟨rfl,(yH _ _).alloc (ye _) _⟩
   ·have t:((110:Int) ==(c:Int))=false:=by rw[yd];omega
    have i:=zb e;clear e;go_wp2;go_roundw
    case rel=>
     obtain⟨a,d,f,h,l,m,n,o⟩:=uh b;have e:=uh i;exact⟨⟨6,by omega,by go_num,fun _=>a (by omega),fun _=>d (by omega),fun _=>f (by omega),fun _=>h (by omega),fun _=>l (by omega),fun _=>e,by omega,by omega⟩,trivial⟩
    case measure=>simp[intOf]
  ·have g:((⟨#[34,92,47,98,102,110,114,116]⟩:Bs)[6]'(by decide)).toNat=114:=rfl;by_cases e:c=114
   ·subst e;clear b;go_wp2;go_ret;exact⟨rfl,(yH _ _).alloc (ye _) _⟩
   ·have t:((114:Int) ==(c:Int))=false:=by rw[yd];omega
    have i:=zb e;clear e;go_wp2;go_roundw
    case rel=>
     obtain⟨a,d,f,h,l,m,n,o⟩:=uh b;have e:=uh i;exact⟨⟨7,by omega,by go_num,fun _=>a (by omega),fun _=>d (by omega),fun _=>f (by omega),fun _=>h (by omega),fun _=>l (by omega),fun _=>m (by omega),fun _=>e,by omega⟩,trivial⟩
    case measure=>simp[intOf]
  ·have g:((⟨#[34,92,47,98,102,110,114,116]⟩:Bs)[7]'(by decide)).toNat=116:=rfl;by_cases e:c=116
   ·subst e;clear b;go_wp2;go_ret;exact⟨rfl,(yH _ _).alloc (ye _) _⟩
   ·have t:((116:Int) ==(c:Int))=false:=by rw[yd];omega
    have i:=zb e;clear e;go_wp2;go_roundw
    case rel=>
     obtain⟨a,d,f,h,l,m,n,o⟩:=uh b;have e:=uh i;exact⟨⟨8,by omega,by go_num,fun _=>a (by omega),fun _=>d (by omega),fun _=>f (by omega),fun _=>h (by omega),fun _=>l (by omega),fun _=>m (by omega),fun _=>n (by omega),fun _=>e⟩,trivial⟩
    case measure=>simp[intOf]
  ·have p:Hid (Jh c=none):=by
    obtain⟨a,d,f,h,l,m,n,o⟩:=uh b;show _=_
    unfold Jh;rw[yf (a (by omega)),yf (d (by omega)),yf (f (by omega)),yf (h (by omega)),yf (l (by omega)),yf (m (by omega)),yf (n (by omega)),yf (o (by omega))]
   clear b;go_wp2;go_ret;exact⟨by rw[uh p];rfl,(yH _ _).alloc (ye _) _⟩
def Qe(t:Bs)(n:Nat)(ok b tw:Bool):Value:=.agg #[.string t,.int .i64 (n:Int),.bool ok,.bool b,.bool tw]
def GP(w:Wo)(o:Option (JV×Nat))(e:Ending)(w':Wo):Prop:=
 Bw w w'/\o.elim (∃ (t:Bs) (n:Nat) (b tw:Bool),e= .returned (Qe t n false b tw)) fun q=>e= .returned (Qe (ze (ct q.1)) q.2 true (zY q.1) (zy q.1))
theorem GP.bad{w w':Wo}{o:Option (JV×Nat)}(h:o=none)(b:Bw w w'):GP w o (.returned (.agg #[.string ⟨#[]⟩,.int .i64 0,.bool false,.bool false,.bool false])) w':=by
 subst h;exact⟨b,_,0,_,_,rfl⟩
theorem Pd(b:Nat)(w:Wo):
  Calls prog 108 #[.int .u8 b] w fun e w'=>e= .returned (.bool (zI b))/\w=w':=by
 by_cases h:48<=b
 ·have a:Hid (zI b=decide ((b:Int)<=57)):=by
   show _=_
   unfold zI;rw[yj h,Bool.true_and];apply decide_eq_decide.2;omega
  have d:(48:Int)<=(b:Int):=by omega
  go_in;go_wp2;go_ret;exact⟨by rw[uh a];rfl,rfl⟩
 ·have a:Hid (zI b=false):=by
   show _=_
   unfold zI;rw[yk h,Bool.false_and]
  have d:¬ (48:Int)<=(b:Int):=by omega
  go_in;go_wp2;go_ret;exact⟨by rw[uh a];rfl,rfl⟩
theorem QF(w:Wo)(o:Obj):Bw w (w.alloc o):=(yH _ _).alloc (ye _) _
theorem zbE(s:Bs)(i:Nat)(w:Wo)(hs:s.size<=1048576)(hi:i<=s.size+1):
  Calls prog 119 #[.string s,.int .i64 i] w (GP w ((nm s i).map fun q=>(.num q.1,q.2))):=by
 have H:=zb fun w=>Gc s (i:Int) i rfl 45 w;have z:Hid (Jn s i 45=decide (bt s i=45)):=by
  show _=_
  by_cases h:i<s.size
  ·rw[Y3 h,Zr s i h,Bool.eq_iff_iff,yC,decide_eq_true_iff];omega
  ·rw[WZ h,JY s i (by omega)];rfl
 have u:Hid (nm s i=if zI (bt s (zX s i))=true then some (Qc (Zc s i (qf s i)),qf s i)else none):=rfl;have M:zX s i=i/\bt s i≠45∨zX s i=i+1/\bt s i=45:=by unfold zX;split<;>simp[*]
 have v:qf s i=if bt s (zX s i)=48 then zX s i+1 else dg s (zX s i):=rfl
 generalize zX s i=d,qf s i=E at *;have D:=zb v;clear v;go_in;go_wp2_with fail;refine (uh H _).mono ?_;rintro e X ⟨rfl,rfl⟩;have F:=zb (QF w (.cells #[.string ⟨#[]⟩,.int .i64 0,.bool false,.bool false,.bool false] 135));rw[uh z];go_upto_if 10 with fail;go_cut [1]from 8 to 12 (fun x wx=>x= .int .i64 (d:Int)/\wx=w.alloc (.cells #[.string ⟨#[]⟩,.int .i64 0,.bool false,.bool false,.bool false] 135))
 case first=>
  rcases M with ⟨rfl,h⟩ |⟨rfl,h⟩<;>(go_wp2;go_meet;case rel=>exact⟨rfl,rfl⟩)
 obtain⟨rfl,rfl⟩:=hcut;have N:i<=d:=by omega
 by_cases f:d<s.size
 ·have O:((s.size:Int)<=(d:Int))=False:=yQ (by omega);have P:((d:Int)<(s.size:Int))=True:=eq_true (by omega);have l:Hid (∀ (j:Nat) (hj:j<s.size) w,Calls prog 108 #[.int .u8 (s[j].toNat:Int)] w (Rk (.bool (zI (bt s j))) w)):=fun j hj w=>by
   rw[Zr s j hj];exact Pd _ w
  have n:=Zr s d f;go_wp2_with fail;refine (uh l d f _).mono ?_;rintro e Y ⟨rfl,rfl⟩
  cases hdg:zI (bt s d)with
  | false=>
   have C:Hid (((nm s i).map fun q=>(JV.num q.1,q.2))=none):=by show _=_;rw[uh u,yf (by rw[hdg];simp)];rfl
   clear hdg;go_wp2;go_returns;exact GP.bad (uh C) (uh F)
  | true=>
   have J:=zb hdg;rw[yg hdg]at u;obtain⟨q,y⟩:∃ q,((s[d].toNat:Int) ==48)=q:=⟨_,rfl⟩;have B:Hid (q=decide (bt s d=48)):=by show _=_;rw[← y,n,Bool.eq_iff_iff,yC,decide_eq_true_iff];omega
   clear hdg n;go_upto_if 28 with fail;go_cut [1]from 25 to 42 (fun x wx=>x= .int .i64 (E:Int)/\d<E/\E<=s.size/\wx=w.alloc (.cells #[.string ⟨#[]⟩,.int .i64 0,.bool false,.bool false,.bool false] 135))
   case first=>
    cases q with
    | true=>
     have v:=(uh D).trans (yg (of_decide_eq_true (uh B).symm));subst v;go_wp2;go_meet
     case rel=>exact⟨rfl,by omega,f,rfl⟩
    | false=>
     have A:=zb ((uh D).trans (yf (of_decide_eq_false (uh B).symm)));go_wp2_with fail;go_loopw [1] (fun k wr=>wr=w.alloc (.cells #[.string ⟨#[]⟩,.int .i64 0,.bool false,.bool false,.bool false] 135)/\∃ j:Nat,k= .int .i64 (j:Int)/\j<=s.size/\Hid (E=dg s j)/\(d<j∨j=d)) (fun k _=>s.size - (intOf k).toNat)
     case atStart=>exact⟨rfl,d,by go_num,by omega,uh A,.inr rfl⟩
     case round=>
      obtain⟨rfl,j,rfl,o,a,p⟩:=hrel;by_cases r:j<s.size
      ·have Q:((j:Int)<(s.size:Int))=True:=eq_true (by omega);go_wp2_with fail;refine (uh l j r _).mono ?_;rintro e R ⟨rfl,rfl⟩
       cases hjd:zI (bt s j)with
       | true=>
        have m:Hid (E=dg s (j+1)):=by show _=_;rw[uh a,VL hjd]
        clear hjd;go_wp2;go_roundw
        case rel=>exact⟨trivial,j+1,by go_num,by omega,uh m,.inl (by omega)⟩
        case measure=>simp[intOf];omega
       | false=>
        have m:E=j:=by rw[uh a,Uk (by rw[hjd];simp)]
        have g:d<j:=by
         rcases p with h | h
         ·exact h
         ·subst h;have:=uh J;rw[hjd]at this;cases this
        subst m;clear hjd p;go_wp2;go_meet
        case rel=>exact⟨rfl,g,o,rfl⟩
      ·have Q:((j:Int)<(s.size:Int))=False:=yQ (by omega);have m:E=j:=by rw[uh a,Uk (by rw[JY s j (by omega)];simp[zI])]
       subst m;have g:d<E:=by omega
       go_wp2;go_meet
       case rel=>exact⟨rfl,g,o,rfl⟩
   obtain⟨rfl,S,T,rfl⟩:=hcut;clear y B;have U:(i:Int)<=(E:Int):=by omega
   have V:(E:Int)<=(s.size:Int):=by omega
   have W:(0:Int)<=(i:Int):=by omega
   have b:(Zc s i E).length=E - i:=by unfold Zc;rw[ym,yu,Zn];omega
   have I:Hid (∀ w,Calls prog 147 #[.string (ze (Qc (Zc s i E)))] w fun G w'=>G= .returned (.bool (Qu (Qc (Zc s i E))))/\w=w'):=fun w=>by
    unfold Qc;split
    ·exact Me _ w (by simp) (by simp)
    ·exact Me _ w (by intro h;rw[h]at b;simp at b;omega) (by omega)
   obtain⟨q,y⟩:∃ q,((s.extract i E).toList ==[45,48])=q:=⟨_,rfl⟩;have L:Hid (Qc (Zc s i E)=if q then [48]else Zc s i E):=by show _=_;rw[← y,Wu];simp only[yC];rfl
   have K:=zb (Ur s i E);clear b;go_upto_if 48 with fail;go_cut [6]from 47 to 48 (fun x wx=>x= .string (ze (Qc (Zc s i E)))/\wx=w.alloc (.cells #[.string ⟨#[]⟩,.int .i64 0,.bool false,.bool false,.bool false] 135))
   case first=>
    cases q<;>(go_wp2;go_meet;case rel=>exact⟨by rw[uh L];first | rfl |(rw[uh K];rfl),rfl⟩)
   obtain⟨rfl,rfl⟩:=hcut;go_wp2_with fail;refine (uh I _).mono ?_;rintro G R ⟨rfl,rfl⟩;go_wp2;go_returns;rw[uh u];exact⟨QF w _,rfl⟩
 ·have O:((s.size:Int)<=(d:Int))=True:=eq_true (by omega);have C:Hid (((nm s i).map fun q=>(JV.num q.1,q.2))=none):=by
   show _=_
   rw[uh u,yf (by rw[JY s d (by omega)];simp[zI])];rfl
  go_wp2;go_returns;exact GP.bad (uh C) (uh F)
def Qf:JL->List UInt8
 | .nil=>[]
 | .cons v r=>ct v++44 :: Qf r
theorem Pe:∀ (a:JL) (v:JV),Qf (a.app (.cons v .nil))=Qf a++(ct v++[44])
 | .nil,v=>by simp[JL.app,Qf]
 | .cons u r,v=>by simp[JL.app,Qf,Pe r v]
theorem Mg:∀ (a:JL) (v:JV),44 ::(Qf a++ct v)=joinT (zr (a.app (.cons v .nil)))
 | .nil,v=>by simp[JL.app,Qf,zr,joinT]
 | .cons u r,v=>by
  have:=Mg r v;simp[JL.app,Qf,zr,joinT,← this]
theorem zbF(a:JL)(v:JV):Qf a++ct v=joinC (zr (a.app (.cons v .nil))):=by
 cases a with
 | nil=>simp[JL.app,Qf,zr,joinC,joinT]
 | cons u r=>
  have:=Mg r v;simp[JL.app,Qf,zr,joinC,← this]
abbrev qH(t:Bs)(n:Nat)(ok b tw:Bool):Obj:=.cells #[.string t,.int .i64 (n:Int),.bool ok,.bool b,.bool tw] 135 (0,0)
def Za(g:Nat)(t:Bs)(n:Nat)(ok b tw:Bool)(w:Wo):Prop:=w.heap[g]?=some (qH t n ok b tw)
theorem Za.c0{g n:Nat}{t:Bs}{ok b tw:Bool}{w:Wo}(h:Za g t n ok b tw w):w.cell? ⟨g,0,none⟩=some (.string t):=by rw[yF h];rfl
theorem Za.c1{g n:Nat}{t:Bs}{ok b tw:Bool}{w:Wo}(h:Za g t n ok b tw w):w.cell? ⟨g,1,none⟩=some (.int .i64 (n:Int)):=by rw[yF h];rfl
theorem Za.c2{g n:Nat}{t:Bs}{ok b tw:Bool}{w:Wo}(h:Za g t n ok b tw w):w.cell? ⟨g,2,none⟩=some (.bool ok):=by rw[yF h];rfl
theorem Za.c3{g n:Nat}{t:Bs}{ok b tw:Bool}{w:Wo}(h:Za g t n ok b tw w):w.cell? ⟨g,3,none⟩=some (.bool b):=by rw[yF h];rfl
theorem Za.c4{g n:Nat}{t:Bs}{ok b tw:Bool}{w:Wo}(h:Za g t n ok b tw w):w.cell? ⟨g,4,none⟩=some (.bool tw):=by rw[yF h];rfl
theorem Za.fz{g n:Nat}{t:Bs}{ok b tw:Bool}{w:Wo}(h:Za g t n ok b tw w)(k:Nat):w.frozen? ⟨g,k,none⟩=false:=yI h k
theorem Za.lt{g n:Nat}{t:Bs}{ok b tw:Bool}{w:Wo}(h:Za g t n ok b tw w):g<w.heap.size:=(yB.1 h).1
theorem Za.below{g n:Nat}{t:Bs}{ok b tw:Bool}{w w':Wo}(h:Za g t n ok b tw w)(hb:Bw w w'):Za g t n ok b tw w':=(hb.block g h.lt).trans h
theorem Za.alloc{g n:Nat}{t:Bs}{ok b tw:Bool}{w:Wo}(h:Za g t n ok b tw w)(o:Obj):Za g t n ok b tw (w.alloc o):=h.below (QF w o)
theorem Za.other{g n:Nat}{t:Bs}{ok b tw:Bool}{w:Wo}(h:Za g t n ok b tw w){p:Addr}(hp:g≠p.block)(v:Value):Za g t n ok b tw (w.setCell p v):=(Below.heap_setCell w p v g hp).trans h
theorem Za.set0{g n:Nat}{t:Bs}{ok b tw:Bool}{w:Wo}(h:Za g t n ok b tw w)(t':Bs):Za g t' n ok b tw (w.setCell ⟨g,0,none⟩ (.string t')):=heap_setCell_same w g 0 _ 135 (.string t') h
theorem Za.set1{g n:Nat}{t:Bs}{ok b tw:Bool}{w:Wo}(h:Za g t n ok b tw w)(z:Int)(n':Nat)(hz:z=(n':Int)):Za g t n' ok b tw (w.setCell ⟨g,1,none⟩ (.int .i64 z)):=by
 subst hz;exact heap_setCell_same w g 1 _ 135 (.int .i64 (n':Int)) h
theorem Za.set3{g n:Nat}{t:Bs}{ok b tw:Bool}{w:Wo}(h:Za g t n ok b tw w)(b':Bool):Za g t n ok b' tw (w.setCell ⟨g,3,none⟩ (.bool b')):=heap_setCell_same w g 3 _ 135 (.bool b') h
theorem Za.set4{g n:Nat}{t:Bs}{ok b tw:Bool}{w:Wo}(h:Za g t n ok b tw w)(b':Bool):Za g t n ok b b' (w.setCell ⟨g,4,none⟩ (.bool b')):=heap_setCell_same w g 4 _ 135 (.bool b') h
theorem Za.set2{g n:Nat}{t:Bs}{ok b tw:Bool}{w:Wo}(h:Za g t n ok b tw w)(b':Bool):Za g t n b' b tw (w.setCell ⟨g,2,none⟩ (.bool b')):=heap_setCell_same w g 2 _ 135 (.bool b') h
theorem Za.put{g n:Nat}{t:Bs}{ok b tw:Bool}{w:Wo}(h:Za g t n ok b tw w)(t':Bs)(z:Int)(n':Nat)(hz:z=(n':Int))(ok' b' tw':Bool):
  Za g t' n' ok' b' tw' (((((w.setCell ⟨g,0,none⟩ (.string t')).setCell ⟨g,1,none⟩ (.int .i64 z)).setCell ⟨g,2,none⟩ (.bool ok')).setCell ⟨g,3,none⟩ (.bool b')).setCell ⟨g,4,none⟩ (.bool tw')):=
 ((((h.set0 t').set1 z n' hz).set2 ok').set3 b').set4 tw'
theorem Za.copyTo{r g n n0:Nat}{t t0:Bs}{ok b tw ok0 b0 tw0:Bool}{w:Wo}(h:Za r t0 n0 ok0 b0 tw0 w)(_:Za g t n ok b tw w)(z:Int)(hz:z=(n:Int)):
  Za r t n ok b tw (((((w.setCell ⟨r,0,none⟩ (.string t)).setCell ⟨r,1,none⟩ (.int .i64 z)).setCell ⟨r,2,none⟩ (.bool ok)).setCell ⟨r,3,none⟩ (.bool b)).setCell ⟨r,4,none⟩ (.bool tw)):=h.put t z n hz ok b tw
theorem Yw{B g:Nat}{w w':Wo}(h:Below B w w')(hg:B<=g)(a b c d e:Value):
  Below B w (((((w'.setCell ⟨g,0,none⟩ a).setCell ⟨g,1,none⟩ b).setCell ⟨g,2,none⟩ c).setCell ⟨g,3,none⟩ d).setCell ⟨g,4,none⟩ e):=
 ((((h.setCell (p:=⟨g,0,none⟩) hg _).setCell (p:=⟨g,1,none⟩) hg _).setCell (p:=⟨g,2,none⟩) hg _).setCell (p:=⟨g,3,none⟩) hg _).setCell (p:=⟨g,4,none⟩) hg _
theorem Yx{fn:Func}(hres:fn.results=#[.cell 4 135]){tmps:Array Value}{g n:Nat}{t:Bs}{ok b tw:Bool}{w:Wo}(hp:tmps.getD 4 undef= .pointer (some ⟨g,0,none⟩))(h:Za g t n ok b tw w):
  (results fn tmps).run prog w= .ok (Qe t n ok b tw) w:=
 results_cell_row hres tmps w g 135 _ (0,0) _ hp h underlying135 rfl (by kernel_rfl)
theorem Mh:∀ a b c:Bool,(a || b)=c->a=true/\c=true∨a=false/\b=c:=by decide
def zbG(g:Nat)(a b c d e:Value)(w:Wo):Prop:=w.cell? ⟨g,0,none⟩=some a/\w.cell? ⟨g,1,none⟩=some b/\w.cell? ⟨g,2,none⟩=some c/\w.cell? ⟨g,3,none⟩=some d/\w.cell? ⟨g,4,none⟩=some e
theorem Za.cells{g n:Nat}{t:Bs}{ok b tw:Bool}{w:Wo}(h:Za g t n ok b tw w):zbG g (.string t) (.int .i64 (n:Int)) (.bool ok) (.bool b) (.bool tw) w:=⟨h.c0,h.c1,h.c2,h.c3,h.c4⟩
theorem Za.fzs{g n:Nat}{t:Bs}{ok b tw:Bool}{w:Wo}(h:Za g t n ok b tw w):w.frozen? ⟨g,0,none⟩=false/\w.frozen? ⟨g,1,none⟩=false/\w.frozen? ⟨g,2,none⟩=false/\w.frozen? ⟨g,3,none⟩=false/\w.frozen? ⟨g,4,none⟩=false:=⟨h.fz 0,h.fz 1,h.fz 2,h.fz 3,h.fz 4⟩
theorem Us(a b:List UInt8):ze a++ze b=ze (a++b):=by
 apply Go.WideShapes.bytes_inj;rw[ByteArray.data_append,Array.toList_append,Zf,Zf,Zf]
def zbH(s:Bs):Prop:=
 (∀ (z:Int) (j:Nat) w,z=(j:Int)->Calls prog 83 #[.string s,.int .i64 z] w (Rk (.int .i64 (sk s j)) w)) /\
 (∀ (c j:Nat) w,c≠0->Calls prog 114 #[.string s,.int .i64 j,.int .u8 c] w (Rk (.bool (decide (bt s j=c))) w))
theorem Pf(s:Bs)(hs:s.size<=1048576):zbH s:=by
 refine⟨fun z j w hz=>?_,fun c j w hc=>?_⟩
 ·subst hz;exact Md s j w hs
 ·have h:=Gc s (j:Int) j rfl c w;have e:Jn s j (c:Int)=decide (bt s j=c):=by
   by_cases a:j<s.size
   ·rw[Y3 a,← Zr s j a];by_cases g:bt s j=c
    ·rw[g];simp
    ·rw[yk g,yd];omega
   ·rw[WZ a,JY s j (by omega)];exact (yk (fun g=>hc g.symm)).symm
  rw[e]at h;exact h
def YR:Nat->Nat->List UInt8
 | 0,_=>[]
 | f+1,n=>if n<10 then [UInt8.ofNat (48+n)]else YR f (n / 10)++[UInt8.ofNat (48+n % 10)]
def Zp(n:Nat):List UInt8:=YR (n+1) n
theorem Mi:∀ (f g n:Nat),n<f->n<g->YR f n=YR g n
 | 0,_,_,h,_=>by omega
 | _+1,0,_,_,h=>by omega
 | f+1,g+1,n,hf,hg=>by
  rw[YR,YR];by_cases h:n<10
  ·rw[yg h,yg h]
  ·rw[yf h,yf h,Mi f g (n / 10) (by omega) (by omega)]
theorem J0{n:Nat}(h:n<10):Zp n=[UInt8.ofNat (48+n)]:=by unfold Zp;rw[YR,yg h]
theorem Ut{n:Nat}(h:¬ n<10):Zp n=Zp (n / 10)++Zp (n % 10):=by
 rw[J0 (n:=n % 10) (by omega)];unfold Zp;rw[YR,yf h,Mi n (n / 10+1) (n / 10) (by omega) (by omega)]
theorem Pg:∀ n:Nat,(Zp n).length<=n+1:=fun n=>by
 have:∀ f n,(YR f n).length<=f:=by
  intro f;induction f with
  | zero=>intro n;simp[YR]
  | succ f ih=>
   intro n;rw[YR];split
   ·simp
   ·have:=ih (n / 10);simp;omega
 exact this (n+1) n
theorem Mj:∀ (b n:Nat) (w:Wo),n<=b->n<=1000000000->Calls prog 84 #[.int .i64 (n:Int)] w fun e w'=>e= .returned (.string (ze (Zp n)))/\Bw w w':=by
 intro b;induction b with
 | zero=>
  intro n w m _;obtain rfl:n=0:=by omega
  have a:=GZ w (Zp 0) #[.int .u8 48] 1 rfl rfl;generalize Zp 0=u at *;go_in;go_wp2;go_ret;exact⟨rfl,(yH _ _).alloc (ye _) _⟩
 | succ b ih=>
  intro n w m p;by_cases h:n<10
  ·have a:=GZ w (Zp n) #[.int .u8 (48+(n:Int))] 1 (by rw[J0 h];rfl) (by rw[J0 h];simp[Lib.byteCells];omega);have l:(n:Int)<10:=by omega
   generalize Zp n=u at *;clear ih;go_in;go_wp2;go_ret;exact⟨rfl,(yH _ _).alloc (ye _) _⟩
  ·have l:¬ (n:Int)<10:=by omega
   have o:(n:Int) / 10=((n / 10:Nat):Int):=by omega
   have s:(n:Int) % 10=((n % 10:Nat):Int):=by omega
   have d:Hid (∀ w,Calls prog 84 #[.int .i64 ((n / 10:Nat):Int)] w (Rb (.string (ze (Zp (n / 10)))) w)):=fun w=>ih (n / 10) w (by omega) (by omega);have f:Hid (∀ w,Calls prog 84 #[.int .i64 ((n % 10:Nat):Int)] w (Rb (.string (ze (Zp (n % 10)))) w)):=fun w=>ih (n % 10) w (by omega) (by omega);have i:Hid (ze (Zp (n / 10))++ze (Zp (n % 10))=ze (Zp n)):=by show _=_;rw[Us,← Ut h]
   have A:(ze (Zp (n / 10))).size<=1000000001:=by rw[Zw];have:=Pg (n / 10);omega
   have B:(ze (Zp (n % 10))).size<=1000000001:=by rw[Zw];have:=Pg (n % 10);omega
   have C:(9223372036854775807<(ze (Zp (n / 10))).size+(ze (Zp (n % 10))).size)=False:=yQ (by omega);generalize ze (Zp n)=u at *;generalize ze (Zp (n / 10))=v at *;generalize ze (Zp (n % 10))=x at *;generalize n / 10=q at *;generalize n % 10=r at *;clear ih h;go_in;go_wp2_with fail;refine (uh d _).mono ?_;rintro e y ⟨rfl,j⟩;go_wp2_with fail;refine (uh f _).mono ?_;rintro e z ⟨rfl,k⟩;have g:=zh j k;clear d f;go_wp2;go_ret;exact⟨by rw[← uh i];rfl,g⟩
def qM:Nat->List (List UInt8)->List (List UInt8×List UInt8)
 | _,[]=>[]
 | b,t :: r=>(Zp b,t) :: qM (b+1) r
theorem Mk:∀ (a:List (List UInt8)) (b:Nat) (t:List UInt8),qM b (a++[t])=qM b a++[(Zp (b+a.length),t)]
 | [],b,t=>rfl
 | x :: r,b,t=>by
  simp only[List.cons_append,qM,Mk r (b+1) t,yn];rw[show b+1+r.length=b+(r.length+1) by omega]
theorem GA:∀ (a:List (List UInt8)) (b:Nat),(qM b a).length=a.length
 | [],_=>rfl
 | _ :: r,b=>by simp[qM,GA r (b+1)]
def zm:JV->List (List UInt8×List UInt8)
 | .arr l=>qM 0 (zr l)
 | .obj m=>zH (zj m)
 | _=>[]
theorem Ph:∀ v:JV,zF v->ct v≠[]
 | .nul,_=>by simp[ct]
 | .tt,_=>by simp[ct]
 | .ff,_=>by simp[ct]
 | .num l,h=>(Up h).1
 | .str l,_=>by simp[ct,quoted]
 | .arr l,_=>by simp[ct,qg]
 | .obj m,_=>by simp[ct,qX]
theorem X7(T:Bs):∀ l:JL,qw l->∀ t∈zr l,Jj T t/\t≠[]
 | .nil,_,t,ht=>by simp[zr]at ht
 | .cons v r,h,t,ht=>by
  rw[qw]at h;rw[zr]at ht;rcases List.mem_cons.1 ht with e | ht
  ·rw[e];exact⟨(X6 v h.1).2,Ph v h.1⟩
  ·exact X7 T r h.2 t ht
theorem X8(T:Bs):∀ m:JM,qq m->∀ p∈zj m,Jj T p.2/\p.2≠[]/\Lib.validD p.1=true
 | .nil,_,p,hp=>by simp[zj]at hp
 | .cons k v r,h,p,hp=>by
  rw[qq]at h;rw[zj]at hp;rcases List.mem_cons.1 hp with e | hp
  ·rw[e];exact⟨(X6 v h.2.1).2,Ph v h.2.1,h.1⟩
  ·exact X8 T r h.2.2 p hp
def pk(cs:List (List UInt8))(k:Nat):Nat:=1+(joinC (cs.take k)).length+(if k=0 then 0 else 1)
theorem Ml:∀ (cs:List (List UInt8)) (k:Nat),(h:k<cs.length)->joinT cs=joinT (cs.take k)++44 ::(cs[k]++joinT (cs.drop (k+1)))
 | t :: r,0,_=>by simp[joinT]
 | t :: r,k+1,h=>by
  have:=Ml r k (by simpa using h);simp only[List.take_succ_cons,joinT,List.getElem_cons_succ,List.drop_succ_cons];rw[this];simp
theorem zbI(cs:List (List UInt8))(k:Nat)(h:k<cs.length):joinC cs=(joinC (cs.take k)++(if k=0 then []else [44]))++(cs[k]++joinT (cs.drop (k+1))):=by
 cases cs with
 | nil=>simp at h
 | cons t r=>
  cases k with
  | zero=>simp[joinC]
  | succ k=>
   have:=Ml r k (by simpa using h);simp only[joinC,List.take_succ_cons,List.getElem_cons_succ,List.drop_succ_cons];rw[this];simp
theorem X9(cs:List (List UInt8))(c:UInt8)(hc:c.toNat=93∨c.toNat=125):Gz (joinT cs++[c]):=by
 cases cs with
 | nil=>exact .inr ⟨c,[],rfl,.inr hc⟩
 | cons t r=>exact .inr ⟨44,_,rfl,.inl rfl⟩
theorem Kn{T:Bs}{cs:List (List UInt8)}{a c:UInt8}(hT:T.data.toList=a ::(joinC cs++[c]))(k:Nat)(h:k<cs.length):T.data.toList.drop (pk cs k)=cs[k]++(joinT (cs.drop (k+1))++[c]):=by
 have e:T.data.toList=(a ::(joinC (cs.take k)++(if k=0 then []else [44])))++(cs[k]++(joinT (cs.drop (k+1))++[c])):=by
  rw[hT,zbI cs k h];simp
 have b:(a ::(joinC (cs.take k)++(if k=0 then []else [44]))).length=pk cs k:=by
  unfold pk;split<;>simp<;>omega
 rw[e,← b,List.drop_left]
theorem Fa(cs:List (List UInt8))(k:Nat)(h:k<cs.length):pk cs (k+1)=pk cs k+cs[k].length+1:=by
 have e:(joinC (cs.take (k+1))).length=(joinC (cs.take k)).length+(if k=0 then 0 else 1)+cs[k].length:=by
  rw[yy h,X0];by_cases b:k=0
  ·subst b;simp[joinC]
  ·have a:cs.take k≠[]:=by intro e;have:=congrArg List.length e;rw[ym,yD]at this;omega
   rw[yf a,yf b];simp;omega
 unfold pk;rw[e,yf (Nat.succ_ne_zero k)];omega
theorem Ko{T:Bs}{cs:List (List UInt8)}{a c:UInt8}(hT:T.data.toList=a ::(joinC cs++[c]))(k:Nat)(h:k<cs.length):pk cs k+cs[k].length+1<=T.size:=by
 have b:=congrArg List.length (Kn hT k h);rw[yu,Zn]at b;simp at b;by_cases d:pk cs k<=T.size
 ·omega
 ·omega
theorem Kq{T:Bs}{cs:List (List UInt8)}{a c:UInt8}(hT:T.data.toList=a ::(joinC cs++[c])):T.size<=pk cs cs.length+1:=by
 have b:=congrArg List.length hT;rw[Zn]at b;simp at b;unfold pk;rw[yq (ye _)];omega
theorem Mm{T:Bs}{i:Nat}{t m:List UInt8}(h:T.data.toList.drop i=t++m):T.extract i (i+t.length)=ze t:=by
 rw[Ur];unfold Zc;rw[h,Nat.add_sub_cancel_left];simp
theorem zbJ{s:Bs}{i:Nat}(h:s.size<i+6):Qm s i=none:=by
 cases e:Qm s i with
 | none=>rfl
 | some u=>have:=NO e;omega
theorem zbK(s:Bs)(i:Nat)(hs:s.size<=1048576)(hi:i<=2000000)(w:Wo):
  Calls prog 150 #[.string s,.int .i64 i] w fun e w'=>w=w'/\e= .returned (.int .i64 (Vi (Qm s i))):=by
 by_cases x:i+6<=s.size
 ·have l:¬ (s.size:Int)<(i:Int)+6:=by omega
  have p:=Zr s i (by omega);have q:=Zr s (i+1) (by omega);by_cases g:bt s i=92
  ·have z:((s[i]'(by omega)).toNat:Int)=92:=by omega
   have A:(((s[i]'(by omega)).toNat:Int) !=92)=false:=by rw[bne_eq_false_iff_eq];omega
   by_cases n:bt s (i+1)=117
   ·have B:(((s[i+1]'(by omega)).toNat:Int) !=117)=false:=by rw[bne_eq_false_iff_eq];omega
    have b:Hid (Qm s i=qF s (i+2) 4):=by show _=_;unfold Qm;rw[yg ⟨g,n⟩]
    have dl:decide ((s.size:Int)<(i:Int)+6)=false:=by simp;omega
    clear g n p q z;go_in;go_wp2;clear A B dl l;go_loopw [5,6] (fun v k wr=>∃ j u:Nat,j<=4/\k= .int .i64 ((j+2:Nat):Int)/\u<16 ^ j/\v= .int .i64 (u:Int)/\qF s (i+2) j=some u/\w=wr) (fun _ k _=>6 - (intOf k).toNat)
    case atStart=>exact⟨0,0,by omega,rfl,by decide,rfl,rfl,rfl⟩
    case round=>
     obtain⟨j,u,H,rfl,I,rfl,hx,rfl⟩:=hrel;have r:=zb hx;clear hx;by_cases F:j<4
     ·have y:u<65536:=by
       have:(16:Nat) ^ j<=16 ^ 3:=Nat.pow_le_pow_right (by decide) (by omega);omega
      have a:i+(j+2)<s.size:=by omega
      have f:=zb (zbB ((s[i+(j+2)]'a).toNat) (UInt8.toNat_lt _) w);have m:bt s (i+2+j)=(s[i+(j+2)]'a).toNat:=by rw[show i+2+j=i+(j+2)from by omega];exact Zr s _ a
      cases hx1:hx ((s[i+(j+2)]'a).toNat)with
      | some d=>
       have G:=NK hx1;have o:=zb (Uj (uh r) (by rw[m];exact hx1));rw[hx1]at f;have D:¬ ((d:Int)<0):=by omega
       clear hx1 m;go_wp2_with fail;refine (uh f).mono ?_;rintro e E ⟨rfl,rfl⟩;clear f;simp only[Vi,Option.elim];go_wp2;go_roundw
       case rel=>exact⟨j+1,u*16+d,by omega,by go_num,by rw[Nat.pow_succ];omega,by go_num,uh o,trivial⟩
       case measure=>simp[intOf];omega
      | none=>
       have o:Hid (qF s (i+2) 4=none):=NM (XU (by rw[m];exact hx1)) (by omega);rw[hx1]at f;clear hx1 m;go_wp2_with fail;refine (uh f).mono ?_;rintro e E ⟨rfl,rfl⟩;clear f;simp only[Vi,Option.elim];go_wp2;go_ret;exact⟨rfl,by rw[uh b,uh o];rfl⟩
     ·have C:j=4:=by omega
      subst C;go_wp2;go_ret;exact⟨rfl,by rw[uh b,uh r];rfl⟩
   ·have B:(((s[i+1]'(by omega)).toNat:Int) !=117)=true:=by rw[bne_iff_ne];omega
    have b:Hid (Qm s i=none):=by show _=_;unfold Qm;rw[yf (fun h=>n h.2)]
    clear g n p q z;go_in;go_wp2;go_ret;exact⟨rfl,by rw[uh b];rfl⟩
  ·have A:(((s[i]'(by omega)).toNat:Int) !=92)=true:=by rw[bne_iff_ne];omega
   have b:Hid (Qm s i=none):=by show _=_;unfold Qm;rw[yf (fun h=>g h.1)]
   clear g p q;go_in;go_wp2;go_ret;exact⟨rfl,by rw[uh b];rfl⟩
 ·have l:(s.size:Int)<(i:Int)+6:=by omega
  have b:=zb (zbJ (s:=s) (i:=i) (by omega));go_in;go_wp2;go_ret;exact⟨rfl,by rw[uh b];rfl⟩
theorem zbL{b:Bs}{l:List UInt8}(h:b.data.toList=l):b=ze l:=by
 subst h
 cases b with
 | mk d=>simp[ze]
theorem Mn(s:Bs)(i n:Nat)(l:List UInt8)(h:(s.data.toList.drop i).take n=l):s.extract i (i+n)=ze l:=by
 refine zbL ?_;rw[Lib.extract_data,show i+n - i=n from by omega,h]
theorem zbM{r:Nat}(h:r<128):enc r=[UInt8.ofNat r]:=by
 unfold enc;rw[← XV (by omega) (by omega)];unfold ZC Z8;rw[yg h];rfl
theorem Mo{r:Nat}(h:r<=1114111)(h':r<55296∨57344<=r):ZC r=enc r:=XV h h'
abbrev zbN(w:Wo)(e:Ending)(w':Wo):Prop:=(∃ t,e= .returned (.tuple #[.string t,.int .i64 0]))/\Bw w w'
abbrev zbO(w:Wo)(t:Bs)(n:Nat)(e:Ending)(w':Wo):Prop:=e= .returned (.tuple #[.string t,.int .i64 (n:Int)])/\Bw w w'
def zbP(w:Wo)(o:Option (Nat×Nat))(e:Ending)(w':Wo):Prop:=o.elim (zbN w e w') fun p=>zbO w (ze (enc p.1)) p.2 e w'
theorem zbQ(s:Bs)(i:Nat)(w:Wo)(hs:s.size<=1048576)(hi:i<s.size)(hq:bt s i≠34):
  Calls prog 120 #[.string s,.int .i64 i] w (zbP w (piece s i)):=by
 have H:=Zr s i hi;have o:piece s i=if bt s i=92 then QJ s i else if bt s i<32 then none else if bt s i<128 then some (bt s i,1)else if rl s i=0 then none else some ((Utf8.decode s i).1,rl s i):=rfl
 by_cases j:128<=bt s i
 ·rw[yf (by omega),yf (by omega),yf (by omega)]at o;have U:=zb (LG s i w hi hs);have hle:=Wl s i hi;have J:Hid (¬ rl s i=0->s.extract i (i+rl s i)=ze (enc (Utf8.decode s i).1)):=fun h=>Mn s i (rl s i) _ (Wm s i hi h (by omega)).1.symm;have h':(128:Int)<=(s[i].toNat:Int):=by omega
  have d:=zb o;clear o hq j H;generalize rl s i=n at *;go_in;go_wp2_with fail;refine (uh U).mono ?_;rintro e R ⟨rfl,l⟩;clear U;go_wp2;go_ret2;rw[uh d];by_cases P:n=0
  ·subst P;exact⟨⟨_,rfl⟩,l⟩
  ·rw[yf P];exact⟨by rw[← uh J P];rfl,l⟩
 have N:¬ (128:Int)<=(s[i].toNat:Int):=by omega
 by_cases m:bt s i=92
 ·rw[yg m]at o;have O:((s[i].toNat:Int) !=92)=false:=by rw[bne_eq_false_iff_eq];omega
  have K:=zb o;clear o H m hq j;go_in;go_upto_region 8 with fail;go_cut [54]from 42 to 54 (fun x wx=>∃ b:Bool,x= .bool b/\Bw w wx/\(b=true->i+1<s.size/\∃ v,Jh (bt s (i+1))=some v)/\(b=false->QJ s i=(Qm s i).bind (qW s i)))
  case first=>
   have F:Hid (Jh (bt s (i+1))=none->QJ s i=(Qm s i).bind (qW s i)):=fun h=>by unfold QJ;rw[h]
   by_cases B:i+1<s.size
   ·have X:(i:Int)+1<(s.size:Int):=by omega
    have k:Hid (Calls prog 149 #[.int .u8 (s[i+1].toNat:Int)] w (Rb (.int .i64 (Vi (Jh (bt s (i+1))))) w)):=by
     rw[Zr s (i+1) B];exact Mf _ (UInt8.toNat_lt _) w
    cases p:Jh (bt s (i+1))with
    | none=>
     have k:Hid (Calls prog 149 #[.int .u8 (s[i+1].toNat:Int)] w (Rb (.int .i64 (-1)) w)):=by rw[p]at k;exact k
     have F:=zb (uh F p);clear p;go_wp2_with fail;refine (uh k).mono ?_;rintro e R ⟨rfl,l⟩;go_wp2;go_meet
     case rel=>exact⟨false,rfl,l,nofun,fun _=>uh F⟩
    | some v=>
     have k:Hid (Calls prog 149 #[.int .u8 (s[i+1].toNat:Int)] w (Rb (.int .i64 (v:Int)) w)):=by rw[p]at k;exact k
     have Q:(0:Int)<=(v:Int):=by omega
     have r:=zb p;clear p;go_wp2_with fail;refine (uh k).mono ?_;rintro e R ⟨rfl,l⟩;go_wp2;go_meet
     case rel=>exact⟨true,rfl,l,fun _=>⟨B,v,uh r⟩,nofun⟩
   ·have X:¬ (i:Int)+1<(s.size:Int):=by omega
    have di:decide ((i:Int)+1<(s.size:Int))=false:=by simp;omega
    have F:=zb (uh F (by rw[JY s (i+1) (by omega)];rfl));go_wp2;go_meet
    case rel=>exact⟨false,rfl,yH _ _,nofun,fun _=>uh F⟩
  obtain⟨b,rfl,l,D,E⟩:=hcut
  cases b with
  | true=>
   obtain⟨B,v,p⟩:=D rfl;have M:=Zr s (i+1) B;have d:=zb (Vd rfl p);have k:Hid (∀ w,Calls prog 149 #[.int .u8 (s[i+1].toNat:Int)] w (Rb (.int .i64 (v:Int)) w)):=fun w=>by
    have c:=Mf s[i+1].toNat (UInt8.toNat_lt _) w;rw[← M,p]at c;rw[← M];exact c
   have q:=LL p;have y:ZC v=enc v:=Mo (by omega) (by omega);have G:Hid (∀ w:Wo,(convert 160 9 (.slice (some ⟨w.heap.size,0,none⟩) 1 1)).run prog (w.alloc (.cells #[.int .u8 (v:Int)] 5))= .ok (.string (ze (enc v))) (w.alloc (.cells #[.int .u8 (v:Int)] 5))):=fun w=>by
    rw[← y];exact GZ w (ZC v) #[.int .u8 (v:Int)] 1 (by simp[ZC,Z8,q]) (by simp[ZC,Z8,q,Lib.byteCells];omega)
   have Q:(0:Int)<=(v:Int):=by omega
   have X:(i:Int)+1<(s.size:Int):=by omega
   have f:=zb l;clear y p D E M l;go_wp2_with fail;refine (uh k _).mono ?_;rintro e S ⟨rfl,V⟩;have T:=zh (uh f) V;have hcv:=uh G S;clear k G V;go_wp2;go_ret2;rw[uh K,uh d];exact⟨rfl,T.alloc T.size _⟩
  | false=>
   have d:=zb (E rfl);have L:=zb fun i (h:i<=2000000) w=>zbK s i hs h w;have f:=zb l;clear D E l;go_wp2_with fail;refine (uh L i (by omega) _).mono ?_;rintro e S ⟨rfl,rfl⟩
   cases y:Qm s i with
   | none=>
    rw[y]at d;clear y;rw[show Vi none= -1 from rfl];go_wp2;go_ret2;rw[uh K,uh d];exact⟨⟨_,rfl⟩,uh f⟩
   | some u=>
    have W:=LM y;have a:piece s i=qW s i u:=by rw[uh K,uh d,y];rfl
    have r:Hid (∀ (z:Int) (u:Nat) w,z=u->u<=1114111->u<55296∨57344<=u->Calls prog 151 #[.int .i64 z] w (Rb (.string (ze (enc u))) w)):=fun z u w hz N O=>by
     subst hz;have c:=RZ u w N;rw[Mo N O]at c;exact c
    rw[show Vi (some u)=(u:Int)from rfl];have u0:((u:Int)<0)=False:=yQ (by omega);unfold qW at a;by_cases g:u<55296∨57344<=u
    ·rw[yg g]at a;have r:=zb fun w=>uh r u u w rfl (by omega) g;have d:=zb a;clear y a;have g:u<55296/\((56320:Int)<=(u:Int))=False/\((u:Int)<55296)=True/\((57344:Int)<=(u:Int))=False∨((56320:Int)<=(u:Int))=True/\((u:Int)<57344)=False/\((u:Int)<55296)=False/\((57344:Int)<=(u:Int))=True:=by
      rcases g with h | h
      ·exact .inl ⟨h,yQ (by omega),eq_true (by omega),yQ (by omega)⟩
      ·exact .inr ⟨eq_true (by omega),yQ (by omega),yQ (by omega),eq_true (by omega)⟩
     rcases g with ⟨_,_,_,_⟩ |⟨_,_,_,_⟩
     all_goals
      go_wp2_with fail;refine (uh r _).mono ?_;rintro e Y ⟨rfl,Z⟩;clear r;go_wp2;go_ret2;rw[uh d];exact⟨rfl,zh (uh f) Z⟩
    ·rw[yf g]at a;by_cases I:56320<=u
     ·rw[yg I]at a;have u1:((56320:Int)<=(u:Int))=True:=eq_true (by omega);have u2:((u:Int)<57344)=True:=eq_true (by omega);have d:=zb a;clear y a;go_wp2;go_ret2;rw[uh d];exact⟨⟨_,rfl⟩,uh f⟩
     ·rw[yf I]at a;have u1:((56320:Int)<=(u:Int))=False:=yQ (by omega);have u2:((u:Int)<55296)=False:=yQ (by omega);have u3:((57344:Int)<=(u:Int))=False:=yQ (by omega);have d:=zb a;clear y a;go_wp2_with fail;refine (uh L (i+6) (by omega) _).mono ?_;rintro e Y ⟨rfl,rfl⟩;clear L
      cases hu2:Qm s (i+6)with
      | none=>
       rw[show Vi none= -1 from rfl];rw[hu2]at d;clear hu2;go_wp2;go_ret2;rw[uh d];exact⟨⟨_,rfl⟩,uh f⟩
      | some v=>
       rw[show Vi (some v)=(v:Int)from rfl];rw[hu2,yA]at d;clear hu2;by_cases C:56320<=v/\v<57344
       ·have v1:((v:Int)<56320)=False:=yQ (by omega);have v2:((57344:Int)<=(v:Int))=False:=yQ (by omega);have r:=zb fun w=>uh r (65536+((u:Int) - 55296)*1024+(v:Int) - 56320) (65536+(u - 55296)*1024+(v - 56320)) w (by omega) (by omega) (by omega);rw[yg C]at d;have R:55296<=u:=by omega
        have S:u<=56319:=by omega
        have Y:56320<=v:=C.1;have w4:v<=57343:=by omega
        clear C g I;go_wp2_with fail;refine (uh r _).mono ?_;rintro e w4 ⟨rfl,b4⟩;clear r;go_wp2;go_ret2;rw[uh d];exact⟨rfl,zh (uh f) b4⟩
       ·rw[yf C]at d;have C:((v:Int)<56320)=True∨((v:Int)<56320)=False/\((57344:Int)<=(v:Int))=True:=by
         by_cases h:v<56320
         ·exact .inl (eq_true (by omega))
         ·exact .inr ⟨yQ (by omega),eq_true (by omega)⟩
        rcases C with _ |⟨_,_⟩<;>(go_wp2;go_ret2;rw[uh d];exact⟨⟨_,rfl⟩,uh f⟩)
 ·rw[yf m]at o;have O:((s[i].toNat:Int) !=92)=true:=by rw[bne_iff_ne];omega
  by_cases A:bt s i<32
  ·rw[o,yg A];have I:(s[i].toNat:Int)<32:=by omega
   clear o H m hq j A;go_in;go_wp2;go_ret2;exact⟨⟨_,rfl⟩,yH _ _⟩
  ·rw[o,yf A,yg (by omega),H];have I:¬ (s[i].toNat:Int)<32:=by omega
   have C:((s[i].toNat:Int) ==34)=false:=by rw[yd];omega
   have d3:decide ((s[i].toNat:Int)<32)=false:=by simp;omega
   have J:Hid (s.extract i (i+1)=ze (enc s[i].toNat)):=Mn s i 1 _ (by rw[zbM (by omega),LC,Qn s i hi];rfl);clear o H m hq j A;go_in;go_wp2;go_ret2;exact⟨by rw[← uh J];rfl,yH _ _⟩
def Kr(s:Bs)(w:Wo)(o:Option (List UInt8×Nat))(e:Ending)(w':Wo):Prop:=
 Bw w w'/\o.elim (∃ (t:Bs) (k:Nat),k<=s.size+1/\t.size<=4*s.size+4/\e= .returned (.tuple #[.string t,.int .i64 (k:Int),.bool false])) fun q=>e= .returned (.tuple #[.string (ze q.1),.int .i64 (q.2:Int),.bool true])
theorem Ks(s:Bs)(i:Nat)(w:Wo)(hs:s.size<=1048576)(hi:i<=s.size+1):
  Calls prog 85 #[.string s,.int .i64 i] w (Kr s w (ZD s i)):=by
 obtain⟨i0,S,T,U,V⟩:=info_parts WV;by_cases f:bt s i=34
 ·have g:i<s.size:=zZ (by rw[f];decide);have G:Hid (ZD s i=qK s (i+1)):=by show _=_;unfold ZD;rw[yg f]
  have J:Jn s i 34=true:=by rw[Y3 g,yC,← Zr s i g,f];rfl
  have z:=zb (Gc s (i:Int) i rfl 34 w);rw[J]at z;clear f J;go_in;go_wp2_with fail;refine (uh z).mono ?_;rintro e w1 ⟨rfl,rfl⟩;clear z;go_wp2;go_loopw [1,7] (fun k v wr=>∃ (j:Nat) (b:List UInt8),j<=s.size/\k= .int .i64 (j:Int)/\b.length<=4*j/\wr.ownsRow w.heap.size 5 1 v (Lib.byteCells b).length (Lib.byteCells b)/\Bw w wr/\qK s (i+1)=(qK s j).map fun q=>(b++q.1,q.2)) (fun k _ _=>s.size - (intOf k).toNat)
  case atStart=>
   exact⟨i+1,[],by omega,by go_num,by simp,⟨rfl,.inr ⟨w.heap.size,0,#[],rfl,ye _,yG w _,ye _,by unfold maxLen;omega,rfl,rfl⟩⟩,(yH _ _).alloc (ye _) _,by simp⟩
  case round=>
   obtain⟨j,b,hj,rfl,hal,a,R,O⟩:=hrel;have u:=zb O;have E:=zb R;have aa:=R.size;clear O R;by_cases L:j<s.size
   ·have Q:=Zr s j L;have M:(j:Int)<(s.size:Int):=by omega
    by_cases d:bt s j=34
    ·have t1:((s[j].toNat:Int) !=34)=false:=by rw[bne_eq_false_iff_eq];omega
     have F:Hid (ZD s i=some (b,j+1)):=by
      show _=_
      rw[uh G,uh u,Wn d];simp
     have A:=WW a;clear a d Q;go_wp2;go_ret3;exact⟨uh E,by rw[uh F];rfl⟩
    ·have t1:((s[j].toNat:Int) !=34)=true:=by rw[bne_iff_ne];omega
     have C:=zb (zbQ s j wr hs L d)
     cases hp:piece s j with
     | none=>
      have F:Hid (ZD s i=none):=by
       show _=_
       rw[uh G,uh u,Wp d hp];rfl
      rw[hp]at C;clear a d Q hp;go_wp2_with fail;refine (uh C).mono ?_;rintro e W ⟨⟨t,rfl⟩,I⟩;have D:=zh (uh E) I;clear C;go_wp2;go_ret3;exact⟨D,by rw[uh F];exact⟨_,j,by omega,yt _,rfl⟩⟩
     | some p=>
      obtain⟨r,n⟩:=p;obtain⟨p1,p2,p3⟩:=Gw hp;have hel:=XW r;have H:Hid (qK s (i+1)=(qK s (j+n)).map fun q=>(b++enc r++q.1,q.2)):=by
       show _=_
       rw[uh u,Gx d hp,Option.map_map];congr 1;funext q;simp
      rw[hp]at C;have t0:((n:Int) ==0)=false:=by rw[yd];omega
      clear d Q hp;go_wp2_with fail;refine (uh C).mono ?_;rintro e W ⟨rfl,I⟩;have D:=zh (uh E) I;have x:=ZB a I;obtain⟨P,W3,A,l,Y,N,hs3⟩:=UR W (enc r);have o:=N _ _ _ _ _ x;have X:=zh D Y;have h:=zb l;have Z:=D.size;clear C l N x a I Y E D;go_wp2_with (at_builtin;refine wpList_append_own _ rfl (.tmp 37) (.tmp 39) 160 rfl w.heap.size 5 i0 (.int .u8 0) 1 1 underlying160 S T U V rfl (by decide) _ _ _ rfl o ⟨W.heap.size,0,none⟩ (enc r).length P (Lib.byteCells (enc r)) rfl (by rw[yK];omega) (uh h) (UQ (enc r)) (by rw[yK];unfold maxLen;omega) (by rw[yK];omega) (by omega) ?_);intro v4 w4 y K _;have B4:Bw w w4:=X.grown K (by omega) (fun k hk=>(o.lt k hk).1);have B:=qU (m:=(enc r)) y rfl rfl;clear y K o h X A;go_wp2;go_roundw
      case rel=>exact⟨j+n,b++(enc r),by omega,by go_num,by rw[yh];omega,B,B4,uh H⟩
      case measure=>simp[intOf];omega
   ·have M:¬ (j:Int)<(s.size:Int):=by omega
    have d1:decide ((j:Int)<(s.size:Int))=false:=by simp;omega
    have F:Hid (ZD s i=none):=by
     show _=_
     rw[uh G,uh u,zbm (by omega)];rfl
    have A:=WW a;clear a;go_wp2;go_ret3;exact⟨uh E,by rw[uh F];exact⟨_,j+1,by omega,by show b.toArray.size<=_;simp;omega,rfl⟩⟩
 ·have G:Hid (ZD s i=none):=by show _=_;unfold ZD;rw[yf f]
  have J:Jn s i 34=false:=by
   by_cases g:i<s.size
   ·rw[Y3 g,yd,← Zr s i g];omega
   ·exact WZ g
  have z:=zb (Gc s (i:Int) i rfl 34 w);rw[J]at z;clear f J;go_in;go_wp2_with fail;refine (uh z).mono ?_;rintro e w1 ⟨rfl,rfl⟩;clear z;go_wp2;go_ret3;exact⟨yH _ _,by rw[uh G];exact⟨_,i,hi,yt _,rfl⟩⟩
theorem Mp{T:Bs}{j j2:Nat}(h:JI T j=some j2)(hj:j<T.size):j<j2/\j2<=T.size:=by
 unfold JI at h;split at h
 ·cases hq:ZD T j with
  | none=>rw[hq]at h;simp at h
  | some q=>
   obtain⟨l,n⟩:=q;rw[hq]at h;simp at h;have:=Ye hq;omega
 ·injection h with h;omega
theorem zbR{T:Bs}{o n k g:Nat}(hj:n<=T.size)(h:(if o=0/\YP T n=true then some n else qG T g o n)=some k):
  ((¬ o=0∨o=0/\n<T.size/\¬ bt T n=44/\¬ bt T n=93/\¬ bt T n=125)/\qG T g o n=some k)∨((o=0/\n=T.size∨o=0/\n<T.size/\(bt T n=44∨bt T n=93∨bt T n=125))/\n=k):=by
 by_cases b:o=0
 ·by_cases a:YP T n=true
  ·rw[yg ⟨b,a⟩]at h;injection h with h;refine .inr ⟨?_,h⟩;by_cases e:n=T.size
   ·exact .inl ⟨b,e⟩
   ·unfold YP at a;simp[e]at a;exact .inr ⟨b,by omega,by omega⟩
  ·rw[yf (fun x=>a x.2)]at h;unfold YP at a;simp at a;exact .inl ⟨.inr ⟨b,by omega,a.1.1.2,a.1.2,a.2⟩,h⟩
 ·rw[yf (fun x=>b x.1)]at h;exact .inl ⟨.inl b,h⟩
theorem Mq{T:Bs}{j n:Nat}(hn:JI T j=some n):(bt T j≠34->j+1=n)/\(bt T j=34->∃ l,ZD T j=some (l,n)):=by
 unfold JI at hn;refine⟨fun h=>by rw[yf h]at hn;injection hn,fun h=>?_⟩;rw[yg h]at hn
 cases hq:ZD T j with
 | none=>rw[hq]at hn;simp at hn
 | some q=>rw[hq]at hn;simp at hn;exact⟨q.1,by rw[← hn]⟩
theorem Pi{c op o:Nat}(ho:QZ c op=some o):(c=91/\(op:Int)+1=(o:Int))∨(c=123/\(op:Int)+1=(o:Int))∨(c=93/\(op:Int) - 1=(o:Int))∨(c=125/\(op:Int) - 1=(o:Int))∨(¬ c=91/\¬ c=123/\¬ c=93/\¬ c=125/\op=o):=by
 unfold QZ VO Wt at ho;by_cases a:c=91
 ·subst a;simp at ho;omega
 ·by_cases b:c=123
  ·subst b;simp at ho;omega
  ·by_cases d:c=93
   ·subst d;simp at ho;omega
   ·by_cases f:c=125
    ·subst f;simp at ho;omega
    ·simp[a,b,d,f]at ho;omega
theorem Mr{c op o:Nat}(ho:QZ c op=some o):o<=op+1:=by
 rcases Pi ho with h | h | h | h | h<;>omega
theorem bI{a c:Nat}(h:a=c)(x:Nat):((a:Int) ==(x:Int))=decide (c=x):=by rw[Bool.eq_iff_iff,yC,decide_eq_true_iff];omega
theorem Ms(T:Bs)(i k f:Nat)(w:Wo)(hT:T.size<=1048576)(h:qG T f 0 i=some k):
  Calls prog 86 #[.string T,.int .i64 (i:Int)] w fun e w'=>e= .returned (.int .i64 (k:Int))/\Bw w w':=by
 have y:Hid (∀ (j:Nat) (w:Wo),j<T.size->Calls prog 85 #[.string T,.int .i64 j] w (Kr T w (ZD T j))):=fun j w hj=>Ks T j w hT (by omega);have hi0:i<T.size:=by
  cases f with
  | zero=>simp[qG]at h
  | succ f=>
   rw[qG]at h;split at h
   ·assumption
   ·cases h
 have P:=zb h;clear h;go_in;go_wp2;go_loopw [1,5] (fun iv ov wr=>∃ (j v g:Nat),iv= .int .i64 (j:Int)/\ov= .int .i64 (v:Int)/\j<=T.size/\v<=j/\qG T g v j=some k/\Bw w wr) (fun iv _ _=>T.size - (intOf iv).toNat)
 case atStart=>exact⟨i,0,f,rfl,rfl,by omega,by omega,uh P,yH _ _⟩
 case round=>
  obtain⟨j,v,g,rfl,rfl,hj,hop,d,R⟩:=hrel;clear P;obtain⟨g,rfl⟩:∃ g',g=g'+1:=by cases g with
   | zero=>simp[qG]at d
   | succ g=>exact⟨g,rfl⟩
  rw[qG]at d;by_cases L:j<T.size
  ·rw[yg L]at d;have V:(j:Int)<(T.size:Int):=by omega
   have D:=Zr T j L;obtain⟨n,J,o,s,X⟩:∃ j2,JI T j=some j2/\∃ o,QZ (bt T j) v=some o/\(if o=0/\YP T j2=true then some j2 else qG T g o j2)=some k:=by
    cases J:JI T j with
    | none=>rw[J]at d;simp at d
    | some j2=>
     rw[J]at d;simp only[yA]at d
     cases s:QZ (bt T j) v with
     | none=>rw[s]at d;simp at d
     | some o=>rw[s]at d;exact⟨j2,rfl,o,rfl,by simpa using d⟩
   clear d;have G:=Mp J L;have F:=G.2;have hjn:=G.1;obtain⟨r,q⟩:=Mq J;have p:=zbR F X;have I:=zb R;clear J X G R;obtain⟨c,u⟩:∃ c,bt T j=c:=⟨_,rfl⟩;have Y:((T[j].toNat:Int) ==34)=decide (c=34):=bI (D ▸ u) 34;have Z:((T[j].toNat:Int) ==91)=decide (c=91):=bI (D ▸ u) 91;have S:((T[j].toNat:Int) ==123)=decide (c=123):=bI (D ▸ u) 123;have aa:((T[j].toNat:Int) ==93)=decide (c=93):=bI (D ▸ u) 93;have U:((T[j].toNat:Int) ==125)=decide (c=125):=bI (D ▸ u) 125;have tz:((o:Int) ==0)=decide (o=0):=bI rfl 0;have te:((n:Int) ==(T.size:Int))=decide (n=T.size):=bI rfl _;have hoj:=Mr s;rw[u]at r q s;by_cases K:c=34
   ·subst K;obtain⟨l,W⟩:=q rfl;obtain rfl:v=o:=by injection s
    have x:=zb (uh y j wr L);rw[W]at x;clear q r W D u y s;go_wp2_with fail;refine (uh x).mono ?_;rintro e w2 ⟨Q,rfl⟩
    replace I:=zb (zh (uh I) Q)
    clear x Q;rcases p with ⟨p,b⟩ |⟨p,b⟩
    ·have M:=zb b;clear b;rcases p with B |⟨B,b,C,h4,h5⟩
     all_goals (
      try (
         have a:=(Zr T n b).symm;have E:(n:Int)<(T.size:Int):=by omega
         have z:((T[n].toNat:Int) ==44)=decide (bt T n=44):=bI a 44;have A:((T[n].toNat:Int) ==93)=decide (bt T n=93):=bI a 93;have m:((T[n].toNat:Int) ==125)=decide (bt T n=125):=bI a 125;clear a)
      go_wp2
      all_goals (
       go_roundw
       case rel=>exact⟨n,v,g,by go_num,by go_num,F,by omega,uh M,uh I⟩
       case measure=>simp[intOf];omega))
    ·have N:=zb b;clear b;rcases p with ⟨B,b⟩ |⟨B,b,C | C | C⟩
     all_goals (
      try (
         have a:=(Zr T n b).symm;have E:(n:Int)<(T.size:Int):=by omega
         have z:((T[n].toNat:Int) ==44)=decide (bt T n=44):=bI a 44;have A:((T[n].toNat:Int) ==93)=decide (bt T n=93):=bI a 93;have m:((T[n].toNat:Int) ==125)=decide (bt T n=125):=bI a 125;clear a)
      go_wp2
      all_goals (
       go_ret;exact⟨by rw[← uh N];first | rfl | go_num,uh I⟩))
   ·have hnI:(j:Int)+1=(n:Int):=by have:=r K;omega
    have O:=Pi s;clear q r D u y s;rcases O with ⟨rfl,H⟩ |⟨rfl,H⟩ |⟨rfl,H⟩ |⟨rfl,H⟩ |⟨c1,c2,c3,c4,rfl⟩
    all_goals (
     rcases p with ⟨p,b⟩ |⟨p,b⟩
     ·have M:=zb b;clear b;rcases p with B |⟨B,b,C,h4,h5⟩
      all_goals (
       try (
          have a:=(Zr T n b).symm;have E:(n:Int)<(T.size:Int):=by omega
          have z:((T[n].toNat:Int) ==44)=decide (bt T n=44):=bI a 44;have A:((T[n].toNat:Int) ==93)=decide (bt T n=93):=bI a 93;have m:((T[n].toNat:Int) ==125)=decide (bt T n=125):=bI a 125;clear a)
       go_wp2
       all_goals (
        go_roundw
        case rel=>exact⟨n,_,g,by go_num,by go_num,F,by omega,uh M,uh I⟩
        case measure=>simp[intOf];omega))
     ·have N:=zb b;clear b;rcases p with ⟨B,b⟩ |⟨B,b,C | C | C⟩
      all_goals (
       try (
          have a:=(Zr T n b).symm;have E:(n:Int)<(T.size:Int):=by omega
          have z:((T[n].toNat:Int) ==44)=decide (bt T n=44):=bI a 44;have A:((T[n].toNat:Int) ==93)=decide (bt T n=93):=bI a 93;have m:((T[n].toNat:Int) ==125)=decide (bt T n=125):=bI a 125;clear a)
       go_wp2
       all_goals (
        go_ret;exact⟨by rw[← uh N];first | rfl | go_num,uh I⟩)))
  ·rw[yf L]at d;cases d
end Go.Proofs.YtekpghcckdjnhaaGreatDoor
