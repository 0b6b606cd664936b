import Derived.WalkLawsBesides
import Derived.Deep.LoopGhost
import Derived.Test.YtekpghcckdjnhaaGreatDoorBa4
import Derived.Laws.DeepStrings4
import Derived.Handy
set_option maxRecDepth 100000
set_option maxHeartbeats 8000000
namespace Go.Proofs.YtekpghcckdjnhaaGreatDoor
open Go.RowKit Go.Proofs.Tryz
structure KB (rb:Nat) (w w':World) : Prop where
 os:w'.os=w.os
 tape:w'.tape=w.tape
 output:w'.output=w.output
 size:w.heap.size<=w'.heap.size
 block:∀ k,k < w.heap.size->k≠rb->w'.heap[k]?=w.heap[k]?
theorem KB.refl (rb:Nat) (w:World) : KB rb w w:=⟨rfl,rfl,rfl,ye _,fun _ _ _=>rfl⟩
theorem KB.trans {rb:Nat} {a b c:World} (h:KB rb a b) (k:KB rb b c) : KB rb a c:=
 ⟨k.os.trans h.os,k.tape.trans h.tape,k.output.trans h.output,yP h.size k.size,fun i hi hn=>(k.block i (yE hi h.size) hn).trans (h.block i hi hn)⟩
theorem KB.drewN {rb:Nat} {a w:World} (h:KB rb a w) (n:Nat) : KB rb a (w.drewN n):=⟨h.os,h.tape,h.output,h.size,h.block⟩
theorem KB.set {rb:Nat} {a w:World} (h:KB rb a w) (j:Nat) (v:Value) : KB rb a (w.setCell ⟨rb,j,none⟩ v):=
 h.trans ⟨rfl,rfl,rfl,by simp[World.setCell],fun k _ hn=>Below.heap_setCell _ _ _ _ hn⟩
theorem KB.of_below {rb:Nat} {w w':World} (h:Below w.heap.size w w') : KB rb w w':=⟨h.os,h.tape,h.output,h.size,fun k hk _=>h.block k hk⟩
theorem KB.below {rb B:Nat} {w w':World} (h:KB rb w w') (hB:B<=rb) (hs:B<=w.heap.size) : Below B w w':=⟨h.os,h.tape,h.output,h.size,fun k hk=>h.block k (by omega) (by omega)⟩
def mis:Ending:=.panicked [{ v:=.iface 220 (.agg #[]),recovered:=false }]
theorem zcL (s:ByteArray) (i:Nat) (h:s.size<=i) : bt s i=0:=by
 unfold bt
 rw[List.getD_eq_getElem?_getD,List.getElem?_eq_none (by rw[zak]; exact h)]; rfl
theorem zaw {s:ByteArray} {i:Nat} (h:bt s i≠0) : i < s.size:=by
 rcases Nat.lt_or_ge i s.size with g | g
 ·exact g
 ·exact absurd (zcL s i g) h
def Rdr (rb:Nat) (s:ByteArray) (i:Nat) (tb kt:Bool) (w:World) : Prop:=w.heap[rb]?=some (.cells #[.string s,.int .i64 (i:Int),.bool tb,.bool kt] 184 (0,0))
theorem Rdr.text {rb:Nat} {s:ByteArray} {i:Nat} {tb kt:Bool} {w:World} (h:Rdr rb s i tb kt w) : w.cell? ⟨rb,0,none⟩=some (.string s):=by rw[yF h]; rfl
theorem Rdr.at {rb:Nat} {s:ByteArray} {i:Nat} {tb kt:Bool} {w:World} (h:Rdr rb s i tb kt w) : w.cell? ⟨rb,1,none⟩=some (.int .i64 (i:Int)):=by rw[yF h]; rfl
theorem Rdr.frozen {rb:Nat} {s:ByteArray} {i:Nat} {tb kt:Bool} {w:World} (h:Rdr rb s i tb kt w) : w.frozen? ⟨rb,1,none⟩=false:=yI h 1
theorem Rdr.lt {rb:Nat} {s:ByteArray} {i:Nat} {tb kt:Bool} {w:World} (h:Rdr rb s i tb kt w) : rb < w.heap.size:=(yB.1 h).1
theorem Rdr.set {rb:Nat} {s:ByteArray} {i:Nat} {tb kt:Bool} {w:World} (h:Rdr rb s i tb kt w) (z:Int) (j:Nat) (hz:z=(j:Int)) : Rdr rb s j tb kt (w.setCell ⟨rb,1,none⟩ (.int .i64 z)):=by
 subst hz
 have:=heap_setCell_same w rb 1 _ 184 (.int .i64 (j:Int)) h
 exact this
theorem Rdr.drewN {rb:Nat} {s:ByteArray} {i:Nat} {tb kt:Bool} {w:World} (h:Rdr rb s i tb kt w) (n:Nat) : Rdr rb s i tb kt (w.drewN n):=h
theorem Rdr.below {rb:Nat} {s:ByteArray} {i:Nat} {tb kt:Bool} {w w':World} (h:Rdr rb s i tb kt w) (hb:Below w.heap.size w w') : Rdr rb s i tb kt w':=(hb.block rb h.lt).trans h
theorem zcd (rb:Nat) (s:ByteArray) (i:Nat) (tb kt:Bool) (w:World) (h:Rdr rb s i tb kt w) (hs:s.size<=1048576) (hi:i < s.size) :
  Calls prog 231 #[.pointer (some ⟨rb,0,none⟩)] w fun e w'=>e = .returned (.int .u8 (bt s i))/\Rdr rb s (i+1) tb kt w'/\KB rb w w':=by
 have c0:=h.text
 have c1:=h.at
 have f1:=h.frozen
 have hne:((i:Int) == (s.size:Int))=false:=by rw[yd]; omega
 have HB:=zab (zas s i hi)
 have H:=zab h
 clear h
 go_enter func231,ntmps231
 go_wp2_with fail
 go_quiet (fail)
 go_wp2_with fail
 go_quiet (fail)
 go_wp2
 go_ret
 exact⟨by rw[uh HB]; rfl,((uh H).drewN _).set _ _ (by omega),((KB.refl rb w).drewN _).set 1 _⟩
theorem zjS (rb:Nat) (s:ByteArray) (i:Nat) (tb kt:Bool) (w:World) (h:Rdr rb s i tb kt w) (hi:i=s.size) :
  Calls prog 231 #[.pointer (some ⟨rb,0,none⟩)] w fun e w'=>e=mis/\KB rb w w':=by
 have c0:=h.text
 have c1:=h.at
 have f1:=h.frozen
 have hne:((i:Int) == (s.size:Int))=true:=by rw[yC]; omega
 clear h
 go_enter func231,ntmps231
 go_wp2_with fail
 go_quiet (fail)
 go_wp2
 exact⟨rfl,rfl,(KB.refl rb w).drewN _⟩
theorem zpn (rb:Nat) (s:ByteArray) (i:Nat) (tb kt:Bool) (w:World) (h:Rdr rb s i tb kt w) (hi:i=s.size) :
  Calls prog 128 #[.pointer (some ⟨rb,0,none⟩)] w fun e w'=>e = .returned (.tuple #[])/\Rdr rb s i tb kt w'/\KB rb w w':=by
 have c0:=h.text
 have c1:=h.at
 have hne:((i:Int) != (s.size:Int))=false:=by rw[yM]; omega
 have H:=zab h
 clear h hi
 go_enter func128,ntmps128
 go_wp2_with fail
 go_quiet (fail)
 go_wp2
 go_end0
 exact⟨rfl,(uh H).drewN _,(KB.refl rb w).drewN _⟩
theorem zmW (rb:Nat) (s:ByteArray) (i:Nat) (tb kt:Bool) (w:World) (h:Rdr rb s i tb kt w) (hi:i≠s.size) :
  Calls prog 128 #[.pointer (some ⟨rb,0,none⟩)] w fun e w'=>e=mis/\KB rb w w':=by
 have c0:=h.text
 have c1:=h.at
 have hne:((i:Int) != (s.size:Int))=true:=by rw[bne_iff_ne]; omega
 clear h hi
 go_enter func128,ntmps128
 go_wp2_with fail
 go_quiet (fail)
 go_wp2
 exact⟨rfl,rfl,(KB.refl rb w).drewN _⟩
theorem zbO (rb:Nat) (s:ByteArray) (i:Nat) (tb kt:Bool) (w:World) (h:Rdr rb s i tb kt w) (hs:s.size<=1048576) (c:Nat) (hc:bt s i=c) (h0:i < s.size) :
  Calls prog 205 #[.pointer (some ⟨rb,0,none⟩),.int .u8 c] w fun e w'=>e = .returned (.tuple #[])/\Rdr rb s (i+1) tb kt w'/\KB rb w w':=by
 have HN:=zab (zcd rb s i tb kt w h hs h0)
 rw[hc] at HN
 clear h hc h0 hs
 go_enter func205,ntmps205
 go_wp2_with fail
 refine (uh HN).mono ?_
 rintro e w1 ⟨rfl,r1,k1⟩
 have R1:=zab r1
 clear r1 HN
 go_wp2
 go_end0
 exact⟨rfl,uh R1,k1⟩
theorem zec (rb:Nat) (s:ByteArray) (i:Nat) (tb kt:Bool) (w:World) (h:Rdr rb s i tb kt w) (hs:s.size<=1048576) (hi:i<=s.size) (c:Nat) (hc:bt s i≠c∨i=s.size) :
  Calls prog 205 #[.pointer (some ⟨rb,0,none⟩),.int .u8 c] w fun e w'=>e=mis/\KB rb w w':=by
 by_cases hi':i=s.size
 ·have HN:=zab (zjS rb s i tb kt w h hi')
  clear h hc hs
  go_enter func205,ntmps205
  go_wp2_with fail
  refine (uh HN).mono ?_
  rintro e w1 ⟨rfl,k1⟩
  clear HN
  exact⟨rfl,rfl,k1⟩
 ·have HN:=zab (zcd rb s i tb kt w h hs (by omega))
  have hne:(((bt s i:Nat) : Int) != (c:Int))=true:=by rw[bne_iff_ne]; omega
  generalize bt s i=b at *
  clear h hc hs
  go_enter func205,ntmps205
  go_wp2_with fail
  refine (uh HN).mono ?_
  rintro e w1 ⟨rfl,r1,k1⟩
  clear r1 HN
  go_wp2
  exact⟨rfl,rfl,k1⟩
theorem zcy (rb:Nat) (s:ByteArray) (i:Nat) (tb kt:Bool) (w:World) (h:Rdr rb s i tb kt w) (hs:s.size<=1048576) (c:Nat) (hc:bt s i=c) (h0:i < s.size) :
  Calls prog 172 #[.pointer (some ⟨rb,0,none⟩),.int .u8 c] w fun e w'=>e = .returned (.bool true)/\Rdr rb s (i+1) tb kt w'/\KB rb w w':=by
 have c0:=h.text
 have c1:=h.at
 have f1:=h.frozen
 have hne:((i:Int) == (s.size:Int))=false:=by rw[yd]; omega
 rw[zas s i h0] at hc
 subst hc
 have H:=zab h
 clear h
 go_enter func172,ntmps172
 go_wp2_with fail
 go_quiet (fail)
 go_wp2
 go_ret
 exact⟨rfl,((uh H).drewN _).set _ _ (by omega),((KB.refl rb w).drewN _).set 1 _⟩
theorem zc0 (rb:Nat) (s:ByteArray) (i:Nat) (tb kt:Bool) (w:World) (h:Rdr rb s i tb kt w) (hi:i<=s.size) (c:Nat) (hc:bt s i≠c∨i=s.size) :
  Calls prog 172 #[.pointer (some ⟨rb,0,none⟩),.int .u8 c] w fun e w'=>e = .returned (.bool false)/\Rdr rb s i tb kt w'/\KB rb w w':=by
 have c0:=h.text
 have c1:=h.at
 have H:=zab h
 clear h
 by_cases hi':i=s.size
 ·have hne:((i:Int) == (s.size:Int))=true:=by rw[yC]; omega
  go_enter func172,ntmps172
  go_wp2_with fail
  go_quiet (fail)
  go_wp2
  go_ret
  exact⟨rfl,(uh H).drewN _,(KB.refl rb w).drewN _⟩
 ·have h0:i < s.size:=by omega
  have hne:((i:Int) == (s.size:Int))=false:=by rw[yd]; omega
  have hnc:((s[i].toNat:Int) != (c:Int))=true:=by
   rw[bne_iff_ne]; rw[zas s i h0] at hc; omega
  clear hc
  go_enter func172,ntmps172
  go_wp2_with fail
  go_quiet (fail)
  go_wp2
  go_ret
  exact⟨rfl,(uh H).drewN _,(KB.refl rb w).drewN _⟩
def skF (s:ByteArray) : Nat->Nat->Nat
 | 0,i=>i
 | f+1,i=>if bt s i=32∨bt s i=9∨bt s i=10∨bt s i=13 then skF s f (i+1) else i
def sk (s:ByteArray) (i:Nat) : Nat:=skF s (s.size - i) i
theorem zpo {s:ByteArray} {i:Nat} (h:bt s i=32∨bt s i=9∨bt s i=10∨bt s i=13) : sk s i=sk s (i+1):=by
 have hi:i < s.size:=zaw (by omega)
 unfold sk
 rw[show s.size - i=(s.size - (i+1))+1 by omega,skF,yg h]
theorem zle {s:ByteArray} {i:Nat} (h:¬ (bt s i=32∨bt s i=9∨bt s i=10∨bt s i=13)) : sk s i=i:=by
 unfold sk
 cases s.size - i with
 | zero=>rfl
 | succ f=>rw[skF,yf h]
theorem zuo (s:ByteArray) : ∀ f i,i+f<=s.size->i<=skF s f i/\skF s f i<=i+f
 | 0,i,_=>⟨ye _,ye _⟩
 | f+1,i,h=>by
  rw[skF]
  split
  ·have:=zuo s f (i+1) (by omega); omega
  ·omega
theorem zdG {s:ByteArray} {i:Nat} (h:i<=s.size) : i<=sk s i/\sk s i<=s.size:=by
 have:=zuo s (s.size - i) i (by omega)
 unfold sk; omega
theorem zjT {s:ByteArray} {i:Nat} (h:s.size<=i) : sk s i=i:=by
 unfold sk; rw[show s.size - i=0 by omega]; rfl
theorem zxj (s:ByteArray) (i:Nat) : ¬ (bt s (sk s i)=32∨bt s (sk s i)=9∨bt s (sk s i)=10∨bt s (sk s i)=13):=by
 generalize hn:s.size - i=n
 induction n generalizing i with
 | zero=>rw[zjT (by omega),zcL s i (by omega)]; omega
 | succ n ih=>
  by_cases h:bt s i=32∨bt s i=9∨bt s i=10∨bt s i=13
  ·rw[zpo h]; exact ih (i+1) (by omega)
  ·rw[zle h]; exact h
theorem zbb (rb:Nat) (s:ByteArray) (i:Nat) (tb kt:Bool) (w:World) (h:Rdr rb s i tb kt w) (hs:s.size<=1048576) (hi:i<=s.size) :
  Calls prog 154 #[.pointer (some ⟨rb,0,none⟩)] w fun e w'=>e = .returned (.tuple #[])/\Rdr rb s (sk s i) tb kt w'/\KB rb w w':=by
 have R0:=zab h
 clear h
 go_enter func154,ntmps154
 go_wp2_with fail
 go_loopg [] (s.size - i) (fun g wr=>∃ j:Nat,g=s.size - j/\j<=s.size/\Rdr rb s j tb kt wr/\KB rb w wr/\sk s i=sk s j)
 case atStart=>exact⟨i,rfl,hi,uh R0,KB.refl _ _,rfl⟩
 case round=>
  obtain⟨j,hg,hj,hr,hk,hst⟩:=hrel
  have HR:=zab hr
  have HST:=zab hst
  clear hr hst R0
  have HY:Hid (∀ (c:Nat) wa,c≠0->bt s j=c->Rdr rb s j tb kt wa->Calls prog 172 #[.pointer (some ⟨rb,0,none⟩),.int .u8 c] wa fun e w'=>e = .returned (.bool true)/\Rdr rb s (j+1) tb kt w'/\KB rb wa w'):=fun c wa h0 hc hr=>zcy rb s j tb kt wa hr hs c hc (zaw (by omega))
  have HN:Hid (∀ (c:Nat) wa,bt s j≠c->Rdr rb s j tb kt wa->Calls prog 172 #[.pointer (some ⟨rb,0,none⟩),.int .u8 c] wa fun e w'=>e = .returned (.bool false)/\Rdr rb s j tb kt w'/\KB rb wa w'):=fun c wa hc hr=>zc0 rb s j tb kt wa hr hj c (.inl hc)
  by_cases c1:bt s j=32
  ·have HX:Hid (sk s i=sk s (j+1)):=by show _=_; rw[uh HST,zpo (.inl c1)]
   have hlt:j < s.size:=zaw (by omega)
   go_wp2_with fail
   refine (uh HY 32 _ (by decide) c1 (uh HR)).mono ?_
   rintro e w2 ⟨rfl,r2,k2⟩
   have R2:=zab r2
   clear r2
   go_wp2
   go_roundg (s.size - (j+1))
   case rel=>exact⟨j+1,rfl,by omega,uh R2,hk.trans k2,uh HX⟩
   case measure=>omega
  by_cases c2:bt s j=9
  ·have HX:Hid (sk s i=sk s (j+1)):=by show _=_; rw[uh HST,zpo (.inr (.inl c2))]
   have hlt:j < s.size:=zaw (by omega)
   go_wp2_with fail
   refine (uh HN 32 _ c1 (uh HR)).mono ?_
   rintro e w2 ⟨rfl,r2,k2⟩
   have R2:=zab r2
   clear r2
   go_wp2_with fail
   refine (uh HY 9 _ (by decide) c2 (uh R2)).mono ?_
   rintro e w3 ⟨rfl,r3,k3⟩
   have R3:=zab r3
   clear r3
   go_wp2
   go_roundg (s.size - (j+1))
   case rel=>exact⟨j+1,rfl,by omega,uh R3,(hk.trans k2).trans k3,uh HX⟩
   case measure=>omega
  by_cases c3:bt s j=10
  ·have HX:Hid (sk s i=sk s (j+1)):=by show _=_; rw[uh HST,zpo (.inr (.inr (.inl c3)))]
   have hlt:j < s.size:=zaw (by omega)
   go_wp2_with fail
   refine (uh HN 32 _ c1 (uh HR)).mono ?_
   rintro e w2 ⟨rfl,r2,k2⟩
   have R2:=zab r2
   clear r2
   go_wp2_with fail
   refine (uh HN 9 _ c2 (uh R2)).mono ?_
   rintro e w3 ⟨rfl,r3,k3⟩
   have R3:=zab r3
   clear r3
   go_wp2_with fail
   refine (uh HY 10 _ (by decide) c3 (uh R3)).mono ?_
   rintro e w4 ⟨rfl,r4,k4⟩
   have R4:=zab r4
   clear r4
   go_wp2
   go_roundg (s.size - (j+1))
   case rel=>exact⟨j+1,rfl,by omega,uh R4,((hk.trans k2).trans k3).trans k4,uh HX⟩
   case measure=>omega
  go_wp2_with fail
  refine (uh HN 32 _ c1 (uh HR)).mono ?_
  rintro e w2 ⟨rfl,r2,k2⟩
  have R2:=zab r2
  clear r2
  go_wp2_with fail
  refine (uh HN 9 _ c2 (uh R2)).mono ?_
  rintro e w3 ⟨rfl,r3,k3⟩
  have R3:=zab r3
  clear r3
  go_wp2_with fail
  refine (uh HN 10 _ c3 (uh R3)).mono ?_
  rintro e w4 ⟨rfl,r4,k4⟩
  have R4:=zab r4
  clear r4
  by_cases c4:bt s j=13
  ·have HX:Hid (sk s i=sk s (j+1)):=by show _=_; rw[uh HST,zpo (.inr (.inr (.inr c4)))]
   have hlt:j < s.size:=zaw (by omega)
   go_wp2_with fail
   refine (uh HY 13 _ (by decide) c4 (uh R4)).mono ?_
   rintro e w5 ⟨rfl,r5,k5⟩
   have R5:=zab r5
   clear r5
   go_wp2
   go_roundg (s.size - (j+1))
   case rel=>exact⟨j+1,rfl,by omega,uh R5,(((hk.trans k2).trans k3).trans k4).trans k5,uh HX⟩
   case measure=>omega
  ·have HX:Hid (sk s i=j):=by show _=_; rw[uh HST,zle (by omega)]
   go_wp2_with fail
   refine (uh HN 13 _ c4 (uh R4)).mono ?_
   rintro e w5 ⟨rfl,r5,k5⟩
   have R5:=zab r5
   clear r5
   go_wp2
   go_end0
   exact⟨rfl,by rw[uh HX]; exact uh R5,(((hk.trans k2).trans k3).trans k4).trans k5⟩
theorem zhK (rb:Nat) (s:ByteArray) (i:Nat) (tb kt:Bool) (w:World) (h:Rdr rb s i tb kt w) (hi:i<=s.size) :
  Calls prog 173 #[.pointer (some ⟨rb,0,none⟩)] w fun e w'=>e = .returned (.int .u8 (bt s i))/\Rdr rb s i tb kt w'/\KB rb w w':=by
 have c0:=h.text
 have c1:=h.at
 have H:=zab h
 clear h
 by_cases hi':i=s.size
 ·have hne:((i:Int) == (s.size:Int))=true:=by rw[yC]; omega
  have HB:=zab (zcL s i (by omega))
  go_enter func173,ntmps173
  go_wp2_with fail
  go_quiet (fail)
  go_wp2
  go_ret
  exact⟨by rw[uh HB]; rfl,(uh H).drewN _,(KB.refl rb w).drewN _⟩
 ·have h0:i < s.size:=by omega
  have hne:((i:Int) == (s.size:Int))=false:=by rw[yd]; omega
  have HB:=zab (zas s i h0)
  go_enter func173,ntmps173
  go_wp2_with fail
  go_quiet (fail)
  go_wp2_with fail
  go_quiet (fail)
  go_wp2
  go_ret
  exact⟨by rw[uh HB]; rfl,((uh H).drewN _).drewN _,((KB.refl rb w).drewN _).drewN _⟩
def hx (b:Nat) : Option Nat:=if 48<=b/\b<=57 then some (b - 48) else if 97<=b/\b<=102 then some (b - 87) else if 65<=b/\b<=70 then some (b - 55) else none
theorem zvA {b v:Nat} (h:hx b=some v) : v < 16:=by
 unfold hx at h
 repeat' split at h
 all_goals first | (injection h with h; omega) | cases h
def zfx (s:ByteArray) (i:Nat) : Nat->Option Nat
 | 0=>some 0
 | k+1=>(zfx s i k).bind fun v=>(hx (bt s (i+k))).map fun h=>v*16+h
theorem zjU (s:ByteArray) (i:Nat) : ∀ (k v:Nat),zfx s i k=some v->v < 16 ^ k
 | 0,v,h=>by injection h with h; omega
 | k+1,v,h=>by
  simp only[zfx,Option.bind_eq_some_iff,yz] at h
  obtain⟨u,hu,y,hy,rfl⟩:=h
  have:=zjU s i k u hu
  have:=zvA hy
  rw[Nat.pow_succ]; omega
theorem zdl {s:ByteArray} {i k v h:Nat} (hv:zfx s i k=some v) (hh:hx (bt s (i+k))=some h) : zfx s i (k+1)=some (v*16+h):=by simp[zfx,hv,hh]
theorem zgH {s:ByteArray} {i k:Nat} (hh:hx (bt s (i+k))=none) : zfx s i (k+1)=none:=by simp[zfx,hh]
theorem zhL {s:ByteArray} {i k m:Nat} (h:zfx s i k=none) (hm:k<=m) : zfx s i m=none:=by
 induction m with
 | zero => have : k = 0 := by omega
           subst this; exact h
 | succ m ih=>
  rcases Nat.lt_or_ge m k with g | g
  ·have:k=m+1:=by omega
   subst this; exact h
  ·simp[zfx,ih g]
theorem zrc {s:ByteArray} {i k v:Nat} (h:zfx s i (k+1)=some v) : i+k < s.size:=by
 refine zaw fun e=>?_
 have:=zgH (s:=s) (i:=i) (k:=k) (by rw[e]; rfl)
 rw[this] at h; cases h
def smp (b:Nat) : Option Nat:=if b=34 then some 34 else if b=92 then some 92 else if b=47 then some 47 else if b=98 then some 8 else if b=102 then some 12 else if b=110 then some 10 else if b=114 then some 13 else if b=116 then some 9 else none
theorem zup {b v:Nat} (h:smp b=some v) : v < 128:=by
 unfold smp at h
 repeat' split at h
 all_goals first | (injection h with h; omega) | cases h
def zed (s:ByteArray) (i:Nat) : Option Nat:=if bt s i=92/\bt s (i+1)=117 then zfx s (i+2) 4 else none
theorem zrd {s:ByteArray} {i u:Nat} (h:zed s i=some u) : u < 65536:=by
 unfold zed at h; split at h
 ·exact zjU s (i+2) 4 u h
 ·cases h
theorem zmX {s:ByteArray} {i u:Nat} (h:zed s i=some u) : i+6<=s.size:=by
 unfold zed at h; split at h
 ·have:=zrc h; omega
 ·cases h
def zgI (s:ByteArray) (i u:Nat) : Option (Nat×Nat):=
 if u < 55296∨57344<=u then some (u,6) else if 56320<=u then none else
 (zed s (i+6)).bind fun v=>if 56320<=v/\v < 57344 then some (65536+(u - 55296)*1024+(v - 56320),12) else none
def ziY (s:ByteArray) (i:Nat) : Option (Nat×Nat):=
 match smp (bt s (i+1)) with
 | some v=>some (v,2)
 | none=>(zed s i).bind (zgI s i)
def piece (s:ByteArray) (i:Nat) : Option (Nat×Nat):=
 if bt s i=92 then ziY s i else if bt s i < 32 then none else if bt s i < 128 then some (bt s i,1)
 else if rl s i=0 then none else some ((Utf8.decode s i).1,rl s i)
theorem zvB {s:ByteArray} {i u r n:Nat} (hu:u < 65536) (hi:i+6<=s.size) (h:zgI s i u=some (r,n)) : i+n<=s.size/\1<=n/\r<=1114111/\(r < 55296∨57344<=r):=by
 unfold zgI at h
 split at h
 ·injection h with h; injection h with h1 h2; omega
 ·split at h
  ·cases h
  ·simp only[Option.bind_eq_some_iff] at h
   obtain⟨v,hv,h⟩:=h
   have:=zmX hv
   split at h
   ·injection h with h; injection h with h1 h2; omega
   ·cases h
theorem zre {s:ByteArray} {i v:Nat} (h:smp (bt s i)=some v) : i < s.size:=zaw fun e=>by rw[e] at h; cases h
theorem zrf {s:ByteArray} {i r n:Nat} (h:ziY s i=some (r,n)) : i+n<=s.size/\1<=n/\r<=1114111/\(r < 55296∨57344<=r):=by
 unfold ziY at h
 split at h
 ·rename_i v hv
  injection h with h; injection h with h1 h2
  have:=zre hv
  have:=zup hv
  omega
 ·simp only[Option.bind_eq_some_iff] at h
  obtain⟨u,hu,h⟩:=h
  exact zvB (zrd hu) (zmX hu) h
theorem zjV {r:Nat} (h:r<=1114111) (h':r < 55296∨57344<=r) : utf r=Lib.encodeRune (r:Int):=by
 unfold utf zgv Lib.encodeRune
 split
 ·rw[Lib.encodeRuneZ_one (by omega) (by omega)]
  simp only[yi,List.map_nil,List.cons.injEq,and_true]
  exact (zjD _ _ (by rw[UInt8.toNat_ofNat']; omega)).symm
 ·split
  ·rw[Lib.encodeRuneZ_two (by omega) (by omega)]
   simp only[yi,List.map_nil]
   rw[zjD (UInt8.ofNat (192+r / 64)) _ (by rw[UInt8.toNat_ofNat']; omega),zjD (UInt8.ofNat (128+r % 64)) _ (by rw[UInt8.toNat_ofNat']; omega)]
  ·split
   ·rw[Lib.encodeRuneZ_three (by omega)]
    simp only[yi,List.map_nil]
    rw[zjD (UInt8.ofNat (224+r / 4096)) _ (by rw[UInt8.toNat_ofNat']; omega),zjD (UInt8.ofNat (128+r / 64 % 64)) _ (by rw[UInt8.toNat_ofNat']; omega),zjD (UInt8.ofNat (128+r % 64)) _ (by rw[UInt8.toNat_ofNat']; omega)]
   ·rw[Lib.encodeRuneZ_four (by omega) (by omega)]
    simp only[yi,List.map_nil]
    rw[zjD (UInt8.ofNat (240+r / 262144)) _ (by rw[UInt8.toNat_ofNat']; omega),zjD (UInt8.ofNat (128+r / 4096 % 64)) _ (by rw[UInt8.toNat_ofNat']; omega),zjD (UInt8.ofNat (128+r / 64 % 64)) _ (by rw[UInt8.toNat_ofNat']; omega),zjD (UInt8.ofNat (128+r % 64)) _ (by rw[UInt8.toNat_ofNat']; omega)]
def enc (r:Nat) : List UInt8:=Lib.encodeRune (r:Int)
theorem zn3 (r:Nat) : (enc r).length<=4:=by
 have:=Lib.encodeRuneZ_length r; simp[enc,Lib.encodeRune]; omega
theorem zlf (s:ByteArray) (i:Nat) : (Utf8.decode s i).1<=1114111:=by
 rw[dec]; exact Lib.decodeN_rune_le _ _ _ _ _ (zb1 s i)
theorem zcW {s:ByteArray} {i r n:Nat} (h:piece s i=some (r,n)) : i+n<=s.size/\1<=n/\r<=1114111:=by
 unfold piece at h
 split at h
 ·have:=zrf h; omega
 ·split at h
  ·cases h
  ·have hi:i < s.size:=zaw (by omega)
   split at h
   ·injection h with h; injection h with h1 h2; omega
   ·split at h
    ·cases h
    ·injection h with h; injection h with h1 h2
     have:=zmx s i hi
     have:=zlf s i
     omega
theorem zhM {s:ByteArray} {i:Nat} (h:s.size<=i) : piece s i=none:=by
 unfold piece; rw[zcL s i h]; rfl
def ztx (s:ByteArray) : Nat->Nat->Option (List UInt8×Nat)
 | 0,_=>none
 | f+1,i=>if bt s i=34 then some ([],i+1) else (piece s i).bind fun p=>(ztx s f (i+p.2)).map fun q=>(enc p.1++q.1,q.2)
def zfO (s:ByteArray) (i:Nat) : Option (List UInt8×Nat):=ztx s (s.size+1 - i) i
theorem zlg (s:ByteArray) (f i:Nat) (h:s.size<=i) : ztx s f i=none:=by
 cases f with
 | zero=>rfl
 | succ f=>simp[ztx,zcL s i h,zhM h]
theorem zhN (s:ByteArray) : ∀ (f g i:Nat),s.size<=i+f->s.size<=i+g->ztx s f i=ztx s g i
 | 0,g,i,h,_=>by rw[zlg s g i (by omega)]; rfl
 | f+1,0,i,_,h=>by rw[zlg s (f+1) i (by omega)]; rfl
 | f+1,g+1,i,hf,hg=>by
  rw[ztx,ztx]
  split
  ·rfl
  ·cases hp:piece s i with
   | none=>rfl
   | some p=>
    obtain⟨r,n⟩:=p
    have:=zcW hp
    simp only[yA]
    rw[zhN s f g (i+n) (by omega) (by omega)]
theorem zmY (s:ByteArray) (i:Nat) : zfO s i=if bt s i=34 then some ([],i+1) else (piece s i).bind fun p=>(zfO s (i+p.2)).map fun q=>(enc p.1++q.1,q.2):=by
 unfold zfO
 rw[zhN s (s.size+1 - i) (s.size+1) i (by omega) (by omega),ztx]
 split
 ·rfl
 ·cases hp:piece s i with
  | none=>rfl
  | some p=>
   obtain⟨r,n⟩:=p
   simp only[yA]
   rw[zhN s s.size (s.size+1 - (i+n)) (i+n) (by omega) (by omega)]
theorem zdH {s:ByteArray} {i:Nat} (h:bt s i=34) : zfO s i=some ([],i+1):=by rw[zmY,yg h]
theorem zee {s:ByteArray} {i r n:Nat} (h:bt s i≠34) (hp:piece s i=some (r,n)) : zfO s i=(zfO s (i+n)).map fun q=>(enc r++q.1,q.2):=by rw[zmY,yf h,hp]; rfl
theorem zdI {s:ByteArray} {i:Nat} (h:bt s i≠34) (hp:piece s i=none) : zfO s i=none:=by rw[zmY,yf h,hp]; rfl
theorem zty {s:ByteArray} {i:Nat} (h:s.size<=i) : zfO s i=none:=zdI (by rw[zcL s i h]; decide) (zhM h)
theorem zuq {s:ByteArray} {i:Nat} (h0:bt s i=92) (h1:bt s (i+1)=117) : ziY s i=(zfx s (i+2) 4).bind (zgI s i):=by
 unfold ziY zed
 rw[yg ⟨h0,h1⟩,h1]; rfl
theorem zeU {s:ByteArray} {i b v:Nat} (h1:bt s (i+1)=b) (hv:smp b=some v) : ziY s i=some (v,2):=by
 unfold ziY
 rw[h1,hv]
theorem zrg {s:ByteArray} {i b:Nat} (h1:bt s (i+1)=b) (hv:smp b=none) (hu:b≠117) : ziY s i=none:=by
 unfold ziY zed
 rw[h1,hv,yf (fun h=>hu h.2)]; rfl
def zcM (s:ByteArray) (i:Nat) : Option (List UInt8×Nat):=if bt s i=34 then zfO s (i+1) else none
def zpp (rb:Nat) (s:ByteArray) (tb kt:Bool) (w:World) (o:Option (Value×Nat)) (e:Ending) (w':World) : Prop:=
 KB rb w w'/\o.elim (e=mis) fun p=>e = .returned p.1/\Rdr rb s p.2 tb kt w'
mutual
inductive JV where
 | nul | tt | ff
 | num (l:List UInt8)
 | str (l:List UInt8)
 | arr (l:JL)
 | obj (m:JM)
inductive JL where
 | nil
 | cons (v:JV) (r:JL)
inductive JM where
 | nil
 | cons (k:List UInt8) (v:JV) (r:JM)
end
def dgF (s:ByteArray) : Nat->Nat->Nat
 | 0,i=>i
 | f+1,i=>if zbo (bt s i)=true then dgF s f (i+1) else i
def dg (s:ByteArray) (i:Nat) : Nat:=dgF s (s.size - i) i
theorem ziu {s:ByteArray} {i:Nat} (h:zbo (bt s i)=true) : dg s i=dg s (i+1):=by
 have hi:i < s.size:=zaw (by have:=zaH.1 h; omega)
 unfold dg
 rw[show s.size - i=(s.size - (i+1))+1 by omega,dgF,yg h]
theorem zgr {s:ByteArray} {i:Nat} (h:¬ zbo (bt s i)=true) : dg s i=i:=by
 unfold dg
 cases s.size - i with
 | zero=>rfl
 | succ f=>rw[dgF,yf h]
theorem zur (s:ByteArray) : ∀ f i,i+f<=s.size->i<=dgF s f i/\dgF s f i<=i+f
 | 0,i,_=>⟨ye _,ye _⟩
 | f+1,i,h=>by
  rw[dgF]
  split
  ·have:=zur s f (i+1) (by omega); omega
  ·omega
theorem ztz {s:ByteArray} {i:Nat} (h:i<=s.size) : i<=dg s i/\dg s i<=s.size:=by
 have:=zur s (s.size - i) i (by omega)
 unfold dg; omega
def zaX (s:ByteArray) (i j:Nat) : List UInt8:=(s.data.toList.drop i).take (j - i)
def nmD (s:ByteArray) (i:Nat) : Nat:=if bt s i=45 then i+1 else i
def nmE (s:ByteArray) (i:Nat) : Nat:=if bt s (nmD s i)=48 then nmD s i+1 else dg s (nmD s i)
def zbM (l:List UInt8) : List UInt8:=if l=[45,48] then [48] else l
def nm (s:ByteArray) (i:Nat) : Option (List UInt8×Nat):=if zbo (bt s (nmD s i))=true then some (zbM (zaX s i (nmE s i)),nmE s i) else none
theorem zrh {s:ByteArray} {i j:Nat} {l:List UInt8} (h:nm s i=some (l,j)) : i < j/\j<=s.size:=by
 unfold nm at h
 split at h
 ·rename_i hd
  injection h with h; injection h with h1 h2
  subst h2
  have hlt:nmD s i < s.size:=zaw (by have:=zaH.1 hd; omega)
  have hge:i<=nmD s i:=by unfold nmD; split <;> omega
  unfold nmE
  split
  ·omega
  ·rw[ziu hd]
   have:=ztz (s:=s) (i:=nmD s i+1) (by omega)
   omega
 ·cases h
theorem zvC {s:ByteArray} : ∀ {i j:Nat} {l:List UInt8},zfO s i=some (l,j)->i < j/\j<=s.size:=by
 intro i
 generalize hn:s.size - i=n
 induction n using Nat.strongRecOn generalizing i with
 | _ n ih=>
  intro j l h
  by_cases h34:bt s i=34
  ·rw[zdH h34] at h
   injection h with h; injection h with h1 h2
   have:=zaw (s:=s) (i:=i) (by omega)
   omega
  ·cases hp:piece s i with
   | none=>rw[zdI h34 hp] at h; cases h
   | some p=>
    obtain⟨r,n'⟩:=p
    have hk:=zcW hp
    rw[zee h34 hp] at h
    rcases hq:zfO s (i+n') with _ | ⟨l2,j2⟩
    ·rw[hq] at h; cases h
    ·rw[hq] at h
     injection h with h; injection h with h1 h2
     have:=ih (s.size - (i+n')) (by omega) rfl hq
     omega
theorem zce {s:ByteArray} {i j:Nat} {l:List UInt8} (h:zcM s i=some (l,j)) : i+1 < j/\j<=s.size:=by
 unfold zcM at h
 split at h
 ·have:=zvC h; omega
 ·cases h
def zdm (s:ByteArray) (i:Nat) : Bool:=bt s i == 110 && bt s (i+1) == 117 && bt s (i+2) == 108 && bt s (i+3) == 108
def zdJ (s:ByteArray) (i:Nat) : Bool:=bt s i == 116 && bt s (i+1) == 114 && bt s (i+2) == 117 && bt s (i+3) == 101
def zco (s:ByteArray) (i:Nat) : Bool:=bt s i == 102 && bt s (i+1) == 97 && bt s (i+2) == 108 && bt s (i+3) == 115 && bt s (i+4) == 101
mutual
def pv (s:ByteArray) : Nat->Nat->Option (JV×Nat)
 | 0,_=>none
 | f+1,i=>
  if bt s i=91 then (if bt s (sk s (i+1))=93 then some (.arr .nil,sk s (i+1)+1) else (pa s f (sk s (i+1))).map fun q=>(.arr q.1,q.2))
  else if bt s i=123 then (if bt s (sk s (i+1))=125 then some (.obj .nil,sk s (i+1)+1) else (po s f (sk s (i+1))).map fun q=>(.obj q.1,q.2))
  else if bt s i=34 then (zcM s i).map fun q=>(.str q.1,q.2)
  else if zdm s i=true then some (.nul,i+4)
  else if zdJ s i=true then some (.tt,i+4)
  else if zco s i=true then some (.ff,i+5)
  else (nm s i).map fun q=>(.num q.1,q.2)
def pa (s:ByteArray) : Nat->Nat->Option (JL×Nat)
 | 0,_=>none
 | f+1,i=>(pv s f i).bind fun q=>
  if bt s (sk s q.2)=93 then some (.cons q.1 .nil,sk s q.2+1)
  else if bt s (sk s q.2)=44 then (pa s f (sk s (sk s q.2+1))).map fun r=>(.cons q.1 r.1,r.2)
  else none
def po (s:ByteArray) : Nat->Nat->Option (JM×Nat)
 | 0,_=>none
 | f+1,i=>(zcM s i).bind fun k=>
  if bt s (sk s k.2)=58 then (pv s f (sk s (sk s k.2+1))).bind fun q=>
   if bt s (sk s q.2)=125 then some (.cons k.1 q.1 .nil,sk s q.2+1)
   else if bt s (sk s q.2)=44 then (po s f (sk s (sk s q.2+1))).map fun r=>(.cons k.1 q.1 r.1,r.2)
   else none
  else none
end
theorem zaz (s:ByteArray) (i:Nat) : i<=sk s i:=by
 rcases Nat.le_total i s.size with h | h
 ·exact (zdG h).1
 ·rw[zjT h]; exact ye _
theorem zeD {s:ByteArray} {i:Nat} (h:zdm s i=true) : i+4<=s.size:=by
 simp[zdm] at h
 have:=zaw (s:=s) (i:=i+3) (by omega); omega
theorem zeE {s:ByteArray} {i:Nat} (h:zdJ s i=true) : i+4<=s.size:=by
 simp[zdJ] at h
 have:=zaw (s:=s) (i:=i+3) (by omega); omega
theorem zef {s:ByteArray} {i:Nat} (h:zco s i=true) : i+5<=s.size:=by
 simp[zco] at h
 have:=zaw (s:=s) (i:=i+4) (by omega); omega
theorem zhO (s:ByteArray) : ∀ f i,(∀ v j,pv s f i=some (v,j)->i < j/\j<=s.size)/\(∀ l j,pa s f i=some (l,j)->i < j/\j<=s.size)/\(∀ m j,po s f i=some (m,j)->i < j/\j<=s.size)
 | 0,i=>⟨fun v j h=>by simp[pv] at h,fun v j h=>by simp[pa] at h,fun v j h=>by simp[po] at h⟩
 | f+1,i=>by
  refine⟨fun v j h=>?_,fun l j h=>?_,fun m j h=>?_⟩
  ·rw[pv] at h
   have g:=zaz s (i+1)
   split at h
   ·split at h
    ·have:=zaw (s:=s) (i:=sk s (i+1)) (by omega)
     injection h with h; injection h with _ h; omega
    ·simp only[yz] at h
     obtain⟨⟨l,k⟩,hk,h⟩:=h
     injection h with _ h
     have:=(zhO s f (sk s (i+1))).2.1 l k hk
     simp only at h; omega
   ·split at h
    ·split at h
     ·have:=zaw (s:=s) (i:=sk s (i+1)) (by omega)
      injection h with h; injection h with _ h; omega
     ·simp only[yz] at h
      obtain⟨⟨l,k⟩,hk,h⟩:=h
      injection h with _ h
      have:=(zhO s f (sk s (i+1))).2.2 l k hk
      simp only at h; omega
    ·split at h
     ·simp only[yz] at h
      obtain⟨⟨l,k⟩,hk,h⟩:=h
      injection h with _ h
      have:=zce hk
      simp only at h; omega
     ·split at h
      ·rename_i hw
       have:=zeD hw
       injection h with h; injection h with _ h; omega
      ·split at h
       ·rename_i hw
        have:=zeE hw
        injection h with h; injection h with _ h; omega
       ·split at h
        ·rename_i hw
         have:=zef hw
         injection h with h; injection h with _ h; omega
        ·simp only[yz] at h
         obtain⟨⟨l,k⟩,hk,h⟩:=h
         injection h with _ h
         have:=zrh hk
         simp only at h; omega
  ·rw[pa] at h
   simp only[Option.bind_eq_some_iff] at h
   obtain⟨⟨v,k⟩,hk,h⟩:=h
   have h1:=(zhO s f i).1 v k hk
   have g1:=zaz s k
   simp only at h
   split at h
   ·have:=zaw (s:=s) (i:=sk s k) (by omega)
    injection h with h; injection h with _ h; omega
   ·split at h
    ·simp only[yz] at h
     obtain⟨⟨l,n⟩,hn,h⟩:=h
     injection h with _ h
     have:=(zhO s f _).2.1 l n hn
     have g2:=zaz s (sk s k+1)
     simp only at h; omega
    ·cases h
  ·rw[po] at h
   simp only[Option.bind_eq_some_iff] at h
   obtain⟨⟨key,a⟩,ha,h⟩:=h
   have h0:=zce ha
   simp only at h
   split at h
   ·simp only[Option.bind_eq_some_iff] at h
    obtain⟨⟨v,k⟩,hk,h⟩:=h
    have h1:=(zhO s f _).1 v k hk
    have g0:=zaz s a
    have g3:=zaz s (sk s a+1)
    have g1:=zaz s k
    simp only at h
    split at h
    ·have:=zaw (s:=s) (i:=sk s k) (by omega)
     injection h with h; injection h with _ h; omega
    ·split at h
     ·simp only[yz] at h
      obtain⟨⟨l,n⟩,hn,h⟩:=h
      injection h with _ h
      have:=(zhO s f _).2.2 l n hn
      have g2:=zaz s (sk s k+1)
      simp only at h; omega
     ·cases h
   ·cases h
theorem zeg (s:ByteArray) : ∀ f g i,(2*(s.size - i)+1<=f->2*(s.size - i)+1<=g->pv s f i=pv s g i)/\(2*(s.size - i)+2<=f->2*(s.size - i)+2<=g->pa s f i=pa s g i/\po s f i=po s g i)
 | 0,g,i=>⟨fun h _=>by omega,fun h _=>by omega⟩
 | f+1,0,i=>⟨fun _ h=>by omega,fun _ h=>by omega⟩
 | f+1,g+1,i=>by
  refine⟨fun hf hg=>?_,fun hf hg=>⟨?_,?_⟩⟩
  ·rw[pv,pv]
   have g0:=zaz s (i+1)
   by_cases c1:bt s i=91
   ·have hi:=zaw (s:=s) (i:=i) (by omega)
    rw[yg c1,yg c1,((zeg s f g (sk s (i+1))).2 (by omega) (by omega)).1]
   ·rw[yf c1,yf c1]
    by_cases c2:bt s i=123
    ·have hi:=zaw (s:=s) (i:=i) (by omega)
     rw[yg c2,yg c2,((zeg s f g (sk s (i+1))).2 (by omega) (by omega)).2]
    ·rw[yf c2,yf c2]
  ·rw[pa,pa,(zeg s f g i).1 (by omega) (by omega)]
   cases hk:pv s g i with
   | none=>rfl
   | some q=>
    obtain⟨v,k⟩:=q
    have h1:=(zhO s g i).1 v k hk
    have g1:=zaz s k
    have g2:=zaz s (sk s k+1)
    simp only[yA]
    rw[((zeg s f g (sk s (sk s k+1))).2 (by omega) (by omega)).1]
  ·rw[po,po]
   cases ha:zcM s i with
   | none=>rfl
   | some q=>
    obtain⟨key,a⟩:=q
    have h0:=zce ha
    have ga:=zaz s a
    have gb:=zaz s (sk s a+1)
    simp only[yA]
    rw[(zeg s f g (sk s (sk s a+1))).1 (by omega) (by omega)]
    cases hk:pv s g (sk s (sk s a+1)) with
    | none=>rfl
    | some q=>
     obtain⟨v,k⟩:=q
     have h1:=(zhO s g _).1 v k hk
     have g1:=zaz s k
     have g2:=zaz s (sk s k+1)
     simp only[yA]
     rw[((zeg s f g (sk s (sk s k+1))).2 (by omega) (by omega)).2]
def val (s:ByteArray) (i:Nat) : Option (JV×Nat):=pv s (2*(s.size - i)+1) i
def elems (s:ByteArray) (i:Nat) : Option (JL×Nat):=pa s (2*(s.size - i)+2) i
def zhP (s:ByteArray) (i:Nat) : Option (JM×Nat):=po s (2*(s.size - i)+2) i
theorem zeV {s:ByteArray} {i j:Nat} {v:JV} (h:val s i=some (v,j)) : i < j/\j<=s.size:=(zhO s _ i).1 v j h
theorem zjW {s:ByteArray} {i:Nat} (h:bt s i=91) : val s i=if bt s (sk s (i+1))=93 then some (.arr .nil,sk s (i+1)+1) else (elems s (sk s (i+1))).map fun q=>(.arr q.1,q.2):=by
 have hi:=zaw (s:=s) (i:=i) (by omega)
 have g:=zaz s (i+1)
 unfold val elems
 rw[pv,yg h,((zeg s (2*(s.size - i)) (2*(s.size - sk s (i+1))+2) (sk s (i+1))).2 (by omega) (by omega)).1]
theorem zjX {s:ByteArray} {i:Nat} (h:bt s i=123) : val s i=if bt s (sk s (i+1))=125 then some (.obj .nil,sk s (i+1)+1) else (zhP s (sk s (i+1))).map fun q=>(.obj q.1,q.2):=by
 have hi:=zaw (s:=s) (i:=i) (by omega)
 have g:=zaz s (i+1)
 unfold val zhP
 rw[pv,yf (by omega),yg h,((zeg s (2*(s.size - i)) (2*(s.size - sk s (i+1))+2) (sk s (i+1))).2 (by omega) (by omega)).2]
theorem zmZ {s:ByteArray} {i:Nat} (h:bt s i=34) : val s i=(zcM s i).map fun q=>(.str q.1,q.2):=by
 unfold val
 rw[pv,yf (by omega),yf (by omega),yg h]
theorem zcz {s:ByteArray} {i:Nat} (h1:bt s i≠91) (h2:bt s i≠123) (h3:bt s i≠34) : val s i =
  if zdm s i=true then some (.nul,i+4) else if zdJ s i=true then some (.tt,i+4) else if zco s i=true then some (.ff,i+5) else (nm s i).map fun q=>(.num q.1,q.2):=by
 unfold val
 rw[pv,yf h1,yf h2,yf h3]
theorem zdK (s:ByteArray) (i:Nat) : elems s i=(val s i).bind fun q=>
  if bt s (sk s q.2)=93 then some (.cons q.1 .nil,sk s q.2+1)
  else if bt s (sk s q.2)=44 then (elems s (sk s (sk s q.2+1))).map fun r=>(.cons q.1 r.1,r.2)
  else none:=by
 have e:elems s i=pa s (2*(s.size - i)+1+1) i:=rfl
 rw[e,pa]
 show (val s i).bind _=_
 cases hk:val s i with
 | none=>rfl
 | some q=>
  obtain⟨v,k⟩:=q
  have h1:=zeV hk
  have g1:=zaz s k
  have g2:=zaz s (sk s k+1)
  simp only[yA]
  rw[show elems s (sk s (sk s k+1))=pa s (2*(s.size - i)+1) (sk s (sk s k+1)) from ((zeg s _ _ _).2 (by omega) (by omega)).1]
theorem zhQ (s:ByteArray) (i:Nat) : zhP s i=(zcM s i).bind fun k=>
  if bt s (sk s k.2)=58 then (val s (sk s (sk s k.2+1))).bind fun q=>
   if bt s (sk s q.2)=125 then some (.cons k.1 q.1 .nil,sk s q.2+1)
   else if bt s (sk s q.2)=44 then (zhP s (sk s (sk s q.2+1))).map fun r=>(.cons k.1 q.1 r.1,r.2)
   else none
  else none:=by
 have e:zhP s i=po s (2*(s.size - i)+1+1) i:=rfl
 rw[e,po]
 cases ha:zcM s i with
 | none=>rfl
 | some q=>
  obtain⟨key,a⟩:=q
  have h0:=zce ha
  have ga:=zaz s a
  have gb:=zaz s (sk s a+1)
  simp only[yA]
  rw[show pv s (2*(s.size - i)+1) (sk s (sk s a+1))=val s (sk s (sk s a+1)) from (zeg s _ _ _).1 (by omega) (by omega)]
  cases hk:val s (sk s (sk s a+1)) with
  | none=>rfl
  | some q=>
   obtain⟨v,k⟩:=q
   have h1:=zeV hk
   have g1:=zaz s k
   have g2:=zaz s (sk s k+1)
   simp only[yA]
   rw[show zhP s (sk s (sk s k+1))=po s (2*(s.size - i)+1) (sk s (sk s k+1)) from ((zeg s _ _ _).2 (by omega) (by omega)).2]
def zeW (p:List UInt8×List UInt8) : List (List UInt8×List UInt8)->List (List UInt8×List UInt8)
 | []=>[p]
 | q :: r=>if p.1 < q.1 then q :: zeW p r else p :: q :: r
def zaq (l:List (List UInt8×List UInt8)) : List (List UInt8×List UInt8):=(l.foldl (fun acc p=>zeW p acc) []).reverse
def zav (p:List UInt8×List UInt8) : List UInt8:=quoted p.1++58 :: p.2
def joinT:List (List UInt8)->List UInt8
 | []=>[]
 | t :: r=>44 :: (t++joinT r)
def joinC:List (List UInt8)->List UInt8
 | []=>[]
 | t :: r=>t++joinT r
def mkO (l:List (List UInt8×List UInt8)) : List UInt8:=123 :: (joinC (l.map zav)++[125])
def mkA (l:List (List UInt8)) : List UInt8:=91 :: (joinC l++[93])
theorem zri (a b:List (List UInt8)) : joinT (a++b)=joinT a++joinT b:=by
 induction a with
 | nil=>rfl
 | cons t r ih=>simp[joinT,ih]
theorem zeF (a:List (List UInt8)) (t:List UInt8) : joinC (a++[t])=joinC a++(if a=[] then t else 44 :: t):=by
 cases a with
 | nil=>simp[joinC,joinT]
 | cons x r=>simp[joinC,zri,joinT]
def zv6:List UInt8:=[57,50,50,51,51,55,50,48,51,54,56,53,52,55,55,53,56,48,55]
def zv7:List UInt8:=[57,50,50,51,51,55,50,48,51,54,56,53,52,55,55,53,56,48,56]
def over (d lim:List UInt8) : Bool:=if d.length≠19 then decide (19 < d.length) else (!Op.bytesLess d lim && !(d == lim))
def zaP:List UInt8->Bool
 | []=>false
 | c :: r=>if c=45 then over r zv7 else over (c :: r) zv6
mutual
def ct:JV->List UInt8
 | .nul=>[110,117,108,108]
 | .tt=>[116,114,117,101]
 | .ff=>[102,97,108,115,101]
 | .num l=>l
 | .str l=>quoted l
 | .arr l=>mkA (ctL l)
 | .obj m=>mkO (zaq (ctM m))
def ctL:JL->List (List UInt8)
 | .nil=>[]
 | .cons v r=>ct v :: ctL r
def ctM:JM->List (List UInt8×List UInt8)
 | .nil=>[]
 | .cons k v r=>(k,ct v) :: ctM r
end
mutual
def zbf:JV->Bool
 | .nul=>false
 | .tt=>false
 | .ff=>false
 | .num l=>zaP l
 | .str _=>false
 | .arr l=>zeG l
 | .obj m=>zds m
def zeG:JL->Bool
 | .nil=>false
 | .cons v r=>zbf v || zeG r
def zds:JM->Bool
 | .nil=>false
 | .cons _ v r=>zbf v || zds r
end
mutual
def twV:JV->Bool
 | .nul=>false
 | .tt=>false
 | .ff=>false
 | .num _=>false
 | .str _=>false
 | .arr l=>twL l
 | .obj m=>twM [] m
def twL:JL->Bool
 | .nil=>false
 | .cons v r=>twV v || twL r
def twM:List (List UInt8)->JM->Bool
 | _,.nil=>false
 | ks,.cons k v r=>(twV v || ks.contains k) || twM (ks++[k]) r
end
mutual
def zaY:JV->Nat
 | .nul=>1
 | .tt=>1
 | .ff=>1
 | .num _=>1
 | .str _=>1
 | .arr l=>zn4 l+1
 | .obj m=>zlV m+1
def zn4:JL->Nat
 | .nil=>0
 | .cons v r=>max (zaY v) (zn4 r)
def zlV:JM->Nat
 | .nil=>0
 | .cons _ v r=>max (zaY v) (zlV r)
end
mutual
def zaA:JV->Nat
 | .nul=>1
 | .tt=>1
 | .ff=>1
 | .num _=>1
 | .str _=>1
 | .arr l=>zhR l+1
 | .obj m=>zgs m+1
def zhR:JL->Nat
 | .nil=>0
 | .cons v r=>zaA v+zhR r
def zgs:JM->Nat
 | .nil=>0
 | .cons _ v r=>zaA v+zgs r
end
def JL.app:JL->JL->JL
 | .nil,b=>b
 | .cons v r,b=>.cons v (r.app b)
def JM.app:JM->JM->JM
 | .nil,b=>b
 | .cons k v r,b=>.cons k v (r.app b)
theorem JL.app_assoc:∀ a b c:JL,(a.app b).app c=a.app (b.app c)
 | .nil,_,_=>rfl
 | .cons v r,b,c=>by simp[JL.app,JL.app_assoc r b c]
theorem JM.app_assoc:∀ a b c:JM,(a.app b).app c=a.app (b.app c)
 | .nil,_,_=>rfl
 | .cons k v r,b,c=>by simp[JM.app,JM.app_assoc r b c]
theorem JL.app_nil:∀ a:JL,a.app .nil=a
 | .nil=>rfl
 | .cons v r=>by simp[JL.app,JL.app_nil r]
theorem JM.app_nil:∀ a:JM,a.app .nil=a
 | .nil=>rfl
 | .cons k v r=>by simp[JM.app,JM.app_nil r]
theorem zvD:∀ a b:JL,ctL (a.app b)=ctL a++ctL b
 | .nil,b=>by simp[JL.app,ctL]
 | .cons v r,b=>by simp[JL.app,ctL,zvD r b]
theorem zrj:∀ a b:JM,ctM (a.app b)=ctM a++ctM b
 | .nil,b=>by simp[JM.app,ctM]
 | .cons k v r,b=>by simp[JM.app,ctM,zrj r b]
theorem zjY:∀ a b:JL,zeG (a.app b)=(zeG a || zeG b)
 | .nil,b=>by simp[JL.app,zeG]
 | .cons v r,b=>by simp[JL.app,zeG,zjY r b,Bool.or_assoc]
theorem zjZ:∀ a b:JM,zds (a.app b)=(zds a || zds b)
 | .nil,b=>by simp[JM.app,zds]
 | .cons k v r,b=>by simp[JM.app,zds,zjZ r b,Bool.or_assoc]
theorem zm0:∀ a b:JL,twL (a.app b)=(twL a || twL b)
 | .nil,b=>by simp[JL.app,twL]
 | .cons v r,b=>by simp[JL.app,twL,zm0 r b,Bool.or_assoc]
def zcu:JM->List (List UInt8)
 | .nil=>[]
 | .cons k _ r=>k :: zcu r
theorem zlh:∀ a b:JM,zcu (a.app b)=zcu a++zcu b
 | .nil,b=>by simp[JM.app,zcu]
 | .cons k v r,b=>by simp[JM.app,zcu,zlh r b]
theorem zm1:∀ (ks:List (List UInt8)) (a b:JM),twM ks (a.app b)=(twM ks a || twM (ks++zcu a) b)
 | ks,.nil,b=>by simp[JM.app,twM,zcu]
 | ks,.cons k v r,b=>by simp[JM.app,twM,zcu,zm1 (ks++[k]) r b,Bool.or_assoc]
theorem zfy:∀ a:JM,(ctM a).map (·.1)=zcu a
 | .nil=>rfl
 | .cons k v r=>by simp[ctM,zcu,zfy r]
theorem zbA (s:ByteArray) (i k:Nat) : bt s (i+k)=((s.data.toList.drop i).getD k 0).toNat:=by
 unfold bt; rw[List.getD_eq_getElem?_getD,List.getD_eq_getElem?_getD,List.getElem?_drop]
theorem zhS {s:ByteArray} {i:Nat} {m:List UInt8} (h:s.data.toList.drop i=m) (hm:m≠[]) : s.size=i+m.length:=by
 have h1:(s.data.toList.drop i).length=m.length:=by rw[h]
 have h2:0 < m.length:=List.length_pos_iff.2 hm
 rw[yu,zak] at h1
 omega
theorem zrk:∀ k:Fin 16,hx (zlT.getD k.val 0).toNat=some k.val:=by decide
theorem zrl {r:Nat} (h:r < 128) : enc r=[UInt8.ofNat r]:=by
 unfold enc; rw[← zjV (by omega) (by omega)]; unfold utf zgv; rw[yg h]; rfl
theorem zcN {T:ByteArray} {i:Nat} {c x:UInt8} {m:List UInt8} (hq:qB c=[92,x]) (hs:smp x.toNat=some c.toNat) (h:T.data.toList.drop i=qB c++m) :
  bt T i≠34/\piece T i=some (c.toNat,(qB c).length):=by
 have b0:=zbA T i 0
 have b1:=zbA T i 1
 rw[h,hq] at b0 b1
 change bt T i=92 at b0
 change bt T (i+1)=x.toNat at b1
 refine⟨by omega,?_⟩
 unfold piece
 rw[yg b0,zeU b1 hs,hq]; rfl
theorem zrm {T:ByteArray} {i:Nat} {c:UInt8} {m:List UInt8} (hc:Ctl c.toNat) (h:T.data.toList.drop i=qB c++m) :
  bt T i≠34/\piece T i=some (c.toNat,(qB c).length):=by
 have hq:=zuQ hc
 have hlt:=hc.1
 have x1:=zrk ⟨c.toNat / 16,by omega⟩
 have x2:=zrk ⟨c.toNat % 16,by omega⟩
 simp only at x1 x2
 generalize zlT.getD (c.toNat / 16) 0=a at *
 generalize zlT.getD (c.toNat % 16) 0=b at *
 have b0:=zbA T i 0
 have b1:=zbA T i 1
 have b2:=zbA T i 2
 have b3:=zbA T i 3
 have b4:=zbA T i 4
 have b5:=zbA T i 5
 rw[h,hq] at b0 b1 b2 b3 b4 b5
 change bt T i=92 at b0
 change bt T (i+1)=117 at b1
 change bt T (i+2)=48 at b2
 change bt T (i+3)=48 at b3
 change bt T (i+4)=a.toNat at b4
 change bt T (i+5)=b.toNat at b5
 have e:zfx T (i+2) 4=some ((((0*16+0)*16+0)*16+c.toNat / 16)*16+c.toNat % 16):=by
  refine zdl (zdl (zdl (zdl rfl ?_) ?_) ?_) ?_
  ·show hx (bt T (i+2))=_
   rw[b2]; rfl
  ·show hx (bt T (i+3))=_
   rw[b3]; rfl
  ·show hx (bt T (i+4))=_
   rw[b4]; exact x1
  ·show hx (bt T (i+5))=_
   rw[b5]; exact x2
 refine⟨by omega,?_⟩
 unfold piece
 rw[yg b0,zuq b0 b1,e,hq]
 show zgI T i _=_
 unfold zgI
 rw[yg (by omega)]
 congr 2
 omega
theorem zvE {T:ByteArray} {i:Nat} {c:UInt8} {m:List UInt8} (hc:c.toNat < 128) (h:T.data.toList.drop i=qB c++m) :
  bt T i≠34/\piece T i=some (c.toNat,(qB c).length):=by
 by_cases e1:c.toNat=34
 ·exact zcN (zor (by omega)) (by rw[e1]; rfl) h
 by_cases e2:c.toNat=92
 ·exact zcN (zor (by omega)) (by rw[e2]; rfl) h
 by_cases e3:c.toNat=8
 ·exact zcN (q_8 (by omega)) (by rw[e3]; rfl) h
 by_cases e4:c.toNat=9
 ·exact zcN (q_9 (by omega)) (by rw[e4]; rfl) h
 by_cases e5:c.toNat=10
 ·exact zcN (zxS (by omega)) (by rw[e5]; rfl) h
 by_cases e6:c.toNat=12
 ·exact zcN (zxT (by omega)) (by rw[e6]; rfl) h
 by_cases e7:c.toNat=13
 ·exact zcN (zxU (by omega)) (by rw[e7]; rfl) h
 by_cases e8:c.toNat < 32
 ·exact zrm ⟨e8,e3,e4,e5,e6,e7⟩ h
 have hq:=zsh e1 e2 (by omega)
 have b0:=zbA T i 0
 rw[h,hq] at b0
 change bt T i=c.toNat at b0
 refine⟨by omega,?_⟩
 unfold piece
 rw[yf (by omega),yf (by omega),yg (by omega),b0,hq]; rfl
theorem zli (l:List UInt8) (n k:Nat) (m:List UInt8) (h:k < n) (hn:n<=l.length) : (l.take n++m).getD k 0=l.getD k 0:=by
 rw[List.getD_eq_getElem?_getD,List.getD_eq_getElem?_getD,List.getElem?_append_left (by rw[ym]; omega),List.getElem?_take_of_lt h]
theorem zrn {s T:ByteArray} {i j:Nat} {m:List UInt8} (hi:i < s.size) (h8:¬ s[i].toNat < 128) (hr:¬ rl s i=0) (h:T.data.toList.drop j=(s.data.toList.drop i).take (rl s i)++m) : rl T j=rl s i:=by
 have hle:=zmx s i hi
 have hlen:(s.data.toList.drop i).length=s.size - i:=by rw[yu,zak]
 have hb:∀ k,k < rl s i->bt T (j+k)=bt s (i+k):=fun k hk=>by
  rw[zbA,zbA,h,zli _ _ _ _ hk (by omega)]
 have hn:rl s i<=T.size - j:=by
  have h1:=zhS h (by
   intro e
   have:=congrArg List.length e
   rw[yh,ym,hlen] at this
   simp at this; omega)
  rw[yh,ym,hlen] at h1
  omega
 have hb0:=zas s i hi
 have h192:192<=bt s i:=by
  rcases Nat.lt_or_ge (bt s i) 192 with g | g
  ·exact absurd (show rl s i=0 by unfold rl; rw[zjb (by omega) g]) hr
  ·exact g
 have hT0:=hb 0 (by omega)
 rw[Nat.add_zero,Nat.add_zero] at hT0
 have l1:=zb1 s (i+1)
 have l2:=zb1 s (i+2)
 have l3:=zb1 s (i+3)
 by_cases h2:bt s i < 224
 ·have e:=zpH (n:=s.size - i) (b0:=bt s i) (b1:=bt s (i+1)) (b2:=bt s (i+2)) (b3:=bt s (i+3)) h192 h2 l1
  have e':=zpH (n:=T.size - j) (b0:=bt T j) (b1:=bt T (j+1)) (b2:=bt T (j+2)) (b3:=bt T (j+3)) (by omega) (by omega) (zb1 _ _)
  change rl s i=_ at e
  change rl T j=_ at e'
  split at e
  ·rename_i hc
   have x1:=hb 1 (by omega)
   rw[e',e,yg (by rw[hT0,x1]; omega)]
  ·omega
 by_cases h3:bt s i < 240
 ·have e:=zpI (n:=s.size - i) (b0:=bt s i) (b1:=bt s (i+1)) (b2:=bt s (i+2)) (b3:=bt s (i+3)) (by omega) h3 l1 l2
  have e':=zpI (n:=T.size - j) (b0:=bt T j) (b1:=bt T (j+1)) (b2:=bt T (j+2)) (b3:=bt T (j+3)) (by omega) (by omega) (zb1 _ _) (zb1 _ _)
  change rl s i=_ at e
  change rl T j=_ at e'
  split at e
  ·rename_i hc
   have x1:=hb 1 (by omega)
   have x2:=hb 2 (by omega)
   rw[e',e,yg (by rw[hT0,x1,x2]; omega)]
  ·omega
 ·have e:=zpJ (n:=s.size - i) (b0:=bt s i) (b1:=bt s (i+1)) (b2:=bt s (i+2)) (b3:=bt s (i+3)) (by omega) (zb1 _ _) l1 l2 l3
  have e':=zpJ (n:=T.size - j) (b0:=bt T j) (b1:=bt T (j+1)) (b2:=bt T (j+2)) (b3:=bt T (j+3)) (by omega) (zb1 _ _) (zb1 _ _) (zb1 _ _) (zb1 _ _)
  change rl s i=_ at e
  change rl T j=_ at e'
  split at e
  ·rename_i hc
   have x1:=hb 1 (by omega)
   have x2:=hb 2 (by omega)
   have x3:=hb 3 (by omega)
   rw[e',e,yg (by rw[hT0,x1,x2,x3]; omega)]
  ·omega
theorem zaF {l m n:List UInt8} {j:Nat} (h:l.drop j=m++n) : l.drop (j+m.length)=n:=by
 rw[← List.drop_drop,h,List.drop_left]
theorem zc1 (a l:List UInt8) (k:Nat) (h:k < a.length) : bt (zac (a++l)) k=(a.getD k 0).toNat:=by
 unfold bt; rw[zad]
 simp only[List.getD]
 rw[List.getElem?_append_left h]
theorem zbu {n:Nat} (h:n < 256) : (UInt8.ofNat n).toNat=n:=by rw[UInt8.toNat_ofNat']; omega
theorem zxk (r:Nat) (h:r<=1114111) (h':r < 55296∨57344<=r) (l:List UInt8) : rl (zac (utf r++l)) 0=(utf r).length/\0 < (utf r).length:=by
 have hz:(zac (utf r++l)).size - 0=(utf r).length+l.length:=by rw[zaf,yh]; omega
 unfold rl
 rw[hz]
 by_cases h1:r < 128
 ·have e:utf r=[UInt8.ofNat r]:=by unfold utf zgv; rw[yg h1]; rfl
  rw[e]
  refine⟨?_,by simp⟩
  rw[zc1 _ _ 0 (by simp),zja]
  ·rfl
  ·show (UInt8.ofNat r).toNat < 128
   rw[zbu (by omega)]; exact h1
 ·by_cases h2:r < 2048
  ·have e:utf r=[UInt8.ofNat (192+r / 64),UInt8.ofNat (128+r % 64)]:=by unfold utf zgv; rw[yf h1,yg h2]; rfl
   rw[e]
   refine⟨?_,by simp⟩
   rw[zc1 _ _ 0 (by simp),zc1 _ _ (0+1) (by simp)]
   have b0:([UInt8.ofNat (192+r / 64),UInt8.ofNat (128+r % 64)].getD 0 0).toNat=192+r / 64:=zbu (by omega)
   have b1:([UInt8.ofNat (192+r / 64),UInt8.ofNat (128+r % 64)].getD (0+1) 0).toNat=128+r % 64:=zbu (by omega)
   rw[b0,b1,zpH (by omega) (by omega) (by omega),yg (by simp only[yn,yD]; omega)]
   rfl
  ·by_cases h3:r < 65536
   ·have e:utf r=[UInt8.ofNat (224+r / 4096),UInt8.ofNat (128+r / 64 % 64),UInt8.ofNat (128+r % 64)]:=by unfold utf zgv; rw[yf h1,yf h2,yg h3]; rfl
    rw[e]
    refine⟨?_,by simp⟩
    rw[zc1 _ _ 0 (by simp),zc1 _ _ (0+1) (by simp),zc1 _ _ (0+2) (by simp)]
    have b0:([UInt8.ofNat (224+r / 4096),UInt8.ofNat (128+r / 64 % 64),UInt8.ofNat (128+r % 64)].getD 0 0).toNat=224+r / 4096:=zbu (by omega)
    have b1:([UInt8.ofNat (224+r / 4096),UInt8.ofNat (128+r / 64 % 64),UInt8.ofNat (128+r % 64)].getD (0+1) 0).toNat=128+r / 64 % 64:=zbu (by omega)
    have b2:([UInt8.ofNat (224+r / 4096),UInt8.ofNat (128+r / 64 % 64),UInt8.ofNat (128+r % 64)].getD (0+2) 0).toNat=128+r % 64:=zbu (by omega)
    rw[b0,b1,b2,zpI (by omega) (by omega) (by omega) (by omega),yg (by simp only[yn,yD]; omega)]
    rfl
   ·have e:utf r=[UInt8.ofNat (240+r / 262144),UInt8.ofNat (128+r / 4096 % 64),UInt8.ofNat (128+r / 64 % 64),UInt8.ofNat (128+r % 64)]:=by unfold utf zgv; rw[yf h1,yf h2,yf h3]; rfl
    rw[e]
    refine⟨?_,by simp⟩
    rw[zc1 _ _ 0 (by simp),zc1 _ _ (0+1) (by simp),zc1 _ _ (0+2) (by simp),zc1 _ _ (0+3) (by simp)]
    have b0:([UInt8.ofNat (240+r / 262144),UInt8.ofNat (128+r / 4096 % 64),UInt8.ofNat (128+r / 64 % 64),UInt8.ofNat (128+r % 64)].getD 0 0).toNat=240+r / 262144:=zbu (by omega)
    have b1:([UInt8.ofNat (240+r / 262144),UInt8.ofNat (128+r / 4096 % 64),UInt8.ofNat (128+r / 64 % 64),UInt8.ofNat (128+r % 64)].getD (0+1) 0).toNat=128+r / 4096 % 64:=zbu (by omega)
    have b2:([UInt8.ofNat (240+r / 262144),UInt8.ofNat (128+r / 4096 % 64),UInt8.ofNat (128+r / 64 % 64),UInt8.ofNat (128+r % 64)].getD (0+2) 0).toNat=128+r / 64 % 64:=zbu (by omega)
    have b3:([UInt8.ofNat (240+r / 262144),UInt8.ofNat (128+r / 4096 % 64),UInt8.ofNat (128+r / 64 % 64),UInt8.ofNat (128+r % 64)].getD (0+3) 0).toNat=128+r % 64:=zbu (by omega)
    rw[b0,b1,b2,b3,zpJ (by omega) (by omega) (by omega) (by omega) (by omega),yg (by simp only[yn,yD]; omega)]
    rfl
theorem zhT {a l:List UInt8} (h0:0 < a.length) (h:rl (zac (a++l)) 0=a.length) : Lib.validD (a++l)=Lib.validD l:=by
 have:=zgD (zac (a++l)) 0 (by rw[zaf,yh]; omega) (by rw[h]; omega)
 rw[zad,h,Nat.zero_add,List.drop_zero,List.drop_left] at this
 exact this
theorem zm2 {s:ByteArray} {i r n:Nat} (h:piece s i=some (r,n)) (l:List UInt8) : Lib.validD (enc r++l)=Lib.validD l:=by
 have fin:r<=1114111->(r < 55296∨57344<=r)->Lib.validD (enc r++l)=Lib.validD l:=fun h1 h2=>by
  have e:enc r=utf r:=(zjV h1 h2).symm
  rw[e]
  obtain⟨a,b⟩:=zxk r h1 h2 l
  exact zhT b a
 unfold piece at h
 split at h
 ·have:=zrf h; exact fin this.2.2.1 this.2.2.2
 ·split at h
  ·cases h
  ·have hi:i < s.size:=zaw (by omega)
   split at h
   ·injection h with h; injection h with h1 h2
    exact fin (by omega) (by omega)
   ·rename_i h8
    split at h
    ·cases h
    ·rename_i hr
     injection h with h; injection h with h1 h2
     have h8':¬ s[i].toNat < 128:=by rw[← zas s i hi]; exact h8
     obtain⟨g1,g2,g3,g4⟩:=zcJ s i hi hr h8'
     have e:enc r=(s.data.toList.drop i).take (rl s i):=by unfold enc; rw[← h1]; exact g1
     have hle:=zmx s i hi
     have hlen:((s.data.toList.drop i).take (rl s i)).length=rl s i:=by rw[ym,yu,zak]; omega
     rw[e]
     refine zhT (by omega) ?_
     rw[hlen]
     exact zrn (m:=l) hi h8' hr (by rw[zad,List.drop_zero])
theorem zpq {s:ByteArray} : ∀ {i j:Nat} {l:List UInt8},zfO s i=some (l,j)->Lib.validD l=true:=by
 intro i
 generalize hn:s.size - i=n
 induction n using Nat.strongRecOn generalizing i with
 | _ n ih=>
  intro j l h
  by_cases h34:bt s i=34
  ·rw[zdH h34] at h
   injection h with h; injection h with h1 h2
   subst h1; rfl
  ·cases hp:piece s i with
   | none=>rw[zdI h34 hp] at h; cases h
   | some p=>
    obtain⟨r,n'⟩:=p
    have hk:=zcW hp
    rw[zee h34 hp] at h
    rcases hq:zfO s (i+n') with _ | ⟨l2,j2⟩
    ·rw[hq] at h; cases h
    ·rw[hq] at h
     injection h with h; injection h with h1 h2
     simp only at h1
     rw[← h1,zm2 hp]
     exact ih (s.size - (i+n')) (by omega) rfl hq
theorem zeH {s:ByteArray} {i j:Nat} {l:List UInt8} (h:zcM s i=some (l,j)) : Lib.validD l=true:=by
 unfold zcM at h
 split at h
 ·exact zpq h
 ·cases h
theorem zpr {s:ByteArray} {i:Nat} {m:List UInt8} (h:s.data.toList.drop i=m) (hm:m≠[]) : i < s.size:=by
 have:=zhS h hm
 have:0 < m.length:=by cases m with
  | nil=>exact absurd rfl hm
  | cons _ _=>simp
 omega
theorem zro (s T:ByteArray) (m:List UInt8) : ∀ (f pos:Nat),s.size<=pos+f->Lib.validD (s.data.toList.drop pos)=true->∀ j,T.data.toList.drop j=qs (s.data.toList.drop pos)++34 :: m->zfO T j=some (s.data.toList.drop pos,j+(qs (s.data.toList.drop pos)).length+1)
 | f,pos,h,hv,j,hj=>by
  by_cases hp:pos < s.size
  ·cases f with
   | zero=>omega
   | succ f=>
    have hr:¬ rl s pos=0:=fun e=>by rw[zhu s pos hp e] at hv; cases hv
    have hv2:=hv
    rw[zgD s pos hp hr] at hv2
    by_cases h8:s[pos].toNat < 128
    ·have e1:rl s pos=1:=by unfold rl; rw[zja (by rw[zas s pos hp]; exact h8)]
     rw[e1] at hv2
     have hq:T.data.toList.drop j=qB s[pos]++(qs (s.data.toList.drop (pos+1))++34 :: m):=by
      rw[hj,zax s pos hp]; simp[qs]
     obtain⟨p1,p2⟩:=zvE h8 hq
     have ih:=zro s T m f (pos+1) (by omega) hv2 (j+(qB s[pos]).length) (zaF hq)
     rw[zee p1 p2,ih,zrl h8,show UInt8.ofNat s[pos].toNat=s[pos] from UInt8.ofNat_toNat,zax s pos hp]
     have e2:(qs (s[pos] :: s.data.toList.drop (pos+1))).length=(qB s[pos]).length+(qs (s.data.toList.drop (pos+1))).length:=by simp[qs]
     rw[e2]
     simp only[Option.map_some,Option.some.injEq,Prod.mk.injEq]
     exact⟨rfl,by omega⟩
    ·obtain⟨g1,g2,g3,g4⟩:=zcJ s pos hp hr h8
     have hsplit:=(List.take_append_drop (rl s pos) (s.data.toList.drop pos)).symm
     rw[List.drop_drop] at hsplit
     have hqs:qs (s.data.toList.drop pos)=(s.data.toList.drop pos).take (rl s pos)++qs (s.data.toList.drop (pos+rl s pos)):=by
      conv=>lhs; rw[hsplit]
      rw[zpK,zl0 _ g2]
     have hq:T.data.toList.drop j=(s.data.toList.drop pos).take (rl s pos)++(qs (s.data.toList.drop (pos+rl s pos))++34 :: m):=by
      rw[hj,hqs,List.append_assoc]
     have hle:=zmx s pos hp
     have hlen:((s.data.toList.drop pos).take (rl s pos)).length=rl s pos:=by rw[ym,yu,zak]; omega
     have hrl:=zrn hp h8 hr hq
     have ih:=zro s T m f (pos+rl s pos) (by omega) hv2 (j+rl s pos) (by have:=zaF hq; rwa [hlen] at this)
     have hjT:j < T.size:=by
      have:=zhS hq (by intro e; have:=congrArg List.length e; rw[yh,hlen,yD] at this; omega)
      rw[yh,hlen] at this; omega
     have b0:bt T j=bt s pos:=by
      have x:=zbA T j 0
      have y:=zbA s pos 0
      rw[Nat.add_zero] at x y
      rw[x,y,hq,zli _ _ _ _ (by omega) (by rw[yu,zak]; omega)]
     have hb0:=zas s pos hp
     have b8:¬ T[j].toNat < 128:=by rw[← zas T j hjT]; omega
     obtain⟨k1,k2,k3,k4⟩:=zcJ T j hjT (by rw[hrl]; exact hr) b8
     have hp2:piece T j=some ((Utf8.decode T j).1,rl s pos):=by
      unfold piece
      rw[yf (by omega),yf (by omega),yf (by omega),yf (by rw[hrl]; exact hr),hrl]
     rw[zee (by omega) hp2,ih]
     unfold enc
     rw[k1,hq,hrl,hqs]
     simp only[Option.map_some,Option.some.injEq,Prod.mk.injEq]
     refine⟨?_,by rw[yh,hlen]; omega⟩
     conv=>rhs; rw[hsplit]
     rw[List.take_append_of_le_length (by omega),yq (by omega)]
  ·rw[zeo s pos hp] at hj ⊢
   have b0:=zbA T j 0
   rw[hj] at b0
   change bt T j=34 at b0
   rw[zdH b0]
   rfl
theorem zc2 (l:List UInt8) (T:ByteArray) (m:List UInt8) (hv:Lib.validD l=true) (j:Nat) (hj:T.data.toList.drop j=quoted l++m) : zcM T j=some (l,j+(quoted l).length):=by
 have hj':T.data.toList.drop j=34 :: (qs l++34 :: m):=by rw[hj]; simp[quoted]
 have b:bt T j=34:=by have:=zbA T j 0; rw[hj'] at this; exact this
 have h:=zro (zac l) T m l.length 0 (by rw[zaf]; omega) (by rw[zad]; exact hv) (j+1) (by
  have:=zaF (m:=[34]) (n:=qs l++34 :: m) hj'
  rw[zad]; exact this)
 rw[zad,List.drop_zero] at h
 unfold zcM
 rw[yg b,h]
 have e:(quoted l).length=(qs l).length+2:=by simp[quoted]
 rw[e]
 congr 2
 omega
mutual
def okV:JV->Prop
 | .nul=>True
 | .tt=>True
 | .ff=>True
 | .num l=>∃ (c:UInt8) (r:List UInt8),l=c :: r/\(c.toNat=45∨zbo c.toNat=true)/\∀ b∈r,zbo b.toNat=true
 | .str l=>Lib.validD l=true
 | .arr l=>okL l
 | .obj m=>okM m
def okL:JL->Prop
 | .nil=>True
 | .cons v r=>okV v/\okL r
def okM:JM->Prop
 | .nil=>True
 | .cons k v r=>Lib.validD k=true/\okV v/\okM r
end
theorem zrp (s:ByteArray) : ∀ f i k,i<=k->k < dgF s f i->zbo (bt s k)=true
 | 0,i,k,h1,h2=>by simp[dgF] at h2; omega
 | f+1,i,k,h1,h2=>by
  rw[dgF] at h2
  split at h2
  ·rename_i hd
   by_cases e:k=i
   ·subst e; exact hd
   ·exact zrp s f (i+1) k (by omega) h2
  ·omega
theorem zus {s:ByteArray} {i k:Nat} (h1:i<=k) (h2:k < dg s i) : zbo (bt s k)=true:=zrp s _ i k h1 h2
theorem zrq {s:ByteArray} {i j:Nat} {c:UInt8} (h:c∈zaX s i j) : ∃ k,i<=k/\k < j/\c.toNat=bt s k:=by
 unfold zaX at h
 obtain⟨n,hn,rfl⟩:=List.getElem_of_mem h
 rw[ym,yu] at hn
 refine⟨i+n,by omega,by omega,?_⟩
 unfold bt
 rw[zak] at hn
 have hk:i+n < s.data.size:=by show i+n < s.size; omega
 simp only[List.getD,List.getElem_take,List.getElem_drop,Array.getElem_toList,Array.getElem?_toList]
 rw[Array.getElem?_eq_getElem hk]
 rfl
theorem zhU {s:ByteArray} {i j:Nat} (h:i < j) (hi:i < s.size) : zaX s i j=s.data.toList.getD i 0 :: zaX s (i+1) j:=by
 unfold zaX
 rw[zax s i hi,show j - i=(j - (i+1))+1 by omega,List.take_succ_cons]
 congr 1
 rw[List.getD,yx (by rw[zak]; exact hi)]
 rfl
theorem zvF {s:ByteArray} {i j:Nat} {l:List UInt8} (h:nm s i=some (l,j)) : ∃ (c:UInt8) (r:List UInt8),l=c :: r/\(c.toNat=45∨zbo c.toNat=true)/\∀ b∈r,zbo b.toNat=true:=by
 have hok:=zrh h
 unfold nm at h
 split at h
 ·rename_i hd
  injection h with h; injection h with h1 h2
  have hlt:nmD s i < s.size:=zaw (by have:=zaH.1 hd; omega)
  have hge:i<=nmD s i:=by unfold nmD; split <;> omega
  have hall:∀ k,nmD s i<=k->k < nmE s i->zbo (bt s k)=true:=fun k h1 h2=>by
   unfold nmE at h2
   split at h2
   ·have:k=nmD s i:=by omega
    rw[this]; exact hd
   ·exact zus h1 h2
  have hraw:∃ (c:UInt8) (r:List UInt8),zaX s i (nmE s i)=c :: r/\(c.toNat=45∨zbo c.toNat=true)/\∀ b∈r,zbo b.toNat=true:=by
   refine⟨_,_,zhU (by omega) (by omega),?_,fun b hb=>?_⟩
   ·by_cases h45:bt s i=45
    ·exact .inl h45
    ·right
     have e:nmD s i=i:=by unfold nmD; rw[yf h45]
     rw[e] at hd; exact hd
   ·obtain⟨k,k1,k2,k3⟩:=zrq hb
    rw[k3]
    refine hall k ?_ k2
    unfold nmD; split <;> omega
  unfold zbM at h1
  split at h1
  ·exact⟨48,[],h1.symm,.inr rfl,fun b hb=>by simp at hb⟩
  ·obtain⟨c,r,e,a,b⟩:=hraw
   exact⟨c,r,by rw[← h1,e],a,b⟩
 ·cases h
theorem zm3 (s:ByteArray) : ∀ f i,(∀ v j,pv s f i=some (v,j)->okV v)/\(∀ l j,pa s f i=some (l,j)->okL l)/\(∀ m j,po s f i=some (m,j)->okM m)
 | 0,i=>⟨fun v j h=>by simp[pv] at h,fun v j h=>by simp[pa] at h,fun v j h=>by simp[po] at h⟩
 | f+1,i=>by
  refine⟨fun v j h=>?_,fun l j h=>?_,fun m j h=>?_⟩
  ·rw[pv] at h
   split at h
   ·split at h
    ·injection h with h; injection h with hv h; subst hv; rw[okV,okL]; trivial
    ·simp only[yz] at h
     obtain⟨⟨l,k⟩,hk,h⟩:=h
     injection h with hv h
     subst hv; rw[okV]; exact (zm3 s f (sk s (i+1))).2.1 l k hk
   ·split at h
    ·split at h
     ·injection h with h; injection h with hv h; subst hv; rw[okV,okM]; trivial
     ·simp only[yz] at h
      obtain⟨⟨l,k⟩,hk,h⟩:=h
      injection h with hv h
      subst hv; rw[okV]; exact (zm3 s f (sk s (i+1))).2.2 l k hk
    ·split at h
     ·simp only[yz] at h
      obtain⟨⟨l,k⟩,hk,h⟩:=h
      injection h with hv h
      subst hv; rw[okV]; exact zeH hk
     ·split at h
      ·injection h with h; injection h with hv h; subst hv; rw[okV]; trivial
      ·split at h
       ·injection h with h; injection h with hv h; subst hv; rw[okV]; trivial
       ·split at h
        ·injection h with h; injection h with hv h; subst hv; rw[okV]; trivial
        ·simp only[yz] at h
         obtain⟨⟨l,k⟩,hk,h⟩:=h
         injection h with hv h
         subst hv; rw[okV]; exact zvF hk
  ·rw[pa] at h
   simp only[Option.bind_eq_some_iff] at h
   obtain⟨⟨v,k⟩,hk,h⟩:=h
   have h1:=(zm3 s f i).1 v k hk
   simp only at h
   split at h
   ·injection h with h; injection h with hv h; subst hv; rw[okL,okL]; exact⟨h1,trivial⟩
   ·split at h
    ·simp only[yz] at h
     obtain⟨⟨l,n⟩,hn,h⟩:=h
     injection h with hv h
     subst hv; rw[okL]; exact⟨h1,(zm3 s f _).2.1 l n hn⟩
    ·cases h
  ·rw[po] at h
   simp only[Option.bind_eq_some_iff] at h
   obtain⟨⟨key,a⟩,ha,h⟩:=h
   have h0:=zeH ha
   simp only at h
   split at h
   ·simp only[Option.bind_eq_some_iff] at h
    obtain⟨⟨v,k⟩,hk,h⟩:=h
    have h1:=(zm3 s f _).1 v k hk
    simp only at h
    split at h
    ·injection h with h; injection h with hv h; subst hv; rw[okM,okM]; exact⟨h0,h1,trivial⟩
    ·split at h
     ·simp only[yz] at h
      obtain⟨⟨l,n⟩,hn,h⟩:=h
      injection h with hv h
      subst hv; rw[okM]; exact⟨h0,h1,(zm3 s f _).2.2 l n hn⟩
     ·cases h
   ·cases h
theorem zrr {s:ByteArray} {i j:Nat} {v:JV} (h:val s i=some (v,j)) : okV v:=(zm3 s _ i).1 v j h
mutual
theorem zeh:∀ v:JV,zaY v<=zaA v/\1<=zaY v
 | .nul=>⟨ye _,ye _⟩
 | .tt=>⟨ye _,ye _⟩
 | .ff=>⟨ye _,ye _⟩
 | .num _=>⟨ye _,ye _⟩
 | .str _=>⟨ye _,ye _⟩
 | .arr l=>by rw[zaY,zaA]; have:=zn5 l; omega
 | .obj m=>by rw[zaY,zaA]; have:=zn6 m; omega
theorem zn5:∀ l:JL,zn4 l<=zhR l
 | .nil=>ye _
 | .cons v r=>by rw[zn4,zhR]; have:=zn5 r; have:=zeh v; omega
theorem zn6:∀ m:JM,zlV m<=zgs m
 | .nil=>ye _
 | .cons k v r=>by rw[zlV,zgs]; have:=zn6 r; have:=zeh v; omega
end
theorem zhV (p:List UInt8×List UInt8) : ∀ l,(zeW p l).Perm (p :: l)
 | []=>List.Perm.refl _
 | q :: r=>by
  unfold zeW
  split
  ·exact ((zhV p r).cons q).trans (List.Perm.swap p q r)
  ·exact List.Perm.refl _
theorem zlj:∀ (l acc:List (List UInt8×List UInt8)),(l.foldl (fun acc p=>zeW p acc) acc).Perm (l++acc)
 | [],acc=>List.Perm.refl _
 | p :: l,acc=>by
  rw[List.foldl_cons]
  exact (zlj l _).trans (((zhV p acc).append_left l).trans (List.perm_middle))
theorem zap (l:List (List UInt8×List UInt8)) : (zaq l).Perm l:=by
 unfold zaq
 have:=zlj l []
 rw[List.append_nil] at this
 exact (List.reverse_perm _).trans this
theorem zlk (p:List UInt8×List UInt8) : ∀ l,l.Pairwise (fun a b=>b.1<=a.1)->(zeW p l).Pairwise (fun a b=>b.1<=a.1)
 | [],_=>by simp[zeW]
 | q :: r,h=>by
  rw[List.pairwise_cons] at h
  unfold zeW
  split
  ·rename_i hlt
   rw[List.pairwise_cons]
   refine⟨fun a ha=>?_,zlk p r h.2⟩
   rcases List.mem_cons.1 ((zhV p r).subset ha) with rfl | ha
   ·exact List.le_of_lt hlt
   ·exact h.1 a ha
  ·rename_i hlt
   have hqp:q.1<=p.1:=List.not_lt.1 hlt
   rw[List.pairwise_cons,List.pairwise_cons]
   refine⟨fun a ha=>?_,h⟩
   rcases List.mem_cons.1 ha with rfl | ha
   ·exact hqp
   ·exact List.le_trans (h.1 a ha) hqp
theorem zll:∀ (l acc:List (List UInt8×List UInt8)),acc.Pairwise (fun a b=>b.1<=a.1)->(l.foldl (fun acc p=>zeW p acc) acc).Pairwise (fun a b=>b.1<=a.1)
 | [],acc,h=>h
 | p :: l,acc,h=>by rw[List.foldl_cons]; exact zll l _ (zlk p acc h)
theorem zgJ (l:List (List UInt8×List UInt8)) : (zaq l).Pairwise (fun a b=>a.1<=b.1):=by
 unfold zaq
 rw[List.pairwise_reverse]
 exact zll l [] List.Pairwise.nil
theorem zps {l:List (List UInt8×List UInt8)} {ss:List (List UInt8)} (h:ss.Perm (l.map (·.1))) : ss.mergeSort (fun x y=>decide (x<=y))=(zaq l).map (·.1):=by
 have tr:∀ a b c:List UInt8,decide (a<=b)=true->decide (b<=c)=true->decide (a<=c)=true:=fun a b c h1 h2=>by simp only[decide_eq_true_eq] at *; exact List.le_trans h1 h2
 have to:∀ a b:List UInt8,(decide (a<=b) || decide (b<=a))=true:=fun a b=>by simp only[Bool.or_eq_true,decide_eq_true_eq]; exact List.le_total a b
 refine List.Perm.eq_of_pairwise (le:=fun a b=>decide (a<=b)=true) (fun a b _ _ h1 h2=>?_) (List.pairwise_mergeSort tr to ss) ?_ (((List.mergeSort_perm _ _).trans h).trans ((zap l).map _).symm)
 ·simp only[decide_eq_true_eq] at h1 h2
  exact List.le_antisymm h1 h2
 ·rw[List.pairwise_map]
  exact (zgJ l).imp fun h=>by simpa using h
def JM.toL:JM->List (List UInt8×JV)
 | .nil=>[]
 | .cons k v r=>(k,v) :: r.toL
theorem zaK:∀ m:JM,ctM m=m.toL.map fun p=>(p.1,ct p.2)
 | .nil=>rfl
 | .cons k v r=>by rw[ctM,JM.toL,yi,zaK r]
theorem zaB:∀ m:JM,zcu m=m.toL.map (·.1)
 | .nil=>rfl
 | .cons k v r=>by rw[zcu,JM.toL,yi,zaB r]
theorem zei:∀ (m:JM) (ks:List (List UInt8)),twM ks m=false->(zcu m).Nodup/\∀ k∈zcu m,k ∉ ks
 | .nil,ks,_=>⟨List.nodup_nil,fun k hk=>by simp[zcu] at hk⟩
 | .cons k v r,ks,h=>by
  rw[twM] at h
  simp only[Bool.or_eq_false_iff] at h
  obtain⟨⟨_,h1⟩,h2⟩:=h
  obtain⟨i1,i2⟩:=zei r (ks++[k]) h2
  rw[zcu,List.nodup_cons]
  refine⟨⟨fun hk=>i2 k hk (by simp),i1⟩,fun a ha=>?_⟩
  rcases List.mem_cons.1 ha with rfl | ha
  ·intro hc; rw[List.contains_eq_mem,decide_eq_false_iff_not] at h1; exact h1 hc
  ·intro hc; exact i2 a ha (List.mem_append_left _ hc)
def ztA (c:Nat) : Bool:=c == 91 || c == 123
def zvG (c:Nat) : Bool:=c == 93 || c == 125
def nxt (T:ByteArray) (i:Nat) : Option Nat:=if bt T i=34 then (zcM T i).map (·.2) else some (i+1)
def op1 (c op:Nat) : Option Nat:=if ztA c then some (op+1) else if zvG c then (if op=0 then none else some (op - 1)) else some op
def zej (T:ByteArray) (i:Nat) : Bool:=decide (i=T.size) || bt T i == 44 || bt T i == 93 || bt T i == 125
def zfz (T:ByteArray) : Nat->Nat->Nat->Option Nat
 | 0,_,_=>none
 | f+1,op,i=>if i < T.size then (nxt T i).bind fun j=>(op1 (bt T i) op).bind fun o=>if o=0/\zej T j=true then some j else zfz T f o j else none
def wiF (T:ByteArray) : Nat->Nat->Nat->Nat->Option Nat
 | 0,_,_,_=>none
 | f+1,op,mo,i=>if i < T.size then (nxt T i).bind fun j=>(op1 (bt T i) op).bind fun o=>wiF T f o (max mo o) j else some mo
section
variable {T:ByteArray}
theorem zan {i:Nat} {c:UInt8} {m:List UInt8} (h:T.data.toList.drop i=c :: m) : i < T.size/\bt T i=c.toNat/\T.data.toList.drop (i+1)=m:=by
 refine⟨zpr h (by simp),?_,?_⟩
 ·have:=zbA T i 0; rw[h] at this; exact this
 ·exact zaF (m:=[c]) (n:=m) h
def zlm (m:List UInt8) : Prop:=m=[]∨∃ c r,m=c :: r/\(c.toNat=44∨c.toNat=93∨c.toNat=125)
theorem zm4 {i:Nat} {m:List UInt8} (h:T.data.toList.drop i=m) (hi:i<=T.size) (hm:zlm m) : zej T i=true:=by
 unfold zej
 rcases hm with rfl | ⟨c,r,rfl,hc⟩
 ·have:i=T.size:=by
   have:=congrArg List.length h
   rw[yu,zak,yD] at this
   omega
  simp[this]
 ·obtain⟨_,hb,_⟩:=zan h
  rw[hb]
  rcases hc with hc | hc | hc <;> simp[hc]
theorem ztB {i:Nat} {c:UInt8} {m:List UInt8} (h:T.data.toList.drop i=c :: m) (h1:c.toNat≠44) (h2:c.toNat≠93) (h3:c.toNat≠125) : zej T i=false:=by
 obtain⟨hl,hb,_⟩:=zan h
 unfold zej
 rw[hb]
 simp[h1,h2,h3]; omega
def zek (c:UInt8) : Prop:=c.toNat≠34/\c.toNat≠91/\c.toNat≠123/\c.toNat≠93/\c.toNat≠125
theorem zfA {c:UInt8} (h:zek c) (op:Nat) : op1 c.toNat op=some op:=by
 obtain⟨_,a,b,d,e⟩:=h
 simp[op1,ztA,zvG,a,b,d,e]
theorem zbF {i:Nat} {c:UInt8} (hb:bt T i=c.toNat) (h:c.toNat≠34) : nxt T i=some (i+1):=by unfold nxt; rw[yf (by omega)]
def InP (T:ByteArray) (t:List UInt8) : Prop:=∀ op i m f k,1<=op->T.data.toList.drop i=t++m->zfz T f op (i+t.length)=some k->∃ f',zfz T f' op i=some k
def zln (T:ByteArray) (t:List UInt8) : Prop:=∀ i m,T.data.toList.drop i=t++m->zlm m->∃ f,zfz T f 0 i=some (i+t.length)
theorem InP.nil:InP T []:=fun _ _ _ f _ _ _ h=>⟨f,h⟩
theorem InP.app {a b:List UInt8} (ha:InP T a) (hb:InP T b) : InP T (a++b):=fun op i m f k ho h he=>by
 rw[List.append_assoc] at h
 rw[yh,← Nat.add_assoc] at he
 obtain⟨f1,h1⟩:=hb op (i+a.length) m f k ho (zaF h) he
 exact ha op i (b++m) f1 k ho h h1
theorem InP.one {c:UInt8} (hc:zek c) : InP T [c]:=fun op i m f k ho h he=>by
 obtain⟨hl,hb,_⟩:=zan h
 refine⟨f+1,?_⟩
 rw[zfz,yg hl,zbF hb hc.1,hb,zfA hc]
 simp only[yA]
 rw[yf (by omega)]
 exact he
theorem InP.plain:∀ {t:List UInt8},(∀ c∈t,zek c)->InP T t
 | [],_=>InP.nil
 | c :: _,h=>InP.app (a:=[c]) (InP.one (h c yp)) (InP.plain fun d hd=>h d (yv _ hd))
theorem zgf {i:Nat} {l m:List UInt8} (hv:Lib.validD l=true) (h:T.data.toList.drop i=quoted l++m) : i < T.size/\bt T i=34/\nxt T i=some (i+(quoted l).length):=by
 have h':T.data.toList.drop i=34 :: (qs l++34 :: m):=by rw[h]; simp[quoted]
 obtain⟨hl,hb,_⟩:=zan h'
 refine⟨hl,hb,?_⟩
 unfold nxt
 rw[yg (by rw[hb]; rfl),zc2 l T m hv i h]
 rfl
theorem zrs (op:Nat) : op1 34 op=some op:=rfl
theorem InP.quoted {l:List UInt8} (hv:Lib.validD l=true) : InP T (Go.Proofs.YtekpghcckdjnhaaGreatDoor.quoted l):=fun op i m f k ho h he=>by
 obtain⟨hl,hb,hn⟩:=zgf hv h
 refine⟨f+1,?_⟩
 rw[zfz,yg hl,hn,hb,zrs]
 simp only[yA]
 rw[yf (by omega)]
 exact he
theorem zln.quoted {l:List UInt8} (hv:Lib.validD l=true) : zln T (Go.Proofs.YtekpghcckdjnhaaGreatDoor.quoted l):=fun i m h hs=>by
 obtain⟨hl,hb,hn⟩:=zgf hv h
 have hd:=zaF h
 have hle:i+(Go.Proofs.YtekpghcckdjnhaaGreatDoor.quoted l).length<=T.size:=by
  have:=congrArg List.length h
  rw[yu,zak,yh] at this
  omega
 refine⟨1,?_⟩
 rw[zfz,yg hl,hn,hb,zrs]
 simp only[yA]
 rw[yg ⟨trivial,zm4 hd hle hs⟩]
theorem zln.plain:∀ {t:List UInt8},t≠[]->(∀ c∈t,zek c/\c.toNat≠44)->zln T t
 | [],h,_=>absurd rfl h
 | [c],_,hc=>fun i m h hs=>by
  obtain⟨hl,hb,hd⟩:=zan (T:=T) (m:=m) h
  have hp:=hc c yp
  refine⟨1,?_⟩
  rw[zfz,yg hl,zbF hb hp.1.1,hb,zfA hp.1]
  simp only[yA]
  rw[yg ⟨trivial,zm4 hd hl hs⟩]
  rfl
 | c :: d :: r,_,hc=>fun i m h hs=>by
  obtain⟨hl,hb,hd⟩:=zan (T:=T) (m:=d :: r++m) h
  have hp:=hc c yp
  have hq:=hc d (yv _ yp)
  obtain⟨f,hf⟩:=zln.plain (t:=d :: r) (by simp) (fun x hx=>hc x (yv _ hx)) (i+1) m hd hs
  refine⟨f+1,?_⟩
  rw[zfz,yg hl,zbF hb hp.1.1,hb,zfA hp.1]
  simp only[yA]
  rw[yf (by rw[ztB (m:=r++m) hd hq.2 hq.1.2.2.2.1 hq.1.2.2.2.2]; simp),hf]
  simp only[yn]
  congr 1; omega
theorem InP.wrap {t:List UInt8} {a b:UInt8} (ha:ztA a.toNat=true) (hb:zvG b.toNat=true) (ht:InP T t) : InP T (a :: (t++[b]))/\zln T (a :: (t++[b])):=by
 have ha34:a.toNat≠34:=by intro e; rw[e] at ha; cases ha
 have hb34:b.toNat≠34:=by intro e; rw[e] at hb; cases hb
 have hbo:ztA b.toNat=false:=by
  simp only[zvG,Bool.or_eq_true,yC] at hb
  rcases hb with h | h <;> simp[ztA,h]
 refine⟨fun op i m f k ho h he=>?_,fun i m h hs=>?_⟩
 ·have h0:T.data.toList.drop i=a :: (t++(b :: m)):=by rw[h]; simp
  obtain⟨hl,hba,hd⟩:=zan h0
  obtain⟨hl2,hbb,hd2⟩:=zan (zaF hd)
  have e2:∃ f',zfz T f' (op+1) (i+1+t.length)=some k:=by
   refine⟨f+1,?_⟩
   rw[zfz,yg hl2,zbF hbb hb34,hbb]
   simp only[yA,op1,hbo,hb,if_true,Bool.false_eq_true,if_false]
   rw[yf (by omega)]
   simp only[yA,Nat.add_sub_cancel]
   rw[yf (by omega)]
   rw[show i+1+t.length+1=i+(a :: (t++[b])).length by simp; omega]
   exact he
  obtain⟨f2,hf2⟩:=e2
  obtain⟨f3,hf3⟩:=ht (op+1) (i+1) (b :: m) f2 k (by omega) hd hf2
  refine⟨f3+1,?_⟩
  rw[zfz,yg hl,zbF hba ha34,hba]
  simp only[yA,op1,ha,if_true]
  rw[yf (by omega)]
  exact hf3
 ·have h0:T.data.toList.drop i=a :: (t++(b :: m)):=by rw[h]; simp
  obtain⟨hl,hba,hd⟩:=zan h0
  obtain⟨hl2,hbb,hd2⟩:=zan (zaF hd)
  have e2:zfz T 1 1 (i+1+t.length)=some (i+(a :: (t++[b])).length):=by
   rw[zfz,yg hl2,zbF hbb hb34,hbb]
   simp only[yA,op1,hbo,hb,if_true,Bool.false_eq_true,if_false]
   rw[yf (by omega)]
   simp only[yA,Nat.sub_self]
   rw[yg ⟨trivial,zm4 hd2 hl2 hs⟩]
   simp; omega
  obtain⟨f3,hf3⟩:=ht 1 (i+1) (b :: m) 1 _ (by omega) hd e2
  refine⟨f3+1,?_⟩
  rw[zfz,yg hl,zbF hba ha34,hba]
  simp only[yA,op1,ha,if_true]
  rw[yf (by omega)]
  exact hf3
theorem InP.joinT:∀ {ts:List (List UInt8)},(∀ t∈ts,InP T t)->InP T (Go.Proofs.YtekpghcckdjnhaaGreatDoor.joinT ts)
 | [],_=>InP.nil
 | t :: r,h=>InP.app (a:=[44]) (InP.one ⟨by decide,by decide,by decide,by decide,by decide⟩) (InP.app (h t yp) (InP.joinT fun x hx=>h x (yv _ hx)))
theorem InP.joinC {ts:List (List UInt8)} (h:∀ t∈ts,InP T t) : InP T (Go.Proofs.YtekpghcckdjnhaaGreatDoor.joinC ts):=by
 cases ts with
 | nil=>exact InP.nil
 | cons t r=>exact InP.app (h t yp) (InP.joinT fun x hx=>h x (yv _ hx))
theorem zdn {l:List UInt8} (h:okV (.num l)) : l≠[]/\∀ c∈l,zek c/\c.toNat≠44:=by
 rw[okV] at h
 obtain⟨c,r,rfl,hc,hr⟩:=h
 refine⟨by simp,fun d hd=>?_⟩
 have:d.toNat=45∨zbo d.toNat=true:=by
  rcases List.mem_cons.1 hd with rfl | hd
  ·exact hc
  ·exact .inr (hr d hd)
 have h2:d.toNat=45∨(48<=d.toNat/\d.toNat<=57):=this.imp id zaH.1
 exact⟨⟨by omega,by omega,by omega,by omega,by omega⟩,by omega⟩
theorem zcC {l:List UInt8} (h:l∈[[110,117,108,108],[116,114,117,101],([102,97,108,115,101] : List UInt8)]) : l≠[]/\∀ c∈l,zek c/\c.toNat≠44:=by
 unfold zek
 revert l
 decide
mutual
theorem ctP:∀ v:JV,okV v->InP T (ct v)/\zln T (ct v)
 | .nul,_=>by
  have:=zcC (l:=[110,117,108,108]) (by simp)
  exact⟨InP.plain fun c hc=>(this.2 c hc).1,zln.plain this.1 this.2⟩
 | .tt,_=>by
  have:=zcC (l:=[116,114,117,101]) (by simp)
  exact⟨InP.plain fun c hc=>(this.2 c hc).1,zln.plain this.1 this.2⟩
 | .ff,_=>by
  have:=zcC (l:=[102,97,108,115,101]) (by simp)
  exact⟨InP.plain fun c hc=>(this.2 c hc).1,zln.plain this.1 this.2⟩
 | .num l,h=>by
  have:=zdn h
  exact⟨InP.plain fun c hc=>(this.2 c hc).1,zln.plain this.1 this.2⟩
 | .str l,h=>by
  rw[okV] at h
  exact⟨InP.quoted h,zln.quoted h⟩
 | .arr l,h=>by
  rw[okV] at h
  exact InP.wrap rfl rfl (InP.joinC (zyD l h))
 | .obj m,h=>by
  rw[okV] at h
  refine InP.wrap rfl rfl (InP.joinC fun t ht=>?_)
  obtain⟨p,hp,rfl⟩:=yO.1 ht
  exact zyE m h p ((zap _).subset hp)
theorem zyD:∀ l:JL,okL l->∀ t∈ctL l,InP T t
 | .nil,_,t,ht=>by simp[ctL] at ht
 | .cons v r,h,t,ht=>by
  rw[okL] at h
  rw[ctL] at ht
  rcases List.mem_cons.1 ht with e | ht
  ·rw[e]; exact (ctP v h.1).1
  ·exact zyD r h.2 t ht
theorem zyE:∀ m:JM,okM m->∀ p∈ctM m,InP T (zav p)
 | .nil,_,p,hp=>by simp[ctM] at hp
 | .cons k v r,h,p,hp=>by
  rw[okM] at h
  rw[ctM] at hp
  rcases List.mem_cons.1 hp with e | hp
  ·rw[e]
   exact InP.app (InP.quoted h.1) (InP.app (a:=[58]) (InP.one ⟨by decide,by decide,by decide,by decide,by decide⟩) (ctP v h.2.1).1)
  ·exact zyE r h.2.2 p hp
end
end
theorem zhW (s:ByteArray) (i:Nat) (w:World) (hs:s.size<=1048576) :
  Calls prog 83 #[.string s,.int .i64 i] w fun e w'=>e = .returned (.int .i64 (sk s i))/\w=w':=by
 go_enter func83,ntmps83
 go_wp2
 go_loopw [1] (fun k wr=>w=wr/\∃ j:Nat,k = .int .i64 (j:Int)/\sk s i=sk s j) (fun k _=>s.size - (intOf k).toNat)
 case atStart=>exact⟨rfl,i,rfl,rfl⟩
 case round=>
  obtain⟨rfl,j,rfl,hst⟩:=hrel
  have HST:=zab hst
  clear hst
  by_cases hin:j < s.size
  ·have hinI:(j:Int) < (s.size:Int):=by omega
   have e0:=zas s j hin
   by_cases c:bt s j=32∨bt s j=9∨bt s j=10∨bt s j=13
   ·have HX:Hid (sk s i=sk s (j+1)):=by show _=_; rw[uh HST,zpo c]
    rw[e0] at c
    clear e0
    rcases c with c | c | c | c
    ·have t1:(s[j].toNat:Int)=32:=by omega
     clear c
     go_wp2
     go_roundw
     case rel=>exact⟨trivial,j+1,by go_num,uh HX⟩
     case measure=>simp[intOf]; omega
    ·have t1:(s[j].toNat:Int)=9:=by omega
     clear c
     go_wp2
     go_roundw
     case rel=>exact⟨trivial,j+1,by go_num,uh HX⟩
     case measure=>simp[intOf]; omega
    ·have t1:(s[j].toNat:Int)=10:=by omega
     clear c
     go_wp2
     go_roundw
     case rel=>exact⟨trivial,j+1,by go_num,uh HX⟩
     case measure=>simp[intOf]; omega
    ·have t1:(s[j].toNat:Int)=13:=by omega
     clear c
     go_wp2
     go_roundw
     case rel=>exact⟨trivial,j+1,by go_num,uh HX⟩
     case measure=>simp[intOf]; omega
   ·have HX:Hid (sk s i=j):=by show _=_; rw[uh HST,zle c]
    have t1:((s[j].toNat:Int) == 32)=false:=by rw[yd]; omega
    have t2:((s[j].toNat:Int) == 9)=false:=by rw[yd]; omega
    have t3:((s[j].toNat:Int) == 10)=false:=by rw[yd]; omega
    have t4:((s[j].toNat:Int) == 13)=false:=by rw[yd]; omega
    clear c e0
    go_wp2
    go_ret
    exact⟨by rw[uh HX]; rfl,rfl⟩
  ·have hinI:¬ (j:Int) < (s.size:Int):=by omega
   have d1:decide ((j:Int) < (s.size:Int))=false:=by simp; omega
   have HX:Hid (sk s i=j):=by show _=_; rw[uh HST,zjT (by omega)]
   go_wp2
   go_ret
   exact⟨by rw[uh HX]; rfl,rfl⟩
theorem ze4 (s t:ByteArray) (i:Nat) (w:World) (hs:s.size<=1048576) (ht:t.size<=10) (hi:i<=s.size+1) :
  Calls prog 118 #[.string s,.int .i64 i,.string t] w fun e w'=>e = .returned (.bool (decide (i+t.size<=s.size) && (s.extract i (i+t.size)).toList == t.toList))/\w=w':=by
 by_cases hin:i+t.size<=s.size
 ·have h1:(i:Int)+(t.size:Int)<=(s.size:Int):=by omega
  have h2:(i:Int)<=(i:Int)+(t.size:Int):=by omega
  have h3:(0:Int)<=(i:Int):=by omega
  have hd:decide (i+t.size<=s.size)=true:=by simp; omega
  rw[hd,Bool.true_and]
  clear hd
  go_enter func118,ntmps118
  go_wp2
  go_ret
  exact⟨rfl,rfl⟩
 ·have h1:¬ (i:Int)+(t.size:Int)<=(s.size:Int):=by omega
  have hd:decide (i+t.size<=s.size)=false:=by simp; omega
  rw[hd,Bool.false_and]
  clear hd
  go_enter func118,ntmps118
  go_wp2
  go_ret
  exact⟨rfl,rfl⟩
theorem zaJ (s:ByteArray) (i j:Nat) : (s.extract i j).toList=zaX s i j:=by
 rw[ByteArray.toList_eq,Lib.extract_data]; rfl
theorem zaN (s:ByteArray) (i j:Nat) : s.extract i j=zac (zaX s i j):=by
 have h:(s.extract i j).data.toList=zaX s i j:=by rw[Lib.extract_data]; rfl
 rw[← h]
 cases s.extract i j; simp[zac]
theorem ztC (c:UInt8) (r:List UInt8) : zaX (zac (c :: r)) 1 (r.length+1)=r:=by
 unfold zaX; rw[zad]; simp
theorem zaQ (l:List UInt8) (w:World) (h0:l≠[]) (hl:l.length<=1048576) :
  Calls prog 147 #[.string (zac l)] w fun e w'=>e = .returned (.bool (zaP l))/\w=w':=by
 obtain⟨c,r,rfl⟩ : ∃ c r,l=c :: r:=by cases l with | nil=>exact absurd rfl h0 | cons c r=>exact⟨c,r,rfl⟩
 have hz:(zac (c :: r)).size=r.length+1:=by rw[zaf]; rfl
 have hpos:0 < (zac (c :: r)).size:=by omega
 have hc:(zac (c :: r))[0].toNat=c.toNat:=rfl
 by_cases h45:c=45
 ·subst h45
  have HT:Hid (zaP (45 :: r)=over r zv7):=by show _=_; rw[zaP,yg rfl]
  have HE:Hid (((zac (45 :: r)).extract 1 (r.length+1)).toList=r):=by show _=_; rw[zaJ,ztC]
  have t1:((zac (45 :: r))[0].toNat:Int)=45:=by rw[hc]; rfl
  by_cases h19:r.length=19
  ·have t2:((r.length:Int) != 19)=false:=by rw[yM]; omega
   have HT2:Hid (zaP (45 :: r)=(!Op.bytesLess r zv7 && !(r == zv7))):=by show _=_; rw[uh HT]; unfold over; rw[yf (by omega)]
   clear h19 hc h0
   go_enter func147,ntmps147
   go_wp2
   go_ret
   refine⟨?_,rfl⟩
   rw[uh HE,uh HT2]; rfl
  ·have t2:((r.length:Int) != 19)=true:=by rw[bne_iff_ne]; omega
   have HT2:Hid (zaP (45 :: r)=decide (19 < (r.length:Int))):=by
    show _=_; rw[uh HT]; unfold over; rw[yg h19]; simp; omega
   clear h19 hc h0
   go_enter func147,ntmps147
   go_wp2
   go_ret
   refine⟨?_,rfl⟩
   rw[uh HT2]; rfl
 ·have HT:Hid (zaP (c :: r)=over (c :: r) zv6):=by show _=_; rw[zaP,yf h45]
  have HE:Hid ((zac (c :: r)).toList=c :: r):=by show _=_; rw[ByteArray.toList_eq,zad]
  have t1:(((zac (c :: r))[0].toNat:Int) == 45)=false:=by
   rw[yd,hc]
   intro e
   exact h45 (UInt8.toNat_inj.1 (by show c.toNat=45; omega))
  by_cases h19:r.length=18
  ·have t2:((r.length+1:Int) != 19)=false:=by rw[yM]; omega
   have HT2:Hid (zaP (c :: r)=(!Op.bytesLess (c :: r) zv6 && !((c :: r) == zv6))):=by show _=_; rw[uh HT]; unfold over; rw[yf (by simp; omega)]
   clear h19 hc h0
   go_enter func147,ntmps147
   go_wp2
   go_ret
   refine⟨?_,rfl⟩
   rw[uh HE,uh HT2]; rfl
  ·have t2:((r.length+1:Int) != 19)=true:=by rw[bne_iff_ne]; omega
   have HT2:Hid (zaP (c :: r)=decide (19 < (r.length+1:Int))):=by
    show _=_; rw[uh HT]; unfold over; rw[yg (by simp; omega)]; simp; omega
   clear h19 hc h0
   go_enter func147,ntmps147
   go_wp2
   go_ret
   refine⟨?_,rfl⟩
   rw[uh HT2]; rfl
def zxl (o:Option Nat) : Int:=o.elim (-1) fun n=>(n:Int)
theorem zpt (b:Nat) (hb:b < 256) (w:World) :
  Calls prog 171 #[.int .u8 b] w fun e w'=>w=w'/\e = .returned (.int .i64 (zxl (hx b))):=by
 by_cases h1:48<=b/\b<=57
 ·have HH:Hid (hx b=some (b - 48)):=by show _=_; unfold hx; rw[yg h1]
  have a1:(48:Int)<=(b:Int):=by omega
  have a2:(b:Int)<=57:=by omega
  clear h1
  go_enter func171,ntmps171
  go_wp2
  go_ret
  refine⟨rfl,?_⟩
  rw[uh HH]
  exact zb6 (show _=((b - 48:Nat) : Int) by go_num)
 ·by_cases h2:97<=b/\b<=102
  ·have HH:Hid (hx b=some (b - 87)):=by show _=_; unfold hx; rw[yf h1,yg h2]
   have a1:(97:Int)<=(b:Int):=by omega
   have a2:(b:Int)<=102:=by omega
   clear h1 h2
   go_enter func171,ntmps171
   go_wp2
   go_ret
   refine⟨rfl,?_⟩
   rw[uh HH]
   exact zb6 (show _=((b - 87:Nat) : Int) by go_num)
  ·by_cases h3:65<=b/\b<=70
   ·have HH:Hid (hx b=some (b - 55)):=by show _=_; unfold hx; rw[yf h1,yf h2,yg h3]
    have a1:(65:Int)<=(b:Int):=by omega
    have a2:(b:Int)<=70:=by omega
    clear h1 h2 h3
    go_enter func171,ntmps171
    go_wp2
    go_ret
    refine⟨rfl,?_⟩
    rw[uh HH]
    exact zb6 (show _=((b - 55:Nat) : Int) by go_num)
   ·have HH:Hid (hx b=none):=by show _=_; unfold hx; rw[yf h1,yf h2,yf h3]
    rcases (show b < 48∨(57 < b/\b < 65)∨(70 < b/\b < 97)∨102 < b from by omega) with g | g | g | g
    ·have a0:(b:Int) < 48:=by omega
     clear h1 h2 h3 g
     go_enter func171,ntmps171
     go_wp2
     go_ret
     exact⟨rfl,by rw[uh HH]; rfl⟩
    ·have a0:(57:Int) < (b:Int):=by omega
     have a1:(b:Int) < 65:=by omega
     clear h1 h2 h3 g
     go_enter func171,ntmps171
     go_wp2
     go_ret
     exact⟨rfl,by rw[uh HH]; rfl⟩
    ·have a0:(70:Int) < (b:Int):=by omega
     have a1:(b:Int) < 97:=by omega
     clear h1 h2 h3 g
     go_enter func171,ntmps171
     go_wp2
     go_ret
     exact⟨rfl,by rw[uh HH]; rfl⟩
    ·have a0:(102:Int) < (b:Int):=by omega
     clear h1 h2 h3 g
     go_enter func171,ntmps171
     go_wp2
     go_ret
     exact⟨rfl,by rw[uh HH]; rfl⟩
def zxm (c:Nat) (k:Value) : Prop:=∃ j:Nat,j<=8/\k = .int .i64 j/\(0 < j->c≠34)/\(1 < j->c≠92)/\(2 < j->c≠47)/\(3 < j->c≠98)/\(4 < j->c≠102)/\(5 < j->c≠110)/\(6 < j->c≠114)/\(7 < j->c≠116)
abbrev zyT (w:World) : World:=w.alloc (.cells #[.int .u8 34,.int .u8 92,.int .u8 47,.int .u8 8,.int .u8 12,.int .u8 10,.int .u8 13,.int .u8 9] 5)
theorem zaU (c:Nat) (hc:c < 256) (w:World) :
  Calls prog 149 #[.int .u8 c] w fun e w'=>e = .returned (.int .i64 (zxl (smp c)))/\Below w.heap.size w w':=by
 go_enter func149,ntmps149
 go_wp2
 go_loopw [5] (fun k wr=>zxm c k/\zyT w=wr) (fun k _=>8 - (intOf k).toNat)
 case atStart=>exact⟨⟨0,by omega,rfl,by omega,by omega,by omega,by omega,by omega,by omega,by omega,by omega⟩,rfl⟩
 case round=>
  obtain⟨⟨j,hj,rfl,n0,n1,n2,n3,n4,n5,n6,n7⟩,rfl⟩:=hrel
  have HN:Hid ((0 < j->c≠34)/\(1 < j->c≠92)/\(2 < j->c≠47)/\(3 < j->c≠98)/\(4 < j->c≠102)/\(5 < j->c≠110)/\(6 < j->c≠114)/\(7 < j->c≠116)):=⟨n0,n1,n2,n3,n4,n5,n6,n7⟩
  clear n0 n1 n2 n3 n4 n5 n6 n7
  rcases (show j=0∨j=1∨j=2∨j=3∨j=4∨j=5∨j=6∨j=7∨j=8 from by omega) with rfl | rfl | rfl | rfl | rfl | rfl | rfl | rfl | rfl
  ·have g:((⟨#[34,92,47,98,102,110,114,116]⟩ : ByteArray)[0]'(by decide)).toNat=34:=rfl
   by_cases e:c=34
   ·subst e
    clear HN
    go_wp2
    go_ret
    exact⟨rfl,(yH _ _).alloc (ye _) _⟩
   ·have t:((34:Int) == (c:Int))=false:=by rw[yd]; omega
    have HE:=zab e
    clear e
    go_wp2
    go_roundw
    case rel=>
     obtain⟨n0,n1,n2,n3,n4,n5,n6,n7⟩:=uh HN
     have e:=uh HE
     exact⟨⟨1,by omega,by go_num,fun _=>e,by omega,by omega,by omega,by omega,by omega,by omega,by omega⟩,trivial⟩
    case measure=>simp[intOf]
  ·have g:((⟨#[34,92,47,98,102,110,114,116]⟩ : ByteArray)[1]'(by decide)).toNat=92:=rfl
   by_cases e:c=92
   ·subst e
    clear HN
    go_wp2
    go_ret
    exact⟨rfl,(yH _ _).alloc (ye _) _⟩
   ·have t:((92:Int) == (c:Int))=false:=by rw[yd]; omega
    have HE:=zab e
    clear e
    go_wp2
    go_roundw
    case rel=>
     obtain⟨n0,n1,n2,n3,n4,n5,n6,n7⟩:=uh HN
     have e:=uh HE
     exact⟨⟨2,by omega,by go_num,fun _=>n0 (by omega),fun _=>e,by omega,by omega,by omega,by omega,by omega,by omega⟩,trivial⟩
    case measure=>simp[intOf]
  ·have g:((⟨#[34,92,47,98,102,110,114,116]⟩ : ByteArray)[2]'(by decide)).toNat=47:=rfl
   by_cases e:c=47
   ·subst e
    clear HN
    go_wp2
    go_ret
    exact⟨rfl,(yH _ _).alloc (ye _) _⟩
   ·have t:((47:Int) == (c:Int))=false:=by rw[yd]; omega
    have HE:=zab e
    clear e
    go_wp2
    go_roundw
    case rel=>
     obtain⟨n0,n1,n2,n3,n4,n5,n6,n7⟩:=uh HN
     have e:=uh HE
     exact⟨⟨3,by omega,by go_num,fun _=>n0 (by omega),fun _=>n1 (by omega),fun _=>e,by omega,by omega,by omega,by omega,by omega⟩,trivial⟩
    case measure=>simp[intOf]
  ·have g:((⟨#[34,92,47,98,102,110,114,116]⟩ : ByteArray)[3]'(by decide)).toNat=98:=rfl
   by_cases e:c=98
   ·subst e
    clear HN
    go_wp2
    go_ret
    exact⟨rfl,(yH _ _).alloc (ye _) _⟩
   ·have t:((98:Int) == (c:Int))=false:=by rw[yd]; omega
    have HE:=zab e
    clear e
    go_wp2
    go_roundw
    case rel=>
     obtain⟨n0,n1,n2,n3,n4,n5,n6,n7⟩:=uh HN
     have e:=uh HE
     exact⟨⟨4,by omega,by go_num,fun _=>n0 (by omega),fun _=>n1 (by omega),fun _=>n2 (by omega),fun _=>e,by omega,by omega,by omega,by omega⟩,trivial⟩
    case measure=>simp[intOf]
  ·have g:((⟨#[34,92,47,98,102,110,114,116]⟩ : ByteArray)[4]'(by decide)).toNat=102:=rfl
   by_cases e:c=102
   ·subst e
    clear HN
    go_wp2
    go_ret
    exact⟨rfl,(yH _ _).alloc (ye _) _⟩
   ·have t:((102:Int) == (c:Int))=false:=by rw[yd]; omega
    have HE:=zab e
    clear e
    go_wp2
    go_roundw
    case rel=>
     obtain⟨n0,n1,n2,n3,n4,n5,n6,n7⟩:=uh HN
     have e:=uh HE
     exact⟨⟨5,by omega,by go_num,fun _=>n0 (by omega),fun _=>n1 (by omega),fun _=>n2 (by omega),fun _=>n3 (by omega),fun _=>e,by omega,by omega,by omega⟩,trivial⟩
    case measure=>simp[intOf]
  ·have g:((⟨#[34,92,47,98,102,110,114,116]⟩ : ByteArray)[5]'(by decide)).toNat=110:=rfl
   by_cases e:c=110
   ·subst e
    clear HN
    go_wp2
    go_ret
    exact⟨rfl,(yH _ _).alloc (ye _) _⟩
   ·have t:((110:Int) == (c:Int))=false:=by rw[yd]; omega
    have HE:=zab e
    clear e
    go_wp2
    go_roundw
    case rel=>
     obtain⟨n0,n1,n2,n3,n4,n5,n6,n7⟩:=uh HN
     have e:=uh HE
     exact⟨⟨6,by omega,by go_num,fun _=>n0 (by omega),fun _=>n1 (by omega),fun _=>n2 (by omega),fun _=>n3 (by omega),fun _=>n4 (by omega),fun _=>e,by omega,by omega⟩,trivial⟩
    case measure=>simp[intOf]
  ·have g:((⟨#[34,92,47,98,102,110,114,116]⟩ : ByteArray)[6]'(by decide)).toNat=114:=rfl
   by_cases e:c=114
   ·subst e
    clear HN
    go_wp2
    go_ret
    exact⟨rfl,(yH _ _).alloc (ye _) _⟩
   ·have t:((114:Int) == (c:Int))=false:=by rw[yd]; omega
    have HE:=zab e
    clear e
    go_wp2
    go_roundw
    case rel=>
     obtain⟨n0,n1,n2,n3,n4,n5,n6,n7⟩:=uh HN
     have e:=uh HE
     exact⟨⟨7,by omega,by go_num,fun _=>n0 (by omega),fun _=>n1 (by omega),fun _=>n2 (by omega),fun _=>n3 (by omega),fun _=>n4 (by omega),fun _=>n5 (by omega),fun _=>e,by omega⟩,trivial⟩
    case measure=>simp[intOf]
  ·have g:((⟨#[34,92,47,98,102,110,114,116]⟩ : ByteArray)[7]'(by decide)).toNat=116:=rfl
   by_cases e:c=116
   ·subst e
    clear HN
    go_wp2
    go_ret
    exact⟨rfl,(yH _ _).alloc (ye _) _⟩
   ·have t:((116:Int) == (c:Int))=false:=by rw[yd]; omega
    have HE:=zab e
    clear e
    go_wp2
    go_roundw
    case rel=>
     obtain⟨n0,n1,n2,n3,n4,n5,n6,n7⟩:=uh HN
     have e:=uh HE
     exact⟨⟨8,by omega,by go_num,fun _=>n0 (by omega),fun _=>n1 (by omega),fun _=>n2 (by omega),fun _=>n3 (by omega),fun _=>n4 (by omega),fun _=>n5 (by omega),fun _=>n6 (by omega),fun _=>e⟩,trivial⟩
    case measure=>simp[intOf]
  ·have HS:Hid (smp c=none):=by
    obtain⟨n0,n1,n2,n3,n4,n5,n6,n7⟩:=uh HN
    show _=_
    unfold smp
    rw[yf (n0 (by omega)),yf (n1 (by omega)),yf (n2 (by omega)),yf (n3 (by omega)),yf (n4 (by omega)),yf (n5 (by omega)),yf (n6 (by omega)),yf (n7 (by omega))]
   clear HN
   go_wp2
   go_ret
   exact⟨by rw[uh HS]; rfl,(yH _ _).alloc (ye _) _⟩
def zgx (t:ByteArray) (n:Nat) (ok b tw:Bool) : Value:=.agg #[.string t,.int .i64 (n:Int),.bool ok,.bool b,.bool tw]
def GP (w:World) (o:Option (JV×Nat)) (e:Ending) (w':World) : Prop:=
 Below w.heap.size w w'/\o.elim (∃ (t:ByteArray) (n:Nat) (b tw:Bool),e = .returned (zgx t n false b tw)) fun q=>e = .returned (zgx (zac (ct q.1)) q.2 true (zbf q.1) (twV q.1))
theorem GP.bad {w w':World} {o:Option (JV×Nat)} (h:o=none) (b:Below w.heap.size w w') : GP w o (.returned (.agg #[.string ⟨#[]⟩,.int .i64 0,.bool false,.bool false,.bool false])) w':=by
 subst h; exact⟨b,_,0,_,_,rfl⟩
theorem zdo (b:Nat) (w:World) :
  Calls prog 108 #[.int .u8 b] w fun e w'=>e = .returned (.bool (zbo b))/\w=w':=by
 by_cases h:48<=b
 ·have HD:Hid (zbo b=decide ((b:Int)<=57)):=by
   show _=_
   unfold zbo
   rw[yj h,Bool.true_and]
   apply decide_eq_decide.2; omega
  have h1:(48:Int)<=(b:Int):=by omega
  go_enter func108,ntmps108
  go_wp2
  go_ret
  exact⟨by rw[uh HD]; rfl,rfl⟩
 ·have HD:Hid (zbo b=false):=by
   show _=_
   unfold zbo
   rw[yk h,Bool.false_and]
  have h1:¬ (48:Int)<=(b:Int):=by omega
  go_enter func108,ntmps108
  go_wp2
  go_ret
  exact⟨by rw[uh HD]; rfl,rfl⟩
theorem zai (w:World) (o:Obj) : Below w.heap.size w (w.alloc o):=(yH _ _).alloc (ye _) _
theorem zvH (s:ByteArray) (i:Nat) (w:World) (hs:s.size<=1048576) (hi:i<=s.size+1) (h45:bt s i=45) :
  Calls prog 119 #[.string s,.int .i64 i] w (GP w ((nm s i).map fun q=>(.num q.1,q.2))):=by
 have HA:Hid (∀ w,Calls prog 114 #[.string s,.int .i64 i,.int .u8 45] w fun e w'=>e = .returned (.bool true)/\w=w'):=fun w=>by
  have h:=zdt s (i:Int) i rfl 45 w
  rw[show atB s i 45=true from by
   have hlt:i < s.size:=zaw (by omega)
   rw[zdX hlt,yC,← zas s i hlt,h45]; rfl] at h
  exact h
 have hD:nmD s i=i+1:=by unfold nmD; rw[yg h45]
 by_cases hin:i+1 < s.size
 ·have t1:((s.size:Int)<=(i:Int)+1)=False:=yQ (by omega)
  have t1':((i:Int)+1 < (s.size:Int))=True:=eq_true (by omega)
  have hbd:=zas s (i+1) hin
  have HG:Hid (∀ w,Calls prog 108 #[.int .u8 (s[i+1].toNat:Int)] w fun e w'=>e = .returned (.bool (zbo (bt s (i+1))))/\w=w'):=fun w=>by
   rw[hbd]; exact zdo _ w
  cases hdg:zbo (bt s (i+1)) with
  | false=>
   have HR:Hid (((nm s i).map fun q=>(JV.num q.1,q.2))=none):=by
    show _=_
    unfold nm
    rw[hD,yf (by rw[hdg]; simp)]; rfl
   rw[hdg] at HG
   clear hdg hbd
   go_enter func119,ntmps119
   go_wp2_with fail
   refine (uh HA _).mono ?_
   rintro e w1 ⟨rfl,rfl⟩
   go_wp2_with fail
   refine (uh HG _).mono ?_
   rintro e w2 ⟨rfl,rfl⟩
   go_wp2
   go_returns
   exact GP.bad (uh HR) (zai w _)
  | true=>
   rw[hdg] at HG
   by_cases h48:bt s (i+1)=48
   ·have t2:((s[i+1].toNat:Int) == 48)=true:=by rw[yC]; omega
    have hE:nmE s i=i+1+1:=by unfold nmE; rw[hD,yg h48]
    have i1:(i:Int)<=(i:Int)+1+1:=by omega
    have i2:(i:Int)+1+1<=(s.size:Int):=by omega
    have i3:(0:Int)<=(i:Int):=by omega
    go_enter func119,ntmps119
    go_wp2_with fail
    refine (uh HA _).mono ?_
    rintro e w1 ⟨rfl,rfl⟩
    go_wp2_with fail
    refine (uh HG _).mono ?_
    rintro e w2 ⟨rfl,rfl⟩
    clear HA HG
    have HB:Hid (∀ w,Calls prog 147 #[.string (s.extract i (i+1+1))] w fun e' w'=>e' = .returned (.bool (zaP (zaX s i (i+1+1))))/\w=w'):=fun w=>by
     rw[zaN]
     exact zaQ (zaX s i (i+1+1)) w (by
      intro h
      have:=congrArg List.length h
      unfold zaX at this
      rw[ym,yu,zak,yD] at this
      omega) (by unfold zaX; rw[ym,yu,zak]; omega)
    by_cases hz:zaX s i (i+1+1)=[45,48]
    ·have z1:((s.extract i (i+1+1)).toList == [45,48])=true:=by rw[zaJ,hz]; rfl
     have HB0:Hid (∀ w,Calls prog 147 #[.string ⟨#[48]⟩] w fun e' w'=>e' = .returned (.bool (zaP [48]))/\w=w'):=fun w=>zaQ [48] w (by simp) (by simp)
     have HR:Hid (nm s i=some ([48],i+1+1)):=by
      show _=_
      unfold nm
      rw[yg (by rw[hD]; exact hdg),hE]
      unfold zbM
      rw[yg hz]
     clear HB hz
     go_wp2_with fail
     refine (uh HB0 _).mono ?_
     rintro e' w3 ⟨rfl,rfl⟩
     go_wp2
     go_returns
     rw[uh HR]
     exact⟨zai w _,rfl⟩
    ·have z1:((s.extract i (i+1+1)).toList == [45,48])=false:=by rw[zaJ,yd]; exact hz
     have HR:Hid (nm s i=some (zaX s i (i+1+1),i+1+1)):=by
      show _=_
      unfold nm
      rw[yg (by rw[hD]; exact hdg),hE]
      unfold zbM
      rw[yf hz]
     have HX:=zab (zaN s i (i+1+1))
     clear hz
     go_wp2_with fail
     refine (uh HB _).mono ?_
     rintro e' w3 ⟨rfl,rfl⟩
     go_wp2
     go_returns
     rw[uh HR,uh HX]
     exact⟨zai w _,rfl⟩
   ·have t2:((s[i+1].toNat:Int) == 48)=false:=by rw[yd]; omega
    have hE:nmE s i=dg s (i+1):=by unfold nmE; rw[hD,yf h48]
    have HGG:Hid (∀ (j:Nat) (hj:j < s.size) w,Calls prog 108 #[.int .u8 (s[j].toNat:Int)] w fun e w'=>e = .returned (.bool (zbo (bt s j)))/\w=w'):=fun j hj w=>by
     rw[zas s j hj]; exact zdo _ w
    clear h48 hbd
    go_enter func119,ntmps119
    go_wp2_with fail
    refine (uh HA _).mono ?_
    rintro e w1 ⟨rfl,rfl⟩
    go_wp2_with fail
    refine (uh HG _).mono ?_
    rintro e w2 ⟨rfl,rfl⟩
    clear HA HG
    go_wp2_with fail
    go_loopw [1] (fun k wr=>wr=w.alloc (.cells #[.string ⟨#[]⟩,.int .i64 0,.bool false,.bool false,.bool false] 135)/\∃ j:Nat,k = .int .i64 (j:Int)/\i+1<=j/\j<=s.size/\dg s (i+1)=dg s j/\(i+1 < j∨j=i+1)) (fun k _=>s.size - (intOf k).toNat)
    case atStart=>exact⟨rfl,i+1,by go_num,ye _,by omega,rfl,.inr rfl⟩
    case round=>
     obtain⟨rfl,j,rfl,hj1,hj2,hst,hj3⟩:=hrel
     have HST:=zab hst
     clear hst
     by_cases hjin:j < s.size
     ·have u1:((j:Int) < (s.size:Int))=True:=eq_true (by omega)
      have HJ:=zab (fun w=>uh HGG j hjin w)
      cases hjd:zbo (bt s j) with
      | true=>
       have HX:Hid (dg s (i+1)=dg s (j+1)):=by show _=_; rw[uh HST,ziu hjd]
       rw[hjd] at HJ
       clear hjd
       go_wp2_with fail
       refine (uh HJ _).mono ?_
       rintro e w3 ⟨rfl,rfl⟩
       clear HJ
       go_wp2
       go_roundw
       case rel=>exact⟨trivial,j+1,by go_num,by omega,by omega,uh HX,.inl (by omega)⟩
       case measure=>simp[intOf]; omega
      | false=>
       have HX:dg s (i+1)=j:=by rw[uh HST,zgr (by rw[hjd]; simp)]
       rw[hjd] at HJ
       have hne:i+1 < j:=by
        rcases hj3 with h | h
        ·exact h
        ·subst h; rw[hdg] at hjd; cases hjd
       rw[HX] at hE
       clear hjd HX hj3
       have i1:(i:Int)<=(j:Int):=by omega
       have i2:(j:Int)<=(s.size:Int):=by omega
       have i3:(0:Int)<=(i:Int):=by omega
       go_wp2_with fail
       refine (uh HJ _).mono ?_
       rintro e w3 ⟨rfl,rfl⟩
       clear HJ HGG
       have HB:Hid (∀ w,Calls prog 147 #[.string (s.extract i (j))] w fun e' w'=>e' = .returned (.bool (zaP (zaX s i (j))))/\w=w'):=fun w=>by
        rw[zaN]
        exact zaQ (zaX s i (j)) w (by
         intro h
         have:=congrArg List.length h
         unfold zaX at this
         rw[ym,yu,zak,yD] at this
         omega) (by unfold zaX; rw[ym,yu,zak]; omega)
       by_cases hz:zaX s i (j)=[45,48]
       ·have z1:((s.extract i (j)).toList == [45,48])=true:=by rw[zaJ,hz]; rfl
        have HB0:Hid (∀ w,Calls prog 147 #[.string ⟨#[48]⟩] w fun e' w'=>e' = .returned (.bool (zaP [48]))/\w=w'):=fun w=>zaQ [48] w (by simp) (by simp)
        have HR:Hid (nm s i=some ([48],j)):=by
         show _=_
         unfold nm
         rw[yg (by rw[hD]; exact hdg),hE]
         unfold zbM
         rw[yg hz]
        clear HB hz
        go_wp2_with fail
        refine (uh HB0 _).mono ?_
        rintro e' w3 ⟨rfl,rfl⟩
        go_wp2
        go_returns
        rw[uh HR]
        exact⟨zai w _,rfl⟩
       ·have z1:((s.extract i (j)).toList == [45,48])=false:=by rw[zaJ,yd]; exact hz
        have HR:Hid (nm s i=some (zaX s i (j),j)):=by
         show _=_
         unfold nm
         rw[yg (by rw[hD]; exact hdg),hE]
         unfold zbM
         rw[yf hz]
        have HX:=zab (zaN s i (j))
        clear hz
        go_wp2_with fail
        refine (uh HB _).mono ?_
        rintro e' w3 ⟨rfl,rfl⟩
        go_wp2
        go_returns
        rw[uh HR,uh HX]
        exact⟨zai w _,rfl⟩
     ·have u1:((j:Int) < (s.size:Int))=False:=yQ (by omega)
      have hjz:s.size<=j:=by omega
      have HX:dg s (i+1)=j:=by rw[uh HST,zgr (by rw[zcL s j (by omega)]; simp[zbo])]
      rw[HX] at hE
      clear HX hj3 HGG hjz
      have i1:(i:Int)<=(j:Int):=by omega
      have i2:(j:Int)<=(s.size:Int):=by omega
      have i3:(0:Int)<=(i:Int):=by omega
      have HB:Hid (∀ w,Calls prog 147 #[.string (s.extract i (j))] w fun e' w'=>e' = .returned (.bool (zaP (zaX s i (j))))/\w=w'):=fun w=>by
       rw[zaN]
       exact zaQ (zaX s i (j)) w (by
        intro h
        have:=congrArg List.length h
        unfold zaX at this
        rw[ym,yu,zak,yD] at this
        omega) (by unfold zaX; rw[ym,yu,zak]; omega)
      by_cases hz:zaX s i (j)=[45,48]
      ·have z1:((s.extract i (j)).toList == [45,48])=true:=by rw[zaJ,hz]; rfl
       have HB0:Hid (∀ w,Calls prog 147 #[.string ⟨#[48]⟩] w fun e' w'=>e' = .returned (.bool (zaP [48]))/\w=w'):=fun w=>zaQ [48] w (by simp) (by simp)
       have HR:Hid (nm s i=some ([48],j)):=by
        show _=_
        unfold nm
        rw[yg (by rw[hD]; exact hdg),hE]
        unfold zbM
        rw[yg hz]
       clear HB hz
       go_wp2_with fail
       refine (uh HB0 _).mono ?_
       rintro e' w3 ⟨rfl,rfl⟩
       go_wp2
       go_returns
       rw[uh HR]
       exact⟨zai w _,rfl⟩
      ·have z1:((s.extract i (j)).toList == [45,48])=false:=by rw[zaJ,yd]; exact hz
       have HR:Hid (nm s i=some (zaX s i (j),j)):=by
        show _=_
        unfold nm
        rw[yg (by rw[hD]; exact hdg),hE]
        unfold zbM
        rw[yf hz]
       have HX:=zab (zaN s i (j))
       clear hz
       go_wp2_with fail
       refine (uh HB _).mono ?_
       rintro e' w3 ⟨rfl,rfl⟩
       go_wp2
       go_returns
       rw[uh HR,uh HX]
       exact⟨zai w _,rfl⟩
 ·have t1:((s.size:Int)<=(i:Int)+1)=True:=eq_true (by omega)
  have HR:Hid (((nm s i).map fun q=>(JV.num q.1,q.2))=none):=by
   show _=_
   unfold nm
   rw[hD,yf (by rw[zcL s (i+1) (by omega)]; simp[zbo])]; rfl
  go_enter func119,ntmps119
  go_wp2_with fail
  refine (uh HA _).mono ?_
  rintro e w1 ⟨rfl,rfl⟩
  go_wp2
  go_returns
  exact GP.bad (uh HR) (zai w _)
theorem zvI (s:ByteArray) (i:Nat) (w:World) (hs:s.size<=1048576) (hi:i<=s.size+1) (h45:bt s i≠45) :
  Calls prog 119 #[.string s,.int .i64 i] w (GP w ((nm s i).map fun q=>(.num q.1,q.2))):=by
 have HA:Hid (∀ w,Calls prog 114 #[.string s,.int .i64 i,.int .u8 45] w fun e w'=>e = .returned (.bool false)/\w=w'):=fun w=>by
  have h:=zdt s (i:Int) i rfl 45 w
  rw[show atB s i 45=false from by
   by_cases hlt:i < s.size
   ·rw[zdX hlt,yd,← zas s i hlt]; omega
   ·exact zfQ hlt] at h
  exact h
 have hD:nmD s i=i:=by unfold nmD; rw[yf h45]
 by_cases hin:i < s.size
 ·have t1:((s.size:Int)<=(i:Int))=False:=yQ (by omega)
  have t1':((i:Int) < (s.size:Int))=True:=eq_true (by omega)
  have hbd:=zas s (i) hin
  have HG:Hid (∀ w,Calls prog 108 #[.int .u8 (s[i].toNat:Int)] w fun e w'=>e = .returned (.bool (zbo (bt s (i))))/\w=w'):=fun w=>by
   rw[hbd]; exact zdo _ w
  cases hdg:zbo (bt s (i)) with
  | false=>
   have HR:Hid (((nm s i).map fun q=>(JV.num q.1,q.2))=none):=by
    show _=_
    unfold nm
    rw[hD,yf (by rw[hdg]; simp)]; rfl
   rw[hdg] at HG
   clear hdg hbd
   go_enter func119,ntmps119
   go_wp2_with fail
   refine (uh HA _).mono ?_
   rintro e w1 ⟨rfl,rfl⟩
   go_wp2_with fail
   refine (uh HG _).mono ?_
   rintro e w2 ⟨rfl,rfl⟩
   go_wp2
   go_returns
   exact GP.bad (uh HR) (zai w _)
  | true=>
   rw[hdg] at HG
   by_cases h48:bt s (i)=48
   ·have t2:((s[i].toNat:Int) == 48)=true:=by rw[yC]; omega
    have hE:nmE s i=i+1:=by unfold nmE; rw[hD,yg h48]
    have i1:(i:Int)<=(i:Int)+1:=by omega
    have i2:(i:Int)+1<=(s.size:Int):=by omega
    have i3:(0:Int)<=(i:Int):=by omega
    go_enter func119,ntmps119
    go_wp2_with fail
    refine (uh HA _).mono ?_
    rintro e w1 ⟨rfl,rfl⟩
    go_wp2_with fail
    refine (uh HG _).mono ?_
    rintro e w2 ⟨rfl,rfl⟩
    clear HA HG
    have HB:Hid (∀ w,Calls prog 147 #[.string (s.extract i (i+1))] w fun e' w'=>e' = .returned (.bool (zaP (zaX s i (i+1))))/\w=w'):=fun w=>by
     rw[zaN]
     exact zaQ (zaX s i (i+1)) w (by
      intro h
      have:=congrArg List.length h
      unfold zaX at this
      rw[ym,yu,zak,yD] at this
      omega) (by unfold zaX; rw[ym,yu,zak]; omega)
    by_cases hz:zaX s i (i+1)=[45,48]
    ·have z1:((s.extract i (i+1)).toList == [45,48])=true:=by rw[zaJ,hz]; rfl
     have HB0:Hid (∀ w,Calls prog 147 #[.string ⟨#[48]⟩] w fun e' w'=>e' = .returned (.bool (zaP [48]))/\w=w'):=fun w=>zaQ [48] w (by simp) (by simp)
     have HR:Hid (nm s i=some ([48],i+1)):=by
      show _=_
      unfold nm
      rw[yg (by rw[hD]; exact hdg),hE]
      unfold zbM
      rw[yg hz]
     clear HB hz
     go_wp2_with fail
     refine (uh HB0 _).mono ?_
     rintro e' w3 ⟨rfl,rfl⟩
     go_wp2
     go_returns
     rw[uh HR]
     exact⟨zai w _,rfl⟩
    ·have z1:((s.extract i (i+1)).toList == [45,48])=false:=by rw[zaJ,yd]; exact hz
     have HR:Hid (nm s i=some (zaX s i (i+1),i+1)):=by
      show _=_
      unfold nm
      rw[yg (by rw[hD]; exact hdg),hE]
      unfold zbM
      rw[yf hz]
     have HX:=zab (zaN s i (i+1))
     clear hz
     go_wp2_with fail
     refine (uh HB _).mono ?_
     rintro e' w3 ⟨rfl,rfl⟩
     go_wp2
     go_returns
     rw[uh HR,uh HX]
     exact⟨zai w _,rfl⟩
   ·have t2:((s[i].toNat:Int) == 48)=false:=by rw[yd]; omega
    have hE:nmE s i=dg s (i):=by unfold nmE; rw[hD,yf h48]
    have HGG:Hid (∀ (j:Nat) (hj:j < s.size) w,Calls prog 108 #[.int .u8 (s[j].toNat:Int)] w fun e w'=>e = .returned (.bool (zbo (bt s j)))/\w=w'):=fun j hj w=>by
     rw[zas s j hj]; exact zdo _ w
    clear h48 hbd
    go_enter func119,ntmps119
    go_wp2_with fail
    refine (uh HA _).mono ?_
    rintro e w1 ⟨rfl,rfl⟩
    go_wp2_with fail
    refine (uh HG _).mono ?_
    rintro e w2 ⟨rfl,rfl⟩
    clear HA HG
    go_wp2_with fail
    go_loopw [1] (fun k wr=>wr=w.alloc (.cells #[.string ⟨#[]⟩,.int .i64 0,.bool false,.bool false,.bool false] 135)/\∃ j:Nat,k = .int .i64 (j:Int)/\i<=j/\j<=s.size/\dg s (i)=dg s j/\(i < j∨j=i)) (fun k _=>s.size - (intOf k).toNat)
    case atStart=>exact⟨rfl,i,by go_num,ye _,by omega,rfl,.inr rfl⟩
    case round=>
     obtain⟨rfl,j,rfl,hj1,hj2,hst,hj3⟩:=hrel
     have HST:=zab hst
     clear hst
     by_cases hjin:j < s.size
     ·have u1:((j:Int) < (s.size:Int))=True:=eq_true (by omega)
      have HJ:=zab (fun w=>uh HGG j hjin w)
      cases hjd:zbo (bt s j) with
      | true=>
       have HX:Hid (dg s (i)=dg s (j+1)):=by show _=_; rw[uh HST,ziu hjd]
       rw[hjd] at HJ
       clear hjd
       go_wp2_with fail
       refine (uh HJ _).mono ?_
       rintro e w3 ⟨rfl,rfl⟩
       clear HJ
       go_wp2
       go_roundw
       case rel=>exact⟨trivial,j+1,by go_num,by omega,by omega,uh HX,.inl (by omega)⟩
       case measure=>simp[intOf]; omega
      | false=>
       have HX:dg s (i)=j:=by rw[uh HST,zgr (by rw[hjd]; simp)]
       rw[hjd] at HJ
       have hne:i < j:=by
        rcases hj3 with h | h
        ·exact h
        ·subst h; rw[hdg] at hjd; cases hjd
       rw[HX] at hE
       clear hjd HX hj3
       have i1:(i:Int)<=(j:Int):=by omega
       have i2:(j:Int)<=(s.size:Int):=by omega
       have i3:(0:Int)<=(i:Int):=by omega
       go_wp2_with fail
       refine (uh HJ _).mono ?_
       rintro e w3 ⟨rfl,rfl⟩
       clear HJ HGG
       have HB:Hid (∀ w,Calls prog 147 #[.string (s.extract i (j))] w fun e' w'=>e' = .returned (.bool (zaP (zaX s i (j))))/\w=w'):=fun w=>by
        rw[zaN]
        exact zaQ (zaX s i (j)) w (by
         intro h
         have:=congrArg List.length h
         unfold zaX at this
         rw[ym,yu,zak,yD] at this
         omega) (by unfold zaX; rw[ym,yu,zak]; omega)
       by_cases hz:zaX s i (j)=[45,48]
       ·have z1:((s.extract i (j)).toList == [45,48])=true:=by rw[zaJ,hz]; rfl
        have HB0:Hid (∀ w,Calls prog 147 #[.string ⟨#[48]⟩] w fun e' w'=>e' = .returned (.bool (zaP [48]))/\w=w'):=fun w=>zaQ [48] w (by simp) (by simp)
        have HR:Hid (nm s i=some ([48],j)):=by
         show _=_
         unfold nm
         rw[yg (by rw[hD]; exact hdg),hE]
         unfold zbM
         rw[yg hz]
        clear HB hz
        go_wp2_with fail
        refine (uh HB0 _).mono ?_
        rintro e' w3 ⟨rfl,rfl⟩
        go_wp2
        go_returns
        rw[uh HR]
        exact⟨zai w _,rfl⟩
       ·have z1:((s.extract i (j)).toList == [45,48])=false:=by rw[zaJ,yd]; exact hz
        have HR:Hid (nm s i=some (zaX s i (j),j)):=by
         show _=_
         unfold nm
         rw[yg (by rw[hD]; exact hdg),hE]
         unfold zbM
         rw[yf hz]
        have HX:=zab (zaN s i (j))
        clear hz
        go_wp2_with fail
        refine (uh HB _).mono ?_
        rintro e' w3 ⟨rfl,rfl⟩
        go_wp2
        go_returns
        rw[uh HR,uh HX]
        exact⟨zai w _,rfl⟩
     ·have u1:((j:Int) < (s.size:Int))=False:=yQ (by omega)
      have hjz:s.size<=j:=by omega
      have HX:dg s (i)=j:=by rw[uh HST,zgr (by rw[zcL s j (by omega)]; simp[zbo])]
      rw[HX] at hE
      clear HX hj3 HGG hjz
      have i1:(i:Int)<=(j:Int):=by omega
      have i2:(j:Int)<=(s.size:Int):=by omega
      have i3:(0:Int)<=(i:Int):=by omega
      have HB:Hid (∀ w,Calls prog 147 #[.string (s.extract i (j))] w fun e' w'=>e' = .returned (.bool (zaP (zaX s i (j))))/\w=w'):=fun w=>by
       rw[zaN]
       exact zaQ (zaX s i (j)) w (by
        intro h
        have:=congrArg List.length h
        unfold zaX at this
        rw[ym,yu,zak,yD] at this
        omega) (by unfold zaX; rw[ym,yu,zak]; omega)
      by_cases hz:zaX s i (j)=[45,48]
      ·have z1:((s.extract i (j)).toList == [45,48])=true:=by rw[zaJ,hz]; rfl
       have HB0:Hid (∀ w,Calls prog 147 #[.string ⟨#[48]⟩] w fun e' w'=>e' = .returned (.bool (zaP [48]))/\w=w'):=fun w=>zaQ [48] w (by simp) (by simp)
       have HR:Hid (nm s i=some ([48],j)):=by
        show _=_
        unfold nm
        rw[yg (by rw[hD]; exact hdg),hE]
        unfold zbM
        rw[yg hz]
       clear HB hz
       go_wp2_with fail
       refine (uh HB0 _).mono ?_
       rintro e' w3 ⟨rfl,rfl⟩
       go_wp2
       go_returns
       rw[uh HR]
       exact⟨zai w _,rfl⟩
      ·have z1:((s.extract i (j)).toList == [45,48])=false:=by rw[zaJ,yd]; exact hz
       have HR:Hid (nm s i=some (zaX s i (j),j)):=by
        show _=_
        unfold nm
        rw[yg (by rw[hD]; exact hdg),hE]
        unfold zbM
        rw[yf hz]
       have HX:=zab (zaN s i (j))
       clear hz
       go_wp2_with fail
       refine (uh HB _).mono ?_
       rintro e' w3 ⟨rfl,rfl⟩
       go_wp2
       go_returns
       rw[uh HR,uh HX]
       exact⟨zai w _,rfl⟩
 ·have t1:((s.size:Int)<=(i:Int))=True:=eq_true (by omega)
  have HR:Hid (((nm s i).map fun q=>(JV.num q.1,q.2))=none):=by
   show _=_
   unfold nm
   rw[hD,yf (by rw[zcL s (i) (by omega)]; simp[zbo])]; rfl
  go_enter func119,ntmps119
  go_wp2_with fail
  refine (uh HA _).mono ?_
  rintro e w1 ⟨rfl,rfl⟩
  go_wp2
  go_returns
  exact GP.bad (uh HR) (zai w _)
theorem ztD (s:ByteArray) (i:Nat) (w:World) (hs:s.size<=1048576) (hi:i<=s.size+1) :
  Calls prog 119 #[.string s,.int .i64 i] w (GP w ((nm s i).map fun q=>(.num q.1,q.2))):=by
 by_cases h:bt s i=45
 ·exact zvH s i w hs hi h
 ·exact zvI s i w hs hi h
end Go.Proofs.YtekpghcckdjnhaaGreatDoor
