import Derived.WalkLawsBesides
import Derived.Deep.QuietTactic
import Derived.BigQuiet
import Derived.Lib.OthersKept
import Derived.Laws.Rows
import Derived.Test.YtocnekbedcnmgaaGreatDoorBa1
import Derived.Deep.LoopGhost
import Derived.Test.YtocnekbedcnmgaaGreatDoorBa2
import Derived.Laws.DeepStrings4
import Derived.Handy
set_option maxRecDepth 100000
set_option maxHeartbeats 8000000
namespace Go.Proofs.YtocnekbedcnmgaaGreatDoor
open Go.RowKit
structure KB (rb:Nat) (w w':World) : Prop where
 os:w'.os=w.os
 tape:w'.tape=w.tape
 output:w'.output=w.output
 size:w.heap.size≤w'.heap.size
 block:∀ k,k < w.heap.size→k≠rb→w'.heap[k]?=w.heap[k]?
theorem KB.refl (rb:Nat) (w:World) : KB rb w w:=⟨rfl,rfl,rfl,Nat.le_refl _,fun _ _ _=>rfl⟩
theorem KB.trans {rb:Nat} {a b c:World} (h:KB rb a b) (k:KB rb b c) : KB rb a c:=
 ⟨k.os.trans h.os,k.tape.trans h.tape,k.output.trans h.output,Nat.le_trans h.size k.size,fun i hi hn=>(k.block i (Nat.lt_of_lt_of_le hi h.size) hn).trans (h.block i hi hn)⟩
theorem KB.drewN {rb:Nat} {a w:World} (h:KB rb a w) (n:Nat) : KB rb a (w.drewN n):=⟨h.os,h.tape,h.output,h.size,h.block⟩
theorem KB.set {rb:Nat} {a w:World} (h:KB rb a w) (j:Nat) (v:Value) : KB rb a (w.setCell ⟨rb,j,none⟩ v):=
 h.trans ⟨rfl,rfl,rfl,by simp[World.setCell],fun k _ hn=>Below.heap_setCell _ _ _ _ hn⟩
theorem KB.of_below {rb:Nat} {w w':World} (h:Below w.heap.size w w') : KB rb w w':=⟨h.os,h.tape,h.output,h.size,fun k hk _=>h.block k hk⟩
theorem KB.below {rb B:Nat} {w w':World} (h:KB rb w w') (hB:B≤rb) (hs:B≤w.heap.size) : Below B w w':=⟨h.os,h.tape,h.output,h.size,fun k hk=>h.block k (by omega) (by omega)⟩
def Rdr (rb:Nat) (s:ByteArray) (i:Nat) (tb kt:Bool) (w:World) : Prop:=w.heap[rb]?=some (.cells #[.string s,.int .i64 (i:Int),.bool tb,.bool kt] 134 (0,0))
theorem Rdr.text {rb:Nat} {s:ByteArray} {i:Nat} {tb kt:Bool} {w:World} (h:Rdr rb s i tb kt w) : w.cell? ⟨rb,0,none⟩=some (.string s):=by rw[Lib.cell_of_heap h]; rfl
theorem Rdr.at {rb:Nat} {s:ByteArray} {i:Nat} {tb kt:Bool} {w:World} (h:Rdr rb s i tb kt w) : w.cell? ⟨rb,1,none⟩=some (.int .i64 (i:Int)):=by rw[Lib.cell_of_heap h]; rfl
theorem Rdr.frozen {rb:Nat} {s:ByteArray} {i:Nat} {tb kt:Bool} {w:World} (h:Rdr rb s i tb kt w) : w.frozen? ⟨rb,1,none⟩=false:=Lib.frozen_of_heap h 1
theorem Rdr.lt {rb:Nat} {s:ByteArray} {i:Nat} {tb kt:Bool} {w:World} (h:Rdr rb s i tb kt w) : rb < w.heap.size:=(Array.getElem?_eq_some_iff.1 h).1
theorem Rdr.set {rb:Nat} {s:ByteArray} {i:Nat} {tb kt:Bool} {w:World} (h:Rdr rb s i tb kt w) (z:Int) (j:Nat) (hz:z=(j:Int)) : Rdr rb s j tb kt (w.setCell ⟨rb,1,none⟩ (.int .i64 z)):=by
 subst hz
 have:=heap_setCell_same w rb 1 _ 134 (.int .i64 (j:Int)) h
 exact this
theorem Rdr.drewN {rb:Nat} {s:ByteArray} {i:Nat} {tb kt:Bool} {w:World} (h:Rdr rb s i tb kt w) (n:Nat) : Rdr rb s i tb kt (w.drewN n):=h
theorem Rdr.below {rb:Nat} {s:ByteArray} {i:Nat} {tb kt:Bool} {w w':World} (h:Rdr rb s i tb kt w) (hb:Below w.heap.size w w') : Rdr rb s i tb kt w':=(hb.block rb h.lt).trans h
def mis:Ending:=.panicked [{ v:=.iface 196 (.agg #[]),recovered:=false }]
theorem next_in (rb:Nat) (s:ByteArray) (i:Nat) (tb kt:Bool) (w:World) (h:Rdr rb s i tb kt w) (hs:s.size≤1048576) (hi:i < s.size) :
  Calls Tryz.prog 220 #[.pointer (some ⟨rb,0,none⟩)] w fun e w'=>e = .returned (.int .u8 (bt s i))∧Rdr rb s (i+1) tb kt w'∧KB rb w w':=by
 have c0:=h.text
 have c1:=h.at
 have f1:=h.frozen
 have hne:((i:Int) == (s.size:Int))=false:=by rw[beq_eq_false_iff_ne]; omega
 have HB:=hide (bt_at s i hi)
 have H:=hide h
 clear h
 go_enter Tryz.func220,Tryz.ntmps220
 go_wp2_with fail
 go_quiet (fail)
 go_wp2_with fail
 go_quiet (fail)
 go_wp2
 go_ret
 exact⟨by rw[uh HB]; rfl,((uh H).drewN _).set _ _ (by omega),((KB.refl rb w).drewN _).set 1 _⟩
theorem next_out (rb:Nat) (s:ByteArray) (i:Nat) (tb kt:Bool) (w:World) (h:Rdr rb s i tb kt w) (hi:i=s.size) :
  Calls Tryz.prog 220 #[.pointer (some ⟨rb,0,none⟩)] w fun e w'=>e=mis∧KB rb w w':=by
 have c0:=h.text
 have c1:=h.at
 have f1:=h.frozen
 have hne:((i:Int) == (s.size:Int))=true:=by rw[beq_iff_eq]; omega
 clear h
 go_enter Tryz.func220,Tryz.ntmps220
 go_wp2_with fail
 go_quiet (fail)
 go_wp2
 exact⟨rfl,rfl,(KB.refl rb w).drewN _⟩
theorem bt_out (s:ByteArray) (i:Nat) (h:s.size≤i) : bt s i=0:=by
 unfold bt
 rw[List.getD_eq_getElem?_getD,List.getElem?_eq_none (by rw[data_len]; exact h)]; rfl
theorem bt_in {s:ByteArray} {i:Nat} (h:bt s i≠0) : i < s.size:=by
 rcases Nat.lt_or_ge i s.size with g | g
 ·exact g
 ·exact absurd (bt_out s i g) h
theorem readEnd_at (rb:Nat) (s:ByteArray) (i:Nat) (tb kt:Bool) (w:World) (h:Rdr rb s i tb kt w) (hi:i=s.size) :
  Calls Tryz.prog 86 #[.pointer (some ⟨rb,0,none⟩)] w fun e w'=>e = .returned (.tuple #[])∧Rdr rb s i tb kt w'∧KB rb w w':=by
 have c0:=h.text
 have c1:=h.at
 have hne:((i:Int) != (s.size:Int))=false:=by rw[bne_eq_false_iff_eq]; omega
 have H:=hide h
 clear h hi
 go_enter Tryz.func86,Tryz.ntmps86
 go_wp2_with fail
 go_quiet (fail)
 go_wp2
 go_end0
 exact⟨rfl,(uh H).drewN _,(KB.refl rb w).drewN _⟩
theorem readEnd_not (rb:Nat) (s:ByteArray) (i:Nat) (tb kt:Bool) (w:World) (h:Rdr rb s i tb kt w) (hi:i≠s.size) :
  Calls Tryz.prog 86 #[.pointer (some ⟨rb,0,none⟩)] w fun e w'=>e=mis∧KB rb w w':=by
 have c0:=h.text
 have c1:=h.at
 have hne:((i:Int) != (s.size:Int))=true:=by rw[bne_iff_ne]; omega
 clear h hi
 go_enter Tryz.func86,Tryz.ntmps86
 go_wp2_with fail
 go_quiet (fail)
 go_wp2
 exact⟨rfl,rfl,(KB.refl rb w).drewN _⟩
theorem expect_yes (rb:Nat) (s:ByteArray) (i:Nat) (tb kt:Bool) (w:World) (h:Rdr rb s i tb kt w) (hs:s.size≤1048576) (c:Nat) (hc:bt s i=c) (h0:i < s.size) :
  Calls Tryz.prog 194 #[.pointer (some ⟨rb,0,none⟩),.int .u8 c] w fun e w'=>e = .returned (.tuple #[])∧Rdr rb s (i+1) tb kt w'∧KB rb w w':=by
 have HN:=hide (next_in rb s i tb kt w h hs h0)
 rw[hc] at HN
 clear h hc h0 hs
 go_enter Tryz.func194,Tryz.ntmps194
 go_wp2_with fail
 refine (uh HN).mono ?_
 rintro e w1 ⟨rfl,r1,k1⟩
 have R1:=hide r1
 clear r1 HN
 go_wp2
 go_end0
 exact⟨rfl,uh R1,k1⟩
theorem expect_no (rb:Nat) (s:ByteArray) (i:Nat) (tb kt:Bool) (w:World) (h:Rdr rb s i tb kt w) (hs:s.size≤1048576) (hi:i≤s.size) (c:Nat) (hc:bt s i≠c∨i=s.size) :
  Calls Tryz.prog 194 #[.pointer (some ⟨rb,0,none⟩),.int .u8 c] w fun e w'=>e=mis∧KB rb w w':=by
 by_cases hi':i=s.size
 ·have HN:=hide (next_out rb s i tb kt w h hi')
  clear h hc hs
  go_enter Tryz.func194,Tryz.ntmps194
  go_wp2_with fail
  refine (uh HN).mono ?_
  rintro e w1 ⟨rfl,k1⟩
  clear HN
  exact⟨rfl,rfl,k1⟩
 ·have HN:=hide (next_in rb s i tb kt w h hs (by omega))
  have hne:(((bt s i:Nat) : Int) != (c:Int))=true:=by rw[bne_iff_ne]; omega
  generalize bt s i=b at *
  clear h hc hs
  go_enter Tryz.func194,Tryz.ntmps194
  go_wp2_with fail
  refine (uh HN).mono ?_
  rintro e w1 ⟨rfl,r1,k1⟩
  clear r1 HN
  go_wp2
  exact⟨rfl,rfl,k1⟩
theorem skip_yes (rb:Nat) (s:ByteArray) (i:Nat) (tb kt:Bool) (w:World) (h:Rdr rb s i tb kt w) (hs:s.size≤1048576) (c:Nat) (hc:bt s i=c) (h0:i < s.size) :
  Calls Tryz.prog 164 #[.pointer (some ⟨rb,0,none⟩),.int .u8 c] w fun e w'=>e = .returned (.bool true)∧Rdr rb s (i+1) tb kt w'∧KB rb w w':=by
 have c0:=h.text
 have c1:=h.at
 have f1:=h.frozen
 have hne:((i:Int) == (s.size:Int))=false:=by rw[beq_eq_false_iff_ne]; omega
 rw[bt_at s i h0] at hc
 subst hc
 have H:=hide h
 clear h
 go_enter Tryz.func164,Tryz.ntmps164
 go_wp2_with fail
 go_quiet (fail)
 go_wp2
 go_ret
 exact⟨rfl,((uh H).drewN _).set _ _ (by omega),((KB.refl rb w).drewN _).set 1 _⟩
theorem skip_no (rb:Nat) (s:ByteArray) (i:Nat) (tb kt:Bool) (w:World) (h:Rdr rb s i tb kt w) (hi:i≤s.size) (c:Nat) (hc:bt s i≠c∨i=s.size) :
  Calls Tryz.prog 164 #[.pointer (some ⟨rb,0,none⟩),.int .u8 c] w fun e w'=>e = .returned (.bool false)∧Rdr rb s i tb kt w'∧KB rb w w':=by
 have c0:=h.text
 have c1:=h.at
 have H:=hide h
 clear h
 by_cases hi':i=s.size
 ·have hne:((i:Int) == (s.size:Int))=true:=by rw[beq_iff_eq]; omega
  go_enter Tryz.func164,Tryz.ntmps164
  go_wp2_with fail
  go_quiet (fail)
  go_wp2
  go_ret
  exact⟨rfl,(uh H).drewN _,(KB.refl rb w).drewN _⟩
 ·have h0:i < s.size:=by omega
  have hne:((i:Int) == (s.size:Int))=false:=by rw[beq_eq_false_iff_ne]; omega
  have hnc:((s[i].toNat:Int) != (c:Int))=true:=by
   rw[bne_iff_ne]; rw[bt_at s i h0] at hc; omega
  clear hc
  go_enter Tryz.func164,Tryz.ntmps164
  go_wp2_with fail
  go_quiet (fail)
  go_wp2
  go_ret
  exact⟨rfl,(uh H).drewN _,(KB.refl rb w).drewN _⟩
def skF (s:ByteArray) : Nat→Nat→Nat
 | 0,i=>i
 | f+1,i=>if bt s i=32∨bt s i=9∨bt s i=10∨bt s i=13 then skF s f (i+1) else i
def sk (s:ByteArray) (i:Nat) : Nat:=skF s (s.size - i) i
theorem sk_on {s:ByteArray} {i:Nat} (h:bt s i=32∨bt s i=9∨bt s i=10∨bt s i=13) : sk s i=sk s (i+1):=by
 have hi:i < s.size:=bt_in (by omega)
 unfold sk
 rw[show s.size - i=(s.size - (i+1))+1 by omega,skF,if_pos h]
theorem sk_off {s:ByteArray} {i:Nat} (h:¬ (bt s i=32∨bt s i=9∨bt s i=10∨bt s i=13)) : sk s i=i:=by
 unfold sk
 cases s.size - i with
 | zero=>rfl
 | succ f=>rw[skF,if_neg h]
theorem skF_le (s:ByteArray) : ∀ f i,i+f≤s.size→i≤skF s f i∧skF s f i≤i+f
 | 0,i,_=>⟨Nat.le_refl _,Nat.le_refl _⟩
 | f+1,i,h=>by
  rw[skF]
  split
  ·have:=skF_le s f (i+1) (by omega); omega
  ·omega
theorem sk_le {s:ByteArray} {i:Nat} (h:i≤s.size) : i≤sk s i∧sk s i≤s.size:=by
 have:=skF_le s (s.size - i) i (by omega)
 unfold sk; omega
theorem sk_past {s:ByteArray} {i:Nat} (h:s.size≤i) : sk s i=i:=by
 unfold sk; rw[show s.size - i=0 by omega]; rfl
theorem sk_end (s:ByteArray) (i:Nat) : ¬ (bt s (sk s i)=32∨bt s (sk s i)=9∨bt s (sk s i)=10∨bt s (sk s i)=13):=by
 generalize hn:s.size - i=n
 induction n generalizing i with
 | zero=>rw[sk_past (by omega),bt_out s i (by omega)]; omega
 | succ n ih=>
  by_cases h:bt s i=32∨bt s i=9∨bt s i=10∨bt s i=13
  ·rw[sk_on h]; exact ih (i+1) (by omega)
  ·rw[sk_off h]; exact h
theorem skipBlanks_walk (rb:Nat) (s:ByteArray) (i:Nat) (tb kt:Bool) (w:World) (h:Rdr rb s i tb kt w) (hs:s.size≤1048576) (hi:i≤s.size) :
  Calls Tryz.prog 128 #[.pointer (some ⟨rb,0,none⟩)] w fun e w'=>e = .returned (.tuple #[])∧Rdr rb s (sk s i) tb kt w'∧KB rb w w':=by
 have R0:=hide h
 clear h
 go_enter Tryz.func128,Tryz.ntmps128
 go_wp2_with fail
 go_loopg [] (s.size - i) (fun g wr=>∃ j:Nat,g=s.size - j∧j≤s.size∧Rdr rb s j tb kt wr∧KB rb w wr∧sk s i=sk s j)
 case atStart=>exact⟨i,rfl,hi,uh R0,KB.refl _ _,rfl⟩
 case round=>
  obtain⟨j,hg,hj,hr,hk,hst⟩:=hrel
  have HR:=hide hr
  have HST:=hide hst
  clear hr hst R0
  have HY:Hid (∀ (c:Nat) wa,c≠0→bt s j=c→Rdr rb s j tb kt wa→Calls Tryz.prog 164 #[.pointer (some ⟨rb,0,none⟩),.int .u8 c] wa fun e w'=>e = .returned (.bool true)∧Rdr rb s (j+1) tb kt w'∧KB rb wa w'):=fun c wa h0 hc hr=>skip_yes rb s j tb kt wa hr hs c hc (bt_in (by omega))
  have HN:Hid (∀ (c:Nat) wa,bt s j≠c→Rdr rb s j tb kt wa→Calls Tryz.prog 164 #[.pointer (some ⟨rb,0,none⟩),.int .u8 c] wa fun e w'=>e = .returned (.bool false)∧Rdr rb s j tb kt w'∧KB rb wa w'):=fun c wa hc hr=>skip_no rb s j tb kt wa hr hj c (.inl hc)
  by_cases c1:bt s j=32
  ·have HX:Hid (sk s i=sk s (j+1)):=by show _=_; rw[uh HST,sk_on (.inl c1)]
   have hlt:j < s.size:=bt_in (by omega)
   go_wp2_with fail
   refine (uh HY 32 _ (by decide) c1 (uh HR)).mono ?_
   rintro e w2 ⟨rfl,r2,k2⟩
   have R2:=hide r2
   clear r2
   go_wp2
   go_roundg (s.size - (j+1))
   case rel=>exact⟨j+1,rfl,by omega,uh R2,hk.trans k2,uh HX⟩
   case measure=>omega
  by_cases c2:bt s j=9
  ·have HX:Hid (sk s i=sk s (j+1)):=by show _=_; rw[uh HST,sk_on (.inr (.inl c2))]
   have hlt:j < s.size:=bt_in (by omega)
   go_wp2_with fail
   refine (uh HN 32 _ c1 (uh HR)).mono ?_
   rintro e w2 ⟨rfl,r2,k2⟩
   have R2:=hide r2
   clear r2
   go_wp2_with fail
   refine (uh HY 9 _ (by decide) c2 (uh R2)).mono ?_
   rintro e w3 ⟨rfl,r3,k3⟩
   have R3:=hide r3
   clear r3
   go_wp2
   go_roundg (s.size - (j+1))
   case rel=>exact⟨j+1,rfl,by omega,uh R3,(hk.trans k2).trans k3,uh HX⟩
   case measure=>omega
  by_cases c3:bt s j=10
  ·have HX:Hid (sk s i=sk s (j+1)):=by show _=_; rw[uh HST,sk_on (.inr (.inr (.inl c3)))]
   have hlt:j < s.size:=bt_in (by omega)
   go_wp2_with fail
   refine (uh HN 32 _ c1 (uh HR)).mono ?_
   rintro e w2 ⟨rfl,r2,k2⟩
   have R2:=hide r2
   clear r2
   go_wp2_with fail
   refine (uh HN 9 _ c2 (uh R2)).mono ?_
   rintro e w3 ⟨rfl,r3,k3⟩
   have R3:=hide r3
   clear r3
   go_wp2_with fail
   refine (uh HY 10 _ (by decide) c3 (uh R3)).mono ?_
   rintro e w4 ⟨rfl,r4,k4⟩
   have R4:=hide r4
   clear r4
   go_wp2
   go_roundg (s.size - (j+1))
   case rel=>exact⟨j+1,rfl,by omega,uh R4,((hk.trans k2).trans k3).trans k4,uh HX⟩
   case measure=>omega
  go_wp2_with fail
  refine (uh HN 32 _ c1 (uh HR)).mono ?_
  rintro e w2 ⟨rfl,r2,k2⟩
  have R2:=hide r2
  clear r2
  go_wp2_with fail
  refine (uh HN 9 _ c2 (uh R2)).mono ?_
  rintro e w3 ⟨rfl,r3,k3⟩
  have R3:=hide r3
  clear r3
  go_wp2_with fail
  refine (uh HN 10 _ c3 (uh R3)).mono ?_
  rintro e w4 ⟨rfl,r4,k4⟩
  have R4:=hide r4
  clear r4
  by_cases c4:bt s j=13
  ·have HX:Hid (sk s i=sk s (j+1)):=by show _=_; rw[uh HST,sk_on (.inr (.inr (.inr c4)))]
   have hlt:j < s.size:=bt_in (by omega)
   go_wp2_with fail
   refine (uh HY 13 _ (by decide) c4 (uh R4)).mono ?_
   rintro e w5 ⟨rfl,r5,k5⟩
   have R5:=hide r5
   clear r5
   go_wp2
   go_roundg (s.size - (j+1))
   case rel=>exact⟨j+1,rfl,by omega,uh R5,(((hk.trans k2).trans k3).trans k4).trans k5,uh HX⟩
   case measure=>omega
  ·have HX:Hid (sk s i=j):=by show _=_; rw[uh HST,sk_off (by omega)]
   go_wp2_with fail
   refine (uh HN 13 _ c4 (uh R4)).mono ?_
   rintro e w5 ⟨rfl,r5,k5⟩
   have R5:=hide r5
   clear r5
   go_wp2
   go_end0
   exact⟨rfl,by rw[uh HX]; exact uh R5,(((hk.trans k2).trans k3).trans k4).trans k5⟩
theorem peek_walk (rb:Nat) (s:ByteArray) (i:Nat) (tb kt:Bool) (w:World) (h:Rdr rb s i tb kt w) (hi:i≤s.size) :
  Calls Tryz.prog 165 #[.pointer (some ⟨rb,0,none⟩)] w fun e w'=>e = .returned (.int .u8 (bt s i))∧Rdr rb s i tb kt w'∧KB rb w w':=by
 have c0:=h.text
 have c1:=h.at
 have H:=hide h
 clear h
 by_cases hi':i=s.size
 ·have hne:((i:Int) == (s.size:Int))=true:=by rw[beq_iff_eq]; omega
  have HB:=hide (bt_out s i (by omega))
  go_enter Tryz.func165,Tryz.ntmps165
  go_wp2_with fail
  go_quiet (fail)
  go_wp2
  go_ret
  exact⟨by rw[uh HB]; rfl,(uh H).drewN _,(KB.refl rb w).drewN _⟩
 ·have h0:i < s.size:=by omega
  have hne:((i:Int) == (s.size:Int))=false:=by rw[beq_eq_false_iff_ne]; omega
  have HB:=hide (bt_at s i h0)
  go_enter Tryz.func165,Tryz.ntmps165
  go_wp2_with fail
  go_quiet (fail)
  go_wp2_with fail
  go_quiet (fail)
  go_wp2
  go_ret
  exact⟨by rw[uh HB]; rfl,((uh H).drewN _).drewN _,((KB.refl rb w).drewN _).drewN _⟩
def hx (b:Nat) : Option Nat:=if 48≤b∧b≤57 then some (b - 48) else if 97≤b∧b≤102 then some (b - 87) else if 65≤b∧b≤70 then some (b - 55) else none
theorem hx_lt {b v:Nat} (h:hx b=some v) : v < 16:=by
 unfold hx at h
 repeat' split at h
 all_goals first | (injection h with h; omega) | cases h
def hexN (s:ByteArray) (i:Nat) : Nat→Option Nat
 | 0=>some 0
 | k+1=>(hexN s i k).bind fun v=>(hx (bt s (i+k))).map fun h=>v*16+h
theorem hexN_lt (s:ByteArray) (i:Nat) : ∀ (k v:Nat),hexN s i k=some v→v < 16 ^ k
 | 0,v,h=>by injection h with h; omega
 | k+1,v,h=>by
  simp only[hexN,Option.bind_eq_some_iff,Option.map_eq_some_iff] at h
  obtain⟨u,hu,y,hy,rfl⟩:=h
  have:=hexN_lt s i k u hu
  have:=hx_lt hy
  rw[Nat.pow_succ]; omega
theorem hexN_next {s:ByteArray} {i k v h:Nat} (hv:hexN s i k=some v) (hh:hx (bt s (i+k))=some h) : hexN s i (k+1)=some (v*16+h):=by simp[hexN,hv,hh]
theorem hexN_bad {s:ByteArray} {i k:Nat} (hh:hx (bt s (i+k))=none) : hexN s i (k+1)=none:=by simp[hexN,hh]
theorem hexN_none {s:ByteArray} {i k m:Nat} (h:hexN s i k=none) (hm:k≤m) : hexN s i m=none:=by
 induction m with
 | zero => have : k = 0 := by omega
           subst this; exact h
 | succ m ih=>
  rcases Nat.lt_or_ge m k with g | g
  ·have:k=m+1:=by omega
   subst this; exact h
  ·simp[hexN,ih g]
theorem hexN_in {s:ByteArray} {i k v:Nat} (h:hexN s i (k+1)=some v) : i+k < s.size:=by
 refine bt_in fun e=>?_
 have:=hexN_bad (s:=s) (i:=i) (k:=k) (by rw[e]; rfl)
 rw[this] at h; cases h
def smp (b:Nat) : Option Nat:=if b=34 then some 34 else if b=92 then some 92 else if b=47 then some 47 else if b=98 then some 8 else if b=102 then some 12 else if b=110 then some 10 else if b=114 then some 13 else if b=116 then some 9 else none
theorem smp_lt {b v:Nat} (h:smp b=some v) : v < 128:=by
 unfold smp at h
 repeat' split at h
 all_goals first | (injection h with h; omega) | cases h
def unit (s:ByteArray) (i:Nat) : Option Nat:=if bt s i=92∧bt s (i+1)=117 then hexN s (i+2) 4 else none
theorem unit_lt {s:ByteArray} {i u:Nat} (h:unit s i=some u) : u < 65536:=by
 unfold unit at h; split at h
 ·exact hexN_lt s (i+2) 4 u h
 ·cases h
theorem unit_in {s:ByteArray} {i u:Nat} (h:unit s i=some u) : i+6≤s.size:=by
 unfold unit at h; split at h
 ·have:=hexN_in h; omega
 ·cases h
def escU (s:ByteArray) (i u:Nat) : Option (Nat×Nat):=
 if u < 55296∨57344≤u then some (u,6) else if 56320≤u then none else
 (unit s (i+6)).bind fun v=>if 56320≤v∧v < 57344 then some (65536+(u - 55296)*1024+(v - 56320),12) else none
def escP (s:ByteArray) (i:Nat) : Option (Nat×Nat):=
 match smp (bt s (i+1)) with
 | some v=>some (v,2)
 | none=>(unit s i).bind (escU s i)
def piece (s:ByteArray) (i:Nat) : Option (Nat×Nat):=
 if bt s i=92 then escP s i else if bt s i < 32 then none else if bt s i < 128 then some (bt s i,1)
 else if rl s i=0 then none else some ((Utf8.decode s i).1,rl s i)
theorem escU_ok {s:ByteArray} {i u r n:Nat} (hu:u < 65536) (hi:i+6≤s.size) (h:escU s i u=some (r,n)) : i+n≤s.size∧1≤n∧r≤1114111∧(r < 55296∨57344≤r):=by
 unfold escU at h
 split at h
 ·injection h with h; injection h with h1 h2; omega
 ·split at h
  ·cases h
  ·simp only[Option.bind_eq_some_iff] at h
   obtain⟨v,hv,h⟩:=h
   have:=unit_in hv
   split at h
   ·injection h with h; injection h with h1 h2; omega
   ·cases h
theorem bt_simple {s:ByteArray} {i v:Nat} (h:smp (bt s i)=some v) : i < s.size:=bt_in fun e=>by rw[e] at h; cases h
theorem escP_ok {s:ByteArray} {i r n:Nat} (h:escP s i=some (r,n)) : i+n≤s.size∧1≤n∧r≤1114111∧(r < 55296∨57344≤r):=by
 unfold escP at h
 split at h
 ·rename_i v hv
  injection h with h; injection h with h1 h2
  have:=bt_simple hv
  have:=smp_lt hv
  omega
 ·simp only[Option.bind_eq_some_iff] at h
  obtain⟨u,hu,h⟩:=h
  exact escU_ok (unit_lt hu) (unit_in hu) h
theorem utf_enc {r:Nat} (h:r≤1114111) (h':r < 55296∨57344≤r) : utf r=Lib.encodeRune (r:Int):=by
 unfold utf utfZ Lib.encodeRune
 split
 ·rw[Lib.encodeRuneZ_one (by omega) (by omega)]
  simp only[List.map_cons,List.map_nil,List.cons.injEq,and_true]
  exact (toU8 _ _ (by rw[UInt8.toNat_ofNat']; omega)).symm
 ·split
  ·rw[Lib.encodeRuneZ_two (by omega) (by omega)]
   simp only[List.map_cons,List.map_nil]
   rw[toU8 (UInt8.ofNat (192+r / 64)) _ (by rw[UInt8.toNat_ofNat']; omega),toU8 (UInt8.ofNat (128+r % 64)) _ (by rw[UInt8.toNat_ofNat']; omega)]
  ·split
   ·rw[Lib.encodeRuneZ_three (by omega)]
    simp only[List.map_cons,List.map_nil]
    rw[toU8 (UInt8.ofNat (224+r / 4096)) _ (by rw[UInt8.toNat_ofNat']; omega),toU8 (UInt8.ofNat (128+r / 64 % 64)) _ (by rw[UInt8.toNat_ofNat']; omega),toU8 (UInt8.ofNat (128+r % 64)) _ (by rw[UInt8.toNat_ofNat']; omega)]
   ·rw[Lib.encodeRuneZ_four (by omega) (by omega)]
    simp only[List.map_cons,List.map_nil]
    rw[toU8 (UInt8.ofNat (240+r / 262144)) _ (by rw[UInt8.toNat_ofNat']; omega),toU8 (UInt8.ofNat (128+r / 4096 % 64)) _ (by rw[UInt8.toNat_ofNat']; omega),toU8 (UInt8.ofNat (128+r / 64 % 64)) _ (by rw[UInt8.toNat_ofNat']; omega),toU8 (UInt8.ofNat (128+r % 64)) _ (by rw[UInt8.toNat_ofNat']; omega)]
def enc (r:Nat) : List UInt8:=Lib.encodeRune (r:Int)
theorem enc_le (r:Nat) : (enc r).length≤4:=by
 have:=Lib.encodeRuneZ_length r; simp[enc,Lib.encodeRune]; omega
theorem decode_le (s:ByteArray) (i:Nat) : (Utf8.decode s i).1≤1114111:=by
 rw[dec]; exact Lib.decodeN_rune_le _ _ _ _ _ (bt_lt s i)
theorem piece_ok {s:ByteArray} {i r n:Nat} (h:piece s i=some (r,n)) : i+n≤s.size∧1≤n∧r≤1114111:=by
 unfold piece at h
 split at h
 ·have:=escP_ok h; omega
 ·split at h
  ·cases h
  ·have hi:i < s.size:=bt_in (by omega)
   split at h
   ·injection h with h; injection h with h1 h2; omega
   ·split at h
    ·cases h
    ·injection h with h; injection h with h1 h2
     have:=rl_le s i hi
     have:=decode_le s i
     omega
theorem piece_out {s:ByteArray} {i:Nat} (h:s.size≤i) : piece s i=none:=by
 unfold piece; rw[bt_out s i h]; rfl
def strF (s:ByteArray) : Nat→Nat→Option (List UInt8×Nat)
 | 0,_=>none
 | f+1,i=>if bt s i=34 then some ([],i+1) else (piece s i).bind fun p=>(strF s f (i+p.2)).map fun q=>(enc p.1++q.1,q.2)
def strR (s:ByteArray) (i:Nat) : Option (List UInt8×Nat):=strF s (s.size+1 - i) i
theorem strF_past (s:ByteArray) (f i:Nat) (h:s.size≤i) : strF s f i=none:=by
 cases f with
 | zero=>rfl
 | succ f=>simp[strF,bt_out s i h,piece_out h]
theorem strF_same (s:ByteArray) : ∀ (f g i:Nat),s.size≤i+f→s.size≤i+g→strF s f i=strF s g i
 | 0,g,i,h,_=>by rw[strF_past s g i (by omega)]; rfl
 | f+1,0,i,_,h=>by rw[strF_past s (f+1) i (by omega)]; rfl
 | f+1,g+1,i,hf,hg=>by
  rw[strF,strF]
  split
  ·rfl
  ·cases hp:piece s i with
   | none=>rfl
   | some p=>
    obtain⟨r,n⟩:=p
    have:=piece_ok hp
    simp only[Option.bind_some]
    rw[strF_same s f g (i+n) (by omega) (by omega)]
theorem strR_eq (s:ByteArray) (i:Nat) : strR s i=if bt s i=34 then some ([],i+1) else (piece s i).bind fun p=>(strR s (i+p.2)).map fun q=>(enc p.1++q.1,q.2):=by
 unfold strR
 rw[strF_same s (s.size+1 - i) (s.size+1) i (by omega) (by omega),strF]
 split
 ·rfl
 ·cases hp:piece s i with
  | none=>rfl
  | some p=>
   obtain⟨r,n⟩:=p
   simp only[Option.bind_some]
   rw[strF_same s s.size (s.size+1 - (i+n)) (i+n) (by omega) (by omega)]
theorem strR_end {s:ByteArray} {i:Nat} (h:bt s i=34) : strR s i=some ([],i+1):=by rw[strR_eq,if_pos h]
theorem strR_go {s:ByteArray} {i r n:Nat} (h:bt s i≠34) (hp:piece s i=some (r,n)) : strR s i=(strR s (i+n)).map fun q=>(enc r++q.1,q.2):=by rw[strR_eq,if_neg h,hp]; rfl
theorem strR_bad {s:ByteArray} {i:Nat} (h:bt s i≠34) (hp:piece s i=none) : strR s i=none:=by rw[strR_eq,if_neg h,hp]; rfl
theorem strR_out {s:ByteArray} {i:Nat} (h:s.size≤i) : strR s i=none:=strR_bad (by rw[bt_out s i h]; decide) (piece_out h)
theorem escP_u {s:ByteArray} {i:Nat} (h0:bt s i=92) (h1:bt s (i+1)=117) : escP s i=(hexN s (i+2) 4).bind (escU s i):=by
 unfold escP unit
 rw[if_pos ⟨h0,h1⟩,h1]; rfl
theorem escP_s {s:ByteArray} {i b v:Nat} (h1:bt s (i+1)=b) (hv:smp b=some v) : escP s i=some (v,2):=by
 unfold escP
 rw[h1,hv]
theorem escP_n {s:ByteArray} {i b:Nat} (h1:bt s (i+1)=b) (hv:smp b=none) (hu:b≠117) : escP s i=none:=by
 unfold escP unit
 rw[h1,hv,if_neg (fun h=>hu h.2)]; rfl
def strQ (s:ByteArray) (i:Nat) : Option (List UInt8×Nat):=if bt s i=34 then strR s (i+1) else none
def Post (rb:Nat) (s:ByteArray) (tb kt:Bool) (w:World) (o:Option (Value×Nat)) (e:Ending) (w':World) : Prop:=
 KB rb w w'∧o.elim (e=mis) fun p=>e = .returned p.1∧Rdr rb s p.2 tb kt w'
mutual
inductive JV where
 | nul | tt | ff
 | num (l:List UInt8)
 | str (l:List UInt8)
 | arr (l:JL)
 | obj (m:JM)
inductive JL where
 | nil
 | cons (v:JV) (r:JL)
inductive JM where
 | nil
 | cons (k:List UInt8) (v:JV) (r:JM)
end
def isDg (b:Nat) : Bool:=decide (48≤b) && decide (b≤57)
theorem isDg_iff {b:Nat} : isDg b=true↔48≤b∧b≤57:=by simp[isDg]
def dgF (s:ByteArray) : Nat→Nat→Nat
 | 0,i=>i
 | f+1,i=>if isDg (bt s i)=true then dgF s f (i+1) else i
def dg (s:ByteArray) (i:Nat) : Nat:=dgF s (s.size - i) i
theorem dg_on {s:ByteArray} {i:Nat} (h:isDg (bt s i)=true) : dg s i=dg s (i+1):=by
 have hi:i < s.size:=bt_in (by have:=isDg_iff.1 h; omega)
 unfold dg
 rw[show s.size - i=(s.size - (i+1))+1 by omega,dgF,if_pos h]
theorem dg_off {s:ByteArray} {i:Nat} (h:¬ isDg (bt s i)=true) : dg s i=i:=by
 unfold dg
 cases s.size - i with
 | zero=>rfl
 | succ f=>rw[dgF,if_neg h]
theorem dgF_le (s:ByteArray) : ∀ f i,i+f≤s.size→i≤dgF s f i∧dgF s f i≤i+f
 | 0,i,_=>⟨Nat.le_refl _,Nat.le_refl _⟩
 | f+1,i,h=>by
  rw[dgF]
  split
  ·have:=dgF_le s f (i+1) (by omega); omega
  ·omega
theorem dg_le {s:ByteArray} {i:Nat} (h:i≤s.size) : i≤dg s i∧dg s i≤s.size:=by
 have:=dgF_le s (s.size - i) i (by omega)
 unfold dg; omega
def cutB (s:ByteArray) (i j:Nat) : List UInt8:=(s.data.toList.drop i).take (j - i)
def nmD (s:ByteArray) (i:Nat) : Nat:=if bt s i=45 then i+1 else i
def nmE (s:ByteArray) (i:Nat) : Nat:=if bt s (nmD s i)=48 then nmD s i+1 else dg s (nmD s i)
def norm0 (l:List UInt8) : List UInt8:=if l=[45,48] then [48] else l
def nm (s:ByteArray) (i:Nat) : Option (List UInt8×Nat):=if isDg (bt s (nmD s i))=true then some (norm0 (cutB s i (nmE s i)),nmE s i) else none
theorem nm_ok {s:ByteArray} {i j:Nat} {l:List UInt8} (h:nm s i=some (l,j)) : i < j∧j≤s.size:=by
 unfold nm at h
 split at h
 ·rename_i hd
  injection h with h; injection h with h1 h2
  subst h2
  have hlt:nmD s i < s.size:=bt_in (by have:=isDg_iff.1 hd; omega)
  have hge:i≤nmD s i:=by unfold nmD; split <;> omega
  unfold nmE
  split
  ·omega
  ·rw[dg_on hd]
   have:=dg_le (s:=s) (i:=nmD s i+1) (by omega)
   omega
 ·cases h
theorem strR_ok {s:ByteArray} : ∀ {i j:Nat} {l:List UInt8},strR s i=some (l,j)→i < j∧j≤s.size:=by
 intro i
 generalize hn:s.size - i=n
 induction n using Nat.strongRecOn generalizing i with
 | _ n ih=>
  intro j l h
  by_cases h34:bt s i=34
  ·rw[strR_end h34] at h
   injection h with h; injection h with h1 h2
   have:=bt_in (s:=s) (i:=i) (by omega)
   omega
  ·cases hp:piece s i with
   | none=>rw[strR_bad h34 hp] at h; cases h
   | some p=>
    obtain⟨r,n'⟩:=p
    have hk:=piece_ok hp
    rw[strR_go h34 hp] at h
    rcases hq:strR s (i+n') with _ | ⟨l2,j2⟩
    ·rw[hq] at h; cases h
    ·rw[hq] at h
     injection h with h; injection h with h1 h2
     have:=ih (s.size - (i+n')) (by omega) rfl hq
     omega
theorem strQ_ok {s:ByteArray} {i j:Nat} {l:List UInt8} (h:strQ s i=some (l,j)) : i+1 < j∧j≤s.size:=by
 unfold strQ at h
 split at h
 ·have:=strR_ok h; omega
 ·cases h
def wNull (s:ByteArray) (i:Nat) : Bool:=bt s i == 110 && bt s (i+1) == 117 && bt s (i+2) == 108 && bt s (i+3) == 108
def wTrue (s:ByteArray) (i:Nat) : Bool:=bt s i == 116 && bt s (i+1) == 114 && bt s (i+2) == 117 && bt s (i+3) == 101
def wFalse (s:ByteArray) (i:Nat) : Bool:=bt s i == 102 && bt s (i+1) == 97 && bt s (i+2) == 108 && bt s (i+3) == 115 && bt s (i+4) == 101
mutual
def pv (s:ByteArray) : Nat→Nat→Option (JV×Nat)
 | 0,_=>none
 | f+1,i=>
  if bt s i=91 then (if bt s (sk s (i+1))=93 then some (.arr .nil,sk s (i+1)+1) else (pa s f (sk s (i+1))).map fun q=>(.arr q.1,q.2))
  else if bt s i=123 then (if bt s (sk s (i+1))=125 then some (.obj .nil,sk s (i+1)+1) else (po s f (sk s (i+1))).map fun q=>(.obj q.1,q.2))
  else if bt s i=34 then (strQ s i).map fun q=>(.str q.1,q.2)
  else if wNull s i=true then some (.nul,i+4)
  else if wTrue s i=true then some (.tt,i+4)
  else if wFalse s i=true then some (.ff,i+5)
  else (nm s i).map fun q=>(.num q.1,q.2)
def pa (s:ByteArray) : Nat→Nat→Option (JL×Nat)
 | 0,_=>none
 | f+1,i=>(pv s f i).bind fun q=>
  if bt s (sk s q.2)=93 then some (.cons q.1 .nil,sk s q.2+1)
  else if bt s (sk s q.2)=44 then (pa s f (sk s (sk s q.2+1))).map fun r=>(.cons q.1 r.1,r.2)
  else none
def po (s:ByteArray) : Nat→Nat→Option (JM×Nat)
 | 0,_=>none
 | f+1,i=>(strQ s i).bind fun k=>
  if bt s (sk s k.2)=58 then (pv s f (sk s (sk s k.2+1))).bind fun q=>
   if bt s (sk s q.2)=125 then some (.cons k.1 q.1 .nil,sk s q.2+1)
   else if bt s (sk s q.2)=44 then (po s f (sk s (sk s q.2+1))).map fun r=>(.cons k.1 q.1 r.1,r.2)
   else none
  else none
end
theorem sk_ge (s:ByteArray) (i:Nat) : i≤sk s i:=by
 rcases Nat.le_total i s.size with h | h
 ·exact (sk_le h).1
 ·rw[sk_past h]; exact Nat.le_refl _
theorem wNull_in {s:ByteArray} {i:Nat} (h:wNull s i=true) : i+4≤s.size:=by
 simp[wNull] at h
 have:=bt_in (s:=s) (i:=i+3) (by omega); omega
theorem wTrue_in {s:ByteArray} {i:Nat} (h:wTrue s i=true) : i+4≤s.size:=by
 simp[wTrue] at h
 have:=bt_in (s:=s) (i:=i+3) (by omega); omega
theorem wFalse_in {s:ByteArray} {i:Nat} (h:wFalse s i=true) : i+5≤s.size:=by
 simp[wFalse] at h
 have:=bt_in (s:=s) (i:=i+4) (by omega); omega
theorem p_ok (s:ByteArray) : ∀ f i,(∀ v j,pv s f i=some (v,j)→i < j∧j≤s.size)∧(∀ l j,pa s f i=some (l,j)→i < j∧j≤s.size)∧(∀ m j,po s f i=some (m,j)→i < j∧j≤s.size)
 | 0,i=>⟨fun v j h=>by simp[pv] at h,fun v j h=>by simp[pa] at h,fun v j h=>by simp[po] at h⟩
 | f+1,i=>by
  refine⟨fun v j h=>?_,fun l j h=>?_,fun m j h=>?_⟩
  ·rw[pv] at h
   have g:=sk_ge s (i+1)
   split at h
   ·split at h
    ·have:=bt_in (s:=s) (i:=sk s (i+1)) (by omega)
     injection h with h; injection h with _ h; omega
    ·simp only[Option.map_eq_some_iff] at h
     obtain⟨⟨l,k⟩,hk,h⟩:=h
     injection h with _ h
     have:=(p_ok s f (sk s (i+1))).2.1 l k hk
     simp only at h; omega
   ·split at h
    ·split at h
     ·have:=bt_in (s:=s) (i:=sk s (i+1)) (by omega)
      injection h with h; injection h with _ h; omega
     ·simp only[Option.map_eq_some_iff] at h
      obtain⟨⟨l,k⟩,hk,h⟩:=h
      injection h with _ h
      have:=(p_ok s f (sk s (i+1))).2.2 l k hk
      simp only at h; omega
    ·split at h
     ·simp only[Option.map_eq_some_iff] at h
      obtain⟨⟨l,k⟩,hk,h⟩:=h
      injection h with _ h
      have:=strQ_ok hk
      simp only at h; omega
     ·split at h
      ·rename_i hw
       have:=wNull_in hw
       injection h with h; injection h with _ h; omega
      ·split at h
       ·rename_i hw
        have:=wTrue_in hw
        injection h with h; injection h with _ h; omega
       ·split at h
        ·rename_i hw
         have:=wFalse_in hw
         injection h with h; injection h with _ h; omega
        ·simp only[Option.map_eq_some_iff] at h
         obtain⟨⟨l,k⟩,hk,h⟩:=h
         injection h with _ h
         have:=nm_ok hk
         simp only at h; omega
  ·rw[pa] at h
   simp only[Option.bind_eq_some_iff] at h
   obtain⟨⟨v,k⟩,hk,h⟩:=h
   have h1:=(p_ok s f i).1 v k hk
   have g1:=sk_ge s k
   simp only at h
   split at h
   ·have:=bt_in (s:=s) (i:=sk s k) (by omega)
    injection h with h; injection h with _ h; omega
   ·split at h
    ·simp only[Option.map_eq_some_iff] at h
     obtain⟨⟨l,n⟩,hn,h⟩:=h
     injection h with _ h
     have:=(p_ok s f _).2.1 l n hn
     have g2:=sk_ge s (sk s k+1)
     simp only at h; omega
    ·cases h
  ·rw[po] at h
   simp only[Option.bind_eq_some_iff] at h
   obtain⟨⟨key,a⟩,ha,h⟩:=h
   have h0:=strQ_ok ha
   simp only at h
   split at h
   ·simp only[Option.bind_eq_some_iff] at h
    obtain⟨⟨v,k⟩,hk,h⟩:=h
    have h1:=(p_ok s f _).1 v k hk
    have g0:=sk_ge s a
    have g3:=sk_ge s (sk s a+1)
    have g1:=sk_ge s k
    simp only at h
    split at h
    ·have:=bt_in (s:=s) (i:=sk s k) (by omega)
     injection h with h; injection h with _ h; omega
    ·split at h
     ·simp only[Option.map_eq_some_iff] at h
      obtain⟨⟨l,n⟩,hn,h⟩:=h
      injection h with _ h
      have:=(p_ok s f _).2.2 l n hn
      have g2:=sk_ge s (sk s k+1)
      simp only at h; omega
     ·cases h
   ·cases h
theorem p_same (s:ByteArray) : ∀ f g i,(2*(s.size - i)+1≤f→2*(s.size - i)+1≤g→pv s f i=pv s g i)∧(2*(s.size - i)+2≤f→2*(s.size - i)+2≤g→pa s f i=pa s g i∧po s f i=po s g i)
 | 0,g,i=>⟨fun h _=>by omega,fun h _=>by omega⟩
 | f+1,0,i=>⟨fun _ h=>by omega,fun _ h=>by omega⟩
 | f+1,g+1,i=>by
  refine⟨fun hf hg=>?_,fun hf hg=>⟨?_,?_⟩⟩
  ·rw[pv,pv]
   have g0:=sk_ge s (i+1)
   by_cases c1:bt s i=91
   ·have hi:=bt_in (s:=s) (i:=i) (by omega)
    rw[if_pos c1,if_pos c1,((p_same s f g (sk s (i+1))).2 (by omega) (by omega)).1]
   ·rw[if_neg c1,if_neg c1]
    by_cases c2:bt s i=123
    ·have hi:=bt_in (s:=s) (i:=i) (by omega)
     rw[if_pos c2,if_pos c2,((p_same s f g (sk s (i+1))).2 (by omega) (by omega)).2]
    ·rw[if_neg c2,if_neg c2]
  ·rw[pa,pa,(p_same s f g i).1 (by omega) (by omega)]
   cases hk:pv s g i with
   | none=>rfl
   | some q=>
    obtain⟨v,k⟩:=q
    have h1:=(p_ok s g i).1 v k hk
    have g1:=sk_ge s k
    have g2:=sk_ge s (sk s k+1)
    simp only[Option.bind_some]
    rw[((p_same s f g (sk s (sk s k+1))).2 (by omega) (by omega)).1]
  ·rw[po,po]
   cases ha:strQ s i with
   | none=>rfl
   | some q=>
    obtain⟨key,a⟩:=q
    have h0:=strQ_ok ha
    have ga:=sk_ge s a
    have gb:=sk_ge s (sk s a+1)
    simp only[Option.bind_some]
    rw[(p_same s f g (sk s (sk s a+1))).1 (by omega) (by omega)]
    cases hk:pv s g (sk s (sk s a+1)) with
    | none=>rfl
    | some q=>
     obtain⟨v,k⟩:=q
     have h1:=(p_ok s g _).1 v k hk
     have g1:=sk_ge s k
     have g2:=sk_ge s (sk s k+1)
     simp only[Option.bind_some]
     rw[((p_same s f g (sk s (sk s k+1))).2 (by omega) (by omega)).2]
def val (s:ByteArray) (i:Nat) : Option (JV×Nat):=pv s (2*(s.size - i)+1) i
def elems (s:ByteArray) (i:Nat) : Option (JL×Nat):=pa s (2*(s.size - i)+2) i
def mems (s:ByteArray) (i:Nat) : Option (JM×Nat):=po s (2*(s.size - i)+2) i
theorem val_ok {s:ByteArray} {i j:Nat} {v:JV} (h:val s i=some (v,j)) : i < j∧j≤s.size:=(p_ok s _ i).1 v j h
theorem val_arr {s:ByteArray} {i:Nat} (h:bt s i=91) : val s i=if bt s (sk s (i+1))=93 then some (.arr .nil,sk s (i+1)+1) else (elems s (sk s (i+1))).map fun q=>(.arr q.1,q.2):=by
 have hi:=bt_in (s:=s) (i:=i) (by omega)
 have g:=sk_ge s (i+1)
 unfold val elems
 rw[pv,if_pos h,((p_same s (2*(s.size - i)) (2*(s.size - sk s (i+1))+2) (sk s (i+1))).2 (by omega) (by omega)).1]
theorem val_obj {s:ByteArray} {i:Nat} (h:bt s i=123) : val s i=if bt s (sk s (i+1))=125 then some (.obj .nil,sk s (i+1)+1) else (mems s (sk s (i+1))).map fun q=>(.obj q.1,q.2):=by
 have hi:=bt_in (s:=s) (i:=i) (by omega)
 have g:=sk_ge s (i+1)
 unfold val mems
 rw[pv,if_neg (by omega),if_pos h,((p_same s (2*(s.size - i)) (2*(s.size - sk s (i+1))+2) (sk s (i+1))).2 (by omega) (by omega)).2]
theorem val_str {s:ByteArray} {i:Nat} (h:bt s i=34) : val s i=(strQ s i).map fun q=>(.str q.1,q.2):=by
 unfold val
 rw[pv,if_neg (by omega),if_neg (by omega),if_pos h]
theorem val_else {s:ByteArray} {i:Nat} (h1:bt s i≠91) (h2:bt s i≠123) (h3:bt s i≠34) : val s i =
  if wNull s i=true then some (.nul,i+4) else if wTrue s i=true then some (.tt,i+4) else if wFalse s i=true then some (.ff,i+5) else (nm s i).map fun q=>(.num q.1,q.2):=by
 unfold val
 rw[pv,if_neg h1,if_neg h2,if_neg h3]
theorem elems_eq (s:ByteArray) (i:Nat) : elems s i=(val s i).bind fun q=>
  if bt s (sk s q.2)=93 then some (.cons q.1 .nil,sk s q.2+1)
  else if bt s (sk s q.2)=44 then (elems s (sk s (sk s q.2+1))).map fun r=>(.cons q.1 r.1,r.2)
  else none:=by
 have e:elems s i=pa s (2*(s.size - i)+1+1) i:=rfl
 rw[e,pa]
 show (val s i).bind _=_
 cases hk:val s i with
 | none=>rfl
 | some q=>
  obtain⟨v,k⟩:=q
  have h1:=val_ok hk
  have g1:=sk_ge s k
  have g2:=sk_ge s (sk s k+1)
  simp only[Option.bind_some]
  rw[show elems s (sk s (sk s k+1))=pa s (2*(s.size - i)+1) (sk s (sk s k+1)) from ((p_same s _ _ _).2 (by omega) (by omega)).1]
theorem mems_eq (s:ByteArray) (i:Nat) : mems s i=(strQ s i).bind fun k=>
  if bt s (sk s k.2)=58 then (val s (sk s (sk s k.2+1))).bind fun q=>
   if bt s (sk s q.2)=125 then some (.cons k.1 q.1 .nil,sk s q.2+1)
   else if bt s (sk s q.2)=44 then (mems s (sk s (sk s q.2+1))).map fun r=>(.cons k.1 q.1 r.1,r.2)
   else none
  else none:=by
 have e:mems s i=po s (2*(s.size - i)+1+1) i:=rfl
 rw[e,po]
 cases ha:strQ s i with
 | none=>rfl
 | some q=>
  obtain⟨key,a⟩:=q
  have h0:=strQ_ok ha
  have ga:=sk_ge s a
  have gb:=sk_ge s (sk s a+1)
  simp only[Option.bind_some]
  rw[show pv s (2*(s.size - i)+1) (sk s (sk s a+1))=val s (sk s (sk s a+1)) from (p_same s _ _ _).1 (by omega) (by omega)]
  cases hk:val s (sk s (sk s a+1)) with
  | none=>rfl
  | some q=>
   obtain⟨v,k⟩:=q
   have h1:=val_ok hk
   have g1:=sk_ge s k
   have g2:=sk_ge s (sk s k+1)
   simp only[Option.bind_some]
   rw[show mems s (sk s (sk s k+1))=po s (2*(s.size - i)+1) (sk s (sk s k+1)) from ((p_same s _ _ _).2 (by omega) (by omega)).2]
def insR (p:List UInt8×List UInt8) : List (List UInt8×List UInt8)→List (List UInt8×List UInt8)
 | []=>[p]
 | q :: r=>if p.1 < q.1 then q :: insR p r else p :: q :: r
def isort (l:List (List UInt8×List UInt8)) : List (List UInt8×List UInt8):=(l.foldl (fun acc p=>insR p acc) []).reverse
def memT (p:List UInt8×List UInt8) : List UInt8:=quoted p.1++58 :: p.2
def joinT:List (List UInt8)→List UInt8
 | []=>[]
 | t :: r=>44 :: (t++joinT r)
def joinC:List (List UInt8)→List UInt8
 | []=>[]
 | t :: r=>t++joinT r
def mkO (l:List (List UInt8×List UInt8)) : List UInt8:=123 :: (joinC (l.map memT)++[125])
def mkA (l:List (List UInt8)) : List UInt8:=91 :: (joinC l++[93])
theorem joinT_app (a b:List (List UInt8)) : joinT (a++b)=joinT a++joinT b:=by
 induction a with
 | nil=>rfl
 | cons t r ih=>simp[joinT,ih]
theorem joinC_snoc (a:List (List UInt8)) (t:List UInt8) : joinC (a++[t])=joinC a++(if a=[] then t else 44 :: t):=by
 cases a with
 | nil=>simp[joinC,joinT]
 | cons x r=>simp[joinC,joinT_app,joinT]
def lim0:List UInt8:=[57,50,50,51,51,55,50,48,51,54,56,53,52,55,55,53,56,48,55]
def lim1:List UInt8:=[57,50,50,51,51,55,50,48,51,54,56,53,52,55,55,53,56,48,56]
def over (d lim:List UInt8) : Bool:=if d.length≠19 then decide (19 < d.length) else (!Op.bytesLess d lim && !(d == lim))
def tooBig:List UInt8→Bool
 | []=>false
 | c :: r=>if c=45 then over r lim1 else over (c :: r) lim0
mutual
def ct:JV→List UInt8
 | .nul=>[110,117,108,108]
 | .tt=>[116,114,117,101]
 | .ff=>[102,97,108,115,101]
 | .num l=>l
 | .str l=>quoted l
 | .arr l=>mkA (ctL l)
 | .obj m=>mkO (isort (ctM m))
def ctL:JL→List (List UInt8)
 | .nil=>[]
 | .cons v r=>ct v :: ctL r
def ctM:JM→List (List UInt8×List UInt8)
 | .nil=>[]
 | .cons k v r=>(k,ct v) :: ctM r
end
mutual
def bigV:JV→Bool
 | .nul=>false
 | .tt=>false
 | .ff=>false
 | .num l=>tooBig l
 | .str _=>false
 | .arr l=>bigL l
 | .obj m=>bigM m
def bigL:JL→Bool
 | .nil=>false
 | .cons v r=>bigV v || bigL r
def bigM:JM→Bool
 | .nil=>false
 | .cons _ v r=>bigV v || bigM r
end
mutual
def twV:JV→Bool
 | .nul=>false
 | .tt=>false
 | .ff=>false
 | .num _=>false
 | .str _=>false
 | .arr l=>twL l
 | .obj m=>twM [] m
def twL:JL→Bool
 | .nil=>false
 | .cons v r=>twV v || twL r
def twM:List (List UInt8)→JM→Bool
 | _,.nil=>false
 | ks,.cons k v r=>(twV v || ks.contains k) || twM (ks++[k]) r
end
mutual
def depV:JV→Nat
 | .nul=>1
 | .tt=>1
 | .ff=>1
 | .num _=>1
 | .str _=>1
 | .arr l=>depL l+1
 | .obj m=>depM m+1
def depL:JL→Nat
 | .nil=>0
 | .cons v r=>max (depV v) (depL r)
def depM:JM→Nat
 | .nil=>0
 | .cons _ v r=>max (depV v) (depM r)
end
mutual
def cntV:JV→Nat
 | .nul=>1
 | .tt=>1
 | .ff=>1
 | .num _=>1
 | .str _=>1
 | .arr l=>cntL l+1
 | .obj m=>cntM m+1
def cntL:JL→Nat
 | .nil=>0
 | .cons v r=>cntV v+cntL r
def cntM:JM→Nat
 | .nil=>0
 | .cons _ v r=>cntV v+cntM r
end
def JL.app:JL→JL→JL
 | .nil,b=>b
 | .cons v r,b=>.cons v (r.app b)
def JM.app:JM→JM→JM
 | .nil,b=>b
 | .cons k v r,b=>.cons k v (r.app b)
theorem JL.app_assoc:∀ a b c:JL,(a.app b).app c=a.app (b.app c)
 | .nil,_,_=>rfl
 | .cons v r,b,c=>by simp[JL.app,JL.app_assoc r b c]
theorem JM.app_assoc:∀ a b c:JM,(a.app b).app c=a.app (b.app c)
 | .nil,_,_=>rfl
 | .cons k v r,b,c=>by simp[JM.app,JM.app_assoc r b c]
theorem JL.app_nil:∀ a:JL,a.app .nil=a
 | .nil=>rfl
 | .cons v r=>by simp[JL.app,JL.app_nil r]
theorem JM.app_nil:∀ a:JM,a.app .nil=a
 | .nil=>rfl
 | .cons k v r=>by simp[JM.app,JM.app_nil r]
theorem ctL_app:∀ a b:JL,ctL (a.app b)=ctL a++ctL b
 | .nil,b=>by simp[JL.app,ctL]
 | .cons v r,b=>by simp[JL.app,ctL,ctL_app r b]
theorem ctM_app:∀ a b:JM,ctM (a.app b)=ctM a++ctM b
 | .nil,b=>by simp[JM.app,ctM]
 | .cons k v r,b=>by simp[JM.app,ctM,ctM_app r b]
theorem bigL_app:∀ a b:JL,bigL (a.app b)=(bigL a || bigL b)
 | .nil,b=>by simp[JL.app,bigL]
 | .cons v r,b=>by simp[JL.app,bigL,bigL_app r b,Bool.or_assoc]
theorem bigM_app:∀ a b:JM,bigM (a.app b)=(bigM a || bigM b)
 | .nil,b=>by simp[JM.app,bigM]
 | .cons k v r,b=>by simp[JM.app,bigM,bigM_app r b,Bool.or_assoc]
theorem twL_app:∀ a b:JL,twL (a.app b)=(twL a || twL b)
 | .nil,b=>by simp[JL.app,twL]
 | .cons v r,b=>by simp[JL.app,twL,twL_app r b,Bool.or_assoc]
def keysM:JM→List (List UInt8)
 | .nil=>[]
 | .cons k _ r=>k :: keysM r
theorem keysM_app:∀ a b:JM,keysM (a.app b)=keysM a++keysM b
 | .nil,b=>by simp[JM.app,keysM]
 | .cons k v r,b=>by simp[JM.app,keysM,keysM_app r b]
theorem twM_app:∀ (ks:List (List UInt8)) (a b:JM),twM ks (a.app b)=(twM ks a || twM (ks++keysM a) b)
 | ks,.nil,b=>by simp[JM.app,twM,keysM]
 | ks,.cons k v r,b=>by simp[JM.app,twM,keysM,twM_app (ks++[k]) r b,Bool.or_assoc]
theorem ctM_keys:∀ a:JM,(ctM a).map (·.1)=keysM a
 | .nil=>rfl
 | .cons k v r=>by simp[ctM,keysM,ctM_keys r]
theorem bt_drop (s:ByteArray) (i k:Nat) : bt s (i+k)=((s.data.toList.drop i).getD k 0).toNat:=by
 unfold bt; rw[List.getD_eq_getElem?_getD,List.getD_eq_getElem?_getD,List.getElem?_drop]
theorem drop_size {s:ByteArray} {i:Nat} {m:List UInt8} (h:s.data.toList.drop i=m) (hm:m≠[]) : s.size=i+m.length:=by
 have h1:(s.data.toList.drop i).length=m.length:=by rw[h]
 have h2:0 < m.length:=List.length_pos_iff.2 hm
 rw[List.length_drop,data_len] at h1
 omega
theorem hx_hexs:∀ k:Fin 16,hx (hexs.getD k.val 0).toNat=some k.val:=by decide
theorem enc_lo {r:Nat} (h:r < 128) : enc r=[UInt8.ofNat r]:=by
 unfold enc; rw[← utf_enc (by omega) (by omega)]; unfold utf utfZ; rw[if_pos h]; rfl
theorem piece_esc {T:ByteArray} {i:Nat} {c x:UInt8} {m:List UInt8} (hq:qB c=[92,x]) (hs:smp x.toNat=some c.toNat) (h:T.data.toList.drop i=qB c++m) :
  bt T i≠34∧piece T i=some (c.toNat,(qB c).length):=by
 have b0:=bt_drop T i 0
 have b1:=bt_drop T i 1
 rw[h,hq] at b0 b1
 change bt T i=92 at b0
 change bt T (i+1)=x.toNat at b1
 refine⟨by omega,?_⟩
 unfold piece
 rw[if_pos b0,escP_s b1 hs,hq]; rfl
theorem piece_ctl {T:ByteArray} {i:Nat} {c:UInt8} {m:List UInt8} (hc:Ctl c.toNat) (h:T.data.toList.drop i=qB c++m) :
  bt T i≠34∧piece T i=some (c.toNat,(qB c).length):=by
 have hq:=q_ctl hc
 have hlt:=hc.1
 have x1:=hx_hexs ⟨c.toNat / 16,by omega⟩
 have x2:=hx_hexs ⟨c.toNat % 16,by omega⟩
 simp only at x1 x2
 generalize hexs.getD (c.toNat / 16) 0=a at *
 generalize hexs.getD (c.toNat % 16) 0=b at *
 have b0:=bt_drop T i 0
 have b1:=bt_drop T i 1
 have b2:=bt_drop T i 2
 have b3:=bt_drop T i 3
 have b4:=bt_drop T i 4
 have b5:=bt_drop T i 5
 rw[h,hq] at b0 b1 b2 b3 b4 b5
 change bt T i=92 at b0
 change bt T (i+1)=117 at b1
 change bt T (i+2)=48 at b2
 change bt T (i+3)=48 at b3
 change bt T (i+4)=a.toNat at b4
 change bt T (i+5)=b.toNat at b5
 have e:hexN T (i+2) 4=some ((((0*16+0)*16+0)*16+c.toNat / 16)*16+c.toNat % 16):=by
  refine hexN_next (hexN_next (hexN_next (hexN_next rfl ?_) ?_) ?_) ?_
  ·show hx (bt T (i+2))=_
   rw[b2]; rfl
  ·show hx (bt T (i+3))=_
   rw[b3]; rfl
  ·show hx (bt T (i+4))=_
   rw[b4]; exact x1
  ·show hx (bt T (i+5))=_
   rw[b5]; exact x2
 refine⟨by omega,?_⟩
 unfold piece
 rw[if_pos b0,escP_u b0 b1,e,hq]
 show escU T i _=_
 unfold escU
 rw[if_pos (by omega)]
 congr 2
 omega
theorem piece_q {T:ByteArray} {i:Nat} {c:UInt8} {m:List UInt8} (hc:c.toNat < 128) (h:T.data.toList.drop i=qB c++m) :
  bt T i≠34∧piece T i=some (c.toNat,(qB c).length):=by
 by_cases e1:c.toNat=34
 ·exact piece_esc (q_esc (by omega)) (by rw[e1]; rfl) h
 by_cases e2:c.toNat=92
 ·exact piece_esc (q_esc (by omega)) (by rw[e2]; rfl) h
 by_cases e3:c.toNat=8
 ·exact piece_esc (q_8 (by omega)) (by rw[e3]; rfl) h
 by_cases e4:c.toNat=9
 ·exact piece_esc (q_9 (by omega)) (by rw[e4]; rfl) h
 by_cases e5:c.toNat=10
 ·exact piece_esc (q_10 (by omega)) (by rw[e5]; rfl) h
 by_cases e6:c.toNat=12
 ·exact piece_esc (q_12 (by omega)) (by rw[e6]; rfl) h
 by_cases e7:c.toNat=13
 ·exact piece_esc (q_13 (by omega)) (by rw[e7]; rfl) h
 by_cases e8:c.toNat < 32
 ·exact piece_ctl ⟨e8,e3,e4,e5,e6,e7⟩ h
 have hq:=q_lit e1 e2 (by omega)
 have b0:=bt_drop T i 0
 rw[h,hq] at b0
 change bt T i=c.toNat at b0
 refine⟨by omega,?_⟩
 unfold piece
 rw[if_neg (by omega),if_neg (by omega),if_pos (by omega),b0,hq]; rfl
theorem take_getD (l:List UInt8) (n k:Nat) (m:List UInt8) (h:k < n) (hn:n≤l.length) : (l.take n++m).getD k 0=l.getD k 0:=by
 rw[List.getD_eq_getElem?_getD,List.getD_eq_getElem?_getD,List.getElem?_append_left (by rw[List.length_take]; omega),List.getElem?_take_of_lt h]
theorem rl_same {s T:ByteArray} {i j:Nat} {m:List UInt8} (hi:i < s.size) (h8:¬ s[i].toNat < 128) (hr:¬ rl s i=0) (h:T.data.toList.drop j=(s.data.toList.drop i).take (rl s i)++m) : rl T j=rl s i:=by
 have hle:=rl_le s i hi
 have hlen:(s.data.toList.drop i).length=s.size - i:=by rw[List.length_drop,data_len]
 have hb:∀ k,k < rl s i→bt T (j+k)=bt s (i+k):=fun k hk=>by
  rw[bt_drop,bt_drop,h,take_getD _ _ _ _ hk (by omega)]
 have hn:rl s i≤T.size - j:=by
  have h1:=drop_size h (by
   intro e
   have:=congrArg List.length e
   rw[List.length_append,List.length_take,hlen] at this
   simp at this; omega)
  rw[List.length_append,List.length_take,hlen] at h1
  omega
 have hb0:=bt_at s i hi
 have h192:192≤bt s i:=by
  rcases Nat.lt_or_ge (bt s i) 192 with g | g
  ·exact absurd (show rl s i=0 by unfold rl; rw[rlN_cont (by omega) g]) hr
  ·exact g
 have hT0:=hb 0 (by omega)
 rw[Nat.add_zero,Nat.add_zero] at hT0
 have l1:=bt_lt s (i+1)
 have l2:=bt_lt s (i+2)
 have l3:=bt_lt s (i+3)
 by_cases h2:bt s i < 224
 ·have e:=rlN_2 (n:=s.size - i) (b0:=bt s i) (b1:=bt s (i+1)) (b2:=bt s (i+2)) (b3:=bt s (i+3)) h192 h2 l1
  have e':=rlN_2 (n:=T.size - j) (b0:=bt T j) (b1:=bt T (j+1)) (b2:=bt T (j+2)) (b3:=bt T (j+3)) (by omega) (by omega) (bt_lt _ _)
  change rl s i=_ at e
  change rl T j=_ at e'
  split at e
  ·rename_i hc
   have x1:=hb 1 (by omega)
   rw[e',e,if_pos (by rw[hT0,x1]; omega)]
  ·omega
 by_cases h3:bt s i < 240
 ·have e:=rlN_3 (n:=s.size - i) (b0:=bt s i) (b1:=bt s (i+1)) (b2:=bt s (i+2)) (b3:=bt s (i+3)) (by omega) h3 l1 l2
  have e':=rlN_3 (n:=T.size - j) (b0:=bt T j) (b1:=bt T (j+1)) (b2:=bt T (j+2)) (b3:=bt T (j+3)) (by omega) (by omega) (bt_lt _ _) (bt_lt _ _)
  change rl s i=_ at e
  change rl T j=_ at e'
  split at e
  ·rename_i hc
   have x1:=hb 1 (by omega)
   have x2:=hb 2 (by omega)
   rw[e',e,if_pos (by rw[hT0,x1,x2]; omega)]
  ·omega
 ·have e:=rlN_4 (n:=s.size - i) (b0:=bt s i) (b1:=bt s (i+1)) (b2:=bt s (i+2)) (b3:=bt s (i+3)) (by omega) (bt_lt _ _) l1 l2 l3
  have e':=rlN_4 (n:=T.size - j) (b0:=bt T j) (b1:=bt T (j+1)) (b2:=bt T (j+2)) (b3:=bt T (j+3)) (by omega) (bt_lt _ _) (bt_lt _ _) (bt_lt _ _) (bt_lt _ _)
  change rl s i=_ at e
  change rl T j=_ at e'
  split at e
  ·rename_i hc
   have x1:=hb 1 (by omega)
   have x2:=hb 2 (by omega)
   have x3:=hb 3 (by omega)
   rw[e',e,if_pos (by rw[hT0,x1,x2,x3]; omega)]
  ·omega
theorem drop_past {l m n:List UInt8} {j:Nat} (h:l.drop j=m++n) : l.drop (j+m.length)=n:=by
 rw[← List.drop_drop,h,List.drop_left]
theorem bt_app0 (a l:List UInt8) (k:Nat) (h:k < a.length) : bt (strOf (a++l)) k=(a.getD k 0).toNat:=by
 unfold bt; rw[strOf_toList]
 simp only[List.getD]
 rw[List.getElem?_append_left h]
theorem ofNat_lt {n:Nat} (h:n < 256) : (UInt8.ofNat n).toNat=n:=by rw[UInt8.toNat_ofNat']; omega
theorem rl_utf (r:Nat) (h:r≤1114111) (h':r < 55296∨57344≤r) (l:List UInt8) : rl (strOf (utf r++l)) 0=(utf r).length∧0 < (utf r).length:=by
 have hz:(strOf (utf r++l)).size - 0=(utf r).length+l.length:=by rw[strOf_size,List.length_append]; omega
 unfold rl
 rw[hz]
 by_cases h1:r < 128
 ·have e:utf r=[UInt8.ofNat r]:=by unfold utf utfZ; rw[if_pos h1]; rfl
  rw[e]
  refine⟨?_,by simp⟩
  rw[bt_app0 _ _ 0 (by simp),rlN_one]
  ·rfl
  ·show (UInt8.ofNat r).toNat < 128
   rw[ofNat_lt (by omega)]; exact h1
 ·by_cases h2:r < 2048
  ·have e:utf r=[UInt8.ofNat (192+r / 64),UInt8.ofNat (128+r % 64)]:=by unfold utf utfZ; rw[if_neg h1,if_pos h2]; rfl
   rw[e]
   refine⟨?_,by simp⟩
   rw[bt_app0 _ _ 0 (by simp),bt_app0 _ _ (0+1) (by simp)]
   have b0:([UInt8.ofNat (192+r / 64),UInt8.ofNat (128+r % 64)].getD 0 0).toNat=192+r / 64:=ofNat_lt (by omega)
   have b1:([UInt8.ofNat (192+r / 64),UInt8.ofNat (128+r % 64)].getD (0+1) 0).toNat=128+r % 64:=ofNat_lt (by omega)
   rw[b0,b1,rlN_2 (by omega) (by omega) (by omega),if_pos (by simp only[List.length_cons,List.length_nil]; omega)]
   rfl
  ·by_cases h3:r < 65536
   ·have e:utf r=[UInt8.ofNat (224+r / 4096),UInt8.ofNat (128+r / 64 % 64),UInt8.ofNat (128+r % 64)]:=by unfold utf utfZ; rw[if_neg h1,if_neg h2,if_pos h3]; rfl
    rw[e]
    refine⟨?_,by simp⟩
    rw[bt_app0 _ _ 0 (by simp),bt_app0 _ _ (0+1) (by simp),bt_app0 _ _ (0+2) (by simp)]
    have b0:([UInt8.ofNat (224+r / 4096),UInt8.ofNat (128+r / 64 % 64),UInt8.ofNat (128+r % 64)].getD 0 0).toNat=224+r / 4096:=ofNat_lt (by omega)
    have b1:([UInt8.ofNat (224+r / 4096),UInt8.ofNat (128+r / 64 % 64),UInt8.ofNat (128+r % 64)].getD (0+1) 0).toNat=128+r / 64 % 64:=ofNat_lt (by omega)
    have b2:([UInt8.ofNat (224+r / 4096),UInt8.ofNat (128+r / 64 % 64),UInt8.ofNat (128+r % 64)].getD (0+2) 0).toNat=128+r % 64:=ofNat_lt (by omega)
    rw[b0,b1,b2,rlN_3 (by omega) (by omega) (by omega) (by omega),if_pos (by simp only[List.length_cons,List.length_nil]; omega)]
    rfl
   ·have e:utf r=[UInt8.ofNat (240+r / 262144),UInt8.ofNat (128+r / 4096 % 64),UInt8.ofNat (128+r / 64 % 64),UInt8.ofNat (128+r % 64)]:=by unfold utf utfZ; rw[if_neg h1,if_neg h2,if_neg h3]; rfl
    rw[e]
    refine⟨?_,by simp⟩
    rw[bt_app0 _ _ 0 (by simp),bt_app0 _ _ (0+1) (by simp),bt_app0 _ _ (0+2) (by simp),bt_app0 _ _ (0+3) (by simp)]
    have b0:([UInt8.ofNat (240+r / 262144),UInt8.ofNat (128+r / 4096 % 64),UInt8.ofNat (128+r / 64 % 64),UInt8.ofNat (128+r % 64)].getD 0 0).toNat=240+r / 262144:=ofNat_lt (by omega)
    have b1:([UInt8.ofNat (240+r / 262144),UInt8.ofNat (128+r / 4096 % 64),UInt8.ofNat (128+r / 64 % 64),UInt8.ofNat (128+r % 64)].getD (0+1) 0).toNat=128+r / 4096 % 64:=ofNat_lt (by omega)
    have b2:([UInt8.ofNat (240+r / 262144),UInt8.ofNat (128+r / 4096 % 64),UInt8.ofNat (128+r / 64 % 64),UInt8.ofNat (128+r % 64)].getD (0+2) 0).toNat=128+r / 64 % 64:=ofNat_lt (by omega)
    have b3:([UInt8.ofNat (240+r / 262144),UInt8.ofNat (128+r / 4096 % 64),UInt8.ofNat (128+r / 64 % 64),UInt8.ofNat (128+r % 64)].getD (0+3) 0).toNat=128+r % 64:=ofNat_lt (by omega)
    rw[b0,b1,b2,b3,rlN_4 (by omega) (by omega) (by omega) (by omega) (by omega),if_pos (by simp only[List.length_cons,List.length_nil]; omega)]
    rfl
theorem valid_front {a l:List UInt8} (h0:0 < a.length) (h:rl (strOf (a++l)) 0=a.length) : Lib.validD (a++l)=Lib.validD l:=by
 have:=valid_go (strOf (a++l)) 0 (by rw[strOf_size,List.length_append]; omega) (by rw[h]; omega)
 rw[strOf_toList,h,Nat.zero_add,List.drop_zero,List.drop_left] at this
 exact this
theorem piece_valid {s:ByteArray} {i r n:Nat} (h:piece s i=some (r,n)) (l:List UInt8) : Lib.validD (enc r++l)=Lib.validD l:=by
 have fin:r≤1114111→(r < 55296∨57344≤r)→Lib.validD (enc r++l)=Lib.validD l:=fun h1 h2=>by
  have e:enc r=utf r:=(utf_enc h1 h2).symm
  rw[e]
  obtain⟨a,b⟩:=rl_utf r h1 h2 l
  exact valid_front b a
 unfold piece at h
 split at h
 ·have:=escP_ok h; exact fin this.2.2.1 this.2.2.2
 ·split at h
  ·cases h
  ·have hi:i < s.size:=bt_in (by omega)
   split at h
   ·injection h with h; injection h with h1 h2
    exact fin (by omega) (by omega)
   ·rename_i h8
    split at h
    ·cases h
    ·rename_i hr
     injection h with h; injection h with h1 h2
     have h8':¬ s[i].toNat < 128:=by rw[← bt_at s i hi]; exact h8
     obtain⟨g1,g2,g3,g4⟩:=enc_multi s i hi hr h8'
     have e:enc r=(s.data.toList.drop i).take (rl s i):=by unfold enc; rw[← h1]; exact g1
     have hle:=rl_le s i hi
     have hlen:((s.data.toList.drop i).take (rl s i)).length=rl s i:=by rw[List.length_take,List.length_drop,data_len]; omega
     rw[e]
     refine valid_front (by omega) ?_
     rw[hlen]
     exact rl_same (m:=l) hi h8' hr (by rw[strOf_toList,List.drop_zero])
theorem strR_valid {s:ByteArray} : ∀ {i j:Nat} {l:List UInt8},strR s i=some (l,j)→Lib.validD l=true:=by
 intro i
 generalize hn:s.size - i=n
 induction n using Nat.strongRecOn generalizing i with
 | _ n ih=>
  intro j l h
  by_cases h34:bt s i=34
  ·rw[strR_end h34] at h
   injection h with h; injection h with h1 h2
   subst h1; rfl
  ·cases hp:piece s i with
   | none=>rw[strR_bad h34 hp] at h; cases h
   | some p=>
    obtain⟨r,n'⟩:=p
    have hk:=piece_ok hp
    rw[strR_go h34 hp] at h
    rcases hq:strR s (i+n') with _ | ⟨l2,j2⟩
    ·rw[hq] at h; cases h
    ·rw[hq] at h
     injection h with h; injection h with h1 h2
     simp only at h1
     rw[← h1,piece_valid hp]
     exact ih (s.size - (i+n')) (by omega) rfl hq
theorem strQ_valid {s:ByteArray} {i j:Nat} {l:List UInt8} (h:strQ s i=some (l,j)) : Lib.validD l=true:=by
 unfold strQ at h
 split at h
 ·exact strR_valid h
 ·cases h
theorem drop_size2 {s:ByteArray} {i:Nat} {m:List UInt8} (h:s.data.toList.drop i=m) (hm:m≠[]) : i < s.size:=by
 have:=drop_size h hm
 have:0 < m.length:=by cases m with
  | nil=>exact absurd rfl hm
  | cons _ _=>simp
 omega
theorem str_at (s T:ByteArray) (m:List UInt8) : ∀ (f pos:Nat),s.size≤pos+f→Lib.validD (s.data.toList.drop pos)=true→∀ j,T.data.toList.drop j=qs (s.data.toList.drop pos)++34 :: m→strR T j=some (s.data.toList.drop pos,j+(qs (s.data.toList.drop pos)).length+1)
 | f,pos,h,hv,j,hj=>by
  by_cases hp:pos < s.size
  ·cases f with
   | zero=>omega
   | succ f=>
    have hr:¬ rl s pos=0:=fun e=>by rw[valid_bad s pos hp e] at hv; cases hv
    have hv2:=hv
    rw[valid_go s pos hp hr] at hv2
    by_cases h8:s[pos].toNat < 128
    ·have e1:rl s pos=1:=by unfold rl; rw[rlN_one (by rw[bt_at s pos hp]; exact h8)]
     rw[e1] at hv2
     have hq:T.data.toList.drop j=qB s[pos]++(qs (s.data.toList.drop (pos+1))++34 :: m):=by
      rw[hj,drop_at s pos hp]; simp[qs]
     obtain⟨p1,p2⟩:=piece_q h8 hq
     have ih:=str_at s T m f (pos+1) (by omega) hv2 (j+(qB s[pos]).length) (drop_past hq)
     rw[strR_go p1 p2,ih,enc_lo h8,show UInt8.ofNat s[pos].toNat=s[pos] from UInt8.ofNat_toNat,drop_at s pos hp]
     have e2:(qs (s[pos] :: s.data.toList.drop (pos+1))).length=(qB s[pos]).length+(qs (s.data.toList.drop (pos+1))).length:=by simp[qs]
     rw[e2]
     simp only[Option.map_some,Option.some.injEq,Prod.mk.injEq]
     exact⟨rfl,by omega⟩
    ·obtain⟨g1,g2,g3,g4⟩:=enc_multi s pos hp hr h8
     have hsplit:=(List.take_append_drop (rl s pos) (s.data.toList.drop pos)).symm
     rw[List.drop_drop] at hsplit
     have hqs:qs (s.data.toList.drop pos)=(s.data.toList.drop pos).take (rl s pos)++qs (s.data.toList.drop (pos+rl s pos)):=by
      conv=>lhs; rw[hsplit]
      rw[qs_app,qs_high _ g2]
     have hq:T.data.toList.drop j=(s.data.toList.drop pos).take (rl s pos)++(qs (s.data.toList.drop (pos+rl s pos))++34 :: m):=by
      rw[hj,hqs,List.append_assoc]
     have hle:=rl_le s pos hp
     have hlen:((s.data.toList.drop pos).take (rl s pos)).length=rl s pos:=by rw[List.length_take,List.length_drop,data_len]; omega
     have hrl:=rl_same hp h8 hr hq
     have ih:=str_at s T m f (pos+rl s pos) (by omega) hv2 (j+rl s pos) (by have:=drop_past hq; rwa [hlen] at this)
     have hjT:j < T.size:=by
      have:=drop_size hq (by intro e; have:=congrArg List.length e; rw[List.length_append,hlen,List.length_nil] at this; omega)
      rw[List.length_append,hlen] at this; omega
     have b0:bt T j=bt s pos:=by
      have x:=bt_drop T j 0
      have y:=bt_drop s pos 0
      rw[Nat.add_zero] at x y
      rw[x,y,hq,take_getD _ _ _ _ (by omega) (by rw[List.length_drop,data_len]; omega)]
     have hb0:=bt_at s pos hp
     have b8:¬ T[j].toNat < 128:=by rw[← bt_at T j hjT]; omega
     obtain⟨k1,k2,k3,k4⟩:=enc_multi T j hjT (by rw[hrl]; exact hr) b8
     have hp2:piece T j=some ((Utf8.decode T j).1,rl s pos):=by
      unfold piece
      rw[if_neg (by omega),if_neg (by omega),if_neg (by omega),if_neg (by rw[hrl]; exact hr),hrl]
     rw[strR_go (by omega) hp2,ih]
     unfold enc
     rw[k1,hq,hrl,hqs]
     simp only[Option.map_some,Option.some.injEq,Prod.mk.injEq]
     refine⟨?_,by rw[List.length_append,hlen]; omega⟩
     conv=>rhs; rw[hsplit]
     rw[List.take_append_of_le_length (by omega),List.take_of_length_le (by omega)]
  ·rw[drop_end s pos hp] at hj ⊢
   have b0:=bt_drop T j 0
   rw[hj] at b0
   change bt T j=34 at b0
   rw[strR_end b0]
   rfl
theorem strQ_at (l:List UInt8) (T:ByteArray) (m:List UInt8) (hv:Lib.validD l=true) (j:Nat) (hj:T.data.toList.drop j=quoted l++m) : strQ T j=some (l,j+(quoted l).length):=by
 have hj':T.data.toList.drop j=34 :: (qs l++34 :: m):=by rw[hj]; simp[quoted]
 have b:bt T j=34:=by have:=bt_drop T j 0; rw[hj'] at this; exact this
 have h:=str_at (strOf l) T m l.length 0 (by rw[strOf_size]; omega) (by rw[strOf_toList]; exact hv) (j+1) (by
  have:=drop_past (m:=[34]) (n:=qs l++34 :: m) hj'
  rw[strOf_toList]; exact this)
 rw[strOf_toList,List.drop_zero] at h
 unfold strQ
 rw[if_pos b,h]
 have e:(quoted l).length=(qs l).length+2:=by simp[quoted]
 rw[e]
 congr 2
 omega
mutual
def okV:JV→Prop
 | .nul=>True
 | .tt=>True
 | .ff=>True
 | .num l=>∃ (c:UInt8) (r:List UInt8),l=c :: r∧(c.toNat=45∨isDg c.toNat=true)∧∀ b∈r,isDg b.toNat=true
 | .str l=>Lib.validD l=true
 | .arr l=>okL l
 | .obj m=>okM m
def okL:JL→Prop
 | .nil=>True
 | .cons v r=>okV v∧okL r
def okM:JM→Prop
 | .nil=>True
 | .cons k v r=>Lib.validD k=true∧okV v∧okM r
end
theorem dgF_all (s:ByteArray) : ∀ f i k,i≤k→k < dgF s f i→isDg (bt s k)=true
 | 0,i,k,h1,h2=>by simp[dgF] at h2; omega
 | f+1,i,k,h1,h2=>by
  rw[dgF] at h2
  split at h2
  ·rename_i hd
   by_cases e:k=i
   ·subst e; exact hd
   ·exact dgF_all s f (i+1) k (by omega) h2
  ·omega
theorem dg_all {s:ByteArray} {i k:Nat} (h1:i≤k) (h2:k < dg s i) : isDg (bt s k)=true:=dgF_all s _ i k h1 h2
theorem cutB_at {s:ByteArray} {i j:Nat} {c:UInt8} (h:c∈cutB s i j) : ∃ k,i≤k∧k < j∧c.toNat=bt s k:=by
 unfold cutB at h
 obtain⟨n,hn,rfl⟩:=List.getElem_of_mem h
 rw[List.length_take,List.length_drop] at hn
 refine⟨i+n,by omega,by omega,?_⟩
 unfold bt
 rw[data_len] at hn
 have hk:i+n < s.data.size:=by show i+n < s.size; omega
 simp only[List.getD,List.getElem_take,List.getElem_drop,Array.getElem_toList,Array.getElem?_toList]
 rw[Array.getElem?_eq_getElem hk]
 rfl
theorem cutB_head {s:ByteArray} {i j:Nat} (h:i < j) (hi:i < s.size) : cutB s i j=s.data.toList.getD i 0 :: cutB s (i+1) j:=by
 unfold cutB
 rw[drop_at s i hi,show j - i=(j - (i+1))+1 by omega,List.take_succ_cons]
 congr 1
 rw[List.getD,List.getElem?_eq_getElem (by rw[data_len]; exact hi)]
 rfl
theorem nm_form {s:ByteArray} {i j:Nat} {l:List UInt8} (h:nm s i=some (l,j)) : ∃ (c:UInt8) (r:List UInt8),l=c :: r∧(c.toNat=45∨isDg c.toNat=true)∧∀ b∈r,isDg b.toNat=true:=by
 have hok:=nm_ok h
 unfold nm at h
 split at h
 ·rename_i hd
  injection h with h; injection h with h1 h2
  have hlt:nmD s i < s.size:=bt_in (by have:=isDg_iff.1 hd; omega)
  have hge:i≤nmD s i:=by unfold nmD; split <;> omega
  have hall:∀ k,nmD s i≤k→k < nmE s i→isDg (bt s k)=true:=fun k h1 h2=>by
   unfold nmE at h2
   split at h2
   ·have:k=nmD s i:=by omega
    rw[this]; exact hd
   ·exact dg_all h1 h2
  have hraw:∃ (c:UInt8) (r:List UInt8),cutB s i (nmE s i)=c :: r∧(c.toNat=45∨isDg c.toNat=true)∧∀ b∈r,isDg b.toNat=true:=by
   refine⟨_,_,cutB_head (by omega) (by omega),?_,fun b hb=>?_⟩
   ·by_cases h45:bt s i=45
    ·exact .inl h45
    ·right
     have e:nmD s i=i:=by unfold nmD; rw[if_neg h45]
     rw[e] at hd; exact hd
   ·obtain⟨k,k1,k2,k3⟩:=cutB_at hb
    rw[k3]
    refine hall k ?_ k2
    unfold nmD; split <;> omega
  unfold norm0 at h1
  split at h1
  ·exact⟨48,[],h1.symm,.inr rfl,fun b hb=>by simp at hb⟩
  ·obtain⟨c,r,e,a,b⟩:=hraw
   exact⟨c,r,by rw[← h1,e],a,b⟩
 ·cases h
theorem p_okV (s:ByteArray) : ∀ f i,(∀ v j,pv s f i=some (v,j)→okV v)∧(∀ l j,pa s f i=some (l,j)→okL l)∧(∀ m j,po s f i=some (m,j)→okM m)
 | 0,i=>⟨fun v j h=>by simp[pv] at h,fun v j h=>by simp[pa] at h,fun v j h=>by simp[po] at h⟩
 | f+1,i=>by
  refine⟨fun v j h=>?_,fun l j h=>?_,fun m j h=>?_⟩
  ·rw[pv] at h
   split at h
   ·split at h
    ·injection h with h; injection h with hv h; subst hv; rw[okV,okL]; trivial
    ·simp only[Option.map_eq_some_iff] at h
     obtain⟨⟨l,k⟩,hk,h⟩:=h
     injection h with hv h
     subst hv; rw[okV]; exact (p_okV s f (sk s (i+1))).2.1 l k hk
   ·split at h
    ·split at h
     ·injection h with h; injection h with hv h; subst hv; rw[okV,okM]; trivial
     ·simp only[Option.map_eq_some_iff] at h
      obtain⟨⟨l,k⟩,hk,h⟩:=h
      injection h with hv h
      subst hv; rw[okV]; exact (p_okV s f (sk s (i+1))).2.2 l k hk
    ·split at h
     ·simp only[Option.map_eq_some_iff] at h
      obtain⟨⟨l,k⟩,hk,h⟩:=h
      injection h with hv h
      subst hv; rw[okV]; exact strQ_valid hk
     ·split at h
      ·injection h with h; injection h with hv h; subst hv; rw[okV]; trivial
      ·split at h
       ·injection h with h; injection h with hv h; subst hv; rw[okV]; trivial
       ·split at h
        ·injection h with h; injection h with hv h; subst hv; rw[okV]; trivial
        ·simp only[Option.map_eq_some_iff] at h
         obtain⟨⟨l,k⟩,hk,h⟩:=h
         injection h with hv h
         subst hv; rw[okV]; exact nm_form hk
  ·rw[pa] at h
   simp only[Option.bind_eq_some_iff] at h
   obtain⟨⟨v,k⟩,hk,h⟩:=h
   have h1:=(p_okV s f i).1 v k hk
   simp only at h
   split at h
   ·injection h with h; injection h with hv h; subst hv; rw[okL,okL]; exact⟨h1,trivial⟩
   ·split at h
    ·simp only[Option.map_eq_some_iff] at h
     obtain⟨⟨l,n⟩,hn,h⟩:=h
     injection h with hv h
     subst hv; rw[okL]; exact⟨h1,(p_okV s f _).2.1 l n hn⟩
    ·cases h
  ·rw[po] at h
   simp only[Option.bind_eq_some_iff] at h
   obtain⟨⟨key,a⟩,ha,h⟩:=h
   have h0:=strQ_valid ha
   simp only at h
   split at h
   ·simp only[Option.bind_eq_some_iff] at h
    obtain⟨⟨v,k⟩,hk,h⟩:=h
    have h1:=(p_okV s f _).1 v k hk
    simp only at h
    split at h
    ·injection h with h; injection h with hv h; subst hv; rw[okM,okM]; exact⟨h0,h1,trivial⟩
    ·split at h
     ·simp only[Option.map_eq_some_iff] at h
      obtain⟨⟨l,n⟩,hn,h⟩:=h
      injection h with hv h
      subst hv; rw[okM]; exact⟨h0,h1,(p_okV s f _).2.2 l n hn⟩
     ·cases h
   ·cases h
theorem val_okV {s:ByteArray} {i j:Nat} {v:JV} (h:val s i=some (v,j)) : okV v:=(p_okV s _ i).1 v j h
mutual
theorem dep_cnt:∀ v:JV,depV v≤cntV v∧1≤depV v
 | .nul=>⟨Nat.le_refl _,Nat.le_refl _⟩
 | .tt=>⟨Nat.le_refl _,Nat.le_refl _⟩
 | .ff=>⟨Nat.le_refl _,Nat.le_refl _⟩
 | .num _=>⟨Nat.le_refl _,Nat.le_refl _⟩
 | .str _=>⟨Nat.le_refl _,Nat.le_refl _⟩
 | .arr l=>by rw[depV,cntV]; have:=dep_cntL l; omega
 | .obj m=>by rw[depV,cntV]; have:=dep_cntM m; omega
theorem dep_cntL:∀ l:JL,depL l≤cntL l
 | .nil=>Nat.le_refl _
 | .cons v r=>by rw[depL,cntL]; have:=dep_cntL r; have:=dep_cnt v; omega
theorem dep_cntM:∀ m:JM,depM m≤cntM m
 | .nil=>Nat.le_refl _
 | .cons k v r=>by rw[depM,cntM]; have:=dep_cntM r; have:=dep_cnt v; omega
end
theorem insR_perm (p:List UInt8×List UInt8) : ∀ l,(insR p l).Perm (p :: l)
 | []=>List.Perm.refl _
 | q :: r=>by
  unfold insR
  split
  ·exact ((insR_perm p r).cons q).trans (List.Perm.swap p q r)
  ·exact List.Perm.refl _
theorem fold_perm:∀ (l acc:List (List UInt8×List UInt8)),(l.foldl (fun acc p=>insR p acc) acc).Perm (l++acc)
 | [],acc=>List.Perm.refl _
 | p :: l,acc=>by
  rw[List.foldl_cons]
  exact (fold_perm l _).trans (((insR_perm p acc).append_left l).trans (List.perm_middle))
theorem isort_perm (l:List (List UInt8×List UInt8)) : (isort l).Perm l:=by
 unfold isort
 have:=fold_perm l []
 rw[List.append_nil] at this
 exact (List.reverse_perm _).trans this
theorem insR_down (p:List UInt8×List UInt8) : ∀ l,l.Pairwise (fun a b=>b.1≤a.1)→(insR p l).Pairwise (fun a b=>b.1≤a.1)
 | [],_=>by simp[insR]
 | q :: r,h=>by
  rw[List.pairwise_cons] at h
  unfold insR
  split
  ·rename_i hlt
   rw[List.pairwise_cons]
   refine⟨fun a ha=>?_,insR_down p r h.2⟩
   rcases List.mem_cons.1 ((insR_perm p r).subset ha) with rfl | ha
   ·exact List.le_of_lt hlt
   ·exact h.1 a ha
  ·rename_i hlt
   have hqp:q.1≤p.1:=List.not_lt.1 hlt
   rw[List.pairwise_cons,List.pairwise_cons]
   refine⟨fun a ha=>?_,h⟩
   rcases List.mem_cons.1 ha with rfl | ha
   ·exact hqp
   ·exact List.le_trans (h.1 a ha) hqp
theorem fold_down:∀ (l acc:List (List UInt8×List UInt8)),acc.Pairwise (fun a b=>b.1≤a.1)→(l.foldl (fun acc p=>insR p acc) acc).Pairwise (fun a b=>b.1≤a.1)
 | [],acc,h=>h
 | p :: l,acc,h=>by rw[List.foldl_cons]; exact fold_down l _ (insR_down p acc h)
theorem isort_up (l:List (List UInt8×List UInt8)) : (isort l).Pairwise (fun a b=>a.1≤b.1):=by
 unfold isort
 rw[List.pairwise_reverse]
 exact fold_down l [] List.Pairwise.nil
theorem isort_keys {l:List (List UInt8×List UInt8)} {ss:List (List UInt8)} (h:ss.Perm (l.map (·.1))) : ss.mergeSort (fun x y=>decide (x≤y))=(isort l).map (·.1):=by
 have tr:∀ a b c:List UInt8,decide (a≤b)=true→decide (b≤c)=true→decide (a≤c)=true:=fun a b c h1 h2=>by simp only[decide_eq_true_eq] at *; exact List.le_trans h1 h2
 have to:∀ a b:List UInt8,(decide (a≤b) || decide (b≤a))=true:=fun a b=>by simp only[Bool.or_eq_true,decide_eq_true_eq]; exact List.le_total a b
 refine List.Perm.eq_of_pairwise (le:=fun a b=>decide (a≤b)=true) (fun a b _ _ h1 h2=>?_) (List.pairwise_mergeSort tr to ss) ?_ (((List.mergeSort_perm _ _).trans h).trans ((isort_perm l).map _).symm)
 ·simp only[decide_eq_true_eq] at h1 h2
  exact List.le_antisymm h1 h2
 ·rw[List.pairwise_map]
  exact (isort_up l).imp fun h=>by simpa using h
def JM.toL:JM→List (List UInt8×JV)
 | .nil=>[]
 | .cons k v r=>(k,v) :: r.toL
theorem ctM_map:∀ m:JM,ctM m=m.toL.map fun p=>(p.1,ct p.2)
 | .nil=>rfl
 | .cons k v r=>by rw[ctM,JM.toL,List.map_cons,ctM_map r]
theorem keysM_map:∀ m:JM,keysM m=m.toL.map (·.1)
 | .nil=>rfl
 | .cons k v r=>by rw[keysM,JM.toL,List.map_cons,keysM_map r]
theorem twM_nodup:∀ (m:JM) (ks:List (List UInt8)),twM ks m=false→(keysM m).Nodup∧∀ k∈keysM m,k ∉ ks
 | .nil,ks,_=>⟨List.nodup_nil,fun k hk=>by simp[keysM] at hk⟩
 | .cons k v r,ks,h=>by
  rw[twM] at h
  simp only[Bool.or_eq_false_iff] at h
  obtain⟨⟨_,h1⟩,h2⟩:=h
  obtain⟨i1,i2⟩:=twM_nodup r (ks++[k]) h2
  rw[keysM,List.nodup_cons]
  refine⟨⟨fun hk=>i2 k hk (by simp),i1⟩,fun a ha=>?_⟩
  rcases List.mem_cons.1 ha with rfl | ha
  ·intro hc; rw[List.contains_eq_mem,decide_eq_false_iff_not] at h1; exact h1 hc
  ·intro hc; exact i2 a ha (List.mem_append_left _ hc)
def isOp (c:Nat) : Bool:=c == 91 || c == 123
def isCl (c:Nat) : Bool:=c == 93 || c == 125
def nxt (T:ByteArray) (i:Nat) : Option Nat:=if bt T i=34 then (strQ T i).map (·.2) else some (i+1)
def op1 (c op:Nat) : Option Nat:=if isOp c then some (op+1) else if isCl c then (if op=0 then none else some (op - 1)) else some op
def stopAt (T:ByteArray) (i:Nat) : Bool:=decide (i=T.size) || bt T i == 44 || bt T i == 93 || bt T i == 125
def endF (T:ByteArray) : Nat→Nat→Nat→Option Nat
 | 0,_,_=>none
 | f+1,op,i=>if i < T.size then (nxt T i).bind fun j=>(op1 (bt T i) op).bind fun o=>if o=0∧stopAt T j=true then some j else endF T f o j else none
def wiF (T:ByteArray) : Nat→Nat→Nat→Nat→Option Nat
 | 0,_,_,_=>none
 | f+1,op,mo,i=>if i < T.size then (nxt T i).bind fun j=>(op1 (bt T i) op).bind fun o=>wiF T f o (max mo o) j else some mo
section
variable {T:ByteArray}
theorem at_head {i:Nat} {c:UInt8} {m:List UInt8} (h:T.data.toList.drop i=c :: m) : i < T.size∧bt T i=c.toNat∧T.data.toList.drop (i+1)=m:=by
 refine⟨drop_size2 h (by simp),?_,?_⟩
 ·have:=bt_drop T i 0; rw[h] at this; exact this
 ·exact drop_past (m:=[c]) (n:=m) h
def Stops (m:List UInt8) : Prop:=m=[]∨∃ c r,m=c :: r∧(c.toNat=44∨c.toNat=93∨c.toNat=125)
theorem stop_of {i:Nat} {m:List UInt8} (h:T.data.toList.drop i=m) (hi:i≤T.size) (hm:Stops m) : stopAt T i=true:=by
 unfold stopAt
 rcases hm with rfl | ⟨c,r,rfl,hc⟩
 ·have:i=T.size:=by
   have:=congrArg List.length h
   rw[List.length_drop,data_len,List.length_nil] at this
   omega
  simp[this]
 ·obtain⟨_,hb,_⟩:=at_head h
  rw[hb]
  rcases hc with hc | hc | hc <;> simp[hc]
theorem stop_not {i:Nat} {c:UInt8} {m:List UInt8} (h:T.data.toList.drop i=c :: m) (h1:c.toNat≠44) (h2:c.toNat≠93) (h3:c.toNat≠125) : stopAt T i=false:=by
 obtain⟨hl,hb,_⟩:=at_head h
 unfold stopAt
 rw[hb]
 simp[h1,h2,h3]; omega
def plainC (c:UInt8) : Prop:=c.toNat≠34∧c.toNat≠91∧c.toNat≠123∧c.toNat≠93∧c.toNat≠125
theorem op1_plain {c:UInt8} (h:plainC c) (op:Nat) : op1 c.toNat op=some op:=by
 obtain⟨_,a,b,d,e⟩:=h
 simp[op1,isOp,isCl,a,b,d,e]
theorem nxt_plain {i:Nat} {c:UInt8} (hb:bt T i=c.toNat) (h:c.toNat≠34) : nxt T i=some (i+1):=by unfold nxt; rw[if_neg (by omega)]
def InP (T:ByteArray) (t:List UInt8) : Prop:=∀ op i m f k,1≤op→T.data.toList.drop i=t++m→endF T f op (i+t.length)=some k→∃ f',endF T f' op i=some k
def TopP (T:ByteArray) (t:List UInt8) : Prop:=∀ i m,T.data.toList.drop i=t++m→Stops m→∃ f,endF T f 0 i=some (i+t.length)
theorem InP.nil:InP T []:=fun _ _ _ f _ _ _ h=>⟨f,h⟩
theorem InP.app {a b:List UInt8} (ha:InP T a) (hb:InP T b) : InP T (a++b):=fun op i m f k ho h he=>by
 rw[List.append_assoc] at h
 rw[List.length_append,← Nat.add_assoc] at he
 obtain⟨f1,h1⟩:=hb op (i+a.length) m f k ho (drop_past h) he
 exact ha op i (b++m) f1 k ho h h1
theorem InP.one {c:UInt8} (hc:plainC c) : InP T [c]:=fun op i m f k ho h he=>by
 obtain⟨hl,hb,_⟩:=at_head h
 refine⟨f+1,?_⟩
 rw[endF,if_pos hl,nxt_plain hb hc.1,hb,op1_plain hc]
 simp only[Option.bind_some]
 rw[if_neg (by omega)]
 exact he
theorem InP.plain:∀ {t:List UInt8},(∀ c∈t,plainC c)→InP T t
 | [],_=>InP.nil
 | c :: _,h=>InP.app (a:=[c]) (InP.one (h c List.mem_cons_self)) (InP.plain fun d hd=>h d (List.mem_cons_of_mem _ hd))
theorem nxt_quoted {i:Nat} {l m:List UInt8} (hv:Lib.validD l=true) (h:T.data.toList.drop i=quoted l++m) : i < T.size∧bt T i=34∧nxt T i=some (i+(quoted l).length):=by
 have h':T.data.toList.drop i=34 :: (qs l++34 :: m):=by rw[h]; simp[quoted]
 obtain⟨hl,hb,_⟩:=at_head h'
 refine⟨hl,hb,?_⟩
 unfold nxt
 rw[if_pos (by rw[hb]; rfl),strQ_at l T m hv i h]
 rfl
theorem op1_34 (op:Nat) : op1 34 op=some op:=rfl
theorem InP.quoted {l:List UInt8} (hv:Lib.validD l=true) : InP T (Go.Proofs.YtocnekbedcnmgaaGreatDoor.quoted l):=fun op i m f k ho h he=>by
 obtain⟨hl,hb,hn⟩:=nxt_quoted hv h
 refine⟨f+1,?_⟩
 rw[endF,if_pos hl,hn,hb,op1_34]
 simp only[Option.bind_some]
 rw[if_neg (by omega)]
 exact he
theorem TopP.quoted {l:List UInt8} (hv:Lib.validD l=true) : TopP T (Go.Proofs.YtocnekbedcnmgaaGreatDoor.quoted l):=fun i m h hs=>by
 obtain⟨hl,hb,hn⟩:=nxt_quoted hv h
 have hd:=drop_past h
 have hle:i+(Go.Proofs.YtocnekbedcnmgaaGreatDoor.quoted l).length≤T.size:=by
  have:=congrArg List.length h
  rw[List.length_drop,data_len,List.length_append] at this
  omega
 refine⟨1,?_⟩
 rw[endF,if_pos hl,hn,hb,op1_34]
 simp only[Option.bind_some]
 rw[if_pos ⟨trivial,stop_of hd hle hs⟩]
theorem TopP.plain:∀ {t:List UInt8},t≠[]→(∀ c∈t,plainC c∧c.toNat≠44)→TopP T t
 | [],h,_=>absurd rfl h
 | [c],_,hc=>fun i m h hs=>by
  obtain⟨hl,hb,hd⟩:=at_head (T:=T) (m:=m) h
  have hp:=hc c List.mem_cons_self
  refine⟨1,?_⟩
  rw[endF,if_pos hl,nxt_plain hb hp.1.1,hb,op1_plain hp.1]
  simp only[Option.bind_some]
  rw[if_pos ⟨trivial,stop_of hd hl hs⟩]
  rfl
 | c :: d :: r,_,hc=>fun i m h hs=>by
  obtain⟨hl,hb,hd⟩:=at_head (T:=T) (m:=d :: r++m) h
  have hp:=hc c List.mem_cons_self
  have hq:=hc d (List.mem_cons_of_mem _ List.mem_cons_self)
  obtain⟨f,hf⟩:=TopP.plain (t:=d :: r) (by simp) (fun x hx=>hc x (List.mem_cons_of_mem _ hx)) (i+1) m hd hs
  refine⟨f+1,?_⟩
  rw[endF,if_pos hl,nxt_plain hb hp.1.1,hb,op1_plain hp.1]
  simp only[Option.bind_some]
  rw[if_neg (by rw[stop_not (m:=r++m) hd hq.2 hq.1.2.2.2.1 hq.1.2.2.2.2]; simp),hf]
  simp only[List.length_cons]
  congr 1; omega
theorem InP.wrap {t:List UInt8} {a b:UInt8} (ha:isOp a.toNat=true) (hb:isCl b.toNat=true) (ht:InP T t) : InP T (a :: (t++[b]))∧TopP T (a :: (t++[b])):=by
 have ha34:a.toNat≠34:=by intro e; rw[e] at ha; cases ha
 have hb34:b.toNat≠34:=by intro e; rw[e] at hb; cases hb
 have hbo:isOp b.toNat=false:=by
  simp only[isCl,Bool.or_eq_true,beq_iff_eq] at hb
  rcases hb with h | h <;> simp[isOp,h]
 refine⟨fun op i m f k ho h he=>?_,fun i m h hs=>?_⟩
 ·have h0:T.data.toList.drop i=a :: (t++(b :: m)):=by rw[h]; simp
  obtain⟨hl,hba,hd⟩:=at_head h0
  obtain⟨hl2,hbb,hd2⟩:=at_head (drop_past hd)
  have e2:∃ f',endF T f' (op+1) (i+1+t.length)=some k:=by
   refine⟨f+1,?_⟩
   rw[endF,if_pos hl2,nxt_plain hbb hb34,hbb]
   simp only[Option.bind_some,op1,hbo,hb,if_true,Bool.false_eq_true,if_false]
   rw[if_neg (by omega)]
   simp only[Option.bind_some,Nat.add_sub_cancel]
   rw[if_neg (by omega)]
   rw[show i+1+t.length+1=i+(a :: (t++[b])).length by simp; omega]
   exact he
  obtain⟨f2,hf2⟩:=e2
  obtain⟨f3,hf3⟩:=ht (op+1) (i+1) (b :: m) f2 k (by omega) hd hf2
  refine⟨f3+1,?_⟩
  rw[endF,if_pos hl,nxt_plain hba ha34,hba]
  simp only[Option.bind_some,op1,ha,if_true]
  rw[if_neg (by omega)]
  exact hf3
 ·have h0:T.data.toList.drop i=a :: (t++(b :: m)):=by rw[h]; simp
  obtain⟨hl,hba,hd⟩:=at_head h0
  obtain⟨hl2,hbb,hd2⟩:=at_head (drop_past hd)
  have e2:endF T 1 1 (i+1+t.length)=some (i+(a :: (t++[b])).length):=by
   rw[endF,if_pos hl2,nxt_plain hbb hb34,hbb]
   simp only[Option.bind_some,op1,hbo,hb,if_true,Bool.false_eq_true,if_false]
   rw[if_neg (by omega)]
   simp only[Option.bind_some,Nat.sub_self]
   rw[if_pos ⟨trivial,stop_of hd2 hl2 hs⟩]
   simp; omega
  obtain⟨f3,hf3⟩:=ht 1 (i+1) (b :: m) 1 _ (by omega) hd e2
  refine⟨f3+1,?_⟩
  rw[endF,if_pos hl,nxt_plain hba ha34,hba]
  simp only[Option.bind_some,op1,ha,if_true]
  rw[if_neg (by omega)]
  exact hf3
theorem InP.joinT:∀ {ts:List (List UInt8)},(∀ t∈ts,InP T t)→InP T (Go.Proofs.YtocnekbedcnmgaaGreatDoor.joinT ts)
 | [],_=>InP.nil
 | t :: r,h=>InP.app (a:=[44]) (InP.one ⟨by decide,by decide,by decide,by decide,by decide⟩) (InP.app (h t List.mem_cons_self) (InP.joinT fun x hx=>h x (List.mem_cons_of_mem _ hx)))
theorem InP.joinC {ts:List (List UInt8)} (h:∀ t∈ts,InP T t) : InP T (Go.Proofs.YtocnekbedcnmgaaGreatDoor.joinC ts):=by
 cases ts with
 | nil=>exact InP.nil
 | cons t r=>exact InP.app (h t List.mem_cons_self) (InP.joinT fun x hx=>h x (List.mem_cons_of_mem _ hx))
theorem num_plain {l:List UInt8} (h:okV (.num l)) : l≠[]∧∀ c∈l,plainC c∧c.toNat≠44:=by
 rw[okV] at h
 obtain⟨c,r,rfl,hc,hr⟩:=h
 refine⟨by simp,fun d hd=>?_⟩
 have:d.toNat=45∨isDg d.toNat=true:=by
  rcases List.mem_cons.1 hd with rfl | hd
  ·exact hc
  ·exact .inr (hr d hd)
 have h2:d.toNat=45∨(48≤d.toNat∧d.toNat≤57):=this.imp id isDg_iff.1
 exact⟨⟨by omega,by omega,by omega,by omega,by omega⟩,by omega⟩
theorem word_plain {l:List UInt8} (h:l∈[[110,117,108,108],[116,114,117,101],([102,97,108,115,101] : List UInt8)]) : l≠[]∧∀ c∈l,plainC c∧c.toNat≠44:=by
 unfold plainC
 revert l
 decide
mutual
theorem ctP:∀ v:JV,okV v→InP T (ct v)∧TopP T (ct v)
 | .nul,_=>by
  have:=word_plain (l:=[110,117,108,108]) (by simp)
  exact⟨InP.plain fun c hc=>(this.2 c hc).1,TopP.plain this.1 this.2⟩
 | .tt,_=>by
  have:=word_plain (l:=[116,114,117,101]) (by simp)
  exact⟨InP.plain fun c hc=>(this.2 c hc).1,TopP.plain this.1 this.2⟩
 | .ff,_=>by
  have:=word_plain (l:=[102,97,108,115,101]) (by simp)
  exact⟨InP.plain fun c hc=>(this.2 c hc).1,TopP.plain this.1 this.2⟩
 | .num l,h=>by
  have:=num_plain h
  exact⟨InP.plain fun c hc=>(this.2 c hc).1,TopP.plain this.1 this.2⟩
 | .str l,h=>by
  rw[okV] at h
  exact⟨InP.quoted h,TopP.quoted h⟩
 | .arr l,h=>by
  rw[okV] at h
  exact InP.wrap rfl rfl (InP.joinC (ctLP l h))
 | .obj m,h=>by
  rw[okV] at h
  refine InP.wrap rfl rfl (InP.joinC fun t ht=>?_)
  obtain⟨p,hp,rfl⟩:=List.mem_map.1 ht
  exact ctMP m h p ((isort_perm _).subset hp)
theorem ctLP:∀ l:JL,okL l→∀ t∈ctL l,InP T t
 | .nil,_,t,ht=>by simp[ctL] at ht
 | .cons v r,h,t,ht=>by
  rw[okL] at h
  rw[ctL] at ht
  rcases List.mem_cons.1 ht with e | ht
  ·rw[e]; exact (ctP v h.1).1
  ·exact ctLP r h.2 t ht
theorem ctMP:∀ m:JM,okM m→∀ p∈ctM m,InP T (memT p)
 | .nil,_,p,hp=>by simp[ctM] at hp
 | .cons k v r,h,p,hp=>by
  rw[okM] at h
  rw[ctM] at hp
  rcases List.mem_cons.1 hp with e | hp
  ·rw[e]
   exact InP.app (InP.quoted h.1) (InP.app (a:=[58]) (InP.one ⟨by decide,by decide,by decide,by decide,by decide⟩) (ctP v h.2.1).1)
  ·exact ctMP r h.2.2 p hp
end
end
theorem l1Skip_walk (s:ByteArray) (i:Nat) (w:World) (hs:s.size≤1048576) :
  Calls Tryz.prog 57 #[.string s,.int .i64 i] w fun e w'=>e = .returned (.int .i64 (sk s i))∧w=w':=by
 go_enter Tryz.func57,Tryz.ntmps57
 go_wp2
 go_loopw [1] (fun k wr=>w=wr∧∃ j:Nat,k = .int .i64 (j:Int)∧sk s i=sk s j) (fun k _=>s.size - (intOf k).toNat)
 case atStart=>exact⟨rfl,i,rfl,rfl⟩
 case round=>
  obtain⟨rfl,j,rfl,hst⟩:=hrel
  have HST:=hide hst
  clear hst
  by_cases hin:j < s.size
  ·have hinI:(j:Int) < (s.size:Int):=by omega
   have e0:=bt_at s j hin
   by_cases c:bt s j=32∨bt s j=9∨bt s j=10∨bt s j=13
   ·have HX:Hid (sk s i=sk s (j+1)):=by show _=_; rw[uh HST,sk_on c]
    rw[e0] at c
    clear e0
    rcases c with c | c | c | c
    ·have t1:(s[j].toNat:Int)=32:=by omega
     clear c
     go_wp2
     go_roundw
     case rel=>exact⟨trivial,j+1,by go_num,uh HX⟩
     case measure=>simp[intOf]; omega
    ·have t1:(s[j].toNat:Int)=9:=by omega
     clear c
     go_wp2
     go_roundw
     case rel=>exact⟨trivial,j+1,by go_num,uh HX⟩
     case measure=>simp[intOf]; omega
    ·have t1:(s[j].toNat:Int)=10:=by omega
     clear c
     go_wp2
     go_roundw
     case rel=>exact⟨trivial,j+1,by go_num,uh HX⟩
     case measure=>simp[intOf]; omega
    ·have t1:(s[j].toNat:Int)=13:=by omega
     clear c
     go_wp2
     go_roundw
     case rel=>exact⟨trivial,j+1,by go_num,uh HX⟩
     case measure=>simp[intOf]; omega
   ·have HX:Hid (sk s i=j):=by show _=_; rw[uh HST,sk_off c]
    have t1:((s[j].toNat:Int) == 32)=false:=by rw[beq_eq_false_iff_ne]; omega
    have t2:((s[j].toNat:Int) == 9)=false:=by rw[beq_eq_false_iff_ne]; omega
    have t3:((s[j].toNat:Int) == 10)=false:=by rw[beq_eq_false_iff_ne]; omega
    have t4:((s[j].toNat:Int) == 13)=false:=by rw[beq_eq_false_iff_ne]; omega
    clear c e0
    go_wp2
    go_ret
    exact⟨by rw[uh HX]; rfl,rfl⟩
  ·have hinI:¬ (j:Int) < (s.size:Int):=by omega
   have d1:decide ((j:Int) < (s.size:Int))=false:=by simp; omega
   have HX:Hid (sk s i=j):=by show _=_; rw[uh HST,sk_past (by omega)]
   go_wp2
   go_ret
   exact⟨by rw[uh HX]; rfl,rfl⟩
theorem l1Word_walk (s t:ByteArray) (i:Nat) (w:World) (hs:s.size≤1048576) (ht:t.size≤10) (hi:i≤s.size+1) :
  Calls Tryz.prog 111 #[.string s,.int .i64 i,.string t] w fun e w'=>e = .returned (.bool (decide (i+t.size≤s.size) && (s.extract i (i+t.size)).toList == t.toList))∧w=w':=by
 by_cases hin:i+t.size≤s.size
 ·have h1:(i:Int)+(t.size:Int)≤(s.size:Int):=by omega
  have h2:(i:Int)≤(i:Int)+(t.size:Int):=by omega
  have h3:(0:Int)≤(i:Int):=by omega
  have hd:decide (i+t.size≤s.size)=true:=by simp; omega
  rw[hd,Bool.true_and]
  clear hd
  go_enter Tryz.func111,Tryz.ntmps111
  go_wp2
  go_ret
  exact⟨rfl,rfl⟩
 ·have h1:¬ (i:Int)+(t.size:Int)≤(s.size:Int):=by omega
  have hd:decide (i+t.size≤s.size)=false:=by simp; omega
  rw[hd,Bool.false_and]
  clear hd
  go_enter Tryz.func111,Tryz.ntmps111
  go_wp2
  go_ret
  exact⟨rfl,rfl⟩
theorem ex_toList (s:ByteArray) (i j:Nat) : (s.extract i j).toList=cutB s i j:=by
 rw[ByteArray.toList_eq,Lib.extract_data]; rfl
theorem strOf_cut (s:ByteArray) (i j:Nat) : s.extract i j=strOf (cutB s i j):=by
 have h:(s.extract i j).data.toList=cutB s i j:=by rw[Lib.extract_data]; rfl
 rw[← h]
 cases s.extract i j; simp[strOf]
theorem cut_tail (c:UInt8) (r:List UInt8) : cutB (strOf (c :: r)) 1 (r.length+1)=r:=by
 unfold cutB; rw[strOf_toList]; simp
theorem tooBig_walk (l:List UInt8) (w:World) (h0:l≠[]) (hl:l.length≤1048576) :
  Calls Tryz.prog 149 #[.string (strOf l)] w fun e w'=>e = .returned (.bool (tooBig l))∧w=w':=by
 obtain⟨c,r,rfl⟩ : ∃ c r,l=c :: r:=by cases l with | nil=>exact absurd rfl h0 | cons c r=>exact⟨c,r,rfl⟩
 have hz:(strOf (c :: r)).size=r.length+1:=by rw[strOf_size]; rfl
 have hpos:0 < (strOf (c :: r)).size:=by omega
 have hc:(strOf (c :: r))[0].toNat=c.toNat:=rfl
 by_cases h45:c=45
 ·subst h45
  have HT:Hid (tooBig (45 :: r)=over r lim1):=by show _=_; rw[tooBig,if_pos rfl]
  have HE:Hid (((strOf (45 :: r)).extract 1 (r.length+1)).toList=r):=by show _=_; rw[ex_toList,cut_tail]
  have t1:((strOf (45 :: r))[0].toNat:Int)=45:=by rw[hc]; rfl
  by_cases h19:r.length=19
  ·have t2:((r.length:Int) != 19)=false:=by rw[bne_eq_false_iff_eq]; omega
   have HT2:Hid (tooBig (45 :: r)=(!Op.bytesLess r lim1 && !(r == lim1))):=by show _=_; rw[uh HT]; unfold over; rw[if_neg (by omega)]
   clear h19 hc h0
   go_enter Tryz.func149,Tryz.ntmps149
   go_wp2
   go_ret
   refine⟨?_,rfl⟩
   rw[uh HE,uh HT2]; rfl
  ·have t2:((r.length:Int) != 19)=true:=by rw[bne_iff_ne]; omega
   have HT2:Hid (tooBig (45 :: r)=decide (19 < (r.length:Int))):=by
    show _=_; rw[uh HT]; unfold over; rw[if_pos h19]; simp; omega
   clear h19 hc h0
   go_enter Tryz.func149,Tryz.ntmps149
   go_wp2
   go_ret
   refine⟨?_,rfl⟩
   rw[uh HT2]; rfl
 ·have HT:Hid (tooBig (c :: r)=over (c :: r) lim0):=by show _=_; rw[tooBig,if_neg h45]
  have HE:Hid ((strOf (c :: r)).toList=c :: r):=by show _=_; rw[ByteArray.toList_eq,strOf_toList]
  have t1:(((strOf (c :: r))[0].toNat:Int) == 45)=false:=by
   rw[beq_eq_false_iff_ne,hc]
   intro e
   exact h45 (UInt8.toNat_inj.1 (by show c.toNat=45; omega))
  by_cases h19:r.length=18
  ·have t2:((r.length+1:Int) != 19)=false:=by rw[bne_eq_false_iff_eq]; omega
   have HT2:Hid (tooBig (c :: r)=(!Op.bytesLess (c :: r) lim0 && !((c :: r) == lim0))):=by show _=_; rw[uh HT]; unfold over; rw[if_neg (by simp; omega)]
   clear h19 hc h0
   go_enter Tryz.func149,Tryz.ntmps149
   go_wp2
   go_ret
   refine⟨?_,rfl⟩
   rw[uh HE,uh HT2]; rfl
  ·have t2:((r.length+1:Int) != 19)=true:=by rw[bne_iff_ne]; omega
   have HT2:Hid (tooBig (c :: r)=decide (19 < (r.length+1:Int))):=by
    show _=_; rw[uh HT]; unfold over; rw[if_pos (by simp; omega)]; simp; omega
   clear h19 hc h0
   go_enter Tryz.func149,Tryz.ntmps149
   go_wp2
   go_ret
   refine⟨?_,rfl⟩
   rw[uh HT2]; rfl
def optI (o:Option Nat) : Int:=o.elim (-1) fun n=>(n:Int)
theorem l1Hex_walk (b:Nat) (hb:b < 256) (w:World) :
  Calls Tryz.prog 193 #[.int .u8 b] w fun e w'=>w=w'∧e = .returned (.int .i64 (optI (hx b))):=by
 by_cases h1:48≤b∧b≤57
 ·have HH:Hid (hx b=some (b - 48)):=by show _=_; unfold hx; rw[if_pos h1]
  have a1:(48:Int)≤(b:Int):=by omega
  have a2:(b:Int)≤57:=by omega
  clear h1
  go_enter Tryz.func193,Tryz.ntmps193
  go_wp2
  go_ret
  refine⟨rfl,?_⟩
  rw[uh HH]
  exact ret_int (show _=((b - 48:Nat) : Int) by go_num)
 ·by_cases h2:97≤b∧b≤102
  ·have HH:Hid (hx b=some (b - 87)):=by show _=_; unfold hx; rw[if_neg h1,if_pos h2]
   have a1:(97:Int)≤(b:Int):=by omega
   have a2:(b:Int)≤102:=by omega
   clear h1 h2
   go_enter Tryz.func193,Tryz.ntmps193
   go_wp2
   go_ret
   refine⟨rfl,?_⟩
   rw[uh HH]
   exact ret_int (show _=((b - 87:Nat) : Int) by go_num)
  ·by_cases h3:65≤b∧b≤70
   ·have HH:Hid (hx b=some (b - 55)):=by show _=_; unfold hx; rw[if_neg h1,if_neg h2,if_pos h3]
    have a1:(65:Int)≤(b:Int):=by omega
    have a2:(b:Int)≤70:=by omega
    clear h1 h2 h3
    go_enter Tryz.func193,Tryz.ntmps193
    go_wp2
    go_ret
    refine⟨rfl,?_⟩
    rw[uh HH]
    exact ret_int (show _=((b - 55:Nat) : Int) by go_num)
   ·have HH:Hid (hx b=none):=by show _=_; unfold hx; rw[if_neg h1,if_neg h2,if_neg h3]
    rcases (show b < 48∨(57 < b∧b < 65)∨(70 < b∧b < 97)∨102 < b from by omega) with g | g | g | g
    ·have a0:(b:Int) < 48:=by omega
     clear h1 h2 h3 g
     go_enter Tryz.func193,Tryz.ntmps193
     go_wp2
     go_ret
     exact⟨rfl,by rw[uh HH]; rfl⟩
    ·have a0:(57:Int) < (b:Int):=by omega
     have a1:(b:Int) < 65:=by omega
     clear h1 h2 h3 g
     go_enter Tryz.func193,Tryz.ntmps193
     go_wp2
     go_ret
     exact⟨rfl,by rw[uh HH]; rfl⟩
    ·have a0:(70:Int) < (b:Int):=by omega
     have a1:(b:Int) < 97:=by omega
     clear h1 h2 h3 g
     go_enter Tryz.func193,Tryz.ntmps193
     go_wp2
     go_ret
     exact⟨rfl,by rw[uh HH]; rfl⟩
    ·have a0:(102:Int) < (b:Int):=by omega
     clear h1 h2 h3 g
     go_enter Tryz.func193,Tryz.ntmps193
     go_wp2
     go_ret
     exact⟨rfl,by rw[uh HH]; rfl⟩
def simRel (c:Nat) (k:Value) : Prop:=∃ j:Nat,j≤8∧k = .int .i64 j∧(0 < j→c≠34)∧(1 < j→c≠92)∧(2 < j→c≠47)∧(3 < j→c≠98)∧(4 < j→c≠102)∧(5 < j→c≠110)∧(6 < j→c≠114)∧(7 < j→c≠116)
abbrev simW (w:World) : World:=w.alloc (.cells #[.int .u8 34,.int .u8 92,.int .u8 47,.int .u8 8,.int .u8 12,.int .u8 10,.int .u8 13,.int .u8 9] 5)
theorem l1Simple_walk (c:Nat) (hc:c < 256) (w:World) :
  Calls Tryz.prog 161 #[.int .u8 c] w fun e w'=>e = .returned (.int .i64 (optI (smp c)))∧Below w.heap.size w w':=by
 go_enter Tryz.func161,Tryz.ntmps161
 go_wp2
 go_loopw [5] (fun k wr=>simRel c k∧simW w=wr) (fun k _=>8 - (intOf k).toNat)
 case atStart=>exact⟨⟨0,by omega,rfl,by omega,by omega,by omega,by omega,by omega,by omega,by omega,by omega⟩,rfl⟩
 case round=>
  obtain⟨⟨j,hj,rfl,n0,n1,n2,n3,n4,n5,n6,n7⟩,rfl⟩:=hrel
  have HN:Hid ((0 < j→c≠34)∧(1 < j→c≠92)∧(2 < j→c≠47)∧(3 < j→c≠98)∧(4 < j→c≠102)∧(5 < j→c≠110)∧(6 < j→c≠114)∧(7 < j→c≠116)):=⟨n0,n1,n2,n3,n4,n5,n6,n7⟩
  clear n0 n1 n2 n3 n4 n5 n6 n7
  rcases (show j=0∨j=1∨j=2∨j=3∨j=4∨j=5∨j=6∨j=7∨j=8 from by omega) with rfl | rfl | rfl | rfl | rfl | rfl | rfl | rfl | rfl
  ·have g:((⟨#[34,92,47,98,102,110,114,116]⟩ : ByteArray)[0]'(by decide)).toNat=34:=rfl
   by_cases e:c=34
   ·subst e
    clear HN
    go_wp2
    go_ret
    exact⟨rfl,(Below.refl _ _).alloc (Nat.le_refl _) _⟩
   ·have t:((34:Int) == (c:Int))=false:=by rw[beq_eq_false_iff_ne]; omega
    have HE:=hide e
    clear e
    go_wp2
    go_roundw
    case rel=>
     obtain⟨n0,n1,n2,n3,n4,n5,n6,n7⟩:=uh HN
     have e:=uh HE
     exact⟨⟨1,by omega,by go_num,fun _=>e,by omega,by omega,by omega,by omega,by omega,by omega,by omega⟩,trivial⟩
    case measure=>simp[intOf]
  ·have g:((⟨#[34,92,47,98,102,110,114,116]⟩ : ByteArray)[1]'(by decide)).toNat=92:=rfl
   by_cases e:c=92
   ·subst e
    clear HN
    go_wp2
    go_ret
    exact⟨rfl,(Below.refl _ _).alloc (Nat.le_refl _) _⟩
   ·have t:((92:Int) == (c:Int))=false:=by rw[beq_eq_false_iff_ne]; omega
    have HE:=hide e
    clear e
    go_wp2
    go_roundw
    case rel=>
     obtain⟨n0,n1,n2,n3,n4,n5,n6,n7⟩:=uh HN
     have e:=uh HE
     exact⟨⟨2,by omega,by go_num,fun _=>n0 (by omega),fun _=>e,by omega,by omega,by omega,by omega,by omega,by omega⟩,trivial⟩
    case measure=>simp[intOf]
  ·have g:((⟨#[34,92,47,98,102,110,114,116]⟩ : ByteArray)[2]'(by decide)).toNat=47:=rfl
   by_cases e:c=47
   ·subst e
    clear HN
    go_wp2
    go_ret
    exact⟨rfl,(Below.refl _ _).alloc (Nat.le_refl _) _⟩
   ·have t:((47:Int) == (c:Int))=false:=by rw[beq_eq_false_iff_ne]; omega
    have HE:=hide e
    clear e
    go_wp2
    go_roundw
    case rel=>
     obtain⟨n0,n1,n2,n3,n4,n5,n6,n7⟩:=uh HN
     have e:=uh HE
     exact⟨⟨3,by omega,by go_num,fun _=>n0 (by omega),fun _=>n1 (by omega),fun _=>e,by omega,by omega,by omega,by omega,by omega⟩,trivial⟩
    case measure=>simp[intOf]
  ·have g:((⟨#[34,92,47,98,102,110,114,116]⟩ : ByteArray)[3]'(by decide)).toNat=98:=rfl
   by_cases e:c=98
   ·subst e
    clear HN
    go_wp2
    go_ret
    exact⟨rfl,(Below.refl _ _).alloc (Nat.le_refl _) _⟩
   ·have t:((98:Int) == (c:Int))=false:=by rw[beq_eq_false_iff_ne]; omega
    have HE:=hide e
    clear e
    go_wp2
    go_roundw
    case rel=>
     obtain⟨n0,n1,n2,n3,n4,n5,n6,n7⟩:=uh HN
     have e:=uh HE
     exact⟨⟨4,by omega,by go_num,fun _=>n0 (by omega),fun _=>n1 (by omega),fun _=>n2 (by omega),fun _=>e,by omega,by omega,by omega,by omega⟩,trivial⟩
    case measure=>simp[intOf]
  ·have g:((⟨#[34,92,47,98,102,110,114,116]⟩ : ByteArray)[4]'(by decide)).toNat=102:=rfl
   by_cases e:c=102
   ·subst e
    clear HN
    go_wp2
    go_ret
    exact⟨rfl,(Below.refl _ _).alloc (Nat.le_refl _) _⟩
   ·have t:((102:Int) == (c:Int))=false:=by rw[beq_eq_false_iff_ne]; omega
    have HE:=hide e
    clear e
    go_wp2
    go_roundw
    case rel=>
     obtain⟨n0,n1,n2,n3,n4,n5,n6,n7⟩:=uh HN
     have e:=uh HE
     exact⟨⟨5,by omega,by go_num,fun _=>n0 (by omega),fun _=>n1 (by omega),fun _=>n2 (by omega),fun _=>n3 (by omega),fun _=>e,by omega,by omega,by omega⟩,trivial⟩
    case measure=>simp[intOf]
  ·have g:((⟨#[34,92,47,98,102,110,114,116]⟩ : ByteArray)[5]'(by decide)).toNat=110:=rfl
   by_cases e:c=110
   ·subst e
    clear HN
    go_wp2
    go_ret
    exact⟨rfl,(Below.refl _ _).alloc (Nat.le_refl _) _⟩
   ·have t:((110:Int) == (c:Int))=false:=by rw[beq_eq_false_iff_ne]; omega
    have HE:=hide e
    clear e
    go_wp2
    go_roundw
    case rel=>
     obtain⟨n0,n1,n2,n3,n4,n5,n6,n7⟩:=uh HN
     have e:=uh HE
     exact⟨⟨6,by omega,by go_num,fun _=>n0 (by omega),fun _=>n1 (by omega),fun _=>n2 (by omega),fun _=>n3 (by omega),fun _=>n4 (by omega),fun _=>e,by omega,by omega⟩,trivial⟩
    case measure=>simp[intOf]
  ·have g:((⟨#[34,92,47,98,102,110,114,116]⟩ : ByteArray)[6]'(by decide)).toNat=114:=rfl
   by_cases e:c=114
   ·subst e
    clear HN
    go_wp2
    go_ret
    exact⟨rfl,(Below.refl _ _).alloc (Nat.le_refl _) _⟩
   ·have t:((114:Int) == (c:Int))=false:=by rw[beq_eq_false_iff_ne]; omega
    have HE:=hide e
    clear e
    go_wp2
    go_roundw
    case rel=>
     obtain⟨n0,n1,n2,n3,n4,n5,n6,n7⟩:=uh HN
     have e:=uh HE
     exact⟨⟨7,by omega,by go_num,fun _=>n0 (by omega),fun _=>n1 (by omega),fun _=>n2 (by omega),fun _=>n3 (by omega),fun _=>n4 (by omega),fun _=>n5 (by omega),fun _=>e,by omega⟩,trivial⟩
    case measure=>simp[intOf]
  ·have g:((⟨#[34,92,47,98,102,110,114,116]⟩ : ByteArray)[7]'(by decide)).toNat=116:=rfl
   by_cases e:c=116
   ·subst e
    clear HN
    go_wp2
    go_ret
    exact⟨rfl,(Below.refl _ _).alloc (Nat.le_refl _) _⟩
   ·have t:((116:Int) == (c:Int))=false:=by rw[beq_eq_false_iff_ne]; omega
    have HE:=hide e
    clear e
    go_wp2
    go_roundw
    case rel=>
     obtain⟨n0,n1,n2,n3,n4,n5,n6,n7⟩:=uh HN
     have e:=uh HE
     exact⟨⟨8,by omega,by go_num,fun _=>n0 (by omega),fun _=>n1 (by omega),fun _=>n2 (by omega),fun _=>n3 (by omega),fun _=>n4 (by omega),fun _=>n5 (by omega),fun _=>n6 (by omega),fun _=>e⟩,trivial⟩
    case measure=>simp[intOf]
  ·have HS:Hid (smp c=none):=by
    obtain⟨n0,n1,n2,n3,n4,n5,n6,n7⟩:=uh HN
    show _=_
    unfold smp
    rw[if_neg (n0 (by omega)),if_neg (n1 (by omega)),if_neg (n2 (by omega)),if_neg (n3 (by omega)),if_neg (n4 (by omega)),if_neg (n5 (by omega)),if_neg (n6 (by omega)),if_neg (n7 (by omega))]
   clear HN
   go_wp2
   go_ret
   exact⟨by rw[uh HS]; rfl,(Below.refl _ _).alloc (Nat.le_refl _) _⟩
def gotV (t:ByteArray) (n:Nat) (ok b tw:Bool) : Value:=.agg #[.string t,.int .i64 (n:Int),.bool ok,.bool b,.bool tw]
def GP (w:World) (o:Option (JV×Nat)) (e:Ending) (w':World) : Prop:=
 Below w.heap.size w w'∧o.elim (∃ (t:ByteArray) (n:Nat) (b tw:Bool),e = .returned (gotV t n false b tw)) fun q=>e = .returned (gotV (strOf (ct q.1)) q.2 true (bigV q.1) (twV q.1))
theorem GP.bad {w w':World} {o:Option (JV×Nat)} (h:o=none) (b:Below w.heap.size w w') : GP w o (.returned (.agg #[.string ⟨#[]⟩,.int .i64 0,.bool false,.bool false,.bool false])) w':=by
 subst h; exact⟨b,_,0,_,_,rfl⟩
theorem digit_walk (b:Nat) (w:World) :
  Calls Tryz.prog 148 #[.int .u8 b] w fun e w'=>e = .returned (.bool (isDg b))∧w=w':=by
 by_cases h:48≤b
 ·have HD:Hid (isDg b=decide ((b:Int)≤57)):=by
   show _=_
   unfold isDg
   rw[decide_eq_true h,Bool.true_and]
   apply decide_eq_decide.2; omega
  have h1:(48:Int)≤(b:Int):=by omega
  go_enter Tryz.func148,Tryz.ntmps148
  go_wp2
  go_ret
  exact⟨by rw[uh HD]; rfl,rfl⟩
 ·have HD:Hid (isDg b=false):=by
   show _=_
   unfold isDg
   rw[decide_eq_false h,Bool.false_and]
  have h1:¬ (48:Int)≤(b:Int):=by omega
  go_enter Tryz.func148,Tryz.ntmps148
  go_wp2
  go_ret
  exact⟨by rw[uh HD]; rfl,rfl⟩
theorem alloc_below (w:World) (o:Obj) : Below w.heap.size w (w.alloc o):=(Below.refl _ _).alloc (Nat.le_refl _) _
theorem num_neg (s:ByteArray) (i:Nat) (w:World) (hs:s.size≤1048576) (hi:i≤s.size+1) (h45:bt s i=45) :
  Calls Tryz.prog 112 #[.string s,.int .i64 i] w (GP w ((nm s i).map fun q=>(.num q.1,q.2))):=by
 have HA:Hid (∀ w,Calls Tryz.prog 107 #[.string s,.int .i64 i,.int .u8 45] w fun e w'=>e = .returned (.bool true)∧w=w'):=fun w=>by
  have h:=at_walk s (i:Int) i rfl 45 w
  rw[show atB s i 45=true from by
   have hlt:i < s.size:=bt_in (by omega)
   rw[atB_in hlt,beq_iff_eq,← bt_at s i hlt,h45]; rfl] at h
  exact h
 have hD:nmD s i=i+1:=by unfold nmD; rw[if_pos h45]
 by_cases hin:i+1 < s.size
 ·have t1:((s.size:Int)≤(i:Int)+1)=False:=eq_false (by omega)
  have t1':((i:Int)+1 < (s.size:Int))=True:=eq_true (by omega)
  have hbd:=bt_at s (i+1) hin
  have HG:Hid (∀ w,Calls Tryz.prog 148 #[.int .u8 (s[i+1].toNat:Int)] w fun e w'=>e = .returned (.bool (isDg (bt s (i+1))))∧w=w'):=fun w=>by
   rw[hbd]; exact digit_walk _ w
  cases hdg:isDg (bt s (i+1)) with
  | false=>
   have HR:Hid (((nm s i).map fun q=>(JV.num q.1,q.2))=none):=by
    show _=_
    unfold nm
    rw[hD,if_neg (by rw[hdg]; simp)]; rfl
   rw[hdg] at HG
   clear hdg hbd
   go_enter Tryz.func112,Tryz.ntmps112
   go_wp2_with fail
   refine (uh HA _).mono ?_
   rintro e w1 ⟨rfl,rfl⟩
   go_wp2_with fail
   refine (uh HG _).mono ?_
   rintro e w2 ⟨rfl,rfl⟩
   go_wp2
   go_returns
   exact GP.bad (uh HR) (alloc_below w _)
  | true=>
   rw[hdg] at HG
   by_cases h48:bt s (i+1)=48
   ·have t2:((s[i+1].toNat:Int) == 48)=true:=by rw[beq_iff_eq]; omega
    have hE:nmE s i=i+1+1:=by unfold nmE; rw[hD,if_pos h48]
    have i1:(i:Int)≤(i:Int)+1+1:=by omega
    have i2:(i:Int)+1+1≤(s.size:Int):=by omega
    have i3:(0:Int)≤(i:Int):=by omega
    go_enter Tryz.func112,Tryz.ntmps112
    go_wp2_with fail
    refine (uh HA _).mono ?_
    rintro e w1 ⟨rfl,rfl⟩
    go_wp2_with fail
    refine (uh HG _).mono ?_
    rintro e w2 ⟨rfl,rfl⟩
    clear HA HG
    have HB:Hid (∀ w,Calls Tryz.prog 149 #[.string (s.extract i (i+1+1))] w fun e' w'=>e' = .returned (.bool (tooBig (cutB s i (i+1+1))))∧w=w'):=fun w=>by
     rw[strOf_cut]
     exact tooBig_walk (cutB s i (i+1+1)) w (by
      intro h
      have:=congrArg List.length h
      unfold cutB at this
      rw[List.length_take,List.length_drop,data_len,List.length_nil] at this
      omega) (by unfold cutB; rw[List.length_take,List.length_drop,data_len]; omega)
    by_cases hz:cutB s i (i+1+1)=[45,48]
    ·have z1:((s.extract i (i+1+1)).toList == [45,48])=true:=by rw[ex_toList,hz]; rfl
     have HB0:Hid (∀ w,Calls Tryz.prog 149 #[.string ⟨#[48]⟩] w fun e' w'=>e' = .returned (.bool (tooBig [48]))∧w=w'):=fun w=>tooBig_walk [48] w (by simp) (by simp)
     have HR:Hid (nm s i=some ([48],i+1+1)):=by
      show _=_
      unfold nm
      rw[if_pos (by rw[hD]; exact hdg),hE]
      unfold norm0
      rw[if_pos hz]
     clear HB hz
     go_wp2_with fail
     refine (uh HB0 _).mono ?_
     rintro e' w3 ⟨rfl,rfl⟩
     go_wp2
     go_returns
     rw[uh HR]
     exact⟨alloc_below w _,rfl⟩
    ·have z1:((s.extract i (i+1+1)).toList == [45,48])=false:=by rw[ex_toList,beq_eq_false_iff_ne]; exact hz
     have HR:Hid (nm s i=some (cutB s i (i+1+1),i+1+1)):=by
      show _=_
      unfold nm
      rw[if_pos (by rw[hD]; exact hdg),hE]
      unfold norm0
      rw[if_neg hz]
     have HX:=hide (strOf_cut s i (i+1+1))
     clear hz
     go_wp2_with fail
     refine (uh HB _).mono ?_
     rintro e' w3 ⟨rfl,rfl⟩
     go_wp2
     go_returns
     rw[uh HR,uh HX]
     exact⟨alloc_below w _,rfl⟩
   ·have t2:((s[i+1].toNat:Int) == 48)=false:=by rw[beq_eq_false_iff_ne]; omega
    have hE:nmE s i=dg s (i+1):=by unfold nmE; rw[hD,if_neg h48]
    have HGG:Hid (∀ (j:Nat) (hj:j < s.size) w,Calls Tryz.prog 148 #[.int .u8 (s[j].toNat:Int)] w fun e w'=>e = .returned (.bool (isDg (bt s j)))∧w=w'):=fun j hj w=>by
     rw[bt_at s j hj]; exact digit_walk _ w
    clear h48 hbd
    go_enter Tryz.func112,Tryz.ntmps112
    go_wp2_with fail
    refine (uh HA _).mono ?_
    rintro e w1 ⟨rfl,rfl⟩
    go_wp2_with fail
    refine (uh HG _).mono ?_
    rintro e w2 ⟨rfl,rfl⟩
    clear HA HG
    go_wp2_with fail
    go_loopw [1] (fun k wr=>wr=w.alloc (.cells #[.string ⟨#[]⟩,.int .i64 0,.bool false,.bool false,.bool false] 96)∧∃ j:Nat,k = .int .i64 (j:Int)∧i+1≤j∧j≤s.size∧dg s (i+1)=dg s j∧(i+1 < j∨j=i+1)) (fun k _=>s.size - (intOf k).toNat)
    case atStart=>exact⟨rfl,i+1,by go_num,Nat.le_refl _,by omega,rfl,.inr rfl⟩
    case round=>
     obtain⟨rfl,j,rfl,hj1,hj2,hst,hj3⟩:=hrel
     have HST:=hide hst
     clear hst
     by_cases hjin:j < s.size
     ·have u1:((j:Int) < (s.size:Int))=True:=eq_true (by omega)
      have HJ:=hide (fun w=>uh HGG j hjin w)
      cases hjd:isDg (bt s j) with
      | true=>
       have HX:Hid (dg s (i+1)=dg s (j+1)):=by show _=_; rw[uh HST,dg_on hjd]
       rw[hjd] at HJ
       clear hjd
       go_wp2_with fail
       refine (uh HJ _).mono ?_
       rintro e w3 ⟨rfl,rfl⟩
       clear HJ
       go_wp2
       go_roundw
       case rel=>exact⟨trivial,j+1,by go_num,by omega,by omega,uh HX,.inl (by omega)⟩
       case measure=>simp[intOf]; omega
      | false=>
       have HX:dg s (i+1)=j:=by rw[uh HST,dg_off (by rw[hjd]; simp)]
       rw[hjd] at HJ
       have hne:i+1 < j:=by
        rcases hj3 with h | h
        ·exact h
        ·subst h; rw[hdg] at hjd; cases hjd
       rw[HX] at hE
       clear hjd HX hj3
       have i1:(i:Int)≤(j:Int):=by omega
       have i2:(j:Int)≤(s.size:Int):=by omega
       have i3:(0:Int)≤(i:Int):=by omega
       go_wp2_with fail
       refine (uh HJ _).mono ?_
       rintro e w3 ⟨rfl,rfl⟩
       clear HJ HGG
       have HB:Hid (∀ w,Calls Tryz.prog 149 #[.string (s.extract i (j))] w fun e' w'=>e' = .returned (.bool (tooBig (cutB s i (j))))∧w=w'):=fun w=>by
        rw[strOf_cut]
        exact tooBig_walk (cutB s i (j)) w (by
         intro h
         have:=congrArg List.length h
         unfold cutB at this
         rw[List.length_take,List.length_drop,data_len,List.length_nil] at this
         omega) (by unfold cutB; rw[List.length_take,List.length_drop,data_len]; omega)
       by_cases hz:cutB s i (j)=[45,48]
       ·have z1:((s.extract i (j)).toList == [45,48])=true:=by rw[ex_toList,hz]; rfl
        have HB0:Hid (∀ w,Calls Tryz.prog 149 #[.string ⟨#[48]⟩] w fun e' w'=>e' = .returned (.bool (tooBig [48]))∧w=w'):=fun w=>tooBig_walk [48] w (by simp) (by simp)
        have HR:Hid (nm s i=some ([48],j)):=by
         show _=_
         unfold nm
         rw[if_pos (by rw[hD]; exact hdg),hE]
         unfold norm0
         rw[if_pos hz]
        clear HB hz
        go_wp2_with fail
        refine (uh HB0 _).mono ?_
        rintro e' w3 ⟨rfl,rfl⟩
        go_wp2
        go_returns
        rw[uh HR]
        exact⟨alloc_below w _,rfl⟩
       ·have z1:((s.extract i (j)).toList == [45,48])=false:=by rw[ex_toList,beq_eq_false_iff_ne]; exact hz
        have HR:Hid (nm s i=some (cutB s i (j),j)):=by
         show _=_
         unfold nm
         rw[if_pos (by rw[hD]; exact hdg),hE]
         unfold norm0
         rw[if_neg hz]
        have HX:=hide (strOf_cut s i (j))
        clear hz
        go_wp2_with fail
        refine (uh HB _).mono ?_
        rintro e' w3 ⟨rfl,rfl⟩
        go_wp2
        go_returns
        rw[uh HR,uh HX]
        exact⟨alloc_below w _,rfl⟩
     ·have u1:((j:Int) < (s.size:Int))=False:=eq_false (by omega)
      have hjz:s.size≤j:=by omega
      have HX:dg s (i+1)=j:=by rw[uh HST,dg_off (by rw[bt_out s j (by omega)]; simp[isDg])]
      rw[HX] at hE
      clear HX hj3 HGG hjz
      have i1:(i:Int)≤(j:Int):=by omega
      have i2:(j:Int)≤(s.size:Int):=by omega
      have i3:(0:Int)≤(i:Int):=by omega
      have HB:Hid (∀ w,Calls Tryz.prog 149 #[.string (s.extract i (j))] w fun e' w'=>e' = .returned (.bool (tooBig (cutB s i (j))))∧w=w'):=fun w=>by
       rw[strOf_cut]
       exact tooBig_walk (cutB s i (j)) w (by
        intro h
        have:=congrArg List.length h
        unfold cutB at this
        rw[List.length_take,List.length_drop,data_len,List.length_nil] at this
        omega) (by unfold cutB; rw[List.length_take,List.length_drop,data_len]; omega)
      by_cases hz:cutB s i (j)=[45,48]
      ·have z1:((s.extract i (j)).toList == [45,48])=true:=by rw[ex_toList,hz]; rfl
       have HB0:Hid (∀ w,Calls Tryz.prog 149 #[.string ⟨#[48]⟩] w fun e' w'=>e' = .returned (.bool (tooBig [48]))∧w=w'):=fun w=>tooBig_walk [48] w (by simp) (by simp)
       have HR:Hid (nm s i=some ([48],j)):=by
        show _=_
        unfold nm
        rw[if_pos (by rw[hD]; exact hdg),hE]
        unfold norm0
        rw[if_pos hz]
       clear HB hz
       go_wp2_with fail
       refine (uh HB0 _).mono ?_
       rintro e' w3 ⟨rfl,rfl⟩
       go_wp2
       go_returns
       rw[uh HR]
       exact⟨alloc_below w _,rfl⟩
      ·have z1:((s.extract i (j)).toList == [45,48])=false:=by rw[ex_toList,beq_eq_false_iff_ne]; exact hz
       have HR:Hid (nm s i=some (cutB s i (j),j)):=by
        show _=_
        unfold nm
        rw[if_pos (by rw[hD]; exact hdg),hE]
        unfold norm0
        rw[if_neg hz]
       have HX:=hide (strOf_cut s i (j))
       clear hz
       go_wp2_with fail
       refine (uh HB _).mono ?_
       rintro e' w3 ⟨rfl,rfl⟩
       go_wp2
       go_returns
       rw[uh HR,uh HX]
       exact⟨alloc_below w _,rfl⟩
 ·have t1:((s.size:Int)≤(i:Int)+1)=True:=eq_true (by omega)
  have HR:Hid (((nm s i).map fun q=>(JV.num q.1,q.2))=none):=by
   show _=_
   unfold nm
   rw[hD,if_neg (by rw[bt_out s (i+1) (by omega)]; simp[isDg])]; rfl
  go_enter Tryz.func112,Tryz.ntmps112
  go_wp2_with fail
  refine (uh HA _).mono ?_
  rintro e w1 ⟨rfl,rfl⟩
  go_wp2
  go_returns
  exact GP.bad (uh HR) (alloc_below w _)
theorem num_pos (s:ByteArray) (i:Nat) (w:World) (hs:s.size≤1048576) (hi:i≤s.size+1) (h45:bt s i≠45) :
  Calls Tryz.prog 112 #[.string s,.int .i64 i] w (GP w ((nm s i).map fun q=>(.num q.1,q.2))):=by
 have HA:Hid (∀ w,Calls Tryz.prog 107 #[.string s,.int .i64 i,.int .u8 45] w fun e w'=>e = .returned (.bool false)∧w=w'):=fun w=>by
  have h:=at_walk s (i:Int) i rfl 45 w
  rw[show atB s i 45=false from by
   by_cases hlt:i < s.size
   ·rw[atB_in hlt,beq_eq_false_iff_ne,← bt_at s i hlt]; omega
   ·exact atB_out hlt] at h
  exact h
 have hD:nmD s i=i:=by unfold nmD; rw[if_neg h45]
 by_cases hin:i < s.size
 ·have t1:((s.size:Int)≤(i:Int))=False:=eq_false (by omega)
  have t1':((i:Int) < (s.size:Int))=True:=eq_true (by omega)
  have hbd:=bt_at s (i) hin
  have HG:Hid (∀ w,Calls Tryz.prog 148 #[.int .u8 (s[i].toNat:Int)] w fun e w'=>e = .returned (.bool (isDg (bt s (i))))∧w=w'):=fun w=>by
   rw[hbd]; exact digit_walk _ w
  cases hdg:isDg (bt s (i)) with
  | false=>
   have HR:Hid (((nm s i).map fun q=>(JV.num q.1,q.2))=none):=by
    show _=_
    unfold nm
    rw[hD,if_neg (by rw[hdg]; simp)]; rfl
   rw[hdg] at HG
   clear hdg hbd
   go_enter Tryz.func112,Tryz.ntmps112
   go_wp2_with fail
   refine (uh HA _).mono ?_
   rintro e w1 ⟨rfl,rfl⟩
   go_wp2_with fail
   refine (uh HG _).mono ?_
   rintro e w2 ⟨rfl,rfl⟩
   go_wp2
   go_returns
   exact GP.bad (uh HR) (alloc_below w _)
  | true=>
   rw[hdg] at HG
   by_cases h48:bt s (i)=48
   ·have t2:((s[i].toNat:Int) == 48)=true:=by rw[beq_iff_eq]; omega
    have hE:nmE s i=i+1:=by unfold nmE; rw[hD,if_pos h48]
    have i1:(i:Int)≤(i:Int)+1:=by omega
    have i2:(i:Int)+1≤(s.size:Int):=by omega
    have i3:(0:Int)≤(i:Int):=by omega
    go_enter Tryz.func112,Tryz.ntmps112
    go_wp2_with fail
    refine (uh HA _).mono ?_
    rintro e w1 ⟨rfl,rfl⟩
    go_wp2_with fail
    refine (uh HG _).mono ?_
    rintro e w2 ⟨rfl,rfl⟩
    clear HA HG
    have HB:Hid (∀ w,Calls Tryz.prog 149 #[.string (s.extract i (i+1))] w fun e' w'=>e' = .returned (.bool (tooBig (cutB s i (i+1))))∧w=w'):=fun w=>by
     rw[strOf_cut]
     exact tooBig_walk (cutB s i (i+1)) w (by
      intro h
      have:=congrArg List.length h
      unfold cutB at this
      rw[List.length_take,List.length_drop,data_len,List.length_nil] at this
      omega) (by unfold cutB; rw[List.length_take,List.length_drop,data_len]; omega)
    by_cases hz:cutB s i (i+1)=[45,48]
    ·have z1:((s.extract i (i+1)).toList == [45,48])=true:=by rw[ex_toList,hz]; rfl
     have HB0:Hid (∀ w,Calls Tryz.prog 149 #[.string ⟨#[48]⟩] w fun e' w'=>e' = .returned (.bool (tooBig [48]))∧w=w'):=fun w=>tooBig_walk [48] w (by simp) (by simp)
     have HR:Hid (nm s i=some ([48],i+1)):=by
      show _=_
      unfold nm
      rw[if_pos (by rw[hD]; exact hdg),hE]
      unfold norm0
      rw[if_pos hz]
     clear HB hz
     go_wp2_with fail
     refine (uh HB0 _).mono ?_
     rintro e' w3 ⟨rfl,rfl⟩
     go_wp2
     go_returns
     rw[uh HR]
     exact⟨alloc_below w _,rfl⟩
    ·have z1:((s.extract i (i+1)).toList == [45,48])=false:=by rw[ex_toList,beq_eq_false_iff_ne]; exact hz
     have HR:Hid (nm s i=some (cutB s i (i+1),i+1)):=by
      show _=_
      unfold nm
      rw[if_pos (by rw[hD]; exact hdg),hE]
      unfold norm0
      rw[if_neg hz]
     have HX:=hide (strOf_cut s i (i+1))
     clear hz
     go_wp2_with fail
     refine (uh HB _).mono ?_
     rintro e' w3 ⟨rfl,rfl⟩
     go_wp2
     go_returns
     rw[uh HR,uh HX]
     exact⟨alloc_below w _,rfl⟩
   ·have t2:((s[i].toNat:Int) == 48)=false:=by rw[beq_eq_false_iff_ne]; omega
    have hE:nmE s i=dg s (i):=by unfold nmE; rw[hD,if_neg h48]
    have HGG:Hid (∀ (j:Nat) (hj:j < s.size) w,Calls Tryz.prog 148 #[.int .u8 (s[j].toNat:Int)] w fun e w'=>e = .returned (.bool (isDg (bt s j)))∧w=w'):=fun j hj w=>by
     rw[bt_at s j hj]; exact digit_walk _ w
    clear h48 hbd
    go_enter Tryz.func112,Tryz.ntmps112
    go_wp2_with fail
    refine (uh HA _).mono ?_
    rintro e w1 ⟨rfl,rfl⟩
    go_wp2_with fail
    refine (uh HG _).mono ?_
    rintro e w2 ⟨rfl,rfl⟩
    clear HA HG
    go_wp2_with fail
    go_loopw [1] (fun k wr=>wr=w.alloc (.cells #[.string ⟨#[]⟩,.int .i64 0,.bool false,.bool false,.bool false] 96)∧∃ j:Nat,k = .int .i64 (j:Int)∧i≤j∧j≤s.size∧dg s (i)=dg s j∧(i < j∨j=i)) (fun k _=>s.size - (intOf k).toNat)
    case atStart=>exact⟨rfl,i,by go_num,Nat.le_refl _,by omega,rfl,.inr rfl⟩
    case round=>
     obtain⟨rfl,j,rfl,hj1,hj2,hst,hj3⟩:=hrel
     have HST:=hide hst
     clear hst
     by_cases hjin:j < s.size
     ·have u1:((j:Int) < (s.size:Int))=True:=eq_true (by omega)
      have HJ:=hide (fun w=>uh HGG j hjin w)
      cases hjd:isDg (bt s j) with
      | true=>
       have HX:Hid (dg s (i)=dg s (j+1)):=by show _=_; rw[uh HST,dg_on hjd]
       rw[hjd] at HJ
       clear hjd
       go_wp2_with fail
       refine (uh HJ _).mono ?_
       rintro e w3 ⟨rfl,rfl⟩
       clear HJ
       go_wp2
       go_roundw
       case rel=>exact⟨trivial,j+1,by go_num,by omega,by omega,uh HX,.inl (by omega)⟩
       case measure=>simp[intOf]; omega
      | false=>
       have HX:dg s (i)=j:=by rw[uh HST,dg_off (by rw[hjd]; simp)]
       rw[hjd] at HJ
       have hne:i < j:=by
        rcases hj3 with h | h
        ·exact h
        ·subst h; rw[hdg] at hjd; cases hjd
       rw[HX] at hE
       clear hjd HX hj3
       have i1:(i:Int)≤(j:Int):=by omega
       have i2:(j:Int)≤(s.size:Int):=by omega
       have i3:(0:Int)≤(i:Int):=by omega
       go_wp2_with fail
       refine (uh HJ _).mono ?_
       rintro e w3 ⟨rfl,rfl⟩
       clear HJ HGG
       have HB:Hid (∀ w,Calls Tryz.prog 149 #[.string (s.extract i (j))] w fun e' w'=>e' = .returned (.bool (tooBig (cutB s i (j))))∧w=w'):=fun w=>by
        rw[strOf_cut]
        exact tooBig_walk (cutB s i (j)) w (by
         intro h
         have:=congrArg List.length h
         unfold cutB at this
         rw[List.length_take,List.length_drop,data_len,List.length_nil] at this
         omega) (by unfold cutB; rw[List.length_take,List.length_drop,data_len]; omega)
       by_cases hz:cutB s i (j)=[45,48]
       ·have z1:((s.extract i (j)).toList == [45,48])=true:=by rw[ex_toList,hz]; rfl
        have HB0:Hid (∀ w,Calls Tryz.prog 149 #[.string ⟨#[48]⟩] w fun e' w'=>e' = .returned (.bool (tooBig [48]))∧w=w'):=fun w=>tooBig_walk [48] w (by simp) (by simp)
        have HR:Hid (nm s i=some ([48],j)):=by
         show _=_
         unfold nm
         rw[if_pos (by rw[hD]; exact hdg),hE]
         unfold norm0
         rw[if_pos hz]
        clear HB hz
        go_wp2_with fail
        refine (uh HB0 _).mono ?_
        rintro e' w3 ⟨rfl,rfl⟩
        go_wp2
        go_returns
        rw[uh HR]
        exact⟨alloc_below w _,rfl⟩
       ·have z1:((s.extract i (j)).toList == [45,48])=false:=by rw[ex_toList,beq_eq_false_iff_ne]; exact hz
        have HR:Hid (nm s i=some (cutB s i (j),j)):=by
         show _=_
         unfold nm
         rw[if_pos (by rw[hD]; exact hdg),hE]
         unfold norm0
         rw[if_neg hz]
        have HX:=hide (strOf_cut s i (j))
        clear hz
        go_wp2_with fail
        refine (uh HB _).mono ?_
        rintro e' w3 ⟨rfl,rfl⟩
        go_wp2
        go_returns
        rw[uh HR,uh HX]
        exact⟨alloc_below w _,rfl⟩
     ·have u1:((j:Int) < (s.size:Int))=False:=eq_false (by omega)
      have hjz:s.size≤j:=by omega
      have HX:dg s (i)=j:=by rw[uh HST,dg_off (by rw[bt_out s j (by omega)]; simp[isDg])]
      rw[HX] at hE
      clear HX hj3 HGG hjz
      have i1:(i:Int)≤(j:Int):=by omega
      have i2:(j:Int)≤(s.size:Int):=by omega
      have i3:(0:Int)≤(i:Int):=by omega
      have HB:Hid (∀ w,Calls Tryz.prog 149 #[.string (s.extract i (j))] w fun e' w'=>e' = .returned (.bool (tooBig (cutB s i (j))))∧w=w'):=fun w=>by
       rw[strOf_cut]
       exact tooBig_walk (cutB s i (j)) w (by
        intro h
        have:=congrArg List.length h
        unfold cutB at this
        rw[List.length_take,List.length_drop,data_len,List.length_nil] at this
        omega) (by unfold cutB; rw[List.length_take,List.length_drop,data_len]; omega)
      by_cases hz:cutB s i (j)=[45,48]
      ·have z1:((s.extract i (j)).toList == [45,48])=true:=by rw[ex_toList,hz]; rfl
       have HB0:Hid (∀ w,Calls Tryz.prog 149 #[.string ⟨#[48]⟩] w fun e' w'=>e' = .returned (.bool (tooBig [48]))∧w=w'):=fun w=>tooBig_walk [48] w (by simp) (by simp)
       have HR:Hid (nm s i=some ([48],j)):=by
        show _=_
        unfold nm
        rw[if_pos (by rw[hD]; exact hdg),hE]
        unfold norm0
        rw[if_pos hz]
       clear HB hz
       go_wp2_with fail
       refine (uh HB0 _).mono ?_
       rintro e' w3 ⟨rfl,rfl⟩
       go_wp2
       go_returns
       rw[uh HR]
       exact⟨alloc_below w _,rfl⟩
      ·have z1:((s.extract i (j)).toList == [45,48])=false:=by rw[ex_toList,beq_eq_false_iff_ne]; exact hz
       have HR:Hid (nm s i=some (cutB s i (j),j)):=by
        show _=_
        unfold nm
        rw[if_pos (by rw[hD]; exact hdg),hE]
        unfold norm0
        rw[if_neg hz]
       have HX:=hide (strOf_cut s i (j))
       clear hz
       go_wp2_with fail
       refine (uh HB _).mono ?_
       rintro e' w3 ⟨rfl,rfl⟩
       go_wp2
       go_returns
       rw[uh HR,uh HX]
       exact⟨alloc_below w _,rfl⟩
 ·have t1:((s.size:Int)≤(i:Int))=True:=eq_true (by omega)
  have HR:Hid (((nm s i).map fun q=>(JV.num q.1,q.2))=none):=by
   show _=_
   unfold nm
   rw[hD,if_neg (by rw[bt_out s (i) (by omega)]; simp[isDg])]; rfl
  go_enter Tryz.func112,Tryz.ntmps112
  go_wp2_with fail
  refine (uh HA _).mono ?_
  rintro e w1 ⟨rfl,rfl⟩
  go_wp2
  go_returns
  exact GP.bad (uh HR) (alloc_below w _)
theorem num_walk (s:ByteArray) (i:Nat) (w:World) (hs:s.size≤1048576) (hi:i≤s.size+1) :
  Calls Tryz.prog 112 #[.string s,.int .i64 i] w (GP w ((nm s i).map fun q=>(.num q.1,q.2))):=by
 by_cases h:bt s i=45
 ·exact num_neg s i w hs hi h
 ·exact num_pos s i w hs hi h
end Go.Proofs.YtocnekbedcnmgaaGreatDoor
