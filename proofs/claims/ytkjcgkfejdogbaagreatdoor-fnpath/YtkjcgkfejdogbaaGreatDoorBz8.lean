import Derived.Deep.LoopGhost
import Derived.Test.YtkjcgkfejdogbaaGreatDoorBz7
import Derived.Test.YtkjcgkfejdogbaaGreatDoorBz5
set_option maxRecDepth 100000
set_option maxHeartbeats 8000000
namespace Go.Proofs.YtkjcgkfejdogbaaGreatDoor
open Go.RowKit
theorem isB_kb {B b rb:Nat} {l:List UInt8} {w w':World} (h:IsB B b l w) (hr:rb < B) (k:KB rb w w') : IsB B b l w':=by
 have g:∀ p,Lib.BuilderAt 51 5 B b p (Lib.byteCells l) w→Lib.BuilderAt 51 5 B b p (Lib.byteCells l) w':=by
  rintro p ⟨hB,v,hb,hown,hne⟩
  have hlt:=(Array.getElem?_eq_some_iff.1 hb).1
  refine⟨hB,v,(k.block b hlt (by omega)).trans hb,⟨hown.1,?_⟩,hne⟩
  rcases hown.2 with hn | ⟨g,cap,cur,hv,hbg,hg,rest⟩
  ·exact .inl hn
  ·have hgl:=(Array.getElem?_eq_some_iff.1 hg).1
   exact .inr ⟨g,cap,cur,hv,hbg,(k.block g hgl (by omega)).trans hg,rest⟩
 exact h.elim (fun x=>.inl (g _ x)) (fun x=>.inr (g _ x))
theorem kb_below {rb:Nat} {w w1 w2:World} (h:KB rb w w1) (b:Below w.heap.size w1 w2) : KB rb w w2:=
 ⟨b.os.trans h.os,b.tape.trans h.tape,b.output.trans h.output,Nat.le_trans h.size b.size,fun k hk hn=>(b.block k hk).trans (h.block k hk hn)⟩
theorem PRd.below' {rb:Nat} {s:ByteArray} {i:Nat} {d:Int} {B:Nat} {w w':World} (h:PRd rb s i d w) (hb:Below B w w') (hB:rb < B) : PRd rb s i d w':=(hb.block rb hB).trans h
theorem readQEsc_walk (rb:Nat) (s:ByteArray) (i:Nat) (d:Int) (w:World) (h:PRd rb s i d w) (hs:s.size≤1048576) (hi:i≤s.size) :
  Calls Tryz.prog 121 #[.pointer (some ⟨rb,0,none⟩)] w fun e w'=>KB rb w w'∧((¬ (bt s i=39∨bt s i=92)∧e=mis)∨((bt s i=39∨bt s i=92)∧e = .returned (.int .u8 (bt s i))∧PRd rb s (i+1) d w')):=by
 by_cases hlt:i < s.size
 ·have HN:=hide (pnext_in rb s i d w h hs hlt)
  clear h
  go_enter Tryz.func121,Tryz.ntmps121
  go_wp2_with fail
  refine (uh HN).mono ?_
  rintro e w1 ⟨rfl,r1,k1⟩
  have R1:=hide r1
  have K1:=hide k1
  clear HN r1 k1
  by_cases h39:bt s i=39
  ·have n39:((bt s i:Int) != 39)=false:=by rw[h39]; rfl
   have HX:=hide h39
   clear h39
   go_wp2
   go_ret
   exact⟨uh K1,.inr ⟨.inl (uh HX),rfl,uh R1⟩⟩
  ·have n39:((bt s i:Int) != 39)=true:=by rw[bne_iff_ne]; omega
   by_cases h92:bt s i=92
   ·have n92:((bt s i:Int) != 92)=false:=by rw[h92]; rfl
    have HX:=hide h92
    clear h92 h39
    go_wp2
    go_ret
    exact⟨uh K1,.inr ⟨.inr (uh HX),rfl,uh R1⟩⟩
   ·have n92:((bt s i:Int) != 92)=true:=by rw[bne_iff_ne]; omega
    have HX:Hid (¬ (bt s i=39∨bt s i=92)):=fun h=>by omega
    clear h92 h39
    go_wp2
    exact⟨rfl,uh K1,.inl ⟨uh HX,rfl⟩⟩
 ·have HN:=hide (pnext_out rb s i d w h (by omega))
  have HX:Hid (¬ (bt s i=39∨bt s i=92)):=fun h=>by rw[bt_out s i (by omega)] at h; omega
  clear h
  go_enter Tryz.func121,Tryz.ntmps121
  go_wp2_with fail
  refine (uh HN).mono ?_
  rintro e w1 ⟨rfl,k1⟩
  exact⟨rfl,k1,.inl ⟨uh HX,rfl⟩⟩
def QUp (s:ByteArray) (R:Option (Bs×Bs)) (j:Nat) (l:Bs) : Prop:=R=(pQ (dr s j)).map fun p=>(l++p.1,p.2)
theorem QUp.fin {s:ByteArray} {R:Option (Bs×Bs)} {j:Nat} {l:Bs} (h:QUp s R j l) (hb:bt s j=39) : R=some (l,dr s (j+1)):=by
 have hj:j < s.size:=bt_in (by rw[hb]; decide)
 have hc:s[j]=39:=by rw[bt_at s j hj] at hb; exact UInt8.toNat_inj.1 hb
 rw[h,dr_at hj,pQ_con,if_pos hc]; simp
theorem QUp.out {s:ByteArray} {R:Option (Bs×Bs)} {j:Nat} {l:Bs} (h:QUp s R j l) (hj:s.size≤j) : R=none:=by
 rw[h,dr_end hj,pQ_nil]; rfl
theorem QUp.escNo {s:ByteArray} {R:Option (Bs×Bs)} {j:Nat} {l:Bs} (h:QUp s R j l) (hb:bt s j=92) (hn:¬ (bt s (j+1)=39∨bt s (j+1)=92)) : R=none:=by
 have hj:j < s.size:=bt_in (by rw[hb]; decide)
 have hc:s[j]=92:=by rw[bt_at s j hj] at hb; exact UInt8.toNat_inj.1 hb
 rw[h,dr_at hj,pQ_con,if_neg (by rw[hc]; decide),if_pos hc]
 by_cases hj2:j+1 < s.size
 ·rw[dr_at hj2]
  simp only
  rw[if_neg]
  ·rfl
  ·intro e
   refine hn ?_
   rw[bt_at s (j+1) hj2]
   rcases e with e | e
   ·left; rw[e]; rfl
   ·right; rw[e]; rfl
 ·rw[dr_end (by omega)]; rfl
theorem QUp.esc {s:ByteArray} {R:Option (Bs×Bs)} {j:Nat} {l:Bs} (h:QUp s R j l) (hb:bt s j=92) (hj2:j+1 < s.size) (hn:bt s (j+1)=39∨bt s (j+1)=92) : QUp s R (j+2) (l++[s[j+1]]):=by
 have hj:j < s.size:=by omega
 have hc:s[j]=92:=by rw[bt_at s j hj] at hb; exact UInt8.toNat_inj.1 hb
 unfold QUp
 rw[h,dr_at hj,pQ_con,if_neg (by rw[hc]; decide),if_pos hc,dr_at hj2]
 simp only
 rw[if_pos]
 ·rw[Option.map_map]; congr 1; funext p; simp
 ·rw[bt_at s (j+1) hj2] at hn
  rcases hn with e | e
  ·left; exact UInt8.toNat_inj.1 e
  ·right; exact UInt8.toNat_inj.1 e
theorem QUp.low {s:ByteArray} {R:Option (Bs×Bs)} {j:Nat} {l:Bs} (h:QUp s R j l) (hj:j < s.size) (h1:¬ bt s j=39) (h2:¬ bt s j=92) (h3:bt s j < 32) : R=none:=by
 have e:=bt_at s j hj
 rw[h,dr_at hj,pQ_con,if_neg (fun c=>h1 (by rw[e,c]; rfl)),if_neg (fun c=>h2 (by rw[e,c]; rfl)),if_pos (by rw[← e]; exact h3)]; rfl
theorem QUp.chr {s:ByteArray} {R:Option (Bs×Bs)} {j:Nat} {l:Bs} (h:QUp s R j l) (hj:j < s.size) (h1:¬ bt s j=39) (h2:¬ bt s j=92) (h3:¬ bt s j < 32) : QUp s R (j+1) (l++[s[j]]):=by
 have e:=bt_at s j hj
 unfold QUp
 rw[h,dr_at hj,pQ_con,if_neg (fun c=>h1 (by rw[e,c]; rfl)),if_neg (fun c=>h2 (by rw[e,c]; rfl)),if_neg (by rw[← e]; exact h3),Option.map_map]
 congr 1
 funext p
 simp
def RdP (rb:Nat) (s:ByteArray) (d:Int) (w:World) (R:Option (Value×Nat)) (e:Ending) (w':World) : Prop:=
 KB rb w w'∧match R with
  | none=>e=mis
  | some q=>e = .returned q.1∧PRd rb s q.2 d w'∧q.2≤s.size
def strP (s:ByteArray) (i:Nat) : Option (Value×Nat):=(pStr (dr s i)).map fun p=>(.string (bsT p.1),s.size - p.2.length)
theorem readQuoted_walk (rb:Nat) (s:ByteArray) (i:Nat) (d:Int) (w:World) (h:PRd rb s i d w) (hs:s.size≤1048576) (hi:i≤s.size) :
  Calls Tryz.prog 111 #[.pointer (some ⟨rb,0,none⟩)] w (RdP rb s d w (strP s i)):=by
 have hlt:=h.lt
 have hal:PRd rb s i d (w.alloc (.cells #[.pointer none,.slice none 0 0] 51)):=h.below ((Below.refl _ _).alloc (Nat.le_refl _) _)
 by_cases h39:bt s i=39
 ·have hlt':i < s.size:=bt_in (by rw[h39]; decide)
  have HE:=hide (pexpect_yes rb s i d _ hal hs 39 h39 hlt')
  have hc:s[i]=39:=by have h:=h39; rw[bt_at s i hlt'] at h; exact UInt8.toNat_inj.1 h
  have HQ:Hid (pStr (dr s i)=pQ (dr s (i+1))):=by show _=_; rw[dr_at hlt',hc]; rfl
  have HU:Hid (QUp s (pQ (dr s (i+1))) (i+1) []):=by show QUp _ _ _ _; unfold QUp; cases pQ (dr s (i+1)) <;> simp
  have HV:Hid (strP s i=(pQ (dr s (i+1))).map fun p=>(.string (bsT p.1),s.size - p.2.length)):=by show _=_; unfold strP; rw[uh HQ]
  generalize pQ (dr s (i+1))=R at *
  generalize strP s i=RR at *
  clear hal h h39 hc HQ
  go_enter Tryz.func111,Tryz.ntmps111
  go_wp2_with fail
  refine (uh HE).mono ?_
  rintro e w1 ⟨rfl,r1,k1⟩
  have R1:=hide r1
  clear HE r1
  go_wp2_with fail
  go_loopg [] (s.size+1 - (i+1)) (fun g wr=>∃ (j:Nat) (l:List UInt8),g=s.size+1 - j∧j≤s.size∧l.length≤j∧IsB w.heap.size w.heap.size l wr∧PRd rb s j d wr∧KB rb w wr∧Hid (QUp s R j l))
  case atStart=>
   exact⟨i+1,[],rfl,by omega,by simp,isB_kb (l:=[]) (Lib.fresh_isBuilder _ _ w) hlt k1,uh R1,(KB.of_below ((Below.refl _ _).alloc (Nat.le_refl _) _)).trans k1,HU⟩
  case round=>
   obtain⟨j,l,hg,hj,hl,hI,hr,hk,hu⟩:=hrel
   have hgs:=hk.size
   have hrlt:=hr.lt
   have HI:=hide hI
   have HR:=hide hr
   have HK:=hide hk
   clear R1 hI hr k1 HU hk
   by_cases h39:bt s j=39
   ·have hjl:j < s.size:=bt_in (by rw[h39]; decide)
    have HS:=hide (pskip_yes rb s j d wr (uh HR) hs 39 h39 hjl)
    have HF:Hid (RR=some (.string (bsT l),j+1)):=by
     show _=_
     rw[uh HV,(uh hu).fin h39]
     simp only[Option.map_some,dr_len]
     congr 2
     omega
    clear h39
    go_wp2_with fail
    refine (uh HS).mono ?_
    rintro e w2 ⟨rfl,r2,k2⟩
    have R2:=hide r2
    have HB:=hide (bldString w.heap.size w.heap.size l w2 (isB_kb (uh HI) hlt k2) (by have:=k2.size; omega))
    have K2:=hide k2
    clear HS r2 k2
    go_wp2_with fail
    refine (uh HB).mono ?_
    rintro e w3 ⟨rfl,b3⟩
    have R3:=hide ((uh R2).below' b3 hlt)
    have K3:=hide (kb_below ((uh HK).trans (uh K2)) b3)
    clear HB b3
    go_wp2
    go_ret
    exact⟨uh K3,by rw[uh HF]; exact⟨rfl,uh R3,by show j+1≤_; omega⟩⟩
   ·have HS:=hide (pskip_no rb s j d wr (uh HR) hj 39 (.inl h39))
    go_wp2_with fail
    refine (uh HS).mono ?_
    rintro e w2 ⟨rfl,r2,k2⟩
    have hr2:=r2
    have HK2:=hide ((uh HK).trans k2)
    have HI2:=hide (isB_kb (uh HI) hlt k2)
    have hz2:=k2.size
    clear HS HI HR HK k2
    by_cases hjl:j < s.size
    ·have HN:=hide (pnext_in rb s j d w2 hr2 hs hjl)
     clear r2 hr2
     go_wp2_with fail
     refine (uh HN).mono ?_
     rintro e w3 ⟨rfl,r3,k3⟩
     have HR3:=hide r3
     have HK3:=hide ((uh HK2).trans k3)
     have HI3:=hide (isB_kb (uh HI2) hlt k3)
     have hz3:=k3.size
     clear HN HK2 HI2 r3 k3
     by_cases h92:bt s j=92
     ·have b92:((bt s j:Int) == 92)=true:=by rw[h92]; rfl
      have HQE:=hide (readQEsc_walk rb s (j+1) d w3 (uh HR3) hs (by omega))
      have HNO:=hide (fun hn=>(uh hu).escNo h92 hn)
      have HYES:=hide (fun hj2 hn=>(uh hu).esc h92 hj2 hn)
      clear h92 hu
      go_wp2_with fail
      refine (uh HQE).mono ?_
      rintro e w4 ⟨k4,⟨hno,rfl⟩ | ⟨hyes,rfl,r4⟩⟩
      ·have HF:Hid (RR=none):=by show _=_; rw[uh HV,uh HNO hno]; rfl
       exact⟨rfl,(uh HK3).trans k4,by rw[uh HF]; rfl⟩
      ·have hj2:j+1 < s.size:=bt_in (by omega)
       have HU2:=hide (uh HYES hj2 hyes)
       have c32:¬ ((bt s (j+1) : Nat) : Int) < 32:=by omega
       have hz4:=k4.size
       have HW:=hide (writeByte_k w.heap.size w.heap.size (Lib.byteCells l) (bt s (j+1) : Int) w4 (isB_kb (uh HI3) hlt k4) (by rw[Lib.byteCells_length]; omega) (by omega))
       have HR4:=hide r4
       have HK4:=hide ((uh HK3).trans k4)
       have HBT:Hid (((bt s (j+1) : Nat) : Int)=(s[j+1].toNat:Int)):=by show _=_; rw[bt_at s (j+1) hj2]
       clear HQE HNO HYES hyes r4 k4 HR3 HI3
       go_wp2_with fail
       refine (uh HW).mono ?_
       rintro e w5 ⟨rfl,i5,b5,-⟩
       have HI5:Hid (IsB w.heap.size w.heap.size (l++[s[j+1]]) w5):=IsB.byte (uh HBT) i5
       have HR5:=hide ((uh HR4).below' b5 hlt)
       have HK5:=hide (kb_below (uh HK4) b5)
       clear HW i5 b5
       go_wp2
       go_roundg (s.size+1 - (j+2))
       case rel=>exact⟨j+2,_,rfl,by omega,by simp; omega,uh HI5,uh HR5,uh HK5,HU2⟩
       case measure=>omega
     ·have b92:((bt s j:Int) == 92)=false:=by rw[beq_eq_false_iff_ne]; omega
      by_cases h32:bt s j < 32
      ·have c32:((bt s j:Nat) : Int) < 32:=by omega
       have HF:Hid (RR=none):=by show _=_; rw[uh HV,(uh hu).low hjl h39 h92 h32]; rfl
       clear h32 h92 hu h39
       go_wp2
       exact⟨rfl,uh HK3,by rw[uh HF]; rfl⟩
      ·have c32:¬ ((bt s j:Nat) : Int) < 32:=by omega
       have HU2:=hide ((uh hu).chr hjl h39 h92 h32)
       have HW:=hide (writeByte_k w.heap.size w.heap.size (Lib.byteCells l) (bt s j:Int) w3 (uh HI3) (by rw[Lib.byteCells_length]; omega) (by omega))
       have HBT:Hid (((bt s j:Nat) : Int)=(s[j].toNat:Int)):=by show _=_; rw[bt_at s j hjl]
       clear h32 h92 hu h39
       go_wp2_with fail
       refine (uh HW).mono ?_
       rintro e w5 ⟨rfl,i5,b5,-⟩
       have HI5:Hid (IsB w.heap.size w.heap.size (l++[s[j]]) w5):=IsB.byte (uh HBT) i5
       have HR5:=hide ((uh HR3).below' b5 hlt)
       have HK5:=hide (kb_below (uh HK3) b5)
       clear HW i5 b5
       go_wp2
       go_roundg (s.size+1 - (j+1))
       case rel=>exact⟨j+1,_,rfl,by omega,by simp; omega,uh HI5,uh HR5,uh HK5,HU2⟩
       case measure=>omega
    ·have HN:=hide (pnext_out rb s j d w2 hr2 (by omega))
     have HF:Hid (RR=none):=by show _=_; rw[uh HV,(uh hu).out (by omega)]; rfl
     clear r2 hr2
     go_wp2_with fail
     refine (uh HN).mono ?_
     rintro e w3 ⟨rfl,k3⟩
     exact⟨rfl,(uh HK2).trans k3,by rw[uh HF]; rfl⟩
 ·have HE:=hide (pexpect_no rb s i d _ hal hs hi 39 (.inl h39))
  have HQ:Hid (strP s i=none):=by
   show _=_
   unfold strP
   cases hd:dr s i with
   | nil=>rfl
   | cons c r=>
    have hlt':i < s.size:=by
     apply Classical.byContradiction
     intro hn
     rw[dr_end (by omega)] at hd; cases hd
    rw[dr_at hlt'] at hd
    injection hd with hd _
    have:¬ c=39:=fun e=>h39 (by rw[bt_at s i hlt',hd,e]; rfl)
    show Option.map _ (if c=39 then _ else _)=_
    rw[if_neg this]; rfl
  clear hal h h39
  go_enter Tryz.func111,Tryz.ntmps111
  go_wp2_with fail
  refine (uh HE).mono ?_
  rintro e w1 ⟨rfl,k1⟩
  clear HE
  refine⟨rfl,(KB.of_below ((Below.refl _ _).alloc (Nat.le_refl _) _)).trans k1,by rw[uh HQ]; rfl⟩
end Go.Proofs.YtkjcgkfejdogbaaGreatDoor
