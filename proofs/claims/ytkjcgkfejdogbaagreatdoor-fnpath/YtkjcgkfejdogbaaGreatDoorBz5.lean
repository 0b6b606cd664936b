import Derived.Test.YtkjcgkfejdogbaaGreatDoorBz4
import Derived.Test.YtkjcgkfejdogbaaGreatDoorBz1
import Derived.Deep.QuietTactic
import Derived.BigQuiet
import Derived.Shelf.Strings.Builder1
import Derived.WalkKit
import Derived.Test.YtkjcgkfejdogbaaGreatDoorRows
import Derived.Lib.OthersKept
set_option maxRecDepth 100000
set_option maxHeartbeats 8000000
namespace Go.Proofs.YtkjcgkfejdogbaaGreatDoor
open Go.RowKit
theorem int_neg (D:Bs) : sInt (45 :: D)=if sNat D=true then some (-(digV D:Int)) else none:=by
 show (if (45 :: D)=[48] then some 0 else if (45:UInt8)=45 then (if sNat D=true then some (-(digV D:Int)) else none) else (if sNat (45 :: D)=true then some (digV (45 :: D) : Int) else none))=_
 rw[if_neg (by intro e; injection e with e _; exact absurd e (by decide)),if_pos rfl]
theorem int_pos {c:UInt8} {r:Bs} (h:¬ c=45) : sInt (c :: r)=if (c :: r)=[48] then some 0 else if sNat (c :: r)=true then some (digV (c :: r) : Int) else none:=by
 show (if (c :: r)=[48] then some 0 else if c=45 then (if sNat r=true then some (-(digV r:Int)) else none) else (if sNat (c :: r)=true then some (digV (c :: r) : Int) else none))=_
 rw[if_neg h]
theorem sNat_iff {D:Bs} : sNat D=true↔1≤D.length∧D.length≤9∧(∀ c∈D,isDg c.toNat=true)∧D.head?≠some 48:=by
 unfold sNat
 simp only[Bool.and_eq_true,decide_eq_true_eq,List.all_eq_true]
 constructor
 ·rintro⟨⟨⟨a,b⟩,c⟩,d⟩; exact⟨a,b,c,d⟩
 ·rintro⟨a,b,c,d⟩; exact⟨⟨⟨a,b⟩,c⟩,d⟩
def intV (o:Option Int) : Value:=.tuple #[.int .i64 (o.getD 0),.bool o.isSome]
theorem hd_data {d:ByteArray} (h:0 < d.size) : d.data.toList.head?=some d[0]:=by
 have e:=dr_at h
 rw[dr_zero] at e
 rw[e]; rfl
theorem all_data {d:ByteArray} (h:∀ k (hk:k < d.size),isDg d[k].toNat=true) : ∀ c∈d.data.toList,isDg c.toNat=true:=by
 intro c hc
 obtain⟨j,hj,rfl⟩:=List.getElem_of_mem hc
 exact h j (by rw[data_len] at hj; exact hj)
theorem int_walk (s:ByteArray) (w:World) (hs:s.size≤1048576) : Calls Tryz.prog 67 #[.string s] w fun e w'=>e = .returned (intV (sInt s.data.toList))∧w=w':=by
 by_cases h0:0 < s.size
 ·have h0I:(0:Int) < (s.size:Int):=by omega
  have hE:=dr_at h0
  rw[dr_zero] at hE
  by_cases h45:s[0]=45
  ·have b45:(((s[0].toNat:Nat) : Int) == 45)=true:=by rw[beq_iff_eq]; exact u8_is h45
   have hS:sInt s.data.toList=if sNat (dr s 1)=true then some (-(digV (dr s 1) : Int)) else none:=by rw[hE,h45,int_neg]
   have hx:∃ d,s.extract 1 s.size=d∧d.size=s.size - 1∧d.data.toList=dr s 1:=⟨_,rfl,by simp,by rw[Lib.extract_data]; unfold dr; exact List.take_of_length_le (by rw[List.length_drop,data_len]; exact Nat.le_refl _)⟩
   obtain⟨d,hX,hsz,hdt⟩:=hx
   rw[← hdt] at hS
   have h1I:(1:Int)≤(s.size:Int):=by omega
   have hz:(s.toList == [48])=false:=by
    rw[beq_eq_false_iff_ne,ByteArray.toList_eq,hE,h45]
    intro e
    injection e with e _
    exact absurd e (by decide)
   have hdm:d.size≤1048576:=by omega
   clear hE hdt h45 hsz
   by_cases h1:d.size < 1
   ·have HB:Hid (sInt s.data.toList=none):=by show _=_; rw[hS,if_neg]; intro h; have:=(sNat_iff.1 h).1; rw[data_len] at this; omega
    have t1:((d.size:Nat) : Int) < 1:=by omega
    clear hS h1 hz
    go_enter Tryz.func67,Tryz.ntmps67
    go_wp2
    go_ret2
    exact⟨by rw[uh HB]; rfl,rfl⟩
   ·have t1:¬ ((d.size:Nat) : Int) < 1:=by omega
    by_cases h9:9 < d.size
    ·have HB:Hid (sInt s.data.toList=none):=by show _=_; rw[hS,if_neg]; intro h; have:=(sNat_iff.1 h).2.1; rw[data_len] at this; omega
     have t2:(9:Int) < ((d.size:Nat) : Int):=by omega
     clear hS h1 hz
     go_enter Tryz.func67,Tryz.ntmps67
     go_wp2
     go_ret2
     exact⟨by rw[uh HB]; rfl,rfl⟩
    ·have t2:¬ (9:Int) < ((d.size:Nat) : Int):=by omega
     have hd0:0 < d.size:=by omega
     have hd0I:(0:Int) < ((d.size:Nat) : Int):=by omega
     by_cases h48:d[0]=48
     ·have HB:Hid (sInt s.data.toList=none):=by show _=_; rw[hS,if_neg]; intro h; exact (sNat_iff.1 h).2.2.2 (by rw[hd_data hd0,h48])
      have b48:(((d[0].toNat:Nat) : Int) == 48)=true:=by rw[beq_iff_eq]; exact u8_is h48
      clear hS h1 h48
      go_enter Tryz.func67,Tryz.ntmps67
      go_wp2
      go_ret2
      exact⟨by rw[uh HB]; rfl,rfl⟩
     ·have b48:(((d[0].toNat:Nat) : Int) == 48)=false:=beq_eq_false_iff_ne.2 (u8_not h48)
      have HD:Hid (∀ (k:Nat) (hk:k < d.size) (w:World),Calls Tryz.prog 45 #[.int .u8 (d[k].toNat:Int)] w fun e w'=>e = .returned (.bool (isDg d[k].toNat))∧w=w'):=fun k hk w=>digB_walk _ w
      have HBAD:Hid (∀ k (hk:k < d.size),isDg d[k].toNat=false→sInt s.data.toList=none):=fun k hk hd=>by
       rw[hS,if_neg]
       intro h
       have:=(sNat_iff.1 h).2.2.1 d[k] (by rw[← tokD d k hk]; exact List.getElem_mem _)
       rw[hd] at this; cases this
      have HGOOD:Hid ((∀ k (hk:k < d.size),isDg d[k].toNat=true)→sInt s.data.toList=some (-(digV d.data.toList:Int))):=fun hall=>by
       rw[hS,if_pos]
       exact sNat_iff.2 ⟨by rw[data_len]; omega,by rw[data_len]; omega,all_data hall,by rw[hd_data hd0]; intro e; injection e with e; exact h48 e⟩
      clear hS h1 h48 hz
      go_enter Tryz.func67,Tryz.ntmps67
      go_wp2
      go_loopw [6,7] (fun vv iv wr=>∃ k:Nat,k≤d.size∧iv = .int .i64 (k:Int)∧vv = .int .i64 ((digV (d.data.toList.take k) : Nat) : Int)∧(∀ j (hj:j < d.size),j < k→isDg d[j].toNat=true)∧w=wr) (fun _ iv _=>d.size - (intOf iv).toNat)
      case atStart=>exact⟨0,Nat.zero_le _,rfl,rfl,fun j _ hj=>by omega,rfl⟩
      case round=>
       obtain⟨k,hk,rfl,rfl,hall,rfl⟩:=hrel
       have HALL:=hide hall
       clear hall
       by_cases hlt:k < d.size
       ·have hltI:(k:Int) < (d.size:Int):=by omega
        have HDk:=hide (uh HD k hlt w)
        have hst:d.data.toList.take (k+1)=d.data.toList.take k++[d[k]]:=bytes_snoc d k hlt
        have HST:Hid (digV (d.data.toList.take (k+1))=digV (d.data.toList.take k)*10+(d[k].toNat - 48)):=by show _=_; rw[hst,digV_snoc]
        have hlo:digV (d.data.toList.take k) < 1000000000∨¬ ∀ c∈d.data.toList.take k,isDg c.toNat=true:=by
         rcases dig_lt k (d.data.toList.take k) (by rw[List.length_take,data_len]; omega) with h | h
         ·left
          have:10 ^ k≤10 ^ 9:=Nat.pow_le_pow_right (by omega) (by omega)
          omega
         ·exact .inr h
        have hlo':digV (d.data.toList.take k) < 1000000000:=hlo.elim id fun h=>absurd (fun c hc=>by
         obtain⟨j,hj,rfl⟩:=List.getElem_of_mem hc
         rw[List.length_take,data_len] at hj
         rw[List.getElem_take]
         exact uh HALL j (by omega) (by omega)) h
        cases hd:isDg d[k].toNat with
        | false=>
         have HV:=hide (uh HBAD k hlt hd)
         rw[hd] at HDk
         clear hd HST hst hlo hlo' HALL HBAD HGOOD HD
         go_wp2_with fail
         refine (uh HDk).mono ?_
         rintro e w2 ⟨rfl,rfl⟩
         clear HDk
         go_wp2
         go_ret2
         exact⟨by rw[uh HV]; rfl,rfl⟩
        | true=>
         have hb:=isDg_iff.1 hd
         have HA2:Hid (∀ j (hj:j < d.size),j < k+1→isDg d[j].toNat=true):=fun j hj hjk=>by
          by_cases e:j=k
          ·subst e; exact hd
          ·exact uh HALL j hj (by omega)
         rw[hd] at HDk
         have hb1:(48:Int)≤(d[k].toNat:Int):=by omega
         have hb2:(d[k].toNat:Int)≤57:=by omega
         generalize digV (d.data.toList.take k)=D at *
         clear hd hst hlo HALL HBAD HGOOD HD
         go_wp2_with fail
         refine (uh HDk).mono ?_
         rintro e w2 ⟨rfl,rfl⟩
         clear HDk
         go_wp2
         go_roundw
         case rel=>exact⟨k+1,by omega,by go_num,by rw[uh HST]; (congr 1; omega),fun j hj h=>uh HA2 j hj h,trivial⟩
         case measure=>simp[intOf]; omega
       ·obtain rfl:k=d.size:=by omega
        have HV:=hide (uh HGOOD (fun j hj=>uh HALL j hj hj))
        have HT:Hid (digV (d.data.toList.take d.size)=digV d.data.toList):=by show _=_; rw[List.take_of_length_le (by rw[data_len]; exact Nat.le_refl _)]
        rw[uh HT]
        have hlo2:digV d.data.toList < 1000000000:=by
         rcases dig_lt _ d.data.toList rfl with h | h
         ·have:10 ^ d.data.toList.length≤10 ^ 9:=Nat.pow_le_pow_right (by omega) (by rw[data_len]; omega)
          omega
         ·exact absurd (all_data fun j hj=>uh HALL j hj hj) h
        clear HALL HBAD HGOOD HD HT
        generalize digV d.data.toList=D at *
        go_wp2
        go_ret2
        exact⟨by rw[uh HV]; rfl,rfl⟩
  ·have b45:(((s[0].toNat:Nat) : Int) == 45)=false:=beq_eq_false_iff_ne.2 (u8_not h45)
   have hS:sInt s.data.toList=if s.data.toList=[48] then some 0 else if sNat s.data.toList=true then some (digV s.data.toList:Int) else none:=by
    rw[hE,int_pos h45]
   have t1:¬ (s.size:Int) < 1:=by omega
   clear hE h45
   by_cases h9:9 < s.size
   ·have HB:Hid (sInt s.data.toList=none):=by
     show _=_
     rw[hS,if_neg (by intro e; have:=congrArg List.length e; rw[data_len] at this; simp at this; omega),if_neg]
     intro h; have:=(sNat_iff.1 h).2.1; rw[data_len] at this; omega
    have t2:(9:Int) < (s.size:Int):=by omega
    clear hS
    go_enter Tryz.func67,Tryz.ntmps67
    go_wp2
    go_ret2
    exact⟨by rw[uh HB]; rfl,rfl⟩
   ·have t2:¬ (9:Int) < (s.size:Int):=by omega
    by_cases hz:s[0]=48∧¬ s.data.toList=[48]
    ·have HB:Hid (sInt s.data.toList=none):=by
      show _=_
      rw[hS,if_neg hz.2,if_neg]
      intro h; exact (sNat_iff.1 h).2.2.2 (by rw[hd_data h0,hz.1])
     have b48:(((s[0].toNat:Nat) : Int) == 48)=true:=by rw[beq_iff_eq]; exact u8_is hz.1
     have bz:(s.toList == [48])=false:=by rw[beq_eq_false_iff_ne,ByteArray.toList_eq]; exact hz.2
     clear hS hz
     go_enter Tryz.func67,Tryz.ntmps67
     go_wp2
     go_ret2
     exact⟨by rw[uh HB]; rfl,rfl⟩
    ·have HD:Hid (∀ (k:Nat) (hk:k < s.size) (w:World),Calls Tryz.prog 45 #[.int .u8 (s[k].toNat:Int)] w fun e w'=>e = .returned (.bool (isDg s[k].toNat))∧w=w'):=fun k hk w=>digB_walk _ w
     have HBAD:Hid (∀ k (hk:k < s.size),isDg s[k].toNat=false→sInt s.data.toList=none):=fun k hk hd=>by
      have hm:s[k]∈s.data.toList:=by rw[← tokD s k hk]; exact List.getElem_mem _
      rw[hS,if_neg,if_neg]
      ·intro h
       have:=(sNat_iff.1 h).2.2.1 s[k] hm
       rw[hd] at this; cases this
      ·intro e
       rw[e] at hm
       have:s[k]=48:=by simpa using hm
       rw[this] at hd
       exact absurd hd (by decide)
     have HGOOD:Hid ((∀ k (hk:k < s.size),isDg s[k].toNat=true)→sInt s.data.toList=some (digV s.data.toList:Int)):=fun hall=>by
      rw[hS]
      by_cases e:s.data.toList=[48]
      ·rw[if_pos e,e]; rfl
      ·rw[if_neg e,if_pos]
       exact sNat_iff.2 ⟨by rw[data_len]; omega,by rw[data_len]; omega,all_data hall,by rw[hd_data h0]; intro e2; injection e2 with e2; exact hz ⟨e2,e⟩⟩
     have t34:(((s[0].toNat:Nat) : Int) == 48)=false∨(((s[0].toNat:Nat) : Int) == 48)=true∧(s.toList == [48])=true:=by
      by_cases e:s[0]=48
      ·right
       refine⟨by rw[beq_iff_eq]; exact u8_is e,?_⟩
       rw[beq_iff_eq,ByteArray.toList_eq]
       exact Classical.not_not.1 fun h=>hz ⟨e,h⟩
      ·left; exact beq_eq_false_iff_ne.2 (u8_not e)
     clear hS hz
     rcases t34 with t3 | ⟨t3,t4⟩
     ·skip
      go_enter Tryz.func67,Tryz.ntmps67
      go_wp2
      go_loopw [6,7] (fun vv iv wr=>∃ k:Nat,k≤s.size∧iv = .int .i64 (k:Int)∧vv = .int .i64 ((digV (s.data.toList.take k) : Nat) : Int)∧(∀ j (hj:j < s.size),j < k→isDg s[j].toNat=true)∧w=wr) (fun _ iv _=>s.size - (intOf iv).toNat)
      case atStart=>exact⟨0,Nat.zero_le _,rfl,rfl,fun j _ hj=>by omega,rfl⟩
      case round=>
       obtain⟨k,hk,rfl,rfl,hall,rfl⟩:=hrel
       have HALL:=hide hall
       clear hall
       by_cases hlt:k < s.size
       ·have hltI:(k:Int) < (s.size:Int):=by omega
        have HDk:=hide (uh HD k hlt w)
        have hst:s.data.toList.take (k+1)=s.data.toList.take k++[s[k]]:=bytes_snoc s k hlt
        have HST:Hid (digV (s.data.toList.take (k+1))=digV (s.data.toList.take k)*10+(s[k].toNat - 48)):=by show _=_; rw[hst,digV_snoc]
        have hlo:digV (s.data.toList.take k) < 1000000000∨¬ ∀ c∈s.data.toList.take k,isDg c.toNat=true:=by
         rcases dig_lt k (s.data.toList.take k) (by rw[List.length_take,data_len]; omega) with h | h
         ·left
          have:10 ^ k≤10 ^ 9:=Nat.pow_le_pow_right (by omega) (by omega)
          omega
         ·exact .inr h
        have hlo':digV (s.data.toList.take k) < 1000000000:=hlo.elim id fun h=>absurd (fun c hc=>by
         obtain⟨j,hj,rfl⟩:=List.getElem_of_mem hc
         rw[List.length_take,data_len] at hj
         rw[List.getElem_take]
         exact uh HALL j (by omega) (by omega)) h
        cases hd:isDg s[k].toNat with
        | false=>
         have HV:=hide (uh HBAD k hlt hd)
         rw[hd] at HDk
         clear hd HST hst hlo hlo' HALL HBAD HGOOD HD
         go_wp2_with fail
         refine (uh HDk).mono ?_
         rintro e w2 ⟨rfl,rfl⟩
         clear HDk
         go_wp2
         go_ret2
         exact⟨by rw[uh HV]; rfl,rfl⟩
        | true=>
         have hb:=isDg_iff.1 hd
         have HA2:Hid (∀ j (hj:j < s.size),j < k+1→isDg s[j].toNat=true):=fun j hj hjk=>by
          by_cases e:j=k
          ·subst e; exact hd
          ·exact uh HALL j hj (by omega)
         rw[hd] at HDk
         have hb1:(48:Int)≤(s[k].toNat:Int):=by omega
         have hb2:(s[k].toNat:Int)≤57:=by omega
         generalize digV (s.data.toList.take k)=D at *
         clear hd hst hlo HALL HBAD HGOOD HD
         go_wp2_with fail
         refine (uh HDk).mono ?_
         rintro e w2 ⟨rfl,rfl⟩
         clear HDk
         go_wp2
         go_roundw
         case rel=>exact⟨k+1,by omega,by go_num,by rw[uh HST]; (congr 1; omega),fun j hj h=>uh HA2 j hj h,trivial⟩
         case measure=>simp[intOf]; omega
       ·obtain rfl:k=s.size:=by omega
        have HV:=hide (uh HGOOD (fun j hj=>uh HALL j hj hj))
        have HT:Hid (digV (s.data.toList.take s.size)=digV s.data.toList):=by show _=_; rw[List.take_of_length_le (by rw[data_len]; exact Nat.le_refl _)]
        rw[uh HT]
        have hlo2:digV s.data.toList < 1000000000:=by
         rcases dig_lt _ s.data.toList rfl with h | h
         ·have:10 ^ s.data.toList.length≤10 ^ 9:=Nat.pow_le_pow_right (by omega) (by rw[data_len]; omega)
          omega
         ·exact absurd (all_data fun j hj=>uh HALL j hj hj) h
        clear HALL HBAD HGOOD HD HT
        generalize digV s.data.toList=D at *
        go_wp2
        go_ret2
        exact⟨by rw[uh HV]; rfl,rfl⟩
     ·skip
      go_enter Tryz.func67,Tryz.ntmps67
      go_wp2
      go_loopw [6,7] (fun vv iv wr=>∃ k:Nat,k≤s.size∧iv = .int .i64 (k:Int)∧vv = .int .i64 ((digV (s.data.toList.take k) : Nat) : Int)∧(∀ j (hj:j < s.size),j < k→isDg s[j].toNat=true)∧w=wr) (fun _ iv _=>s.size - (intOf iv).toNat)
      case atStart=>exact⟨0,Nat.zero_le _,rfl,rfl,fun j _ hj=>by omega,rfl⟩
      case round=>
       obtain⟨k,hk,rfl,rfl,hall,rfl⟩:=hrel
       have HALL:=hide hall
       clear hall
       by_cases hlt:k < s.size
       ·have hltI:(k:Int) < (s.size:Int):=by omega
        have HDk:=hide (uh HD k hlt w)
        have hst:s.data.toList.take (k+1)=s.data.toList.take k++[s[k]]:=bytes_snoc s k hlt
        have HST:Hid (digV (s.data.toList.take (k+1))=digV (s.data.toList.take k)*10+(s[k].toNat - 48)):=by show _=_; rw[hst,digV_snoc]
        have hlo:digV (s.data.toList.take k) < 1000000000∨¬ ∀ c∈s.data.toList.take k,isDg c.toNat=true:=by
         rcases dig_lt k (s.data.toList.take k) (by rw[List.length_take,data_len]; omega) with h | h
         ·left
          have:10 ^ k≤10 ^ 9:=Nat.pow_le_pow_right (by omega) (by omega)
          omega
         ·exact .inr h
        have hlo':digV (s.data.toList.take k) < 1000000000:=hlo.elim id fun h=>absurd (fun c hc=>by
         obtain⟨j,hj,rfl⟩:=List.getElem_of_mem hc
         rw[List.length_take,data_len] at hj
         rw[List.getElem_take]
         exact uh HALL j (by omega) (by omega)) h
        cases hd:isDg s[k].toNat with
        | false=>
         have HV:=hide (uh HBAD k hlt hd)
         rw[hd] at HDk
         clear hd HST hst hlo hlo' HALL HBAD HGOOD HD
         go_wp2_with fail
         refine (uh HDk).mono ?_
         rintro e w2 ⟨rfl,rfl⟩
         clear HDk
         go_wp2
         go_ret2
         exact⟨by rw[uh HV]; rfl,rfl⟩
        | true=>
         have hb:=isDg_iff.1 hd
         have HA2:Hid (∀ j (hj:j < s.size),j < k+1→isDg s[j].toNat=true):=fun j hj hjk=>by
          by_cases e:j=k
          ·subst e; exact hd
          ·exact uh HALL j hj (by omega)
         rw[hd] at HDk
         have hb1:(48:Int)≤(s[k].toNat:Int):=by omega
         have hb2:(s[k].toNat:Int)≤57:=by omega
         generalize digV (s.data.toList.take k)=D at *
         clear hd hst hlo HALL HBAD HGOOD HD
         go_wp2_with fail
         refine (uh HDk).mono ?_
         rintro e w2 ⟨rfl,rfl⟩
         clear HDk
         go_wp2
         go_roundw
         case rel=>exact⟨k+1,by omega,by go_num,by rw[uh HST]; (congr 1; omega),fun j hj h=>uh HA2 j hj h,trivial⟩
         case measure=>simp[intOf]; omega
       ·obtain rfl:k=s.size:=by omega
        have HV:=hide (uh HGOOD (fun j hj=>uh HALL j hj hj))
        have HT:Hid (digV (s.data.toList.take s.size)=digV s.data.toList):=by show _=_; rw[List.take_of_length_le (by rw[data_len]; exact Nat.le_refl _)]
        rw[uh HT]
        have hlo2:digV s.data.toList < 1000000000:=by
         rcases dig_lt _ s.data.toList rfl with h | h
         ·have:10 ^ s.data.toList.length≤10 ^ 9:=Nat.pow_le_pow_right (by omega) (by rw[data_len]; omega)
          omega
         ·exact absurd (all_data fun j hj=>uh HALL j hj hj) h
        clear HALL HBAD HGOOD HD HT
        generalize digV s.data.toList=D at *
        go_wp2
        go_ret2
        exact⟨by rw[uh HV]; rfl,rfl⟩
 ·have HB:Hid (sInt s.data.toList=none):=by
   show _=_
   rw[show s.data.toList=[] from dr_end (s:=s) (i:=0) (by omega)]; rfl
  have h0I:¬ (0:Int) < (s.size:Int):=by omega
  have t1:(s.size:Int) < 1:=by omega
  go_enter Tryz.func67,Tryz.ntmps67
  go_wp2
  go_ret2
  exact⟨by rw[uh HB]; rfl,rfl⟩
def isVal (k:Int) : Bool:=decide (1≤k) && decide (k≤7)
def isTru (k:Int) : Bool:=k == 8 || k == 9 || k == 10 || k == 11 || k == 12
def parts (k:Int) : Nat:=if k=9∨k=10∨k=11 then 2 else if k=12 then 1 else 0
def stepS (S:List Bool) (k:Int) : Option (List Bool):=
 if S.length < parts k then none
 else if (S.take (parts k)).all (fun t=>t != (k == 9)) then some (isTru k :: S.drop (parts k)) else none
def runS:List Int→List Bool→Option (List Bool)
 | [],S=>some S
 | k :: r,S=>(stepS S k).bind fun S'=>runS r S'
inductive WF:Bool→List Int→Prop
 | val {k:Int} : isVal k=true→WF false [k]
 | ex:WF true [8]
 | cmp {l m:List Int} : WF false l→WF false m→WF true (l++m++[9])
 | two {l m:List Int} {k:Int} : k=10∨k=11→WF true l→WF true m→WF true (l++m++[k])
 | not {l:List Int} : WF true l→WF true (l++[12])
theorem runS_app (a b:List Int) (S:List Bool) : runS (a++b) S=(runS a S).bind fun S'=>runS b S':=by
 induction a generalizing S with
 | nil=>rfl
 | cons k r ih=>
  rw[List.cons_append,runS,runS]
  cases stepS S k with
  | none=>rfl
  | some S'=>exact ih S'
theorem isVal_tru {k:Int} (h:isVal k=true) : isTru k=false∧parts k=0∧k≠9:=by
 unfold isVal at h
 simp only[Bool.and_eq_true,decide_eq_true_eq] at h
 refine⟨?_,?_,by omega⟩
 ·unfold isTru
  simp only[Bool.or_eq_false_iff,beq_eq_false_iff_ne]
  omega
 ·unfold parts
  rw[if_neg (by omega),if_neg (by omega)]
theorem WF.run {t:Bool} {l:List Int} (h:WF t l) : ∀ S,runS l S=some (t :: S):=by
 induction h with
 | val hk=>
  intro S
  obtain⟨h1,h2,_⟩:=isVal_tru hk
  simp[runS,stepS,h1,h2]
 | ex=>intro S; rfl
 | cmp _ _ i1 i2=>intro S; rw[runS_app,runS_app,i1]; simp only[Option.bind_some]; rw[i2]; rfl
 | two hk _ _ i1 i2=>
  intro S; rw[runS_app,runS_app,i1]; simp only[Option.bind_some]; rw[i2]
  rcases hk with rfl | rfl <;> rfl
 | not _ i1=>intro S; rw[runS_app,i1]; rfl
inductive WFs:List Bool→List Int→Prop
 | nil:WFs [] []
 | cons {t:Bool} {S:List Bool} {l m:List Int} : WF t l→WFs S m→WFs (t :: S) (m++l)
theorem WFs.one {S:List Bool} {m:List Int} (h:WFs S m) (hl:1≤S.length) : ∃ t S' l m',S=t :: S'∧m=m'++l∧WF t l∧WFs S' m':=by
 cases h with
 | nil=>simp at hl
 | cons w h=>exact⟨_,_,_,_,rfl,rfl,w,h⟩
theorem WFs.two {S:List Bool} {m:List Int} (h:WFs S m) (hl:2≤S.length) : ∃ t1 t2 S' l1 l2 m',S=t1 :: t2 :: S'∧m=m'++l2++l1∧WF t1 l1∧WF t2 l2∧WFs S' m':=by
 obtain⟨t1,S1,l1,m1,rfl,rfl,w1,h1⟩:=h.one (by omega)
 obtain⟨t2,S2,l2,m2,rfl,rfl,w2,h2⟩:=h1.one (by simpa using hl)
 exact⟨_,_,_,_,_,_,rfl,rfl,w1,w2,h2⟩
theorem WFs.step {S S':List Bool} {m:List Int} {k:Int} (h:WFs S m) (hk:1≤k∧k≤12) (hs:stepS S k=some S') : WFs S' (m++[k]):=by
 unfold stepS at hs
 split at hs
 ·cases hs
 ·rename_i hlen
  split at hs
  ·rename_i hall
   injection hs with hs
   subst hs
   by_cases hv:isVal k=true
   ·obtain⟨h1,h2,_⟩:=isVal_tru hv
    rw[h1,h2,List.drop_zero]
    exact .cons (.val hv) h
   ·have hk8:8≤k:=by
     unfold isVal at hv
     simp only[Bool.and_eq_true,decide_eq_true_eq,not_and] at hv
     have:=hv hk.1
     omega
    have two:∀ k':Int,parts k'=2→k=k'→∃ t1 t2 S'' l1 l2 m',S=t1 :: t2 :: S''∧m=m'++l2++l1∧WF t1 l1∧WF t2 l2∧WFs S'' m':=fun k' e1 e2=>h.two (by rw[e2,e1] at hlen; omega)
    rcases (show k=8∨k=9∨k=10∨k=11∨k=12 by omega) with e | e | e | e | e
    ·subst e
     exact .cons .ex h
    ·obtain⟨t1,t2,S2,l1,l2,m',rfl,rfl,w1,w2,h2⟩:=two 9 rfl e
     subst e
     simp[parts] at hall
     obtain⟨rfl,rfl⟩:=hall
     rw[List.append_assoc,List.append_assoc,← List.append_assoc l2]
     exact .cons (.cmp w2 w1) h2
    ·obtain⟨t1,t2,S2,l1,l2,m',rfl,rfl,w1,w2,h2⟩:=two 10 rfl e
     subst e
     simp[parts] at hall
     obtain⟨rfl,rfl⟩:=hall
     rw[List.append_assoc,List.append_assoc,← List.append_assoc l2]
     exact .cons (.two (.inl rfl) w2 w1) h2
    ·obtain⟨t1,t2,S2,l1,l2,m',rfl,rfl,w1,w2,h2⟩:=two 11 rfl e
     subst e
     simp[parts] at hall
     obtain⟨rfl,rfl⟩:=hall
     rw[List.append_assoc,List.append_assoc,← List.append_assoc l2]
     exact .cons (.two (.inr rfl) w2 w1) h2
    ·obtain⟨t1,S2,l1,m',rfl,rfl,w1,h2⟩:=h.one (by rw[e,show parts 12=1 from rfl] at hlen; omega)
     subst e
     simp[parts] at hall
     subst hall
     rw[List.append_assoc]
     exact .cons (.not w1) h2
  ·cases hs
theorem run_WFs:∀ (ks:List Int),(∀ k∈ks,1≤k∧k≤12)→∀ (pre:List Int) (S0 S:List Bool),WFs S0 pre→runS ks S0=some S→WFs S (pre++ks)
 | [],_,pre,S0,S,h0,h=>by
  rw[runS] at h
  injection h with h
  subst h
  rw[List.append_nil]
  exact h0
 | k :: r,hk,pre,S0,S,h0,h=>by
  rw[runS] at h
  obtain⟨S1,hs,hr⟩:=Option.bind_eq_some_iff.1 h
  rw[show pre++k :: r=(pre++[k])++r by simp]
  exact run_WFs r (fun x hx=>hk x (List.mem_cons_of_mem _ hx)) _ S1 S (h0.step (hk k List.mem_cons_self) hs) hr
theorem run_true (ks:List Int) (hk:∀ k∈ks,1≤k∧k≤12) : runS ks []=some [true]↔WF true ks:=by
 constructor
 ·intro h
  have:=run_WFs ks hk [] [] [true] .nil h
  rw[List.nil_append] at this
  obtain⟨t,S',l,m',e,rfl,w,h2⟩:=this.one (by simp)
  injection e with e1 e2
  subst e1; subst e2
  cases h2
  exact w
 ·intro h; exact h.run []
def backF:Nat→List Int→Bool→Option (List Int)
 | 0,_,_=>none
 | _+1,[],_=>none
 | n+1,k :: r,t=>
  if t=false then (if isVal k=true then some r else none)
  else if k=8 then some r
  else if k=12 then backF n r true
  else if k=9 then (backF n r false).bind fun r'=>backF n r' false
  else if k=10∨k=11 then (backF n r true).bind fun r'=>backF n r' true
  else none
theorem back_sound:∀ (n:Nat) (rs:List Int) (t:Bool) (r':List Int),backF n rs t=some r'→∃ l,rs=l.reverse++r'∧WF t l
 | 0,_,_,_,h=>by simp[backF] at h
 | _+1,[],_,_,h=>by simp[backF] at h
 | n+1,k :: r,t,r',h=>by
  rw[backF] at h
  split at h
  ·rename_i ht
   subst ht
   split at h
   ·rename_i hv
    injection h with h
    subst h
    exact⟨[k],rfl,.val hv⟩
   ·cases h
  ·rename_i ht
   have ht:t=true:=by cases t <;> simp_all
   subst ht
   split at h
   ·rename_i e
    injection h with h
    subst h; subst e
    exact⟨[8],rfl,.ex⟩
   ·split at h
    ·rename_i e
     subst e
     obtain⟨l,e,w⟩:=back_sound n r true r' h
     exact⟨l++[12],by rw[e]; simp,.not w⟩
    ·split at h
     ·rename_i e
      subst e
      obtain⟨r1,h1,h2⟩:=Option.bind_eq_some_iff.1 h
      obtain⟨l1,e1,w1⟩:=back_sound n r false r1 h1
      obtain⟨l2,e2,w2⟩:=back_sound n r1 false r' h2
      exact⟨l2++l1++[9],by rw[e1,e2]; simp,.cmp w2 w1⟩
     ·split at h
      ·rename_i e
       obtain⟨r1,h1,h2⟩:=Option.bind_eq_some_iff.1 h
       obtain⟨l1,e1,w1⟩:=back_sound n r true r1 h1
       obtain⟨l2,e2,w2⟩:=back_sound n r1 true r' h2
       exact⟨l2++l1++[k],by rw[e1,e2]; simp,.two e w2 w1⟩
      ·cases h
theorem WF.back {t:Bool} {l:List Int} (h:WF t l) : ∀ (n:Nat) (pre:List Int),l.length+pre.length≤n→backF n (l.reverse++pre) t=some pre:=by
 induction h with
 | val hk=>
  intro n pre hn
  obtain⟨m,rfl⟩ : ∃ m,n=m+1:=⟨n - 1,by simp at hn; omega⟩
  simp[backF,hk]
 | ex=>
  intro n pre hn
  obtain⟨m,rfl⟩ : ∃ m,n=m+1:=⟨n - 1,by simp at hn; omega⟩
  simp[backF]
 | @cmp l m _ _ i1 i2=>
  intro n pre hn
  simp only[List.length_append,List.length_cons,List.length_nil] at hn
  obtain⟨q,rfl⟩ : ∃ q,n=q+1:=⟨n - 1,by omega⟩
  rw[show (l++m++[(9:Int)]).reverse++pre=9 :: (m.reverse++(l.reverse++pre)) by simp,backF]
  rw[if_neg (by simp),if_neg (by decide),if_neg (by decide),if_pos rfl,i2 q _ (by simp; omega)]
  simp only[Option.bind_some]
  exact i1 q pre (by omega)
 | @two l m k hk _ _ i1 i2=>
  intro n pre hn
  simp only[List.length_append,List.length_cons,List.length_nil] at hn
  obtain⟨q,rfl⟩ : ∃ q,n=q+1:=⟨n - 1,by omega⟩
  rw[show (l++m++[k]).reverse++pre=k :: (m.reverse++(l.reverse++pre)) by simp,backF]
  rw[if_neg (by simp),if_neg (by omega),if_neg (by omega),if_neg (by omega),if_pos hk,i2 q _ (by simp; omega)]
  simp only[Option.bind_some]
  exact i1 q pre (by omega)
 | @not l _ i1=>
  intro n pre hn
  simp only[List.length_append,List.length_cons,List.length_nil] at hn
  obtain⟨q,rfl⟩ : ∃ q,n=q+1:=⟨n - 1,by omega⟩
  rw[show (l++[(12:Int)]).reverse++pre=12 :: (l.reverse++pre) by simp,backF]
  rw[if_neg (by simp),if_neg (by decide),if_pos rfl]
  exact i1 q pre (by omega)
theorem back_true (ks:List Int) (n:Nat) (hn:ks.length≤n) : backF n ks.reverse true=some []↔WF true ks:=by
 constructor
 ·intro h
  obtain⟨l,e,w⟩:=back_sound n _ _ _ h
  rw[List.append_nil] at e
  rwa [List.reverse_inj.1 e]
 ·intro h
  have:=h.back n [] (by simpa using hn)
  rwa [List.append_nil] at this
theorem cond_agree (ks:List Int) (hk:∀ k∈ks,1≤k∧k≤12) (n:Nat) (hn:ks.length≤n) : runS ks []=some [true]↔backF n ks.reverse true=some []:=by
 rw[run_true ks hk,back_true ks n hn]
theorem SS.drewN {w:World} {xa:Option Addr} {xb xo:Nat} {ss:List ByteArray} (h:SS w xa xb xo ss) (n:Nat) : SS (w.drewN n) xa xb xo ss:=⟨h.ad,h.cell⟩
def TRow (w:World) (v:Value) (xs:List PFOp) (bl:List Nat) : Prop:=
 ∃ (a:Option Addr) (cap g o:Nat),v = .slice a xs.length cap∧(0 < xs.length→a=some ⟨g,o,none⟩∧g∈bl)∧(∀ b∈bl,b < w.heap.size) ∧
  ∀ (j:Nat) (x:PFOp),xs[j]?=some x→∃ vs ib,fopE.E w vs x ib∧(∀ m u,vs[m]?=some u→w.cell? ⟨g,o+j*5+m,none⟩=some u)∧∀ b∈ib,b∈bl
theorem lt_kept {w w':World} {b:Nat} (hl:b < w.heap.size) (h:w'.heap[b]?=w.heap[b]?) : b < w'.heap.size:=by
 rw[Array.getElem?_eq_getElem hl] at h
 exact (Array.getElem?_eq_some_iff.1 h).1
theorem TRow.keep {w w':World} {v:Value} {xs:List PFOp} {bl:List Nat} (h:TRow w v xs bl) (hk:Kp bl w w') : TRow w' v xs bl:=by
 obtain⟨a,cap,g,o,hv,ha,hl,hE⟩:=h
 refine⟨a,cap,g,o,hv,ha,fun b hb=>lt_kept (hl b hb) (hk b hb),fun j x hx=>?_⟩
 obtain⟨vs,ib,h1,h2,h3⟩:=hE j x hx
 have hg:=(ha (Nat.lt_of_le_of_lt (Nat.zero_le _) (List.getElem?_eq_some_iff.1 hx).1)).2
 exact⟨vs,ib,fopE.keep h1 fun b hb=>hk b (h3 b hb),fun m u hu=>(World.cell?_of_block (a:=⟨g,o+j*5+m,none⟩) (hk g hg)).trans (h2 m u hu),h3⟩
theorem TRow.lt {w:World} {v:Value} {xs:List PFOp} {bl:List Nat} (h:TRow w v xs bl) : ∀ b∈bl,b < w.heap.size:=by
 obtain⟨a,cap,g,o,hv,ha,hl,hE⟩:=h
 exact hl
theorem TRow.below {w w':World} {v:Value} {xs:List PFOp} {bl:List Nat} (h:TRow w v xs bl) (hb:Below w.heap.size w w') : TRow w' v xs bl:=h.keep (.of_below hb h.lt)
theorem TRow.form {w:World} {v:Value} {xs:List PFOp} {bl:List Nat} (h:TRow w v xs bl) : ∃ a cap,v = .slice a xs.length cap∧(0 < xs.length→∃ g o,a=some ⟨g,o,none⟩):=by
 obtain⟨a,cap,g,o,hv,ha,-,-⟩:=h
 exact⟨a,cap,hv,fun h=>⟨g,o,(ha h).1⟩⟩
theorem TRow.at {w:World} {g o n cap:Nat} {xs:List PFOp} {bl:List Nat} (h:TRow w (.slice (some ⟨g,o,none⟩) n cap) xs bl) {j:Nat} {x:PFOp} (hx:xs[j]?=some x) :
  ∃ vs ib,fopE.E w vs x ib∧(∀ m u,vs[m]?=some u→w.cell? ⟨g,o+j*5+m,none⟩=some u)∧∀ b∈ib,b∈bl:=by
 obtain⟨a,cap',g',o',hv,ha,hl,hE⟩:=h
 obtain⟨ha,-⟩:=ha (Nat.lt_of_le_of_lt (Nat.zero_le _) (List.getElem?_eq_some_iff.1 hx).1)
 injection hv with hv1 _ _
 rw[ha] at hv1
 injection hv1 with hv1
 injection hv1 with hv1 hv2 _
 subst hv1; subst hv2
 exact hE j x hx
theorem TRow.of {w:World} {v:Value} {xs:List PFOp} {bl:List Nat} (h:ORow fopE w v xs bl) : TRow w v xs bl:=by
 obtain⟨a,cap,rfl,hg,h0⟩:=h.form
 by_cases hl:0 < xs.length
 ·obtain⟨g,rfl⟩:=h0 hl
  refine⟨_,cap,g,0,rfl,fun _=>⟨rfl,(hg _ rfl).2⟩,h.lt,fun j x hx=>?_⟩
  obtain⟨vs,ib,h1,h2,h3,-,-⟩:=h.at hx
  exact⟨vs,ib,h1,fun m u hu=>by have:=(h2 m u hu).1; rw[Nat.zero_add]; exact this,h3⟩
 ·exact⟨a,cap,0,0,rfl,fun h=>absurd h hl,h.lt,fun j x hx=>absurd (Nat.lt_of_le_of_lt (Nat.zero_le _) (List.getElem?_eq_some_iff.1 hx).1) hl⟩
theorem TRow.tail {w:World} {g n cap:Nat} {x:PFOp} {xs:List PFOp} {bl:List Nat} (h:ORow fopE w (.slice (some ⟨g,0,none⟩) n cap) (x :: xs) bl) {a:Option Addr} {c:Nat} (ha:0 < xs.length→a=some ⟨g,5,none⟩) : TRow w (.slice a xs.length c) xs bl:=by
 obtain⟨_,_,_,hg,-⟩:=h.form
 rename_i hv
 injection hv with hv1 _ _
 subst hv1
 refine⟨a,c,g,5,rfl,fun h0=>⟨ha h0,(hg _ rfl).2⟩,h.lt,fun j y hy=>?_⟩
 obtain⟨vs,ib,h1,h2,h3,-,-⟩:=h.at (j:=j+1) (x:=y) hy
 refine⟨vs,ib,h1,fun m u hu=>?_,h3⟩
 have h4:=(h2 m u hu).1
 have e:(j+1)*fopE.wd+m=5+j*5+m:=by show (j+1)*5+m=_; omega
 rw[e] at h4
 exact h4
def selTl:Elem PSel where
 T:=40
 wd:=9
 E:=fun w vs m bl=>∃ q,vs=[.int .i64 m.k,.string m.name,.bool m.hasA,.bool m.hasB,.bool m.hasC,.int .i64 m.a,.int .i64 m.b,.int .i64 m.c,q]∧TRow w q m.cond bl
 len:=fun h=>by obtain⟨q,h,_⟩:=h; rw[h]; rfl
 lt:=fun h=>by obtain⟨q,_,h⟩:=h; exact h.lt
 keep:=fun h hk=>by obtain⟨q,h1,h2⟩:=h; exact⟨q,h1,h2.keep hk⟩
def segTl:Elem PSeg where
 T:=43
 wd:=2
 E:=fun w vs m bl=>∃ q,vs=[.bool m.deep,q]∧ORow selTl w q m.sels bl
 len:=fun h=>by obtain⟨q,h,_⟩:=h; rw[h]; rfl
 lt:=fun h=>by obtain⟨q,_,h⟩:=h; exact h.lt
 keep:=fun h hk=>by obtain⟨q,h1,h2⟩:=h; exact⟨q,h1,h2.keep hk⟩
theorem ORow.weak {α:Type} {e e':Elem α} (hT:e.T=e'.T) (hd:e.wd=e'.wd) (hi:∀ {w vs x bl},e.E w vs x bl→e'.E w vs x bl) {w:World} {v:Value} {xs:List α} {bl:List Nat} (h:ORow e w v xs bl) : ORow e' w v xs bl:=by
 obtain⟨ps,h1,h2,h3,h4⟩:=h
 exact⟨ps,h1,fun j p x hp hx=>hi (h2 j p x hp hx),by rw[← hT,← hd]; exact h3,h4⟩
theorem selT_of {w:World} {vs:List Value} {x:PSel} {bl:List Nat} (h:selE.E w vs x bl) : selTl.E w vs x bl:=by
 obtain⟨q,h1,h2⟩:=h
 exact⟨q,h1,.of h2⟩
theorem segT_of {w:World} {vs:List Value} {x:PSeg} {bl:List Nat} (h:segE.E w vs x bl) : segTl.E w vs x bl:=by
 obtain⟨q,h1,h2⟩:=h
 exact⟨q,h1,ORow.weak (e:=selE) (e':=selTl) rfl rfl selT_of h2⟩
theorem ORow.toT {w:World} {v:Value} {xs:List PSeg} {bl:List Nat} (h:ORow segE w v xs bl) : ORow segTl w v xs bl:=ORow.weak (e:=segE) (e':=segTl) rfl rfl segT_of h
theorem infoBld:(Tryz.prog.info? 51).map (·.size)=some 2:=by kernel_rfl
theorem liesBld:liesAt Tryz.prog Tryz.prog.depth 51 (2 / Tryz.prog.cellsOf 51) 0 51 1=true:=by kernel_rfl
theorem infoByte:(Tryz.prog.info? 5).map (fun i=>(i.zero,i.size,i.bytes))=some (some (.int .u8 0),1,1):=by kernel_rfl
theorem check_used (b:Nat) (w:World) (h0:w.cell? ⟨b,0,none⟩=some (.pointer (some ⟨b,0,none⟩))) :
  Calls Tryz.prog 34 #[.pointer (some ⟨b,0,none⟩)] w fun e w'=>e = .returned (.tuple #[])∧w'=w:=by
 obtain⟨j,hj,_⟩:=Option.map_eq_some_iff.1 infoBld
 go_enter Tryz.func34,Tryz.ntmps34
 go_wp2
 rw[Lib.run_neq_ptr_same w _ Tryz.underlying49 hj]
 go_wp2
 go_end0
 exact⟨rfl,rfl⟩
theorem check_fresh (b:Nat) (w:World) (h0:w.cell? ⟨b,0,none⟩=some (.pointer none)) (hsh:w.shape? b=some (51,2)) (hfz:w.frozen? ⟨b,0,none⟩=false) :
  Calls Tryz.prog 34 #[.pointer (some ⟨b,0,none⟩)] w fun e w'=>e = .returned (.tuple #[])∧w'=w.setCell ⟨b,0,none⟩ (.pointer (some ⟨b,0,none⟩)):=by
 obtain⟨j,hj,hjs⟩:=Option.map_eq_some_iff.1 infoBld
 go_enter Tryz.func34,Tryz.ntmps34
 go_wp2
 rw[Lib.run_to_unsafe w ⟨b,0,none⟩ Tryz.underlying49 Tryz.underlying110 hj (by rw[hjs]; decide) hsh (Nat.zero_lt_succ 1)]
 simp only[Result.andThen]
 rw[Oper.upon_value]
 go_wp2
 rw[run_callFunc_extern Tryz.func55 (by kernel_rfl) (by kernel_rfl) (by kernel_rfl) (e:=Extern.AbiNoEscape.same) (by kernel_rfl)]
 rw[Lib.run_noEscape]
 simp only[Result.andThen]
 rw[Oper.upon_value]
 go_wp2
 rw[Lib.run_from_unsafe w ⟨b,0,none⟩ Tryz.underlying110 Tryz.underlying49 hj hsh liesBld]
 simp only[Result.andThen]
 rw[Oper.upon_value]
 go_wp2
 go_end0
 exact⟨rfl,rfl⟩
open Go.Shelf in
def ren169:Go.Shelf.Ren:=⟨fun | 169=>19 | n=>n,fun | 70=>49 | 9=>9 | 0=>0 | 72=>51 | 37=>22 | 127=>87 | 3=>3 | 5=>5 | n=>n,fun | n=>n⟩
theorem lays169:Go.Proofs.Lays.n169 Tryz.prog ren169:={
 mixed:=by kernel_rfl
 f169:=Tryz.func19.trans (congrArg some (by kernel_rfl))
 t0:=Tryz.underlying0
 a0:=Tryz.isAgg0
 z0:=Tryz.sizeOf0
 v0:=Tryz.zeroValue0
 t3:=Tryz.underlying3
 a3:=Tryz.isAgg3
 z3:=Tryz.sizeOf3
 v3:=Tryz.zeroValue3
 t9:=Tryz.underlying9
 a9:=Tryz.isAgg9
 z9:=Tryz.sizeOf9
 v9:=Tryz.zeroValue9
 t37:=Tryz.underlying22
 a37:=Tryz.isAgg22
 z37:=Tryz.sizeOf22
 v37:=Tryz.zeroValue22
 t70:=Tryz.underlying49
 a70:=Tryz.isAgg49
 z70:=Tryz.sizeOf49
 v70:=Tryz.zeroValue49
 t72:=Tryz.underlying51
 a72:=Tryz.isAgg51
 z72:=Tryz.sizeOf51
 v72:=Tryz.zeroValue51
 t127:=Tryz.underlying87
 a127:=Tryz.isAgg87
 z127:=Tryz.sizeOf87
 v127:=Tryz.zeroValue87 }
theorem extra169:Builder.Extra Tryz.prog ren169:={
 sizeBuilder:=by kernel_rfl
 liesBuilder:=by kernel_rfl
 t5:=Tryz.underlying5
 a5:=Tryz.isAgg5
 z5:=Tryz.sizeOf5
 v5:=Tryz.zeroValue5
 infoByte:=by kernel_rfl
 cellsByte:=by kernel_rfl
 sizeByte:=by kernel_rfl
 neB5:=by decide }
theorem bldString (B b:Nat) (l:List UInt8) (w:World) (h:Lib.IsBuilder 51 5 B b (Lib.byteCells l) w) (hBw:B≤w.heap.size) :
  Calls Tryz.prog 19 #[.pointer (some ⟨b,0,none⟩)] w fun e w'=>e = .returned (.string ⟨l.toArray⟩)∧Below B w w':=Any.Builder_String_any lays169 extra169 B b l w h hBw
abbrev IsB (B b:Nat) (l:List UInt8) (w:World) : Prop:=Lib.IsBuilder 51 5 B b (Lib.byteCells l) w
theorem IsB.byte {B b:Nat} {l:List UInt8} {c:UInt8} {w:World} {n:Int} (hn:n=(c.toNat:Int)) (h:Lib.BuilderAt 51 5 B b (.pointer (some ⟨b,0,none⟩)) (Lib.byteCells l++[.int .u8 n]) w) : IsB B b (l++[c]) w:=by
 subst hn; exact Or.inr (by rw[Lib.byteCells_append]; exact h)
theorem IsB.str {B b:Nat} {l:List UInt8} {s:ByteArray} {m:List UInt8} {w:World} (hm:m=s.data.toList) (h:Lib.BuilderAt 51 5 B b (.pointer (some ⟨b,0,none⟩)) (Lib.byteCells l++Lib.strCells s) w) : IsB B b (l++m) w:=by
 subst hm; exact Or.inr (by rw[Lib.byteCells_append]; exact h)
theorem IsB.cells {B b:Nat} {l m:List UInt8} {xs:List Value} {w:World} (hx:xs=Lib.byteCells m) (h:Lib.BuilderAt 51 5 B b (.pointer (some ⟨b,0,none⟩)) (Lib.byteCells l++xs) w) : IsB B b (l++m) w:=by
 subst hx; exact Or.inr (by rw[Lib.byteCells_append]; exact h)
theorem own_kind {w:World} {B e:Nat} {v:Value} {n:Nat} {xs:List Value} (h:w.ownsRow B e 1 v n xs) : ∀ k,v.ownBlock=some k→∃ cs fz,w.heap[k]?=some (.cells cs e fz):=by
 intro k hk
 rcases h.2 with ⟨rfl,_⟩ | ⟨g,cap,cur,rfl,_,hg,_⟩
 ·simp[Value.ownBlock] at hk
 ·simp only[Value.ownBlock,Option.some.injEq] at hk
  subst hk; exact⟨_,_,hg⟩
theorem check_k (B b:Nat) (bs:List Value) (w:World) (h:Lib.IsBuilder 51 5 B b bs w) :
  Calls Tryz.prog 34 #[.pointer (some ⟨b,0,none⟩)] w fun e w'=>e = .returned (.tuple #[])∧(Lib.BuilderAt 51 5 B b (.pointer (some ⟨b,0,none⟩)) bs w'∧Below B w w'∧Lib.OthersKept 5 (some b) w w'):=by
 rcases h with h | h
 ·refine (check_fresh b w h.cell0 h.shape h.frozen0).mono ?_
  rintro e w' ⟨rfl,rfl⟩
  exact⟨rfl,h.used _,(Below.refl B w).setCell (p:=⟨b,0,none⟩) h.1 _,(Lib.OthersKept.refl _ _ w).setCell ⟨b,0,none⟩ rfl _⟩
 ·refine (check_used b w h.cell0).mono ?_
  rintro e w' ⟨rfl,rfl⟩
  exact⟨rfl,h,Below.refl B _,Lib.OthersKept.refl _ _ _⟩
theorem writeByte_k (B b:Nat) (bs:List Value) (c:Int) (w:World) (h:Lib.IsBuilder 51 5 B b bs w) (hlen:bs.length+1≤140737488355328) (hBw:B≤w.heap.size) :
  Calls Tryz.prog 17 #[.pointer (some ⟨b,0,none⟩),.int .u8 c] w fun e w'=>e = .returned .nilIface∧(Lib.BuilderAt 51 5 B b (.pointer (some ⟨b,0,none⟩)) (bs++[.int .u8 c]) w'∧Below B w w'∧Lib.OthersKept 5 (some b) w w'):=by
 obtain⟨i0,hi,hz0,hz1,hz2⟩:=info_parts infoByte
 go_enter Tryz.func17,Tryz.ntmps17
 go_wp2_with (go_at_call 34; refine (check_k B b bs _ h).mono ?_)
 rintro e w1 ⟨rfl,h1,hb1,hk1⟩
 obtain⟨hB,v,hbk,hown,hne⟩:=h1
 have c0:w1.cell? ⟨b,0,none⟩=some (.pointer (some ⟨b,0,none⟩)):=by rw[Lib.cell_of_heap hbk]; rfl
 have c1:w1.cell? ⟨b,1,none⟩=some v:=by rw[Lib.cell_of_heap hbk]; rfl
 go_wp2_with (at_builtin; refine wpList_append_own _ rfl _ _ 22 rfl B 5 i0 (.int .u8 0) 1 1 Tryz.underlying22 hi hz0 hz1 hz2 rfl (by decide) _ _ _ rfl (hown.alloc _) ⟨w1.heap.size,0,none⟩ 1 1 [.int .u8 c] rfl rfl ?c1 ?c2 ?c3 ?c4 ?c5 ?_)
 case c1=>
  intro j u hj
  match j,hj with
  | 0,hj=>simp at hj; subst hj; simp[Addr.add]
 case c2=>intro u hu; simp at hu; subst hu; rfl
 case c3=>unfold maxLen; omega
 case c4=>omega
 case c5=>have:=hb1.size; simp; omega
 intro v' w2 hown' hgrow _
 have hlt:b < w1.heap.size:=by
  rcases Nat.lt_or_ge b w1.heap.size with h' | h'
  ·exact h'
  ·simp[Array.getElem?_eq_none h'] at hbk
 have hb2:w2.heap[b]?=some (.cells #[.pointer (some ⟨b,0,none⟩),v] 51 (0,0)):=by
  rw[hgrow.block b (by simp; omega) (fun e=>hne e.symm),Lib.alloc_old w1 _ b hlt]
  exact hbk
 have d0:w2.cell? ⟨b,0,none⟩=some (.pointer (some ⟨b,0,none⟩)):=by rw[Lib.cell_of_heap hb2]; rfl
 have d1:w2.cell? ⟨b,1,none⟩=some v:=by rw[Lib.cell_of_heap hb2]; rfl
 have f1:w2.frozen? ⟨b,1,none⟩=false:=Lib.frozen_of_heap hb2 1
 obtain⟨g,cap,rfl⟩ : ∃ g cap,v' = .slice (some ⟨g,0,none⟩) (bs.length+1) cap:=by
  rcases hown'.2 with ⟨_,h0⟩ | ⟨g,cap,cur,hv,_⟩
  ·omega
  ·exact⟨g,cap,hv⟩
 go_wp2
 go_ret
 refine⟨rfl,?_,?_,((hk1.alloc _).grown hgrow (own_kind (hown.alloc _))).setCell ⟨b,1,none⟩ rfl _⟩
 ·exact Lib.BuilderAt.put (T:=51) (e:=5) hB hb2 (bs':=bs++[.int .u8 c]) (by simpa using hown') (by decide)
 ·exact ((hb1.alloc (by have:=hb1.size; omega) _).grown hgrow (by have:=hb1.size; simp; omega) (fun k hk=>(hown.lt k hk).1)).setCell (p:=⟨b,1,none⟩) hB _
theorem writeString_k (B b:Nat) (bs:List Value) (s:ByteArray) (w:World) (h:Lib.IsBuilder 51 5 B b bs w) (hlen:bs.length+s.size≤140737488355328) (hBw:B≤w.heap.size) :
  Calls Tryz.prog 35 #[.pointer (some ⟨b,0,none⟩),.string s] w fun e w'=>e = .returned (.tuple #[.int .i64 s.size,.nilIface])∧(Lib.BuilderAt 51 5 B b (.pointer (some ⟨b,0,none⟩)) (bs++Lib.strCells s) w'∧Below B w w'∧Lib.OthersKept 5 (some b) w w'):=by
 obtain⟨i0,hi,hz0,hz1,hz2⟩:=info_parts infoByte
 go_enter Tryz.func35,Tryz.ntmps35
 go_wp2_with (go_at_call 34; refine (check_k B b bs _ h).mono ?_)
 rintro e w1 ⟨rfl,h1,hb1,hk1⟩
 obtain⟨hB,v,hbk,hown,hne⟩:=h1
 have c0:w1.cell? ⟨b,0,none⟩=some (.pointer (some ⟨b,0,none⟩)):=by rw[Lib.cell_of_heap hbk]; rfl
 have c1:w1.cell? ⟨b,1,none⟩=some v:=by rw[Lib.cell_of_heap hbk]; rfl
 go_wp2_with (at_builtin; refine Lib.wpList_append_own_string _ rfl _ _ 22 9 rfl B 5 i0 Tryz.underlying22 Tryz.underlying9 hi hz0 hz1 hz2 _ _ _ rfl hown s rfl ?c3 ?c4 ?c5 ?_)
 case c3=>unfold maxLen; omega
 case c4=>omega
 case c5=>have:=hb1.size; omega
 intro v' w2 hown' hgrow _
 have hlt:b < w1.heap.size:=by
  rcases Nat.lt_or_ge b w1.heap.size with h' | h'
  ·exact h'
  ·simp[Array.getElem?_eq_none h'] at hbk
 have hb2:w2.heap[b]?=some (.cells #[.pointer (some ⟨b,0,none⟩),v] 51 (0,0)):=by
  rw[hgrow.block b hlt (fun e=>hne e.symm)]
  exact hbk
 have d0:w2.cell? ⟨b,0,none⟩=some (.pointer (some ⟨b,0,none⟩)):=by rw[Lib.cell_of_heap hb2]; rfl
 have d1:w2.cell? ⟨b,1,none⟩=some v:=by rw[Lib.cell_of_heap hb2]; rfl
 have f1:w2.frozen? ⟨b,1,none⟩=false:=Lib.frozen_of_heap hb2 1
 obtain⟨ao,n',cap,rfl⟩ : ∃ ao n' cap,v' = .slice ao n' cap:=by
  rcases hown'.2 with ⟨hv,_⟩ | ⟨g,cap,cur,hv,_⟩
  ·exact⟨_,_,_,hv⟩
  ·exact⟨_,_,_,hv⟩
 go_wp2
 go_ret2
 refine⟨rfl,?_,?_,(hk1.grown hgrow (own_kind hown)).setCell ⟨b,1,none⟩ rfl _⟩
 ·exact Lib.BuilderAt.put (T:=51) (e:=5) hB hb2 (bs':=bs++Lib.strCells s) (by simpa [Lib.strCells_length] using hown') (by decide)
 ·exact (hb1.grown hgrow (by have:=hb1.size; omega) (fun k hk=>(hown.lt k hk).1)).setCell (p:=⟨b,1,none⟩) hB _
end Go.Proofs.YtkjcgkfejdogbaaGreatDoor
