import Derived.Test.YtocnekbedcnmgaaGreatDoorBa4
import Derived.Test.YtocnekbedcnmgaaGreatDoorBa28
import Derived.Test.YtocnekbedcnmgaaGreatDoorBa24
set_option maxRecDepth 100000
set_option maxHeartbeats 8000000
namespace Go.Proofs.YtocnekbedcnmgaaGreatDoor
open Go.RowKit Go.Sort
def idxP (t:List UInt8) : Value:=match idxT t with
 | some i=>.tuple #[.int .i64 (i:Int),.bool true]
 | none=>.tuple #[.int .i64 0,.bool false]
def digOk (most:Nat) (t:List UInt8) : Prop:=1≤t.length∧t.length≤most∧∀ c∈t,isDg c.toNat=true
instance (most : Nat) (t : List UInt8) : Decidable (digOk most t) := by unfold digOk; infer_instance
def digP (most:Nat) (t:List UInt8) : Value:=if digOk most t then .tuple #[.int .i64 (digV t:Int),.bool true] else .tuple #[.int .i64 0,.bool false]
theorem readDigits_walk (s:ByteArray) (most:Nat) (w:World) (hs:s.size≤1048576) (hm:most≤9) :
  Calls Tryz.prog 177 #[.string s,.int .i64 (most:Int)] w fun e w'=>e = .returned (digP most s.data.toList)∧w=w':=by
 have hbad:¬ digOk most s.data.toList→digP most s.data.toList = .tuple #[.int .i64 0,.bool false]:=fun h=>by unfold digP; rw[if_neg h]
 have hdl:=data_len s
 by_cases h1:s.size < 1
 ·have HB:=hide (hbad (fun h=>by have:=h.1; omega))
  have hse:s=⟨#[]⟩:=by
   have:s.data.toList=[]:=List.eq_nil_of_length_eq_zero (by omega)
   obtain⟨⟨l⟩⟩:=s; simp at this; subst this; rfl
  subst hse
  clear hbad h1 hdl hs
  go_enter Tryz.func177,Tryz.ntmps177
  go_wp2
  go_ret2
  exact⟨by rw[uh HB]; rfl,rfl⟩
 ·have tn:s.toList.isEmpty=false:=by
   rw[ByteArray.toList_eq,List.isEmpty_eq_false_iff]; intro e; rw[e] at hdl; simp at hdl; omega
  by_cases h6:most < s.size
  ·have HB:=hide (hbad (fun h=>by have:=h.2.1; omega))
   have t2:(most:Int) < (s.size:Int):=by omega
   clear hbad h1 h6
   go_enter Tryz.func177,Tryz.ntmps177
   go_wp2
   go_ret2
   exact⟨by rw[uh HB]; rfl,rfl⟩
  ·have t2:¬ (most:Int) < (s.size:Int):=by omega
   have h0:0 < s.size:=by omega
   have hI:(0:Int) < (s.size:Int):=by omega
   have HD:Hid (∀ (k:Nat) (hk:k < s.size) (w:World),Calls Tryz.prog 198 #[.int .u8 (s[k].toNat:Int)] w fun e w'=>e = .returned (.bool (isDg s[k].toNat))∧w=w'):=fun k hk w=>isDigit_walk s[k].toNat w (UInt8.toNat_lt _)
   have HBAD:Hid (∀ k (hk:k < s.size),isDg s[k].toNat=false→digP most s.data.toList = .tuple #[.int .i64 0,.bool false]):=fun k hk hd=>hbad (fun h=>by
    have:=h.2.2 s[k] (by rw[← tokD s k hk]; exact List.getElem_mem _)
    rw[hd] at this; cases this)
   have HGOOD:Hid ((∀ k (hk:k < s.size),isDg s[k].toNat=true)→digP most s.data.toList = .tuple #[.int .i64 (digV s.data.toList:Int),.bool true]):=fun hall=>by
    have hok:digOk most s.data.toList:=⟨by omega,by omega,fun c hc=>by
     obtain⟨j,hj,rfl⟩:=List.getElem_of_mem hc
     exact hall j (by omega)⟩
    unfold digP; rw[if_pos hok]
   have h6':s.size≤9:=by omega
   clear hbad h1 h6
   go_enter Tryz.func177,Tryz.ntmps177
   go_wp2
   go_loopw [6,18] (fun vv iv wr=>∃ k:Nat,k≤s.size∧iv = .int .i64 (k:Int)∧vv = .int .i64 ((digV (s.data.toList.take k) : Nat) : Int)∧(∀ j (hj:j < s.size),j < k→isDg s[j].toNat=true)∧w=wr) (fun _ iv _=>s.size - (intOf iv).toNat)
   case atStart=>exact⟨0,Nat.zero_le _,rfl,rfl,fun j _ hj=>by omega,rfl⟩
   case round=>
    obtain⟨k,hk,rfl,rfl,hall,rfl⟩:=hrel
    have HALL:=hide hall
    clear hall
    by_cases hlt:k < s.size
    ·have hltI:(k:Int) < (s.size:Int):=by omega
     have HDk:=hide (uh HD k hlt w)
     have hst:s.data.toList.take (k+1)=s.data.toList.take k++[s[k]]:=bytes_snoc s k hlt
     have HST:Hid (digV (s.data.toList.take (k+1))=digV (s.data.toList.take k)*10+(s[k].toNat - 48)):=by show _=_; rw[hst,digV_snoc]
     have hlo:digV (s.data.toList.take k) < 1000000000∨¬ ∀ c∈s.data.toList.take k,isDg c.toNat=true:=by
      rcases dig_lt k (s.data.toList.take k) (by rw[List.length_take]; omega) with h | h
      ·left
       have:10 ^ k≤10 ^ 9:=Nat.pow_le_pow_right (by omega) (by omega)
       omega
      ·exact .inr h
     have hlo':digV (s.data.toList.take k) < 1000000000:=hlo.elim id fun h=>absurd (fun c hc=>by
      obtain⟨j,hj,rfl⟩:=List.getElem_of_mem hc
      rw[List.length_take] at hj
      rw[List.getElem_take]
      exact uh HALL j (by omega) (by omega)) h
     cases hd:isDg s[k].toNat with
     | false=>
      have HV:=hide (uh HBAD k hlt hd)
      rw[hd] at HDk
      clear hd HST hst hlo hlo' HALL HBAD HGOOD HD
      go_wp2_with fail
      refine (uh HDk).mono ?_
      rintro e w2 ⟨rfl,rfl⟩
      clear HDk
      go_wp2
      go_ret2
      exact⟨by rw[uh HV]; rfl,rfl⟩
     | true=>
      have hb:=isDg_iff.1 hd
      have HA2:Hid (∀ j (hj:j < s.size),j < k+1→isDg s[j].toNat=true):=fun j hj hjk=>by
       by_cases e:j=k
       ·subst e; exact hd
       ·exact uh HALL j hj (by omega)
      rw[hd] at HDk
      have hb1:(48:Int)≤(s[k].toNat:Int):=by omega
      have hb2:(s[k].toNat:Int)≤57:=by omega
      generalize digV (s.data.toList.take k)=D at *
      clear hd hst hlo HALL HBAD HGOOD HD
      go_wp2_with fail
      refine (uh HDk).mono ?_
      rintro e w2 ⟨rfl,rfl⟩
      clear HDk
      go_wp2
      go_roundw
      case rel=>exact⟨k+1,by omega,by go_num,by rw[uh HST]; go_num,uh HA2,trivial⟩
      case measure=>simp[intOf]; omega
    ·have e:s.data.toList.take k=s.data.toList:=List.take_of_length_le (by omega)
     rw[e]
     have HV:=hide (uh HGOOD (fun j hj=>uh HALL j hj (by omega)))
     generalize digV s.data.toList=D at *
     clear HALL HBAD HGOOD HD e
     go_wp2
     go_ret2
     exact⟨by rw[uh HV]; rfl,rfl⟩
theorem digP_two (most:Nat) (t:List UInt8) : ∃ (z:Int) (b:Bool),digP most t = .tuple #[.int .i64 z,.bool b]:=by
 unfold digP; split
 ·exact⟨_,_,rfl⟩
 ·exact⟨_,_,rfl⟩
theorem readIndex_walk (s:ByteArray) (w:World) (hs:s.size≤1048576) :
  Calls Tryz.prog 133 #[.string s] w fun e w'=>e = .returned (idxP s.data.toList)∧w=w':=by
 have hbad:¬ idxOk s.data.toList=true→idxP s.data.toList = .tuple #[.int .i64 0,.bool false]:=fun h=>by unfold idxP idxT; rw[if_neg h]
 have hdl:=data_len s
 have HD:=hide (readDigits_walk s 6 w hs (by decide))
 obtain⟨z,b,hzb⟩:=digP_two 6 s.data.toList
 have hrest:¬ (s.data.toList.getD 0 0=(48:UInt8)∧1 < s.size)→idxP s.data.toList=digP 6 s.data.toList:=fun hz=>by
  by_cases hok:digOk 6 s.data.toList
  ·have hi:idxOk s.data.toList=true:=idxOk_iff.2 ⟨hok.1,hok.2.1,fun ⟨a,b⟩=>hz ⟨UInt8.toNat_inj.1 a,by omega⟩,hok.2.2⟩
   unfold idxP idxT digP; rw[if_pos hi,if_pos hok]
  ·rw[hbad (fun h=>hok ⟨(idxOk_iff.1 h).1,(idxOk_iff.1 h).2.1,(idxOk_iff.1 h).2.2.2⟩)]
   unfold digP; rw[if_neg hok]
 rw[hzb] at HD hrest
 by_cases h1:1 < s.size
 ·have h0:0 < s.size:=by omega
  have hg0:(s.data.toList.getD 0 0)=s[0]:=by rw[List.getD,List.getElem?_eq_getElem (by omega)]; rfl
  have hI:(0:Int) < (s.size:Int):=by omega
  have t4:(1:Int) < (s.size:Int):=by omega
  by_cases hz:s[0].toNat=48
  ·have HB:=hide (hbad (fun h=>(idxOk_iff.1 h).2.2.1 ⟨by rw[hg0]; exact hz,by omega⟩))
   have t3:((s[0].toNat:Int) == 48)=true:=by rw[beq_iff_eq]; omega
   clear hbad h1 hz hg0 hrest HD hzb
   go_enter Tryz.func133,Tryz.ntmps133
   go_wp2
   go_ret2
   exact⟨by rw[uh HB]; rfl,rfl⟩
  ·have HB:=hide (hrest (fun h=>hz (by rw[← hg0,h.1]; rfl)))
   have t3:((s[0].toNat:Int) == 48)=false:=by rw[beq_eq_false_iff_ne]; omega
   clear hbad h1 hz hg0 hrest hzb
   go_enter Tryz.func133,Tryz.ntmps133
   go_wp2_with fail
   refine (uh HD).mono ?_
   rintro e w2 ⟨rfl,rfl⟩
   clear HD
   go_wp2
   go_ret2
   exact⟨by rw[uh HB]; rfl,rfl⟩
 ·have HB:=hide (hrest (fun h=>h1 h.2))
  have t4:¬ (1:Int) < (s.size:Int):=by omega
  clear hbad h1 hrest hzb
  go_enter Tryz.func133,Tryz.ntmps133
  go_wp2_with fail
  refine (uh HD).mono ?_
  rintro e w2 ⟨rfl,rfl⟩
  clear HD
  go_wp2
  go_ret2
  exact⟨by rw[uh HB]; rfl,rfl⟩
end Go.Proofs.YtocnekbedcnmgaaGreatDoor
