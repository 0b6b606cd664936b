import Derived.Test.YtkjcgkfejdogbaaGreatDoorBz8
import Derived.Test.YtkjcgkfejdogbaaGreatDoorBz23
set_option maxRecDepth 100000
set_option maxHeartbeats 8000000
namespace Go.Proofs.YtkjcgkfejdogbaaGreatDoor
open Go.RowKit
def Rd {α:Type} (rb:Nat) (s:ByteArray) (i:Nat) (d:Int) (w:World) (R:Option (α×Bs)) (V:α→Ending→World→Prop) (e:Ending) (w':World) : Prop:=
 KB rb w w'∧(R=none→e=mis)∧∀ x t,R=some (x,t)→∃ j,t=dr s j∧i≤j∧j≤s.size∧PRd rb s j d w'∧V x e w'
theorem dr_back {s:ByteArray} {i:Nat} {g t:Bs} (h:dr s i=g++t) (hi:i≤s.size) : dr s (i+g.length)=t∧i+g.length≤s.size∧s.size - t.length=i+g.length:=by
 have hl:g.length+t.length=s.size - i:=by have:=dr_len s i; rw[h,List.length_append] at this; exact this
 exact⟨by rw[← dr_dr,h]; simp,by omega,by omega⟩
theorem rQuoted (rb:Nat) (s:ByteArray) (i:Nat) (d:Int) (w:World) (h:PRd rb s i d w) (hs:s.size≤1048576) (hi:i≤s.size) :
  Calls Tryz.prog 111 #[.pointer (some ⟨rb,0,none⟩)] w (Rd rb s i d w (pStr (dr s i)) fun x e _=>e = .returned (.string (bsT x))):=by
 refine (readQuoted_walk rb s i d w h hs hi).mono ?_
 rintro e w' ⟨hk,hr⟩
 unfold strP at hr
 cases hp:pStr (dr s i) with
 | none=>rw[hp] at hr; exact⟨hk,fun _=>hr,fun x t h=>by cases h⟩
 | some q=>
  rw[hp] at hr
  obtain⟨g,hg,-⟩:=pStr_some (v:=q.1) (t:=q.2) (by rw[hp])
  obtain⟨h1,h2,h3⟩:=dr_back hg hi
  refine⟨hk,fun h=>(by cases h),fun x t h=>?_⟩
  injection h with h
  subst h
  obtain⟨h4,h5,-⟩:=hr
  have h5':PRd rb s (s.size - t.length) d w':=h5
  rw[h3] at h5'
  exact⟨_,h1.symm,by omega,h2,h5',h4⟩
theorem rName (rb:Nat) (s:ByteArray) (i:Nat) (d:Int) (w:World) (h:PRd rb s i d w) (hs:s.size≤1048576) (hi:i≤s.size) :
  Calls Tryz.prog 71 #[.pointer (some ⟨rb,0,none⟩)] w (Rd rb s i d w (pName (dr s i)) fun x e _=>e = .returned (.string (bsT x))):=by
 refine (readName_walk rb s i d w h hs hi).mono ?_
 rintro e w' ⟨hk,⟨hn,rfl⟩ | ⟨x,t,hp,rfl,hr⟩⟩
 ·exact⟨hk,fun _=>rfl,fun x t h=>by rw[hn] at h; cases h⟩
 ·obtain⟨h1,h2,-⟩:=dr_back (pName_some hp).1 hi
  refine⟨hk,fun h=>(by rw[hp] at h; cases h),fun y u h=>?_⟩
  rw[hp] at h
  injection h with h
  injection h with h3 h4
  subst h3; subst h4
  exact⟨_,h1.symm,by omega,h2,hr,rfl⟩
theorem rInt (rb:Nat) (s:ByteArray) (i:Nat) (d:Int) (w:World) (h:PRd rb s i d w) (hs:s.size≤1048576) (hi:i≤s.size) :
  Calls Tryz.prog 130 #[.pointer (some ⟨rb,0,none⟩)] w (Rd rb s i d w (pInt (dr s i)) fun x e _=>e = .returned (.int .i64 x)):=by
 refine (readInt_walk rb s i d w h hs hi).mono ?_
 rintro e w' ⟨hk,⟨hn,rfl⟩ | ⟨n,j,hp,rfl,h1,h2,hr⟩⟩
 ·exact⟨hk,fun _=>rfl,fun x t h=>by rw[hn] at h; cases h⟩
 ·refine⟨hk,fun h=>(by rw[hp] at h; cases h),fun y u h=>?_⟩
  rw[hp] at h
  injection h with h
  injection h with h3 h4
  subst h3; subst h4
  exact⟨j,rfl,h1,h2,hr,rfl⟩
def WUp (s:ByteArray) (R:Option Bs) (t:Bs) (k j:Nat) : Prop:=R=pWd (t.drop k) (dr s j)
theorem rWord (rb:Nat) (s t:ByteArray) (i:Nat) (d:Int) (w:World) (h:PRd rb s i d w) (hs:s.size≤1048576) (hi:i≤s.size) (ht:t.size≤10) :
  Calls Tryz.prog 136 #[.pointer (some ⟨rb,0,none⟩),.string t] w (Rd rb s i d w ((pWd t.data.toList (dr s i)).map fun u=>((),u)) fun _ e _=>e = .returned (.tuple #[])):=by
 have HE:Hid (∀ (j k:Nat) (hk:k < t.size) (w:World),j < s.size→bt s j=t[k].toNat→PRd rb s j d w→Calls Tryz.prog 48 #[.pointer (some ⟨rb,0,none⟩),.int .u8 (t[k].toNat:Int)] w fun e w'=>e = .returned (.tuple #[])∧PRd rb s (j+1) d w'∧KB rb w w'):=fun j k hk w hj hb hr=>pexpect_yes rb s j d w hr hs _ hb hj
 have HN:Hid (∀ (j k:Nat) (hk:k < t.size) (w:World),j≤s.size→(bt s j≠t[k].toNat∨j=s.size)→PRd rb s j d w→Calls Tryz.prog 48 #[.pointer (some ⟨rb,0,none⟩),.int .u8 (t[k].toNat:Int)] w fun e w'=>e=mis∧KB rb w w'):=fun j k hk w hj hb hr=>pexpect_no rb s j d w hr hs hj _ hb
 have HU:Hid (WUp s (pWd t.data.toList (dr s i)) t.data.toList 0 i):=rfl
 have H0:=hide h
 generalize pWd t.data.toList (dr s i)=R at *
 clear h
 go_enter Tryz.func136,Tryz.ntmps136
 go_wp2_with fail
 go_loopg [7] (t.size - 0) (fun g kv wr=>∃ k:Nat,g=t.size - k∧kv = .int .i64 (k:Int)∧k≤t.size∧i+k≤s.size∧Hid (WUp s R t.data.toList k (i+k))∧Hid (PRd rb s (i+k) d wr)∧Hid (KB rb w wr))
 case atStart=>exact⟨0,rfl,rfl,Nat.zero_le _,hi,HU,H0,KB.refl _ _⟩
 case round=>
  obtain⟨k,hg,rfl,hk,hik,hu,hr,hkb⟩:=hrel
  clear HU H0
  by_cases hlt:k < t.size
  ·have hltI:(k:Int) < (t.size:Int):=by omega
   have k0:(0:Int)≤(k:Int):=by omega
   have hdt:t.data.toList.drop k=t[k] :: t.data.toList.drop (k+1):=dr_at hlt
   by_cases hb:i+k < s.size∧bt s (i+k)=t[k].toNat
   ·have HC:=hide (uh HE (i+k) k hlt wr hb.1 hb.2 (uh hr))
    have HU2:Hid (WUp s R t.data.toList (k+1) (i+(k+1))):=by
     show R=_
     have h1:R=pWd (t.data.toList.drop k) (dr s (i+k)):=uh hu
     have hcc:s[i+k]'hb.1=t[k]:=by have h2:=hb.2; rw[bt_at s (i+k) hb.1] at h2; exact UInt8.toNat_inj.1 h2
     rw[h1,hdt,dr_at hb.1,hcc]
     unfold pWd
     simp only[List.isPrefixOf,beq_self_eq_true,Bool.true_and,List.length_cons,List.drop_succ_cons]
     rw[show i+(k+1)=i+k+1 by omega]
    have hb1:=hb.1
    clear hb hdt HE HN hu
    go_wp2_with fail
    refine (uh HC).mono ?_
    rintro e w2 ⟨rfl,r2,k2⟩
    have HR2:=hide r2
    have HK2:=hide ((uh hkb).trans k2)
    clear HC r2 k2 hr hkb
    go_wp2
    go_roundg (t.size - (k+1))
    case rel=>exact⟨k+1,rfl,by go_num,by omega,by omega,HU2,HR2,HK2⟩
    case measure=>omega
   ·have HC:=hide (uh HN (i+k) k hlt wr hik (by
     by_cases h1:i+k < s.size
     ·left; exact fun h2=>hb ⟨h1,h2⟩
     ·right; omega) (uh hr))
    have HF:Hid (R=none):=by
     show R=_
     have h1:R=pWd (t.data.toList.drop k) (dr s (i+k)):=uh hu
     rw[h1,hdt]
     unfold pWd
     rw[if_neg]
     intro hp
     by_cases h2:i+k < s.size
     ·rw[dr_at h2] at hp
      simp only[List.isPrefixOf,Bool.and_eq_true,beq_iff_eq] at hp
      exact hb ⟨h2,by rw[bt_at s (i+k) h2,hp.1]⟩
     ·rw[dr_end (by omega)] at hp; cases hp
    clear hb hdt HE HN hu
    go_wp2_with fail
    refine (uh HC).mono ?_
    rintro e w2 ⟨rfl,k2⟩
    exact⟨rfl,(uh hkb).trans k2,fun _=>rfl,fun x u h=>by rw[uh HF] at h; cases h⟩
  ·obtain rfl:k=t.size:=by omega
   have hltI:¬ ((t.size:Nat) : Int) < ((t.size:Nat) : Int):=by omega
   have HF:Hid (R=some (dr s (i+t.size))):=by
    show R=_
    have h1:R=pWd (t.data.toList.drop t.size) (dr s (i+t.size)):=uh hu
    rw[h1,List.drop_of_length_le (by rw[data_len]; exact Nat.le_refl _)]
    rfl
   clear hu HE HN
   go_wp2
   try simp only[Exit.inBlock,Exit.then]
   go_returns
   refine⟨uh hkb,fun h=>(by rw[uh HF] at h; cases h),fun x u h=>?_⟩
   rw[uh HF] at h
   injection h with h
   injection h with _ h
   subst h
   exact⟨_,rfl,by omega,hik,uh hr,rfl⟩
def stV (x:PStep) (e:Ending) : Prop:=e = .returned (.agg #[.bool x.byI,.string x.name,.int .i64 x.idx])
theorem rStep (rb:Nat) (s:ByteArray) (i:Nat) (d:Int) (w:World) (h:PRd rb s i d w) (hs:s.size≤1048576) (hi:i≤s.size) :
  Calls Tryz.prog 139 #[.pointer (some ⟨rb,0,none⟩)] w (Rd rb s i d w (pIn (dr s i)) fun x e _=>stV x e):=by
 have hlt:=h.lt
 have hal:=al_b w (.cells #[.bool false,.string ⟨#[]⟩,.int .i64 0] 107)
 have hK:=heap_alloc_new w (.cells #[.bool false,.string ⟨#[]⟩,.int .i64 0] 107)
 have HP:=hide (ppeek rb s i d _ (h.below hal) hi)
 have HQ:=hide (fun w h=>rQuoted rb s i d w h hs hi)
 have HI:=hide (fun w h=>rInt rb s i d w h hs hi)
 have hKB:KB rb w (w.alloc (.cells #[.bool false,.string ⟨#[]⟩,.int .i64 0] 107)):=KB.of_below hal
 have HKB:=hide hKB
 have HK:=hide hK
 have hz:w.heap.size < (w.alloc (.cells #[.bool false,.string ⟨#[]⟩,.int .i64 0] 107)).heap.size:=by simp
 have HZ:=hide hz
 clear h hal hK hKB hz
 by_cases h39:bt s i=39
 ·have b39:((bt s i:Int) == 39)=true:=by rw[h39]; rfl
  have HV:Hid (pIn (dr s i)=(pStr (dr s i)).map fun p=>(stName p.1,p.2)):=by
   show _=_
   have hlt':i < s.size:=bt_in (by rw[h39]; decide)
   have hc:s[i]=39:=by have h:=h39; rw[bt_at s i hlt'] at h; exact UInt8.toNat_inj.1 h
   rw[dr_at hlt',pIn_con,if_pos hc]
  clear h39 HI
  go_enter Tryz.func139,Tryz.ntmps139
  go_wp2_with fail
  generalize (w.alloc (.cells #[.bool false,.string ⟨#[]⟩,.int .i64 0] 107))=wA at *
  refine (uh HP).mono ?_
  rintro e w1 ⟨rfl,r1,k1⟩
  have HC:=hide (uh HQ w1 r1)
  have HK1:=hide ((k1.block w.heap.size (uh HZ) (by omega)).trans (uh HK))
  have HKB1:=hide ((uh HKB).trans k1)
  have hz1:w.heap.size < w1.heap.size:=by have:=k1.size; have:=uh HZ; omega
  clear HP r1 k1 HQ
  go_wp2_with fail
  refine (uh HC).mono ?_
  rintro e w2 ⟨k2,hno,hyes⟩
  cases hp:pStr (dr s i) with
  | none=>
   obtain rfl:=hno hp
   exact⟨rfl,(uh HKB1).trans k2,fun _=>rfl,fun x t h=>by rw[uh HV,hp] at h; cases h⟩
  | some q=>
   obtain⟨j,hj1,hj2,hj3,r2,rfl⟩:=hyes q.1 q.2 hp
   have K2:w2.heap[w.heap.size]?=some (.cells #[.bool false,.string ⟨#[]⟩,.int .i64 0] 107 (0,0)):=(k2.block w.heap.size hz1 (by omega)).trans (uh HK1)
   have HK2:=hide K2
   have c0:w2.cell? ⟨w.heap.size,0,none⟩=some (.bool false):=Lib.cell_of_heap K2 0
   have c1:w2.cell? ⟨w.heap.size,1,none⟩=some (.string ⟨#[]⟩):=Lib.cell_of_heap K2 1
   have c2:w2.cell? ⟨w.heap.size,2,none⟩=some (.int .i64 0):=Lib.cell_of_heap K2 2
   have f0:=Lib.frozen_of_heap K2 0
   have f1:=Lib.frozen_of_heap K2 1
   have f2:=Lib.frozen_of_heap K2 2
   have HKB2:=hide ((uh HKB1).trans k2)
   have HR2:=hide r2
   have HV2:Hid (pIn (dr s i)=some (stName q.1,dr s j)):=by show _=_; rw[uh HV,hp,← hj1]; rfl
   clear hno hyes hp k2 K2 r2 HC hj1
   go_wp2
   refine bodyPost_ret (results_cell_row rfl _ _ w.heap.size 107 #[_,_,_] (0,0) _ rfl (putN_full (uh HK2) [_,_,_] rfl) Tryz.underlying107 rfl (by kernel_rfl)) rfl ?_
   refine⟨kb_below (uh HKB2) (putN_below (Below.refl _ _) (Nat.le_refl _) [_,_,_] 0),fun h=>(by rw[uh HV2] at h; cases h),fun x t h=>?_⟩
   rw[uh HV2] at h
   injection h with h
   injection h with h1 h2
   subst h1; subst h2
   exact⟨j,rfl,hj2,hj3,(putN_other (by omega) [_,_,_] 0).trans (uh HR2),rfl⟩
 ·have b39:((bt s i:Int) == 39)=false:=by rw[beq_eq_false_iff_ne]; omega
  have HV:Hid (pIn (dr s i)=(pInt (dr s i)).map fun p=>(stIdx p.1,p.2)):=by
   show _=_
   cases hd:dr s i with
   | nil=>rfl
   | cons c r=>
    have hlt':i < s.size:=by
     apply Classical.byContradiction
     intro hn
     rw[dr_end (by omega)] at hd; cases hd
    rw[dr_at hlt'] at hd
    injection hd with hd _
    rw[pIn_con,if_neg (fun e=>h39 (by rw[bt_at s i hlt',hd,e]; rfl))]
  clear h39 HQ
  go_enter Tryz.func139,Tryz.ntmps139
  go_wp2_with fail
  generalize (w.alloc (.cells #[.bool false,.string ⟨#[]⟩,.int .i64 0] 107))=wA at *
  refine (uh HP).mono ?_
  rintro e w1 ⟨rfl,r1,k1⟩
  have HC:=hide (uh HI w1 r1)
  have HK1:=hide ((k1.block w.heap.size (uh HZ) (by omega)).trans (uh HK))
  have HKB1:=hide ((uh HKB).trans k1)
  have hz1:w.heap.size < w1.heap.size:=by have:=k1.size; have:=uh HZ; omega
  clear HP r1 k1 HI
  go_wp2_with fail
  refine (uh HC).mono ?_
  rintro e w2 ⟨k2,hno,hyes⟩
  cases hp:pInt (dr s i) with
  | none=>
   obtain rfl:=hno hp
   exact⟨rfl,(uh HKB1).trans k2,fun _=>rfl,fun x t h=>by rw[uh HV,hp] at h; cases h⟩
  | some q=>
   obtain⟨j,hj1,hj2,hj3,r2,rfl⟩:=hyes q.1 q.2 hp
   have K2:w2.heap[w.heap.size]?=some (.cells #[.bool false,.string ⟨#[]⟩,.int .i64 0] 107 (0,0)):=(k2.block w.heap.size hz1 (by omega)).trans (uh HK1)
   have HK2:=hide K2
   have c0:w2.cell? ⟨w.heap.size,0,none⟩=some (.bool false):=Lib.cell_of_heap K2 0
   have c1:w2.cell? ⟨w.heap.size,1,none⟩=some (.string ⟨#[]⟩):=Lib.cell_of_heap K2 1
   have c2:w2.cell? ⟨w.heap.size,2,none⟩=some (.int .i64 0):=Lib.cell_of_heap K2 2
   have f0:=Lib.frozen_of_heap K2 0
   have f1:=Lib.frozen_of_heap K2 1
   have f2:=Lib.frozen_of_heap K2 2
   have HKB2:=hide ((uh HKB1).trans k2)
   have HR2:=hide r2
   have HV2:Hid (pIn (dr s i)=some (stIdx q.1,dr s j)):=by show _=_; rw[uh HV,hp,← hj1]; rfl
   clear hno hyes hp k2 K2 r2 HC hj1
   go_wp2
   refine bodyPost_ret (results_cell_row rfl _ _ w.heap.size 107 #[_,_,_] (0,0) _ rfl (putN_full (uh HK2) [_,_,_] rfl) Tryz.underlying107 rfl (by kernel_rfl)) rfl ?_
   refine⟨kb_below (uh HKB2) (putN_below (Below.refl _ _) (Nat.le_refl _) [_,_,_] 0),fun h=>(by rw[uh HV2] at h; cases h),fun x t h=>?_⟩
   rw[uh HV2] at h
   injection h with h
   injection h with h1 h2
   subst h1; subst h2
   exact⟨j,rfl,hj2,hj3,(putN_other (by omega) [_,_,_] 0).trans (uh HR2),rfl⟩
def RfU (s:ByteArray) (R:Option (List PStep×Bs)) (j:Nat) (acc:List PStep) : Prop:=∃ m,(dr s j).length < m∧R=(pSteps m (dr s j)).map fun p=>(acc++p.1,p.2)
section
variable {s:ByteArray} {R:Option (List PStep×Bs)} {j:Nat} {acc:List PStep}
theorem bt_is {s:ByteArray} {j:Nat} (c:UInt8) (h:bt s j=c.toNat) (h0:c.toNat≠0) : ∃ hj:j < s.size,s[j]=c:=by
 have hj:j < s.size:=bt_in (by rw[h]; exact h0)
 refine⟨hj,UInt8.toNat_inj.1 ?_⟩
 rw[← bt_at s j hj,h]
theorem bt_ne {s:ByteArray} {j:Nat} (hj:j < s.size) (c:UInt8) (h:¬ bt s j=c.toNat) : ¬ s[j]=c:=fun e=>h (by rw[bt_at s j hj,e])
theorem RfU.fin (h:RfU s R j acc) (h1:¬ bt s j=46) (h2:¬ bt s j=91) : R=some (acc,dr s j):=by
 obtain⟨m,hm,hR⟩:=h
 obtain⟨q,rfl⟩ : ∃ q,m=q+1:=⟨m - 1,by omega⟩
 by_cases hj:j < s.size
 ·rw[hR,dr_at hj,pSteps_con,if_neg (bt_ne hj 46 h1),if_neg (bt_ne hj 91 h2)]; simp
 ·rw[hR,dr_end (by omega),pSteps_nil]; simp
theorem RfU.dotNo (h:RfU s R j acc) (hb:bt s j=46) (hp:pName (dr s (j+1))=none) : R=none:=by
 obtain⟨m,hm,hR⟩:=h
 obtain⟨q,rfl⟩ : ∃ q,m=q+1:=⟨m - 1,by omega⟩
 obtain⟨hj,hc⟩:=bt_is 46 hb (by decide)
 rw[hR,dr_at hj,pSteps_con,if_pos hc,hp]; rfl
theorem RfU.dot (h:RfU s R j acc) (hb:bt s j=46) {x:Bs} {k:Nat} (hk:k≤s.size) (hjk:j < k) (hp:pName (dr s (j+1))=some (x,dr s k)) : RfU s R k (acc++[stName x]):=by
 obtain⟨m,hm,hR⟩:=h
 obtain⟨q,rfl⟩ : ∃ q,m=q+1:=⟨m - 1,by omega⟩
 obtain⟨hj,hc⟩:=bt_is 46 hb (by decide)
 refine⟨q,by rw[dr_len] at hm ⊢; omega,?_⟩
 rw[hR,dr_at hj,pSteps_con,if_pos hc,hp]
 simp only[Option.map_map]
 congr 1
 funext p
 simp
theorem RfU.brNo (h:RfU s R j acc) (hb:bt s j=91) (hp:pIn (dr s (j+1))=none) : R=none:=by
 obtain⟨m,hm,hR⟩:=h
 obtain⟨q,rfl⟩ : ∃ q,m=q+1:=⟨m - 1,by omega⟩
 obtain⟨hj,hc⟩:=bt_is 91 hb (by decide)
 rw[hR,dr_at hj,pSteps_con,if_neg (by rw[hc]; decide),if_pos hc,hp]; rfl
theorem RfU.br (h:RfU s R j acc) (hb:bt s j=91) {x:PStep} {k:Nat} (hk:k≤s.size) (hjk:j < k) (hp:pIn (dr s (j+1))=some (x,dr s k)) : (¬ bt s k=93→R=none)∧(bt s k=93→RfU s R (k+1) (acc++[x])):=by
 obtain⟨m,hm,hR⟩:=h
 obtain⟨q,rfl⟩ : ∃ q,m=q+1:=⟨m - 1,by omega⟩
 obtain⟨hj,hc⟩:=bt_is 91 hb (by decide)
 have e:pSteps (q+1) (dr s j)=(match dr s k with
     | []=>none
     | d :: u=>if d=93 then (pSteps q u).map fun p=>(x :: p.1,p.2) else none):=by
  rw[dr_at hj,pSteps_con,if_neg (by rw[hc]; decide),if_pos hc,hp]
  rfl
 rw[e] at hR
 refine⟨fun hn=>?_,fun hy=>?_⟩
 ·by_cases hk2:k < s.size
  ·rw[hR,dr_at hk2]
   simp only
   rw[if_neg (bt_ne hk2 93 hn)]; rfl
  ·rw[hR,dr_end (by omega)]; rfl
 ·obtain⟨hk2,hc2⟩:=bt_is 93 hy (by decide)
  refine⟨q,by rw[dr_len] at hm ⊢; omega,?_⟩
  rw[hR,dr_at hk2]
  simp only
  rw[if_pos hc2]
  simp only[Option.map_map]
  congr 1
  funext p
  simp
end
def FV (w:World) (o:PFOp) (e:Ending) (w':World) : Prop:=∃ (q:Value) (bl:List Nat),e = .returned (.agg #[.int .i64 o.k,.int .i64 o.n,.string o.s,.bool o.root,q])∧ORow stepE w' q o.steps bl∧Fsh w.heap.size bl
theorem FB.kb {rb:Nat} {w w':World} {g:Nat} {k n:Int} {t:ByteArray} {r:Bool} {q:Value} (h:FB w g k n t r q) (hk:KB rb w w') (hg:g≠rb) : FB w' g k n t r q:=(hk.block g h.lt hg).trans h
theorem ORow.kb {α:Type} {e:Elem α} {rb:Nat} {w w':World} {v:Value} {xs:List α} {bl:List Nat} (h:ORow e w v xs bl) (hk:KB rb w w') (hn:rb ∉ bl) : ORow e w' v xs bl:=h.keep fun b hb=>hk.block b (h.lt b hb) fun e=>hn (e ▸ hb)
structure RF (rb:Nat) (w wr:World) (G:Nat) (k:Int) (root:Bool) (acc:List PStep) (q:Value) (bl:List Nat) : Prop where
 kb:KB rb w wr
 r4:FB wr w.heap.size 0 0 ⟨#[]⟩ false (.slice none 0 0)
 r5:FB wr G k 0 ⟨#[]⟩ root q
 row:ORow stepE wr q acc bl
 fsh:Fsh (w.heap.size+1) bl
 n5:G ∉ bl
 nb:rb < w.heap.size
 ng:w.heap.size < G
section
variable {rb:Nat} {w wr w1 w2:World} {G:Nat} {k:Int} {root:Bool} {acc:List PStep} {q v':Value} {bl bl':List Nat} {x:PStep}
theorem RF.far (h:RF rb w wr G k root acc q bl) : rb ∉ bl:=fun hb=>by have:=h.fsh.2 _ hb; have:=h.nb; omega
theorem RF.step (h:RF rb w wr G k root acc q bl) (hk:KB rb wr w1) : RF rb w w1 G k root acc q bl:=
 ⟨h.kb.trans hk,h.r4.kb hk (by have:=h.nb; omega),h.r5.kb hk (by have:=h.nb; have:=h.ng; omega),h.row.kb hk h.far,h.fsh,h.n5,h.nb,h.ng⟩
theorem RF.app (h:RF rb w w1 G k root acc q bl) (hA:Appd stepE (w.heap.size+1) w1 w2 q v' bl [] bl' (acc++[x])) :
  RF rb w (w2.setCell ⟨G,4,none⟩ v') G k root (acc++[x]) v' bl':=by
 have h4:w.heap.size ∉ bl:=fun hb=>by have:=h.fsh.2 _ hb; omega
 have h5:=h.r5.lt
 have hng:=h.ng
 have n5':G ∉ bl':=fun hb=>by
  rcases hA.sub _ hb with hb | hb | hb
  ·exact h.n5 hb
  ·simp at hb
  ·omega
 refine⟨?_,(h.r4.appd hA h.row h4).other (by show _≠G; omega) _,(h.r5.appd hA h.row h.n5).set4 _,hA.row.set n5' _,hA.fsh,n5',h.nb,h.ng⟩
 refine kb_below h.kb (Below.setCell ?_ (by show _≤G; omega) _)
 have hs:=h.kb.size
 exact (Below.refl _ _).grown hA.grown hs fun g hg=>by have:=h.fsh.2 _ (h.row.head hg); omega
theorem RF.done (h:RF rb w wr G k root acc q bl) : KB rb w (putN wr w.heap.size 0 [.int .i64 k,.int .i64 0,.string ⟨#[]⟩,.bool root,q])∧FV w ⟨k,0,⟨#[]⟩,root,acc⟩ (.returned (.agg #[.int .i64 k,.int .i64 0,.string ⟨#[]⟩,.bool root,q])) (putN wr w.heap.size 0 [.int .i64 k,.int .i64 0,.string ⟨#[]⟩,.bool root,q]):=
 ⟨kb_below h.kb (putN_below (Below.refl _ _) (Nat.le_refl _) _ _),q,bl,rfl,h.row.putN (fun hb=>by have:=h.fsh.2 _ hb; omega) _ _,h.fsh.mono (by omega)⟩
end
theorem rRef (rb:Nat) (s:ByteArray) (i:Nat) (d:Int) (k:Int) (w:World) (h:PRd rb s i d w) (hs:s.size≤1048576) (hi:i≤s.size) :
  Calls Tryz.prog 137 #[.pointer (some ⟨rb,0,none⟩),.int .i64 k] w (Rd rb s i d w ((pRef (dr s i)).map fun p=>(opR' k p.1,p.2)) (FV w)):=by
 have hlt:=h.lt
 have hal:=al_b w (.cells #[.int .i64 0,.int .i64 0,.string ⟨#[]⟩,.bool false,.slice none 0 0] 37)
 have hK:FB (w.alloc (.cells #[.int .i64 0,.int .i64 0,.string ⟨#[]⟩,.bool false,.slice none 0 0] 37)) w.heap.size 0 0 ⟨#[]⟩ false (.slice none 0 0):=heap_alloc_new w _
 have hz:w.heap.size < (w.alloc (.cells #[.int .i64 0,.int .i64 0,.string ⟨#[]⟩,.bool false,.slice none 0 0] 37)).heap.size:=by simp
 have hR:=h.below hal
 have hKB:KB rb w (w.alloc (.cells #[.int .i64 0,.int .i64 0,.string ⟨#[]⟩,.bool false,.slice none 0 0] 37)):=KB.of_below hal
 have HSY:Hid (∀ (c j:Nat) (w:World),j < s.size→bt s j=c→PRd rb s j d w→Calls Tryz.prog 69 #[.pointer (some ⟨rb,0,none⟩),.int .u8 (c:Int)] w fun e w'=>e = .returned (.bool true)∧PRd rb s (j+1) d w'∧KB rb w w'):=fun c j w hj hb hr=>pskip_yes rb s j d w hr hs c hb hj
 have HSN:Hid (∀ (c j:Nat) (w:World),j≤s.size→¬ bt s j=c→PRd rb s j d w→Calls Tryz.prog 69 #[.pointer (some ⟨rb,0,none⟩),.int .u8 (c:Int)] w fun e w'=>e = .returned (.bool false)∧PRd rb s j d w'∧KB rb w w'):=fun c j w hj hb hr=>pskip_no rb s j d w hr hj c (.inl hb)
 have HEY:Hid (∀ (c j:Nat) (w:World),j < s.size→bt s j=c→PRd rb s j d w→Calls Tryz.prog 48 #[.pointer (some ⟨rb,0,none⟩),.int .u8 (c:Int)] w fun e w'=>e = .returned (.tuple #[])∧PRd rb s (j+1) d w'∧KB rb w w'):=fun c j w hj hb hr=>pexpect_yes rb s j d w hr hs c hb hj
 have HEN:Hid (∀ (c j:Nat) (w:World),j≤s.size→¬ bt s j=c→PRd rb s j d w→Calls Tryz.prog 48 #[.pointer (some ⟨rb,0,none⟩),.int .u8 (c:Int)] w fun e w'=>e=mis∧KB rb w w'):=fun c j w hj hb hr=>pexpect_no rb s j d w hr hs hj c (.inl hb)
 have HNM:=hide (fun (j:Nat) (w:World) (hj:j≤s.size) h=>rName rb s j d w h hs hj)
 have HSTP:=hide (fun (j:Nat) (w:World) (hj:j≤s.size) h=>rStep rb s j d w h hs hj)
 obtain⟨root,hroot⟩ : ∃ b,decide (bt s i=36)=b:=⟨_,rfl⟩
 have HSK:Hid (Calls Tryz.prog 69 #[.pointer (some ⟨rb,0,none⟩),.int .u8 ((36:Nat) : Int)] (w.alloc (.cells #[.int .i64 0,.int .i64 0,.string ⟨#[]⟩,.bool false,.slice none 0 0] 37)) fun e w'=>e = .returned (.bool root)∧PRd rb s (if root=true then i+1 else i) d w'∧KB rb (w.alloc (.cells #[.int .i64 0,.int .i64 0,.string ⟨#[]⟩,.bool false,.slice none 0 0] 37)) w'):=by
  cases root with
  | true=>
   have h36:=of_decide_eq_true hroot
   exact uh HSY 36 i _ (bt_in (by rw[h36]; decide)) h36 hR
  | false=>exact uh HSN 36 i _ hi (of_decide_eq_false hroot) hR
 have HK:=hide hK
 have HKB:=hide hKB
 have HZ:=hide hz
 have HROOT:=hide hroot
 clear hal h hK hKB hR hz hroot
 go_enter Tryz.func137,Tryz.ntmps137
 go_wp2_with fail
 generalize (w.alloc (.cells #[.int .i64 0,.int .i64 0,.string ⟨#[]⟩,.bool false,.slice none 0 0] 37))=wA at *
 refine (uh HSK).mono ?_
 rintro e w1 ⟨rfl,r1,k1⟩
 have hal2:=al_b w1 (.cells #[.int .i64 k,.int .i64 0,.string ⟨#[]⟩,.bool root,.slice none 0 0] 37)
 have hz1:=k1.size
 have hzA:=uh HZ
 have RF0:Hid (RF rb w (w1.alloc (.cells #[.int .i64 k,.int .i64 0,.string ⟨#[]⟩,.bool root,.slice none 0 0] 37)) w1.heap.size k root [] (.slice none 0 0) []):=
  ⟨((uh HKB).trans k1).trans (KB.of_below hal2),((uh HK).kb k1 (by omega)).below hal2,heap_alloc_new w1 _,ORow.nil _ _,Fsh.nil _,by simp,hlt,by omega⟩
 have HR0:=hide (r1.below hal2)
 clear HSK HK HKB HZ hal2 r1 k1
 go_upto_if 14 with fail
 generalize (w1.alloc (.cells #[.int .i64 k,.int .i64 0,.string ⟨#[]⟩,.bool root,.slice none 0 0] 37))=wB at *
 go_cut [] from 6 to 18 (fun wx=>PRd rb s (i+1) d wx∧RF rb w wx w1.heap.size k root [] (.slice none 0 0) []∧(bt s i=36∨bt s i=64)∧i < s.size)
 case first=>
  cases root with
  | true=>
   have h36:=of_decide_eq_true (uh HROOT)
   have HX:Hid (bt s i=36∨bt s i=64):=.inl h36
   have HY:Hid (i < s.size):=bt_in (by rw[h36]; decide)
   have HR1:Hid (PRd rb s (i+1) d wB):=uh HR0
   clear h36
   go_wp2
   go_meet
   case rel=>exact⟨uh HR1,uh RF0,uh HX,uh HY⟩
  | false=>
   have h36:=of_decide_eq_false (uh HROOT)
   have HR1:Hid (PRd rb s i d wB):=uh HR0
   by_cases h64:bt s i=64
   ·have hib:i < s.size:=bt_in (by rw[h64]; decide)
    have HC:=hide (uh HEY 64 i wB hib h64 (uh HR1))
    have HX:Hid (bt s i=36∨bt s i=64):=.inr h64
    clear h64 h36
    go_wp2_with fail
    refine (uh HC).mono ?_
    rintro e w2 ⟨rfl,r2,k2⟩
    have HR2:=hide r2
    have RF2:=hide ((uh RF0).step k2)
    clear HC r2 k2
    go_wp2
    go_meet
    case rel=>exact⟨uh HR2,uh RF2,uh HX,hib⟩
   ·have HC:=hide (uh HEN 64 i wB hi h64 (uh HR1))
    have HF:Hid (pRef (dr s i)=none):=by
     show _=_
     cases hd:dr s i with
     | nil=>rfl
     | cons c r=>
      have hlt':i < s.size:=by
       apply Classical.byContradiction
       intro hn
       rw[dr_end (by omega)] at hd; cases hd
      rw[dr_at hlt'] at hd
      injection hd with hd _
      show (if c=36∨c=64 then _ else _)=_
      rw[if_neg]
      rintro (e | e)
      ·exact h36 (by rw[bt_at s i hlt',hd,e]; rfl)
      ·exact h64 (by rw[bt_at s i hlt',hd,e]; rfl)
    clear h64 h36
    go_wp2_with fail
    refine (uh HC).mono ?_
    rintro e w2 ⟨rfl,k2⟩
    exact⟨rfl,(uh RF0).kb.trans k2,fun _=>rfl,fun x t h=>by rw[uh HF] at h; cases h⟩
 obtain⟨hr0,hrf0,hc0,hib⟩:=hcut
 have HR1:=hide hr0
 have RF1:=hide hrf0
 have HV:Hid ((pRef (dr s i)).map (fun p=>(opR' k p.1,p.2))=(pSteps ((dr s (i+1)).length+1) (dr s (i+1))).map fun p=>((⟨k,0,⟨#[]⟩,root,p.1⟩ : PFOp),p.2)):=by
  show _=_
  have hc:s[i]=36∨s[i]=64:=by
   rw[bt_at s i hib] at hc0
   rcases hc0 with h | h
   ·left; exact UInt8.toNat_inj.1 h
   ·right; exact UInt8.toNat_inj.1 h
  have hdr:decide (s[i]=36)=root:=by
   rw[← uh HROOT,bt_at s i hib]
   rw[Bool.eq_iff_iff]
   simp only[decide_eq_true_eq]
   exact⟨fun e=>by rw[e]; rfl,fun e=>UInt8.toNat_inj.1 e⟩
  rw[dr_at hib]
  show Option.map _ (if s[i]=36∨s[i]=64 then (pSteps ((dr s (i+1)).length+1) (dr s (i+1))).map (fun p=>((decide (s[i]=36),p.1),p.2)) else none)=_
  rw[if_pos hc,hdr,Option.map_map]; rfl
 have HU:Hid (RfU s (pSteps ((dr s (i+1)).length+1) (dr s (i+1))) (i+1) []):=⟨_,Nat.lt_succ_self _,by cases pSteps ((dr s (i+1)).length+1) (dr s (i+1)) <;> simp⟩
 generalize pSteps ((dr s (i+1)).length+1) (dr s (i+1))=R at *
 clear hr0 hrf0 hc0 HROOT HR0 RF0
 generalize w1.heap.size=G at *
 go_wp2_with fail
 go_loopg [] (s.size+1 - (i+1)) (fun g wr=>∃ (j:Nat) (acc:List PStep) (qa:Option Addr) (qc:Nat) (bl:List Nat),g=s.size+1 - j∧i < j∧j≤s.size∧acc.length≤j∧Hid (RfU s R j acc)∧Hid (PRd rb s j d wr)∧Hid (RF rb w wr G k root acc (.slice qa acc.length qc) bl))
 case atStart=>exact⟨i+1,[],none,0,[],rfl,by omega,by omega,by simp,HU,HR1,RF1⟩
 case round=>
  obtain⟨j,acc,qa,qc,bl,hg,hij,hj,hal,hu,hr,hrf⟩:=hrel
  clear HU HR1 RF1
  by_cases h46:bt s j=46
  ·obtain⟨hjl,-⟩:=bt_is 46 h46 (by decide)
   have HC:=hide (uh HSY 46 j wr hjl h46 (uh hr))
   have HNO:=hide (fun hp=>(uh hu).dotNo h46 hp)
   have HYES:Hid (∀ x q,q≤s.size→j < q→pName (dr s (j+1))=some (x,dr s q)→RfU s R q (acc++[stName x])):=fun x q h1 h2 hp=>(uh hu).dot h46 h1 h2 hp
   clear h46
   go_wp2_with fail
   refine (uh HC).mono ?_
   rintro e w2 ⟨rfl,r2,k2⟩
   have RF2:=hide ((uh hrf).step k2)
   have HC2:=hide (uh HNM (j+1) w2.drew (by omega) r2)
   have c54:w2.drew.cell? ⟨G,4,none⟩=some (.slice qa acc.length qc):=(uh RF2).r5.c.2.2.2.2
   clear HC r2 k2 hu hr hrf
   cases hp:pName (dr s (j+1)) with
   | none=>
    have HF:Hid ((pRef (dr s i)).map (fun p=>(opR' k p.1,p.2))=none):=by show _=_; rw[uh HV,uh HNO hp]; rfl
    have HP:=hide hp
    clear HNO HYES hp
    go_wp2
    refine wp_region_any (by kernel_rfl) ?_
    try (change wpAny _ _ _ _ _ _ _ (World.drew _))
    refine wpAny_take (i:=0) (v:=?_) rfl (by kernel_rfl) (by kernel_rfl) (by kernel_rfl) (fun _ _ _ h=>h) (Or.inl ⟨by rfl,?_⟩) ?_
    rotate_left 1
    ·intro w
     go_simp
     try with_reducible rfl
    refine wpAny_take (i:=2) (v:=?_) rfl (by kernel_rfl) (by kernel_rfl) (by kernel_rfl) (fun _ _ _ h=>h) (Or.inl ⟨by rfl,?_⟩) ?_
    rotate_left 1
    ·intro w
     go_simp
     try with_reducible rfl
    refine wpAny_ready (rs:=[1,3]) (by kernel_rfl) (by simp) ?_
    refine AllReady.cons rfl (fun K hK=>?_) ?_
    ·go_simp
     refine hK _ _ ?_
     clear hK K
     refine wpAny_ready (rs:=[3]) (by kernel_rfl) (by simp) ?_
     refine AllReady.cons rfl (fun K hK=>?_) AllReady.nil
     go_simp
     refine (uh HC2).mono ?_
     rintro e w9 ⟨k9,hno,-⟩
     obtain rfl:=hno (uh HP)
     exact⟨rfl,((uh RF2).kb.drew).trans k9,fun _=>rfl,fun x t h=>by rw[uh HF] at h; cases h⟩
    ·refine AllReady.cons rfl (fun K hK=>?_) AllReady.nil
     go_simp
     refine (uh HC2).mono ?_
     rintro e w9 ⟨k9,hno,-⟩
     obtain rfl:=hno (uh HP)
     exact⟨rfl,((uh RF2).kb.drew).trans k9,fun _=>rfl,fun x t h=>by rw[uh HF] at h; cases h⟩
   | some z=>
    obtain⟨x,t⟩:=z
    clear HNO
    have hfz:=(uh RF2).r5.lt
    have hzw:=(uh RF2).kb.size
    have HP:=hide hp
    clear hp
    go_wp2
    go_region_law (first
     | (
       refine stp_app1 ekStep rfl (.tmp 26) (.tmp 30) rfl rfl (uh RF4).row (uh RF4).fsh (vs:=[.bool false,.string (bsT x),.int .i64 0]) (y:=stName x) ⟨rfl,rfl⟩ (Fsh.nil _) (by simp) rfl (by exact lit_cells w3 [_,_,_] _) (step_one _ _ _) (by simp; omega) (by omega) ?_
       intro v5 w5 bl5 hA
       have RF5:=hide ((uh RF4).app hA)
       obtain⟨va,vc,hva,-,-⟩:=hA.row.form
       rw[List.length_append,List.length_singleton] at hva
       subst hva
       have RFz:=((uh RF4).r5.appd hA (uh RF4).row (uh RF4).n5).fz.2.2.2.2
       have RFc:=((uh RF4).r5.appd hA (uh RF4).row (uh RF4).n5).c.2.2.2.2
       have HR5:Hid (PRd rb s q d (w5.setCell ⟨G,4,none⟩ (.slice va (acc.length+1) vc))):=(Below.heap_setCell _ _ _ _ (by show rb≠G; have:=(uh RF4).nb; have:=(uh RF4).ng; omega)).trans ((hA.block (uh RF4).row (uh HR4).lt (uh RF4).far).trans (uh HR4))
       clear hA)
     | (
       go_simp; refine (uh HC2).mono ?_
       rintro e w3 ⟨k3,-,hyes⟩
       obtain⟨q,hq,hq1,hq2,r3,rfl⟩:=hyes x t (uh HP)
       have RF3:=(uh RF2).step (KB.trans (KB.drew (KB.refl rb w2)) k3)
       have hab:=al_b w3 (.cells #[.bool false,.string (bsT x),.int .i64 0] 107)
       have RF4:=hide (RF3.step (KB.of_below hab))
       have HR4:=hide (r3.below hab)
       have c3:=RF3.r5.c.2.2.2.2
       have c4:=(uh RF4).r5.c.2.2.2.2
       have hz3:=k3.size
       have hw3:w.heap.size+1≤w3.heap.size:=by have:=RF3.kb.size; have:=RF3.r4.lt; omega
       have HUP:=hide (uh HYES x q hq2 (by omega) (by rw[uh HP,hq]))
       clear RF3 hab r3 k3 hyes))
    all_goals
     have hjq:j < q:=by omega
     go_wp2
     go_roundg (s.size+1 - q)
     case rel=>exact⟨q,acc++[stName x],va,vc,bl5,rfl,by omega,hq2,by simp; omega,HUP,HR5,by rw[show (acc++[stName x]).length=acc.length+1 by simp]; exact RF5⟩
     case measure=>omega
  ·by_cases h91:bt s j=91
   ·obtain⟨hjl,-⟩:=bt_is 91 h91 (by decide)
    have HC0:=hide (uh HSN 46 j wr hj h46 (uh hr))
    have HNO:=hide (fun hp=>(uh hu).brNo h91 hp)
    have HYES:Hid (∀ x q,q≤s.size→j < q→pIn (dr s (j+1))=some (x,dr s q)→(¬ bt s q=93→R=none)∧(bt s q=93→RfU s R (q+1) (acc++[x]))):=fun x q h1 h2 hp=>(uh hu).br h91 h1 h2 hp
    go_wp2_with fail
    refine (uh HC0).mono ?_
    rintro e w1 ⟨rfl,r1,k1⟩
    have RF1:=hide ((uh hrf).step k1)
    have HC:=hide (uh HSY 91 j w1 hjl h91 r1)
    clear h46 h91 HC0 k1 r1 hrf hu hr
    go_wp2_with fail
    refine (uh HC).mono ?_
    rintro e w2 ⟨rfl,r2,k2⟩
    have RF2:=hide ((uh RF1).step k2)
    have HC2:=hide (uh HSTP (j+1) w2.drew (by omega) r2)
    have c54:w2.drew.cell? ⟨G,4,none⟩=some (.slice qa acc.length qc):=(uh RF2).r5.c.2.2.2.2
    clear HC r2 k2 RF1
    cases hp:pIn (dr s (j+1)) with
    | none=>
     have HF:Hid ((pRef (dr s i)).map (fun p=>(opR' k p.1,p.2))=none):=by show _=_; rw[uh HV,uh HNO hp]; rfl
     have HP:=hide hp
     clear HNO HYES hp
     go_wp2
     refine wp_region_any (by kernel_rfl) ?_
     try (change wpAny _ _ _ _ _ _ _ (World.drew _))
     refine wpAny_take (i:=0) (v:=?_) rfl (by kernel_rfl) (by kernel_rfl) (by kernel_rfl) (fun _ _ _ h=>h) (Or.inl ⟨by rfl,?_⟩) ?_
     rotate_left 1
     ·intro w
      go_simp
      try with_reducible rfl
     refine wpAny_take (i:=2) (v:=?_) rfl (by kernel_rfl) (by kernel_rfl) (by kernel_rfl) (fun _ _ _ h=>h) (Or.inl ⟨by rfl,?_⟩) ?_
     rotate_left 1
     ·intro w
      go_simp
      try with_reducible rfl
     refine wpAny_ready (rs:=[1,3]) (by kernel_rfl) (by simp) ?_
     refine AllReady.cons rfl (fun K hK=>?_) ?_
     ·go_simp
      refine hK _ _ ?_
      clear hK K
      refine wpAny_ready (rs:=[3]) (by kernel_rfl) (by simp) ?_
      refine AllReady.cons rfl (fun K hK=>?_) AllReady.nil
      go_simp
      refine (uh HC2).mono ?_
      rintro e w9 ⟨k9,hno,-⟩
      obtain rfl:=hno (uh HP)
      exact⟨rfl,((uh RF2).kb.drew).trans k9,fun _=>rfl,fun x t h=>by rw[uh HF] at h; cases h⟩
     ·refine AllReady.cons rfl (fun K hK=>?_) AllReady.nil
      go_simp
      refine (uh HC2).mono ?_
      rintro e w9 ⟨k9,hno,-⟩
      obtain rfl:=hno (uh HP)
      exact⟨rfl,((uh RF2).kb.drew).trans k9,fun _=>rfl,fun x t h=>by rw[uh HF] at h; cases h⟩
    | some z=>
     obtain⟨x,t⟩:=z
     clear HNO
     have hfz:=(uh RF2).r5.lt
     have hzw:=(uh RF2).kb.size
     have HP:=hide hp
     clear hp
     go_wp2
     go_region_law (first
      | (
        refine stp_app1 ekStep rfl (.tmp 39) (.tmp 42) rfl rfl (uh RF4).row (uh RF4).fsh (vs:=[.bool x.byI,.string x.name,.int .i64 x.idx]) (y:=x) ⟨rfl,rfl⟩ (Fsh.nil _) (by simp) rfl (by exact lit_cells w3 [_,_,_] _) (step_one _ _ _) (by simp; omega) (by omega) ?_
        intro v5 w5 bl5 hA
        have RF5:=hide ((uh RF4).app hA)
        obtain⟨va,vc,hva,-,-⟩:=hA.row.form
        rw[List.length_append,List.length_singleton] at hva
        subst hva
        have RFz:=((uh RF4).r5.appd hA (uh RF4).row (uh RF4).n5).fz.2.2.2.2
        have RFc:=((uh RF4).r5.appd hA (uh RF4).row (uh RF4).n5).c.2.2.2.2
        have HR5:Hid (PRd rb s q d (w5.setCell ⟨G,4,none⟩ (.slice va (acc.length+1) vc))):=(Below.heap_setCell _ _ _ _ (by show rb≠G; have:=(uh RF4).nb; have:=(uh RF4).ng; omega)).trans ((hA.block (uh RF4).row (uh HR4).lt (uh RF4).far).trans (uh HR4))
        clear hA)
      | (
        go_simp; refine (uh HC2).mono ?_
        rintro e w3 ⟨k3,-,hyes⟩
        obtain⟨q,hq,hq1,hq2,r3,rfl⟩:=hyes x t (uh HP)
        have RF3:=(uh RF2).step (KB.trans (KB.drew (KB.refl rb w2)) k3)
        have hab:=al_b w3 (.cells #[.bool x.byI,.string x.name,.int .i64 x.idx] 107)
        have RF4:=hide (RF3.step (KB.of_below hab))
        have HR4:=hide (r3.below hab)
        have c3:=RF3.r5.c.2.2.2.2
        have c4:=(uh RF4).r5.c.2.2.2.2
        have hz3:=k3.size
        have hw3:w.heap.size+1≤w3.heap.size:=by have:=RF3.kb.size; have:=RF3.r4.lt; omega
        have HUP:=hide (uh HYES x q hq2 (by omega) (by rw[uh HP,hq]))
        clear RF3 hab r3 k3 hyes))
     all_goals
      have hjq:j < q:=by omega
      by_cases h93:bt s q=93
      ·obtain⟨hql,-⟩:=bt_is 93 h93 (by decide)
       have HC3:=hide (uh HEY 93 q _ hql h93 (uh HR5))
       have HU3:=hide ((uh HUP).2 h93)
       clear h93
       go_wp2_with fail
       refine (uh HC3).mono ?_
       rintro e w6 ⟨rfl,r6,k6⟩
       have HR6:=hide r6
       have RF6:=hide ((uh RF5).step k6)
       clear HC3 r6 k6 RF5 HR5
       go_wp2
       go_roundg (s.size+1 - (q+1))
       case rel=>exact⟨q+1,acc++[x],va,vc,bl5,rfl,by omega,by omega,by simp; omega,HU3,HR6,by rw[show (acc++[x]).length=acc.length+1 by simp]; exact RF6⟩
       case measure=>omega
      ·have HC3:=hide (uh HEN 93 q _ hq2 h93 (uh HR5))
       have HF:Hid ((pRef (dr s i)).map (fun p=>(opR' k p.1,p.2))=none):=by show _=_; rw[uh HV,(uh HUP).1 h93]; rfl
       clear h93
       go_wp2_with fail
       refine (uh HC3).mono ?_
       rintro e w6 ⟨rfl,k6⟩
       exact⟨rfl,(uh RF5).kb.trans k6,fun _=>rfl,fun x t h=>by rw[uh HF] at h; cases h⟩
   ·have HC0:=hide (uh HSN 46 j wr hj h46 (uh hr))
    have HF:Hid ((pRef (dr s i)).map (fun p=>(opR' k p.1,p.2))=some (⟨k,0,⟨#[]⟩,root,acc⟩,dr s j)):=by show _=_; rw[uh HV,(uh hu).fin h46 h91]; rfl
    go_wp2_with fail
    refine (uh HC0).mono ?_
    rintro e w1 ⟨rfl,r1,k1⟩
    have RF1:=hide ((uh hrf).step k1)
    have HC:=hide (uh HSN 91 j w1 hj h91 r1)
    clear h46 h91 HC0 k1 r1 hrf hu hr
    go_wp2_with fail
    refine (uh HC).mono ?_
    rintro e w2 ⟨rfl,r2,k2⟩
    have RF2:=hide ((uh RF1).step k2)
    have HR2:=hide r2
    obtain⟨c40,c41,c42,c43,c44⟩:=(uh RF2).r4.c
    obtain⟨f40,f41,f42,f43,f44⟩:=(uh RF2).r4.fz
    obtain⟨c50,c51,c52,c53,c54⟩:=(uh RF2).r5.c
    clear HC r2 k2 RF1
    go_wp2
    try simp only[Exit.inBlock,Exit.then]
    refine bodyPost_ret (results_cell_row rfl _ _ w.heap.size 37 #[_,_,_,_,_] (0,0) _ rfl (putN_full (uh RF2).r4 [_,_,_,_,_] rfl) Tryz.underlying37 rfl (by kernel_rfl)) rfl ?_
    have hd:=(uh RF2).done
    refine⟨hd.1,fun h=>(by rw[uh HF] at h; cases h),fun x t h=>?_⟩
    rw[uh HF] at h
    injection h with h
    injection h with h1 h2
    subst h1; subst h2
    exact⟨j,rfl,by omega,hj,(putN_other (by omega) [_,_,_,_,_] 0).trans (uh HR2),hd.2⟩
end Go.Proofs.YtkjcgkfejdogbaaGreatDoor
