import Derived.BigQuiet
import Derived.Test.YtkjcgkfejdogbaaGreatDoorBz30
import Derived.Test.YtkjcgkfejdogbaaGreatDoorBz26
set_option maxRecDepth 100000
set_option maxHeartbeats 8000000
namespace Go.Proofs.YtkjcgkfejdogbaaGreatDoor
open Go.RowKit
section
variable {br:Bs→Option (XL×Bs)} {s:ByteArray} {i k:Nat}
theorem seg_91 (h:bt s i=91) : segP br (dr s i)=brP br false (dr s (i+1)):=by
 obtain⟨hi,hc⟩:=bt_is 91 h (by decide)
 rw[dr_at hi]
 show (if s[i]=91 then _ else _)=_
 rw[if_pos hc]
theorem seg_no (h1:¬ bt s i=91) (h2:¬ bt s i=46) : segP br (dr s i)=none:=by
 by_cases hi:i < s.size
 ·rw[dr_at hi]
  show (if s[i]=91 then _ else if s[i]=46 then _ else _)=_
  rw[if_neg (bt_ne hi 91 h1),if_neg (bt_ne hi 46 h2)]
 ·rw[dr_end (by omega)]; rfl
theorem seg_46 (h:bt s i=46) : segP br (dr s i)=dotP br (dr s (i+1)):=by
 obtain⟨hi,hc⟩:=bt_is 46 h (by decide)
 rw[dr_at hi]
 show (if s[i]=91 then _ else if s[i]=46 then _ else _)=_
 rw[if_neg (by rw[hc]; decide),if_pos hc]
theorem dot_br (h:bt s k=46) (h2:bt s (k+1)=91) : dotP br (dr s k)=brP br true (dr s (k+1+1)):=by
 obtain⟨hi,hc⟩:=bt_is 46 h (by decide)
 obtain⟨hi2,hc2⟩:=bt_is 91 h2 (by decide)
 rw[dr_at hi,dotP_con,if_pos hc,dr_at hi2]
 simp only
 rw[if_pos hc2]
theorem dot_dd (h:bt s k=46) (h2:¬ bt s (k+1)=91) : dotP br (dr s k)=nmP true (dr s (k+1)):=by
 obtain⟨hi,hc⟩:=bt_is 46 h (by decide)
 rw[dr_at hi,dotP_con,if_pos hc]
 by_cases hi2:k+1 < s.size
 ·rw[dr_at hi2]
  simp only
  rw[if_neg (bt_ne hi2 91 h2)]
 ·rw[dr_end (by omega)]; rfl
theorem dot_one (h:¬ bt s k=46) : dotP br (dr s k)=nmP false (dr s k):=by
 by_cases hi:k < s.size
 ·rw[dr_at hi,dotP_con,if_neg (bt_ne hi 46 h)]
 ·rw[dr_end (by omega)]; rfl
end
def GV (w:World) (o:PSeg) (e:Ending) (w':World) : Prop:=∃ (q:Value) (bl:List Nat),e = .returned (.agg #[.bool o.deep,q])∧ORow selE w' q o.sels bl∧Fsh w.heap.size bl
theorem GB.kb {rb:Nat} {w w':World} {g:Nat} {b:Bool} {q:Value} (h:GB w g b q) (hk:KB rb w w') (hg:g≠rb) : GB w' g b q:=(hk.block g h.lt hg).trans h
theorem GV.put {w w1:World} {b:Bool} {L:List PSel} {q:Value} {bl:List Nat} {rb:Nat} (hk:KB rb w w1) (row:ORow selE w1 q L bl) (fsh:Fsh (w.heap.size+1) bl) : KB rb w (putN w1 w.heap.size 0 [.bool b,q])∧GV w ⟨b,L⟩ (.returned (.agg #[.bool b,q])) (putN w1 w.heap.size 0 [.bool b,q]):=
 ⟨kb_below hk (putN_below (Below.refl _ _) (Nat.le_refl _) _ _),q,bl,rfl,row.putN (fun hb=>by have:=fsh.2 _ hb; omega) _ _,fsh.mono (by omega)⟩
theorem rSeg (n rb:Nat) (s:ByteArray) (i:Nat) (d:Int) (w:World) (h:PRd rb s i d w) (hs:s.size≤1000000) (hi:i≤s.size) (hd:0≤d) (hn:s.size < n) :
  Calls Tryz.prog 49 #[.pointer (some ⟨rb,0,none⟩)] w (RdD rb s i d w (segP (pBr n) (dr s i)) (GV w)):=by
 have hlt:=h.lt
 have hal:=al_b w (.cells #[.bool false,.slice none 0 0] 43)
 have h2:GB (w.alloc (.cells #[.bool false,.slice none 0 0] 43)) w.heap.size false (.slice none 0 0):=heap_alloc_new w _
 have hz:w.heap.size < (w.alloc (.cells #[.bool false,.slice none 0 0] 43)).heap.size:=by simp
 have HR0:=hide (h.below hal)
 have HKB0:Hid (KB rb w (w.alloc (.cells #[.bool false,.slice none 0 0] 43))):=KB.of_below hal
 have HK0:=hide h2
 have HZ:=hide hz
 have HSELS:=hide (fun (j:Nat) (w:World) (hj:j≤s.size) h=>rSels n rb s j d w h hs hj hd hn)
 have hm:max d 0=d:=by omega
 have HMX:=hide hm
 clear h hal h2 hz hm
 by_cases h91:bt s i=91
 ·obtain⟨hil,-⟩:=bt_is 91 h91 (by decide)
  have HC:=hide (pskip_yes rb s i d _ (uh HR0) (by omega) 91 h91 hil)
  have HV:=hide (seg_91 (br:=pBr n) h91)
  clear h91
  go_enter Tryz.func49,Tryz.ntmps49
  go_wp2_with fail
  generalize (w.alloc (.cells #[.bool false,.slice none 0 0] 43))=wA at *
  refine (uh HC).mono ?_
  rintro e w1 ⟨rfl,r1,k1⟩
  have hz1:w.heap.size < w1.heap.size:=by have:=k1.size; have:=uh HZ; omega
  have HK1:=hide ((uh HK0).kb k1 (by omega))
  have HKB1:=hide ((uh HKB0).trans k1)
  have HC1:=hide (uh HSELS (i+1) w1 (by omega) r1)
  clear HC r1 k1 HK0 HKB0 HR0
  go_wp2_with fail
  refine (uh HC1).mono ?_
  rintro e w2 ⟨k2,hno,hyes⟩
  clear HC1
  cases hp:pBr n (dr s (i+1)) with
  | none=>
   obtain rfl:=hno hp
   exact⟨rfl,(uh HKB1).trans k2,fun _=>rfl,fun x t h=>by rw[uh HV] at h; unfold brP at h; rw[hp] at h; cases h⟩
  | some z=>
   obtain⟨x,t⟩:=z
   obtain⟨j,hj1,hj2,hj3,r2,qv,bl,rfl,row,fsh⟩:=hyes x t hp
   subst hj1
   obtain⟨ya,yc,rfl,-,-⟩:=row.form
   have HK2:=hide ((uh HK1).kb k2 (by omega))
   have HKB2:=hide ((uh HKB1).trans k2)
   have HR2:=hide r2
   have HROW:=hide row
   have HFSH:=hide (fsh.mono (show w.heap.size+1≤w1.heap.size by omega))
   have HV2:Hid (segP (pBr n) (dr s i)=some ((⟨false,x.1⟩,x.2),dr s j)):=by show _=_; rw[uh HV]; unfold brP; rw[hp]; rfl
   obtain⟨c0,c1⟩:=(uh HK2).cs
   obtain⟨f0,f1⟩:=(uh HK2).fz
   clear hno hyes hp k2 r2 row fsh HK1 HKB1 HV
   go_wp2
   refine bodyPost_ret (results_cell_row rfl _ _ w.heap.size 43 #[_,_] (0,0) _ rfl (putN_full (uh HK2) [_,_] rfl) Tryz.underlying43 rfl (by kernel_rfl)) rfl ?_
   have hq:=GV.put (b:=false) (uh HKB2) (uh HROW) (uh HFSH)
   refine⟨hq.1,fun h=>(by rw[uh HV2] at h; cases h),fun y t h=>?_⟩
   rw[uh HV2] at h
   injection h with h
   injection h with h1 h2
   subst h1; subst h2
   exact⟨j,rfl,by omega,hj3,(putN_other (by omega) [_,_] 0).trans (uh HR2),hq.2⟩
 ·have HC:=hide (pskip_no rb s i d _ (uh HR0) hi 91 (.inl h91))
  go_enter Tryz.func49,Tryz.ntmps49
  go_wp2_with fail
  generalize (w.alloc (.cells #[.bool false,.slice none 0 0] 43))=wA at *
  refine (uh HC).mono ?_
  rintro e w1 ⟨rfl,r1,k1⟩
  have hz1:w.heap.size < w1.heap.size:=by have:=k1.size; have:=uh HZ; omega
  have HK1:=hide ((uh HK0).kb k1 (by omega))
  have HKB1:=hide ((uh HKB0).trans k1)
  have HR1:=hide r1
  clear HC r1 k1 HK0 HKB0 HR0
  by_cases h46:bt s i=46
  ·obtain⟨hil,-⟩:=bt_is 46 h46 (by decide)
   have HC2:=hide (pexpect_yes rb s i d w1 (uh HR1) (by omega) 46 h46 hil)
   have HV:=hide (seg_46 (br:=pBr n) h46)
   clear h91 h46
   go_wp2_with fail
   refine (uh HC2).mono ?_
   rintro e w2 ⟨rfl,r2,k2⟩
   have hz2:=k2.size
   have HK2:=hide ((uh HK1).kb k2 (by omega))
   have HKB2:=hide ((uh HKB1).trans k2)
   obtain⟨deep,hdeep⟩ : ∃ b,decide (bt s (i+1)=46)=b:=⟨_,rfl⟩
   have HSK:Hid (Calls Tryz.prog 69 #[.pointer (some ⟨rb,0,none⟩),.int .u8 ((46:Nat) : Int)] w2 fun e w'=>e = .returned (.bool deep)∧PRd rb s (if deep=true then i+1+1 else i+1) d w'∧KB rb w2 w'):=by
    cases deep with
    | true=>exact pskip_yes rb s (i+1) d w2 r2 (by omega) 46 (of_decide_eq_true hdeep) (bt_in (by rw[of_decide_eq_true hdeep]; decide))
    | false=>exact pskip_no rb s (i+1) d w2 r2 (by omega) 46 (.inl (of_decide_eq_false hdeep))
   have HDP:=hide hdeep
   clear HC2 r2 k2 HK1 HKB1 HR1 hdeep
   go_wp2_with fail
   refine (uh HSK).mono ?_
   rintro e w3 ⟨rfl,r3,k3⟩
   have hz3:=k3.size
   have HK3:=hide ((uh HK2).kb k3 (by omega))
   have HKB3:=hide ((uh HKB2).trans k3)
   have HR3:=hide r3
   clear HSK r3 k3 HK2 HKB2
   go_upto_region 5 with fail
   go_cut [25] from 4 to 25 (fun x wx=>∃ b,x = .bool b∧KB rb w wx∧GB wx w.heap.size false (.slice none 0 0)∧w.heap.size < wx.heap.size∧(b=true→deep=true∧PRd rb s (i+1+1+1) d wx∧i+1+1+1≤s.size∧dotP (pBr n) (dr s (i+1))=brP (pBr n) true (dr s (i+1+1+1)))∧(b=false→∃ p,i < p∧p≤s.size∧PRd rb s p d wx∧dotP (pBr n) (dr s (i+1))=nmP deep (dr s p)))
   case first=>
    cases deep with
    | true=>
     have h46:=of_decide_eq_true (uh HDP)
     have hb1:i+1 < s.size:=bt_in (by rw[h46]; decide)
     have HR4:Hid (PRd rb s (i+1+1) d w3):=uh HR3
     by_cases h91:bt s (i+1+1)=91
     ·obtain⟨hb2,-⟩:=bt_is 91 h91 (by decide)
      have HC4:=hide (pskip_yes rb s (i+1+1) d w3 (uh HR4) (by omega) 91 h91 hb2)
      have HE:=hide (dot_br (br:=pBr n) h46 h91)
      clear h46 h91
      go_wp2_with fail
      refine (uh HC4).mono ?_
      rintro e w4 ⟨rfl,r4,k4⟩
      have HR5:=hide r4
      have HK4:=hide ((uh HK3).kb k4 (by omega))
      have HKB4:=hide ((uh HKB3).trans k4)
      have hz4:=k4.size
      clear HC4 r4 k4
      go_wp2
      go_meet
      case rel=>exact⟨true,rfl,uh HKB4,uh HK4,by omega,fun _=>⟨trivial,uh HR5,by omega,uh HE⟩,fun h=>(by cases h)⟩
     ·have HC4:=hide (pskip_no rb s (i+1+1) d w3 (uh HR4) (by omega) 91 (.inl h91))
      have HE:=hide (dot_dd (br:=pBr n) h46 h91)
      clear h46 h91
      go_wp2_with fail
      refine (uh HC4).mono ?_
      rintro e w4 ⟨rfl,r4,k4⟩
      have HR5:=hide r4
      have HK4:=hide ((uh HK3).kb k4 (by omega))
      have HKB4:=hide ((uh HKB3).trans k4)
      have hz4:=k4.size
      clear HC4 r4 k4
      go_wp2
      go_meet
      case rel=>exact⟨false,rfl,uh HKB4,uh HK4,by omega,fun h=>(by cases h),fun _=>⟨i+1+1,by omega,by omega,uh HR5,uh HE⟩⟩
    | false=>
     have HE:=hide (dot_one (br:=pBr n) (of_decide_eq_false (uh HDP)))
     have HR4:Hid (PRd rb s (i+1) d w3):=uh HR3
     go_wp2
     go_meet
     case rel=>exact⟨false,rfl,uh HKB3,uh HK3,by omega,fun h=>(by cases h),fun _=>⟨i+1,by omega,by omega,uh HR4,uh HE⟩⟩
   obtain⟨b,rfl,hkb,hgb,hzc,hyes,hno⟩:=hcut
   have HKB:=hide hkb
   have HGB:=hide hgb
   obtain⟨c0,c1⟩:=hgb.cs
   obtain⟨f0,f1⟩:=hgb.fz
   clear hkb hgb HK3 HKB3 HR3 HDP
   cases b with
   | true=>
    obtain⟨rfl,r4,hle,hE⟩:=hyes rfl
    have HC5:=hide (uh HSELS (i+1+1+1) wc hle r4)
    have HE:=hide hE
    clear hyes hno r4 hE c0 c1 f0 f1
    go_wp2_with fail
    refine (uh HC5).mono ?_
    rintro e w5 ⟨k5,hno,hyes⟩
    clear HC5
    cases hp:pBr n (dr s (i+1+1+1)) with
    | none=>
     obtain rfl:=hno hp
     exact⟨rfl,(uh HKB).trans k5,fun _=>rfl,fun x t h=>by rw[uh HV,uh HE] at h; unfold brP at h; rw[hp] at h; cases h⟩
    | some z=>
     obtain⟨x,t⟩:=z
     obtain⟨j,hj1,hj2,hj3,r5,qv,bl,rfl,row,fsh⟩:=hyes x t hp
     subst hj1
     obtain⟨ya,yc,rfl,-,-⟩:=row.form
     have HK2:=hide ((uh HGB).kb k5 (by omega))
     have HKB2:=hide ((uh HKB).trans k5)
     have HR2:=hide r5
     have HROW:=hide row
     have HFSH:=hide (fsh.mono (show w.heap.size+1≤wc.heap.size by omega))
     have HV2:Hid (segP (pBr n) (dr s i)=some ((⟨true,x.1⟩,x.2),dr s j)):=by show _=_; rw[uh HV,uh HE]; unfold brP; rw[hp]; rfl
     obtain⟨c0,c1⟩:=(uh HK2).cs
     obtain⟨f0,f1⟩:=(uh HK2).fz
     clear hno hyes hp k5 r5 row fsh HV HE
     go_wp2
     refine bodyPost_ret (results_cell_row rfl _ _ w.heap.size 43 #[_,_] (0,0) _ rfl (putN_full (uh HK2) [_,_] rfl) Tryz.underlying43 rfl (by kernel_rfl)) rfl ?_
     have hq:=GV.put (b:=true) (uh HKB2) (uh HROW) (uh HFSH)
     refine⟨hq.1,fun h=>(by rw[uh HV2] at h; cases h),fun y t h=>?_⟩
     rw[uh HV2] at h
     injection h with h
     injection h with h1 h2
     subst h1; subst h2
     exact⟨j,rfl,by omega,hj3,(putN_other (by omega) [_,_] 0).trans (uh HR2),hq.2⟩
   | false=>
    obtain⟨p,hp1,hp2,rp,hE⟩:=hno rfl
    have HRP:=hide rp
    have HVP:Hid (segP (pBr n) (dr s i)=nmP deep (dr s p)):=by show _=_; rw[uh HV,hE]
    clear hyes hno rp hE HV c0 c1 f0 f1
    by_cases h42:bt s p=42
    ·obtain⟨hpl,-⟩:=bt_is 42 h42 (by decide)
     have HC5:=hide (pskip_yes rb s p d wc (uh HRP) (by omega) 42 h42 hpl)
     have HV2:Hid (segP (pBr n) (dr s i)=some ((⟨deep,[allS]⟩,0),dr s (p+1))):=by show _=_; rw[uh HVP,nmP_star h42]
     clear h42
     go_wp2_with fail
     refine (uh HC5).mono ?_
     rintro e w5 ⟨rfl,r5,k5⟩
     have hz5:=k5.size
     have hal:=al_b w5 (.cells #[.int .i64 2,.string ⟨#[]⟩,.bool false,.bool false,.bool false,.int .i64 0,.int .i64 0,.int .i64 0,.slice none 0 0] 40)
     have HROW:=hide (orow_one (e:=selE) (w:=w5) (vs:=[.int .i64 2,.string ⟨#[]⟩,.bool false,.bool false,.bool false,.int .i64 0,.int .i64 0,.int .i64 0,.slice none 0 0]) (x:=allS) (ib:=[]) (selE_lit _ _ _) rfl)
     have HK2:=hide (((uh HGB).kb k5 (by omega)).below hal)
     have HKB2:=hide (((uh HKB).trans k5).trans (KB.of_below hal))
     have HR2:=hide (r5.below hal)
     have HFSH:Hid (Fsh (w.heap.size+1) [w5.heap.size]):=⟨by simp,by simp; omega⟩
     obtain⟨c0,c1⟩:=(uh HK2).cs
     obtain⟨f0,f1⟩:=(uh HK2).fz
     clear HC5 r5 k5 hal
     go_wp2
     refine bodyPost_ret (results_cell_row rfl _ _ w.heap.size 43 #[_,_] (0,0) _ rfl (putN_full (uh HK2) [_,_] rfl) Tryz.underlying43 rfl (by kernel_rfl)) rfl ?_
     have hq:=GV.put (b:=deep) (uh HKB2) (uh HROW) (uh HFSH)
     refine⟨hq.1,fun h=>(by rw[uh HV2] at h; cases h),fun y t h=>?_⟩
     rw[uh HV2] at h
     injection h with h
     injection h with h1 h2
     subst h1; subst h2
     exact⟨p+1,rfl,by omega,by omega,by show PRd rb s (p+1) (max d 0) _; rw[uh HMX]; exact (putN_other (by omega) [_,_] 0).trans (uh HR2),hq.2⟩
    ·have HC5:=hide (pskip_no rb s p d wc (uh HRP) hp2 42 (.inl h42))
     have HV2:Hid (segP (pBr n) (dr s i)=(pName (dr s p)).map fun q=>((⟨deep,[nameS q.1]⟩,0),q.2)):=by show _=_; rw[uh HVP,nmP_else h42]
     clear h42 HVP
     go_wp2_with fail
     refine (uh HC5).mono ?_
     rintro e w5 ⟨rfl,r5,k5⟩
     have hz5:=k5.size
     have HK5:=hide ((uh HGB).kb k5 (by omega))
     have HKB5:=hide ((uh HKB).trans k5)
     have HC6:=hide (rName rb s p d w5 r5 (by omega) hp2)
     clear HC5 r5 k5
     go_wp2_with fail
     refine (uh HC6).mono ?_
     rintro e w6 ⟨k6,hno,hyes⟩
     clear HC6
     cases hp:pName (dr s p) with
     | none=>
      obtain rfl:=hno hp
      exact⟨rfl,(uh HKB5).trans k6,fun _=>rfl,fun x t h=>by rw[uh HV2,hp] at h; cases h⟩
     | some z=>
      obtain⟨x,t⟩:=z
      obtain⟨j,hj1,hj2,hj3,r6,rfl⟩:=hyes x t hp
      subst hj1
      have hz6:=k6.size
      have hal:=al_b w6 (.cells #[.int .i64 1,.string (bsT x),.bool false,.bool false,.bool false,.int .i64 0,.int .i64 0,.int .i64 0,.slice none 0 0] 40)
      have HROW:=hide (orow_one (e:=selE) (w:=w6) (vs:=[.int .i64 1,.string (bsT x),.bool false,.bool false,.bool false,.int .i64 0,.int .i64 0,.int .i64 0,.slice none 0 0]) (x:=nameS x) (ib:=[]) (selE_lit _ _ _) rfl)
      have HK2:=hide (((uh HK5).kb k6 (by omega)).below hal)
      have HKB2:=hide (((uh HKB5).trans k6).trans (KB.of_below hal))
      have HR2:=hide (r6.below hal)
      have HFSH:Hid (Fsh (w.heap.size+1) [w6.heap.size]):=⟨by simp,by simp; omega⟩
      have HV3:Hid (segP (pBr n) (dr s i)=some ((⟨deep,[nameS x]⟩,0),dr s j)):=by show _=_; rw[uh HV2,hp]; rfl
      obtain⟨c0,c1⟩:=(uh HK2).cs
      obtain⟨f0,f1⟩:=(uh HK2).fz
      clear hno hyes hp r6 k6 hal HV2
      go_wp2
      refine bodyPost_ret (results_cell_row rfl _ _ w.heap.size 43 #[_,_] (0,0) _ rfl (putN_full (uh HK2) [_,_] rfl) Tryz.underlying43 rfl (by kernel_rfl)) rfl ?_
      have hq:=GV.put (b:=deep) (uh HKB2) (uh HROW) (uh HFSH)
      refine⟨hq.1,fun h=>(by rw[uh HV3] at h; cases h),fun y t h=>?_⟩
      rw[uh HV3] at h
      injection h with h
      injection h with h1 h2
      subst h1; subst h2
      exact⟨j,rfl,by omega,hj3,by show PRd rb s j (max d 0) _; rw[uh HMX]; exact (putN_other (by omega) [_,_] 0).trans (uh HR2),hq.2⟩
  ·have HC2:=hide (pexpect_no rb s i d w1 (uh HR1) (by omega) hi 46 (.inl h46))
   have HF:=hide (seg_no (br:=pBr n) h91 h46)
   clear h91 h46
   go_wp2_with fail
   refine (uh HC2).mono ?_
   rintro e w2 ⟨rfl,k2⟩
   exact⟨rfl,(uh HKB1).trans k2,fun _=>rfl,fun x t h=>by rw[uh HF] at h; cases h⟩
structure PSt (rb:Nat) (s:ByteArray) (d:Int) (w wr:World) (x:XP) (j:Nat) (v:Value) (bl:List Nat) : Prop where
 kb:KB rb w wr
 rd:PRd rb s j (max d (x.2:Int)) wr
 row:ORow segE wr v x.1 bl
 fsh:Fsh w.heap.size bl
 nb:rb < w.heap.size
section
variable {rb:Nat} {s:ByteArray} {d:Int} {w wr:World} {x:XP} {j:Nat} {v:Value} {bl:List Nat}
theorem PSt.far (h:PSt rb s d w wr x j v bl) : rb ∉ bl:=fun hb=>by have:=h.fsh.2 _ hb; have:=h.nb; omega
theorem PSt.step (h:PSt rb s d w wr x j v bl) {w2:World} {j2:Nat} (hk:KB rb wr w2) (hr:PRd rb s j2 (max d (x.2:Int)) w2) : PSt rb s d w w2 x j2 v bl:=
 ⟨h.kb.trans hk,hr,h.row.kb hk h.far,h.fsh,h.nb⟩
theorem PSt.app (h:PSt rb s d w wr x j v bl) {w1 w5 w2:World} {v2:Value} {b2 ib:List Nat} {y:PSeg} {dy:Nat} {j2:Nat} (hk:KB rb wr w1) (hb:Below w1.heap.size w1 w5) (hr:PRd rb s j2 (max (max d (x.2:Int)) (dy:Int)) w1) (hrow:ORow segE w5 v x.1 bl) (hA:Appd segE w.heap.size w5 w2 v v2 bl ib b2 (x.1++[y])) : PSt rb s d w w2 (joinG x (y,dy)) j2 v2 b2:=by
 have hk5:KB rb w w5:=(h.kb.trans hk).trans (KB.of_below hb)
 refine⟨kb_below hk5 ((Below.refl _ _).grown hA.grown hk5.size fun g hg=>h.fsh.2 _ (hrow.head hg)),?_,hA.row,hA.fsh,h.nb⟩
 have e:max (max d (x.2:Int)) (dy:Int)=max d ((max x.2 dy:Nat) : Int):=by omega
 rw[e] at hr
 exact (hA.block hrow (hr.below hb).lt h.far).trans (hr.below hb)
end
def pathO (n:Nat) (s:ByteArray) : Option XP:=if bt s 0=36 then segsP (sBr n) ((dr s 1).length+1) ([],0) (dr s 1) else none
def PathP (rb:Nat) (s:ByteArray) (d:Int) (w:World) (R:Option XP) (e:Ending) (w':World) : Prop:=
 KB rb w w'∧(R=none→e=mis)∧∀ x,R=some x→PRd rb s s.size (max d (x.2:Int)) w'∧∃ (v:Value) (bl:List Nat),e = .returned v∧ORow segE w' v x.1 bl∧Fsh w.heap.size bl
theorem rPath (n rb:Nat) (s:ByteArray) (d:Int) (w:World) (h:PRd rb s 0 d w) (hs:s.size≤1000000) (hd:0≤d) (hn:s.size < n) :
  Calls Tryz.prog 25 #[.pointer (some ⟨rb,0,none⟩)] w (PathP rb s d w (pathO n s)):=by
 have hlt:=h.lt
 have HSEG:=hide (fun (j:Nat) (D:Int) (w:World) (hj:j≤s.size) (hD:0≤D) h=>rSeg n rb s j D w h hs hj hD hn)
 by_cases h36:bt s 0=36
 ·obtain⟨hil,-⟩:=bt_is 36 h36 (by decide)
  have HC:=hide (pexpect_yes rb s 0 d w h (by omega) 36 h36 hil)
  have HU:Hid (GUp n s (pathO n s) 1 ([],0)):=⟨_,Nat.lt_succ_self _,by unfold pathO; rw[if_pos h36]⟩
  have hm:max d ((0:Nat) : Int)=d:=by omega
  have HMX:=hide hm
  clear h h36 hm
  go_enter Tryz.func25,Tryz.ntmps25
  go_wp2_with fail
  refine (uh HC).mono ?_
  rintro e w1 ⟨rfl,r1,k1⟩
  have S1:Hid (PSt rb s d w w1 ([],0) 1 (.slice none 0 0) []):=⟨k1,by rw[uh HMX]; exact r1,ORow.nil _ _,Fsh.nil _,hlt⟩
  clear HC r1 k1
  go_wp2_with fail
  go_loopg [3] (s.size+1 - 1) (fun gk ov wr=>∃ (j:Nat) (x:XP) (oa:Option Addr) (ol oc:Nat) (bc:List Nat),gk=s.size+1 - j∧j≤s.size∧x.1.length≤j∧ov = .slice oa ol oc∧Hid (GUp n s (pathO n s) j x)∧Hid (PSt rb s d w wr x j (.slice oa ol oc) bc))
  case atStart=>exact⟨1,([],0),_,_,_,_,rfl,by omega,by simp,rfl,HU,S1⟩
  case round=>
   obtain⟨j,x,oa,ol,oc,bc,hg,hjl,hxl,rfl,hu,hps⟩:=hrel
   clear S1 HU
   have hD:0≤max d (x.2:Int):=by omega
   have t0:=(uh hps).rd.text
   have t1:=(uh hps).rd.at
   by_cases hjs:j < s.size
   ·have jI:(j:Int) < (s.size:Int):=by omega
    go_wp2_with fail
    go_quiet (fail)
    have S2:=hide ((uh hps).step ((KB.refl rb wr).drewN nq) ((uh hps).rd.drewN nq))
    have HC2:=hide (uh HSEG j _ (wr.drewN nq) hjl hD ((uh hps).rd.drewN nq))
    clear hps t0 t1
    generalize wr.drewN nq=w3 at *
    go_wp2_with fail
    refine (uh HC2).mono ?_
    rintro e w4 ⟨k4,hno,hyes⟩
    clear HC2
    rw[seg_same] at hno hyes
    cases hp:segP (sBr n) (dr s j) with
    | none=>
     obtain rfl:=hno hp
     exact⟨rfl,(uh S2).kb.trans k4,fun _=>rfl,fun x h=>by rw[(uh hu).no hjs hp] at h; cases h⟩
    | some z=>
     obtain⟨⟨y,dy⟩,t⟩:=z
     obtain⟨q,hq1,hq2,hq3,r4,qv,ib,rfl,row4,fsh4⟩:=hyes (y,dy) t hp
     obtain⟨k,hk1,hk2,hk3,hup⟩:=(uh hu).next hjs hp
     have hqk:j+k=q:=by rw[hq1,dr_len,dr_len] at hk3; omega
     rw[hqk] at hup
     obtain⟨ya,yc,rfl,-,-⟩:=row4.form
     have hz3:=(uh S2).kb.size
     have hz4:=k4.size
     have hal:=al_b w4 (.cells #[.bool y.deep,.slice ya y.sels.length yc] 43)
     have ROW5:=hide ((((uh S2).row).kb k4 (uh S2).far).below hal)
     have EL:=hide (show segE.E (w4.alloc (.cells #[.bool y.deep,.slice ya y.sels.length yc] 43)) [.bool y.deep,.slice ya y.sels.length yc] y ib from ⟨_,rfl,row4.below hal⟩)
     have FSH5:=hide (uh S2).fsh
     have FI:=hide (fsh4.mono hz3)
     have AP:Hid (∀ b∈ib,b ∉ bc):=fun b hb hbl=>by have h1:=fsh4.2 b hb; have h2:=(uh S2).row.lt b hbl; omega
     have HU4:=hide hup
     have HR4:=hide r4
     have HK4:=hide k4
     clear hno hyes hp k4 r4 row4 fsh4 hal hup hk3 hq1
     go_wp2_with (at_builtin; refine wpl_app1 ekSeg rfl (.tmp 20) (.tmp 23) rfl rfl (uh ROW5) (uh FSH5) (vs:=[.bool y.deep,.slice ya y.sels.length yc]) (y:=y) (uh EL) (uh FI) (uh AP) rfl (by exact lit_cells w4 [_,_] _) (seg_one _ _ _ _) (by simp; omega) (by omega) ?_)
     intro v5 w5 b5 hA
     have S5:=hide ((uh S2).app (dy:=dy) (uh HK4) (al_b w4 _) (uh HR4) (uh ROW5) hA)
     obtain⟨za,zc,hza,-,-⟩:=hA.row.form
     obtain⟨L3,hL3⟩ : ∃ L,(x.1++[y]).length=L:=⟨_,rfl⟩
     rw[hL3] at hza
     subst hza
     clear hA hL3
     go_wp2
     go_roundg (s.size+1 - q)
     case rel=>exact⟨q,joinG x (y,dy),za,_,zc,b5,rfl,hq3,by show (x.1++[y]).length≤_; simp; omega,rfl,HU4,S5⟩
     case measure=>omega
   ·have jI:¬ (j:Int) < (s.size:Int):=by omega
    have HF:=hide ((uh hu).fin (by omega))
    obtain rfl:j=s.size:=by omega
    go_wp2_with fail
    go_quiet (fail)
    have S2:=hide ((uh hps).step ((KB.refl rb wr).drewN nq) ((uh hps).rd.drewN nq))
    clear hps t0 t1
    generalize wr.drewN nq=w3 at *
    go_wp2
    try simp only[Exit.inBlock,Exit.then]
    go_ret
    refine⟨(uh S2).kb,fun h=>(by rw[uh HF] at h; cases h),fun y h=>?_⟩
    rw[uh HF] at h
    injection h with h
    subst h
    exact⟨(uh S2).rd,_,bc,rfl,(uh S2).row,(uh S2).fsh⟩
 ·have HC:=hide (pexpect_no rb s 0 d w h (by omega) (Nat.zero_le _) 36 (.inl h36))
  have HF:Hid (pathO n s=none):=by show _=_; unfold pathO; rw[if_neg h36]
  clear h h36
  go_enter Tryz.func25,Tryz.ntmps25
  go_wp2_with fail
  refine (uh HC).mono ?_
  rintro e w1 ⟨rfl,k1⟩
  exact⟨rfl,k1,fun _=>rfl,fun x h=>by rw[uh HF] at h; cases h⟩
end Go.Proofs.YtkjcgkfejdogbaaGreatDoor
