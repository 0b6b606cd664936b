import Derived.Test.YtkjcgkfejdogbaaGreatDoorBz27
import Derived.Laws.EntriesVeiled
import Derived.Deep.RegionHeld3
import Derived.BigQuiet
import Derived.Deep.CutRange
set_option maxRecDepth 100000
set_option maxHeartbeats 8000000
namespace Go.Proofs.YtkjcgkfejdogbaaGreatDoor
open Go.RowKit
theorem FV.lit {rb:Nat} {w w1:World} (k n:Int) (t:ByteArray) (hk:KB rb w w1) : KB rb w (putN w1 w.heap.size 0 [.int .i64 k,.int .i64 n,.string t,.bool false,.slice none 0 0])∧FV w ⟨k,n,t,false,[]⟩ (.returned (.agg #[.int .i64 k,.int .i64 n,.string t,.bool false,.slice none 0 0])) (putN w1 w.heap.size 0 [.int .i64 k,.int .i64 n,.string t,.bool false,.slice none 0 0]):=
 ⟨kb_below hk (putN_below (Below.refl _ _) (Nat.le_refl _) _ _),_,[],rfl,ORow.nil _ _,Fsh.nil _⟩
theorem FV.fop {rb:Nat} {w w1:World} {o:PFOp} {q:Value} {bl:List Nat} (hk:KB rb w w1) (row:ORow stepE w1 q o.steps bl) (fsh:Fsh (w.heap.size+1) bl) : KB rb w (putN w1 w.heap.size 0 [.int .i64 o.k,.int .i64 o.n,.string o.s,.bool o.root,q])∧FV w o (.returned (.agg #[.int .i64 o.k,.int .i64 o.n,.string o.s,.bool o.root,q])) (putN w1 w.heap.size 0 [.int .i64 o.k,.int .i64 o.n,.string o.s,.bool o.root,q]):=
 ⟨kb_below hk (putN_below (Below.refl _ _) (Nat.le_refl _) _ _),q,bl,rfl,row.putN (fun hb=>by have:=fsh.2 _ hb; omega) _ _,fsh.mono (by omega)⟩
theorem opd_at {s:ByteArray} {i:Nat} (h:i < s.size) : pOpd (dr s i)=(if bt s i=39 then (pStr (dr s i)).map (fun p=>(opS p.1,p.2))
  else if bt s i=116 then (pWd wdT (dr s i)).map (fun t=>(opK 3,t))
  else if bt s i=102 then (pWd wdF (dr s i)).map (fun t=>(opK 4,t))
  else if bt s i=110 then (pWd wdN (dr s i)).map (fun t=>(opK 5,t))
  else if bt s i=108 then (match pWd wdL (dr s i) with
   | none=>none
   | some u=>match pRef u with
    | none=>none
    | some (x,t)=>match t with
     | []=>none
     | d :: v=>if d=41 then some (opR' 7 x,v) else none)
  else if bt s i=64∨bt s i=36 then (pRef (dr s i)).map (fun p=>(opR' 6 p.1,p.2))
  else (pInt (dr s i)).map fun p=>(opI p.1,p.2)):=by
 have key:∀ n:Nat,n < 256→((bt s i=n)↔(s[i]=UInt8.ofNat n)):=fun n hn=>by
  rw[bt_at s i h]
  constructor
  ·intro e; apply UInt8.toNat_inj.1; rw[e]; simp; omega
  ·intro e; rw[e]; simp; omega
 rw[dr_at h,pOpd_con]
 simp only[key 39 (by decide),key 116 (by decide),key 102 (by decide),key 110 (by decide),key 108 (by decide),key 64 (by decide),key 36 (by decide)]
 rfl
theorem opd_end {s:ByteArray} {i:Nat} (h:¬ i < s.size) : pOpd (dr s i)=(pInt (dr s i)).map fun p=>(opI p.1,p.2):=by
 rw[dr_end (by omega)]; rfl
theorem rOperand (rb:Nat) (s:ByteArray) (i:Nat) (d:Int) (w:World) (h:PRd rb s i d w) (hs:s.size≤1048576) (hi:i≤s.size) :
  Calls Tryz.prog 134 #[.pointer (some ⟨rb,0,none⟩)] w (Rd rb s i d w (pOpd (dr s i)) (FV w)):=by
 have hlt:=h.lt
 have hal:=al_b w (.cells #[.int .i64 0,.int .i64 0,.string ⟨#[]⟩,.bool false,.slice none 0 0] 37)
 have hK:FB (w.alloc (.cells #[.int .i64 0,.int .i64 0,.string ⟨#[]⟩,.bool false,.slice none 0 0] 37)) w.heap.size 0 0 ⟨#[]⟩ false (.slice none 0 0):=heap_alloc_new w _
 have hz:w.heap.size < (w.alloc (.cells #[.int .i64 0,.int .i64 0,.string ⟨#[]⟩,.bool false,.slice none 0 0] 37)).heap.size:=by simp
 have HP:=hide (ppeek rb s i d _ (h.below hal) hi)
 have HKB:Hid (KB rb w (w.alloc (.cells #[.int .i64 0,.int .i64 0,.string ⟨#[]⟩,.bool false,.slice none 0 0] 37))):=KB.of_below hal
 have HK:=hide hK
 have HZ:=hide hz
 have HQ:=hide (fun w h=>rQuoted rb s i d w h hs hi)
 have HI:=hide (fun w h=>rInt rb s i d w h hs hi)
 have HWD:=hide (fun (t:ByteArray) w h (ht:t.size≤10)=>rWord rb s t i d w h hs hi ht)
 have HRF:=hide (fun (k:Int) (j:Nat) (hj:j≤s.size) w h=>rRef rb s j d k w h hs hj)
 clear h hal hK hz
 by_cases h39:bt s i=39
 ·have hil:i < s.size:=bt_in (by rw[h39]; decide)
  have HV:Hid (pOpd (dr s i)=(pStr (dr s i)).map (fun p=>(opS p.1,p.2))):=by show _=_; rw[opd_at hil,if_pos h39]
  have b39:((bt s i:Int) == 39)=true:=by rw[h39]; rfl
  clear h39
  go_enter Tryz.func134,Tryz.ntmps134
  go_wp2_with fail
  generalize (w.alloc (.cells #[.int .i64 0,.int .i64 0,.string ⟨#[]⟩,.bool false,.slice none 0 0] 37))=wA at *
  refine (uh HP).mono ?_
  rintro e w1 ⟨rfl,r1,k1⟩
  have HR1:=hide r1
  have hz1:w.heap.size < w1.heap.size:=by have:=k1.size; have:=uh HZ; omega
  have HK1:=hide ((uh HK).kb k1 (by omega))
  have HKB1:=hide ((uh HKB).trans k1)
  clear HP r1 k1 HZ HK HKB
  have HC:=hide (uh HQ w1 (uh HR1))
  go_wp2_with fail
  refine (uh HC).mono ?_
  rintro e w2 ⟨k2,hno,hyes⟩
  clear HC
  cases hp:pStr (dr s i) with
  | none=>
   obtain rfl:=hno (by rw[hp] <;> rfl)
   exact⟨rfl,(uh HKB1).trans k2,fun _=>rfl,fun x t h=>by rw[uh HV,hp] at h; cases h⟩
  | some q=>
   obtain⟨j,hj1,hj2,hj3,r2,rfl⟩:=hyes q.1 q.2 (by rw[hp] <;> rfl)
   have KB2:=hide ((uh HK1).kb k2 (by omega))
   have HKB2:=hide ((uh HKB1).trans k2)
   have HR2:=hide r2
   have HV2:Hid (pOpd (dr s i)=some (opS q.1,dr s j)):=by show _=_; rw[uh HV,hp,← hj1]; rfl
   obtain⟨c0,c1,c2,c3,c4⟩:=(uh KB2).c
   obtain⟨f0,f1,f2,f3,f4⟩:=(uh KB2).fz
   clear hno hyes hp k2 r2 hj1 HKB1 HK1 HR1
   go_wp2
   refine bodyPost_ret (results_cell_row rfl _ _ w.heap.size 37 #[_,_,_,_,_] (0,0) _ rfl (putN_full (uh KB2) [_,_,_,_,_] rfl) Tryz.underlying37 rfl (by kernel_rfl)) rfl ?_
   have hd:=FV.lit (rb:=rb) 2 0 (bsT q.1) (uh HKB2)
   refine⟨hd.1,fun h=>(by rw[uh HV2] at h; cases h),fun x t h=>?_⟩
   rw[uh HV2] at h
   injection h with h
   injection h with h1 h2
   subst h1; subst h2
   exact⟨j,rfl,hj2,hj3,(putN_other (by omega) [_,_,_,_,_] 0).trans (uh HR2),hd.2⟩
 ·skip
  by_cases h116:bt s i=116
  ·have hil:i < s.size:=bt_in (by rw[h116]; decide)
   have HV:Hid (pOpd (dr s i)=(pWd wdT (dr s i)).map (fun t=>(opK 3,t))):=by show _=_; rw[opd_at hil,if_neg h39,if_pos h116]
   have b116:((bt s i:Int) == 116)=true:=by rw[h116]; rfl
   have b39:((bt s i:Int) == 39)=false:=by rw[beq_eq_false_iff_ne]; omega
   clear h39 h116
   go_enter Tryz.func134,Tryz.ntmps134
   go_wp2_with fail
   generalize (w.alloc (.cells #[.int .i64 0,.int .i64 0,.string ⟨#[]⟩,.bool false,.slice none 0 0] 37))=wA at *
   refine (uh HP).mono ?_
   rintro e w1 ⟨rfl,r1,k1⟩
   have HR1:=hide r1
   have hz1:w.heap.size < w1.heap.size:=by have:=k1.size; have:=uh HZ; omega
   have HK1:=hide ((uh HK).kb k1 (by omega))
   have HKB1:=hide ((uh HKB).trans k1)
   clear HP r1 k1 HZ HK HKB
   have HC0:=hide (uh HWD ⟨#[116,114,117,101]⟩ w1 (uh HR1) (by decide))
   have eW:(ByteArray.mk #[116,114,117,101]).data.toList=wdT:=rfl
   rw[eW] at HC0
   clear eW
   have HC:=hide (uh HC0)
   go_wp2_with fail
   refine (uh HC).mono ?_
   rintro e w2 ⟨k2,hno,hyes⟩
   clear HC
   cases hp:pWd wdT (dr s i) with
   | none=>
    obtain rfl:=hno (by rw[hp] <;> rfl)
    exact⟨rfl,(uh HKB1).trans k2,fun _=>rfl,fun x t h=>by rw[uh HV,hp] at h; cases h⟩
   | some q=>
    obtain⟨j,hj1,hj2,hj3,r2,rfl⟩:=hyes () q (by rw[hp] <;> rfl)
    have KB2:=hide ((uh HK1).kb k2 (by omega))
    have HKB2:=hide ((uh HKB1).trans k2)
    have HR2:=hide r2
    have HV2:Hid (pOpd (dr s i)=some (opK 3,dr s j)):=by show _=_; rw[uh HV,hp,← hj1]; rfl
    obtain⟨c0,c1,c2,c3,c4⟩:=(uh KB2).c
    obtain⟨f0,f1,f2,f3,f4⟩:=(uh KB2).fz
    clear hno hyes hp k2 r2 hj1 HKB1 HK1 HR1
    go_wp2
    refine bodyPost_ret (results_cell_row rfl _ _ w.heap.size 37 #[_,_,_,_,_] (0,0) _ rfl (putN_full (uh KB2) [_,_,_,_,_] rfl) Tryz.underlying37 rfl (by kernel_rfl)) rfl ?_
    have hd:=FV.lit (rb:=rb) 3 0 ⟨#[]⟩ (uh HKB2)
    refine⟨hd.1,fun h=>(by rw[uh HV2] at h; cases h),fun x t h=>?_⟩
    rw[uh HV2] at h
    injection h with h
    injection h with h1 h2
    subst h1; subst h2
    exact⟨j,rfl,hj2,hj3,(putN_other (by omega) [_,_,_,_,_] 0).trans (uh HR2),hd.2⟩
  ·skip
   by_cases h102:bt s i=102
   ·have hil:i < s.size:=bt_in (by rw[h102]; decide)
    have HV:Hid (pOpd (dr s i)=(pWd wdF (dr s i)).map (fun t=>(opK 4,t))):=by show _=_; rw[opd_at hil,if_neg h39,if_neg h116,if_pos h102]
    have b102:((bt s i:Int) == 102)=true:=by rw[h102]; rfl
    have b39:((bt s i:Int) == 39)=false:=by rw[beq_eq_false_iff_ne]; omega
    have b116:((bt s i:Int) == 116)=false:=by rw[beq_eq_false_iff_ne]; omega
    clear h39 h116 h102
    go_enter Tryz.func134,Tryz.ntmps134
    go_wp2_with fail
    generalize (w.alloc (.cells #[.int .i64 0,.int .i64 0,.string ⟨#[]⟩,.bool false,.slice none 0 0] 37))=wA at *
    refine (uh HP).mono ?_
    rintro e w1 ⟨rfl,r1,k1⟩
    have HR1:=hide r1
    have hz1:w.heap.size < w1.heap.size:=by have:=k1.size; have:=uh HZ; omega
    have HK1:=hide ((uh HK).kb k1 (by omega))
    have HKB1:=hide ((uh HKB).trans k1)
    clear HP r1 k1 HZ HK HKB
    have HC0:=hide (uh HWD ⟨#[102,97,108,115,101]⟩ w1 (uh HR1) (by decide))
    have eW:(ByteArray.mk #[102,97,108,115,101]).data.toList=wdF:=rfl
    rw[eW] at HC0
    clear eW
    have HC:=hide (uh HC0)
    go_wp2_with fail
    refine (uh HC).mono ?_
    rintro e w2 ⟨k2,hno,hyes⟩
    clear HC
    cases hp:pWd wdF (dr s i) with
    | none=>
     obtain rfl:=hno (by rw[hp] <;> rfl)
     exact⟨rfl,(uh HKB1).trans k2,fun _=>rfl,fun x t h=>by rw[uh HV,hp] at h; cases h⟩
    | some q=>
     obtain⟨j,hj1,hj2,hj3,r2,rfl⟩:=hyes () q (by rw[hp] <;> rfl)
     have KB2:=hide ((uh HK1).kb k2 (by omega))
     have HKB2:=hide ((uh HKB1).trans k2)
     have HR2:=hide r2
     have HV2:Hid (pOpd (dr s i)=some (opK 4,dr s j)):=by show _=_; rw[uh HV,hp,← hj1]; rfl
     obtain⟨c0,c1,c2,c3,c4⟩:=(uh KB2).c
     obtain⟨f0,f1,f2,f3,f4⟩:=(uh KB2).fz
     clear hno hyes hp k2 r2 hj1 HKB1 HK1 HR1
     go_wp2
     refine bodyPost_ret (results_cell_row rfl _ _ w.heap.size 37 #[_,_,_,_,_] (0,0) _ rfl (putN_full (uh KB2) [_,_,_,_,_] rfl) Tryz.underlying37 rfl (by kernel_rfl)) rfl ?_
     have hd:=FV.lit (rb:=rb) 4 0 ⟨#[]⟩ (uh HKB2)
     refine⟨hd.1,fun h=>(by rw[uh HV2] at h; cases h),fun x t h=>?_⟩
     rw[uh HV2] at h
     injection h with h
     injection h with h1 h2
     subst h1; subst h2
     exact⟨j,rfl,hj2,hj3,(putN_other (by omega) [_,_,_,_,_] 0).trans (uh HR2),hd.2⟩
   ·skip
    by_cases h110:bt s i=110
    ·have hil:i < s.size:=bt_in (by rw[h110]; decide)
     have HV:Hid (pOpd (dr s i)=(pWd wdN (dr s i)).map (fun t=>(opK 5,t))):=by show _=_; rw[opd_at hil,if_neg h39,if_neg h116,if_neg h102,if_pos h110]
     have b110:((bt s i:Int) == 110)=true:=by rw[h110]; rfl
     have b39:((bt s i:Int) == 39)=false:=by rw[beq_eq_false_iff_ne]; omega
     have b116:((bt s i:Int) == 116)=false:=by rw[beq_eq_false_iff_ne]; omega
     have b102:((bt s i:Int) == 102)=false:=by rw[beq_eq_false_iff_ne]; omega
     clear h39 h116 h102 h110
     go_enter Tryz.func134,Tryz.ntmps134
     go_wp2_with fail
     generalize (w.alloc (.cells #[.int .i64 0,.int .i64 0,.string ⟨#[]⟩,.bool false,.slice none 0 0] 37))=wA at *
     refine (uh HP).mono ?_
     rintro e w1 ⟨rfl,r1,k1⟩
     have HR1:=hide r1
     have hz1:w.heap.size < w1.heap.size:=by have:=k1.size; have:=uh HZ; omega
     have HK1:=hide ((uh HK).kb k1 (by omega))
     have HKB1:=hide ((uh HKB).trans k1)
     clear HP r1 k1 HZ HK HKB
     have HC0:=hide (uh HWD ⟨#[110,117,108,108]⟩ w1 (uh HR1) (by decide))
     have eW:(ByteArray.mk #[110,117,108,108]).data.toList=wdN:=rfl
     rw[eW] at HC0
     clear eW
     have HC:=hide (uh HC0)
     go_wp2_with fail
     refine (uh HC).mono ?_
     rintro e w2 ⟨k2,hno,hyes⟩
     clear HC
     cases hp:pWd wdN (dr s i) with
     | none=>
      obtain rfl:=hno (by rw[hp] <;> rfl)
      exact⟨rfl,(uh HKB1).trans k2,fun _=>rfl,fun x t h=>by rw[uh HV,hp] at h; cases h⟩
     | some q=>
      obtain⟨j,hj1,hj2,hj3,r2,rfl⟩:=hyes () q (by rw[hp] <;> rfl)
      have KB2:=hide ((uh HK1).kb k2 (by omega))
      have HKB2:=hide ((uh HKB1).trans k2)
      have HR2:=hide r2
      have HV2:Hid (pOpd (dr s i)=some (opK 5,dr s j)):=by show _=_; rw[uh HV,hp,← hj1]; rfl
      obtain⟨c0,c1,c2,c3,c4⟩:=(uh KB2).c
      obtain⟨f0,f1,f2,f3,f4⟩:=(uh KB2).fz
      clear hno hyes hp k2 r2 hj1 HKB1 HK1 HR1
      go_wp2
      refine bodyPost_ret (results_cell_row rfl _ _ w.heap.size 37 #[_,_,_,_,_] (0,0) _ rfl (putN_full (uh KB2) [_,_,_,_,_] rfl) Tryz.underlying37 rfl (by kernel_rfl)) rfl ?_
      have hd:=FV.lit (rb:=rb) 5 0 ⟨#[]⟩ (uh HKB2)
      refine⟨hd.1,fun h=>(by rw[uh HV2] at h; cases h),fun x t h=>?_⟩
      rw[uh HV2] at h
      injection h with h
      injection h with h1 h2
      subst h1; subst h2
      exact⟨j,rfl,hj2,hj3,(putN_other (by omega) [_,_,_,_,_] 0).trans (uh HR2),hd.2⟩
    ·skip
     by_cases h108:bt s i=108
     ·have hil:i < s.size:=bt_in (by rw[h108]; decide)
      have HV:Hid (pOpd (dr s i)=(match pWd wdL (dr s i) with
        | none=>none
        | some u=>match pRef u with
         | none=>none
         | some (x,t)=>match t with
          | []=>none
          | d :: v=>if d=41 then some (opR' 7 x,v) else none)):=by show _=_; rw[opd_at hil,if_neg h39,if_neg h116,if_neg h102,if_neg h110,if_pos h108]
      have b108:((bt s i:Int) == 108)=true:=by rw[h108]; rfl
      have b39:((bt s i:Int) == 39)=false:=by rw[beq_eq_false_iff_ne]; omega
      have b116:((bt s i:Int) == 116)=false:=by rw[beq_eq_false_iff_ne]; omega
      have b102:((bt s i:Int) == 102)=false:=by rw[beq_eq_false_iff_ne]; omega
      have b110:((bt s i:Int) == 110)=false:=by rw[beq_eq_false_iff_ne]; omega
      clear h39 h116 h102 h110 h108
      go_enter Tryz.func134,Tryz.ntmps134
      go_wp2_with fail
      generalize (w.alloc (.cells #[.int .i64 0,.int .i64 0,.string ⟨#[]⟩,.bool false,.slice none 0 0] 37))=wA at *
      refine (uh HP).mono ?_
      rintro e w1 ⟨rfl,r1,k1⟩
      have HR1:=hide r1
      have hz1:w.heap.size < w1.heap.size:=by have:=k1.size; have:=uh HZ; omega
      have HK1:=hide ((uh HK).kb k1 (by omega))
      have HKB1:=hide ((uh HKB).trans k1)
      clear HP r1 k1 HZ HK HKB
      have HC:=hide (uh HWD ⟨#[108,101,110,103,116,104,40]⟩ w1 (uh HR1) (by decide))
      have eW:(ByteArray.mk #[108,101,110,103,116,104,40]).data.toList=wdL:=rfl
      rw[eW] at HC
      clear eW
      go_wp2_with fail
      refine (uh HC).mono ?_
      rintro e w2 ⟨k2,hno,hyes⟩
      clear HC
      cases hp:pWd wdL (dr s i) with
      | none=>
       obtain rfl:=hno (by rw[hp]; rfl)
       exact⟨rfl,(uh HKB1).trans k2,fun _=>rfl,fun x t h=>by rw[uh HV,hp] at h; cases h⟩
      | some q=>
       obtain⟨j,hj1,hj2,hj3,r2,rfl⟩:=hyes () q (by rw[hp]; rfl)
       have HK2:=hide ((uh HK1).kb k2 (by omega))
       have HKB2:=hide ((uh HKB1).trans k2)
       have hz2:=k2.size
       have HC2:=hide (uh HRF 7 j hj3 w2 r2)
       have HV2:Hid (pOpd (dr s i)=(match pRef (dr s j) with
         | none=>none
         | some (x,t)=>match t with
          | []=>none
          | d :: v=>if d=41 then some (opR' 7 x,v) else none)):=by show _=_; rw[uh HV,hp,← hj1]
       clear hno hyes hp k2 r2 hj1 HKB1 HK1 HR1 HV
       go_wp2_with fail
       refine (uh HC2).mono ?_
       rintro e w3 ⟨k3,hno,hyes⟩
       clear HC2
       cases hp:pRef (dr s j) with
       | none=>
        obtain rfl:=hno (by rw[hp]; rfl)
        exact⟨rfl,(uh HKB2).trans k3,fun _=>rfl,fun x t h=>by rw[uh HV2,hp] at h; cases h⟩
       | some z=>
        obtain⟨j2,hj4,hj5,hj6,r3,qv,bl,rfl,row,fsh⟩:=hyes (opR' 7 z.1) z.2 (by rw[hp]; rfl)
        obtain⟨qa,qc,rfl,-,-⟩:=row.form
        have hz3:=k3.size
        have hal:=al_b w3 (.cells #[.int .i64 7,.int .i64 0,.string ⟨#[]⟩,.bool z.1.1,.slice qa (opR' 7 z.1).steps.length qc] 37)
        have k4:FB (w3.alloc (.cells #[.int .i64 7,.int .i64 0,.string ⟨#[]⟩,.bool z.1.1,.slice qa (opR' 7 z.1).steps.length qc] 37)) w3.heap.size 7 0 ⟨#[]⟩ z.1.1 (.slice qa (opR' 7 z.1).steps.length qc):=heap_alloc_new w3 _
        have HK3:=hide (((uh HK2).kb k3 (by omega)).below hal)
        have HKB3:=hide (((uh HKB2).trans k3).trans (KB.of_below hal))
        have HROW:=hide (row.below hal)
        have HFSH:=hide (fsh.mono (show w.heap.size+1≤w2.heap.size by omega))
        have HR3:=hide (r3.below hal)
        have HK4:=hide k4
        have z3:(w3.alloc (.cells #[.int .i64 7,.int .i64 0,.string ⟨#[]⟩,.bool z.1.1,.slice qa (opR' 7 z.1).steps.length qc] 37)).heap.size=w3.heap.size+1:=by simp
        have HV3:Hid (pOpd (dr s i)=(match dr s j2 with
          | []=>none
          | d :: v=>if d=41 then some (opR' 7 z.1,v) else none)):=by show _=_; rw[uh HV2,hp,← hj4]
        have e1:(opR' 7 z.1).k=7:=rfl
        have e2:(opR' 7 z.1).n=0:=rfl
        have e3:(opR' 7 z.1).s=⟨#[]⟩:=rfl
        have e4:(opR' 7 z.1).root=z.1.1:=rfl
        rw[e1,e2,e3,e4]
        clear hno hyes hp k3 r3 hj4 row fsh k4 hal HV2 HK2 HKB2 e1 e2 e3 e4
        go_upto_region 16 with fail
        generalize (w3.alloc (.cells #[.int .i64 7,.int .i64 0,.string ⟨#[]⟩,.bool z.1.1,.slice qa (opR' 7 z.1).steps.length qc] 37))=w4 at *
        by_cases h41:bt s j2=41
        ·obtain⟨hjl,hjc⟩:=bt_is 41 h41 (by decide)
         have HC3:=hide (pexpect_yes rb s j2 d w4 (uh HR3) hs 41 h41 hjl)
         have HV4:Hid (pOpd (dr s i)=some (opR' 7 z.1,dr s (j2+1))):=by show _=_; rw[uh HV3,dr_at hjl]; simp only; rw[if_pos hjc]
         clear h41 hjc HV3 HR3
         go_wp2_with fail
         refine (uh HC3).mono ?_
         rintro e w5 ⟨rfl,r5,k5⟩
         have KB2:=hide ((uh HK3).kb k5 (by omega))
         have HKB5:=hide ((uh HKB3).trans k5)
         have HR5:=hide r5
         have HROW5:=hide ((uh HROW).kb k5 (fun hb=>by have:=(uh HFSH).2 _ hb; omega))
         obtain⟨c0,c1,c2,c3,c4⟩:=(uh KB2).c
         obtain⟨f0,f1,f2,f3,f4⟩:=(uh KB2).fz
         obtain⟨q0,q1,q2,q3,q4⟩:=((uh HK4).kb k5 (by omega)).c
         clear HC3 r5 k5
         go_wp2
         refine bodyPost_ret (results_cell_row rfl _ _ w.heap.size 37 #[_,_,_,_,_] (0,0) _ rfl (putN_full (uh KB2) [_,_,_,_,_] rfl) Tryz.underlying37 rfl (by kernel_rfl)) rfl ?_
         have hd:=FV.fop (o:=opR' 7 z.1) (uh HKB5) (uh HROW5) (uh HFSH)
         refine⟨hd.1,fun h=>(by rw[uh HV4] at h; cases h),fun x t h=>?_⟩
         rw[uh HV4] at h
         injection h with h
         injection h with h1 h2
         subst h1; subst h2
         exact⟨j2+1,rfl,by omega,by omega,(putN_other (by omega) [_,_,_,_,_] 0).trans (uh HR5),hd.2⟩
        ·have HC3:=hide (pexpect_no rb s j2 d w4 (uh HR3) hs hj6 41 (.inl h41))
         have HF:Hid (pOpd (dr s i)=none):=by
          show _=_
          rw[uh HV3]
          by_cases hjl:j2 < s.size
          ·rw[dr_at hjl]; simp only; rw[if_neg (bt_ne hjl 41 h41)]
          ·rw[dr_end (by omega)]
         clear h41
         go_wp2_with fail
         refine (uh HC3).mono ?_
         rintro e w5 ⟨rfl,k5⟩
         exact⟨rfl,(uh HKB3).trans k5,fun _=>rfl,fun x t h=>by rw[uh HF] at h; cases h⟩
     ·skip
      by_cases hrf:bt s i=64∨bt s i=36
      ·have hil:i < s.size:=bt_in (by rcases hrf with h | h <;> rw[h] <;> decide)
       have HV:Hid (pOpd (dr s i)=(pRef (dr s i)).map (fun p=>(opR' 6 p.1,p.2))):=by show _=_; rw[opd_at hil,if_neg h39,if_neg h116,if_neg h102,if_neg h110,if_neg h108,if_pos hrf]
       have b39:((bt s i:Int) == 39)=false:=by rw[beq_eq_false_iff_ne]; omega
       have b116:((bt s i:Int) == 116)=false:=by rw[beq_eq_false_iff_ne]; omega
       have b102:((bt s i:Int) == 102)=false:=by rw[beq_eq_false_iff_ne]; omega
       have b110:((bt s i:Int) == 110)=false:=by rw[beq_eq_false_iff_ne]; omega
       have b108:((bt s i:Int) == 108)=false:=by rw[beq_eq_false_iff_ne]; omega
       have HRFB:Hid (((bt s i:Int) == 64)=true∨(((bt s i:Int) == 64)=false∧((bt s i:Int) == 36)=true)):=by
        rcases hrf with h | h
        ·left; rw[h]; rfl
        ·right; rw[h]; exact⟨rfl,rfl⟩
       clear hrf h39 h116 h102 h110 h108
       go_enter Tryz.func134,Tryz.ntmps134
       go_wp2_with fail
       generalize (w.alloc (.cells #[.int .i64 0,.int .i64 0,.string ⟨#[]⟩,.bool false,.slice none 0 0] 37))=wA at *
       refine (uh HP).mono ?_
       rintro e w1 ⟨rfl,r1,k1⟩
       have HR1:=hide r1
       have hz1:w.heap.size < w1.heap.size:=by have:=k1.size; have:=uh HZ; omega
       have HK1:=hide ((uh HK).kb k1 (by omega))
       have HKB1:=hide ((uh HKB).trans k1)
       clear HP r1 k1 HZ HK HKB
       have HC:=hide (uh HRF 6 i hi w1 (uh HR1))
       rcases uh HRFB with b64 | ⟨b64,b36⟩
       all_goals
        go_wp2_with fail
        refine (uh HC).mono ?_
        rintro e w2 ⟨k2,hno,hyes⟩
        clear HC HRFB
        cases hp:pRef (dr s i) with
        | none=>
         obtain rfl:=hno (by rw[hp]; rfl)
         exact⟨rfl,(uh HKB1).trans k2,fun _=>rfl,fun x t h=>by rw[uh HV,hp] at h; cases h⟩
        | some z=>
         obtain⟨j,hj1,hj2,hj3,r2,qv,bl,rfl,row,fsh⟩:=hyes (opR' 6 z.1) z.2 (by rw[hp]; rfl)
         obtain⟨qa,qc,rfl,-,-⟩:=row.form
         have KB2:=hide ((uh HK1).kb k2 (by omega))
         have HKB2:=hide ((uh HKB1).trans k2)
         have HR2:=hide r2
         have HROW:=hide row
         have HFSH:=hide (fsh.mono (show w.heap.size+1≤w1.heap.size by omega))
         have HV2:Hid (pOpd (dr s i)=some (opR' 6 z.1,dr s j)):=by show _=_; rw[uh HV,hp,← hj1]; rfl
         obtain⟨c0,c1,c2,c3,c4⟩:=(uh KB2).c
         obtain⟨f0,f1,f2,f3,f4⟩:=(uh KB2).fz
         clear hno hyes hp k2 r2 hj1 HKB1 HK1 HR1 row fsh
         go_wp2
         refine bodyPost_ret (results_cell_row rfl _ _ w.heap.size 37 #[_,_,_,_,_] (0,0) _ rfl (putN_full (uh KB2) [_,_,_,_,_] rfl) Tryz.underlying37 rfl (by kernel_rfl)) rfl ?_
         have hd:=FV.fop (o:=opR' 6 z.1) (uh HKB2) (uh HROW) (uh HFSH)
         refine⟨hd.1,fun h=>(by rw[uh HV2] at h; cases h),fun x t h=>?_⟩
         rw[uh HV2] at h
         injection h with h
         injection h with h1 h2
         subst h1; subst h2
         exact⟨j,rfl,hj2,hj3,(putN_other (by omega) [_,_,_,_,_] 0).trans (uh HR2),hd.2⟩
      ·have HV:Hid (pOpd (dr s i)=(pInt (dr s i)).map fun p=>(opI p.1,p.2)):=by
        show _=_
        by_cases hil:i < s.size
        ·rw[opd_at hil,if_neg h39,if_neg h116,if_neg h102,if_neg h110,if_neg h108,if_neg hrf]
        ·exact opd_end hil
       have b39:((bt s i:Int) == 39)=false:=by rw[beq_eq_false_iff_ne]; omega
       have b116:((bt s i:Int) == 116)=false:=by rw[beq_eq_false_iff_ne]; omega
       have b102:((bt s i:Int) == 102)=false:=by rw[beq_eq_false_iff_ne]; omega
       have b110:((bt s i:Int) == 110)=false:=by rw[beq_eq_false_iff_ne]; omega
       have b108:((bt s i:Int) == 108)=false:=by rw[beq_eq_false_iff_ne]; omega
       have b64:((bt s i:Int) == 64)=false:=by rw[beq_eq_false_iff_ne]; omega
       have b36:((bt s i:Int) == 36)=false:=by rw[beq_eq_false_iff_ne]; omega
       clear hrf h39 h116 h102 h110 h108
       go_enter Tryz.func134,Tryz.ntmps134
       go_wp2_with fail
       generalize (w.alloc (.cells #[.int .i64 0,.int .i64 0,.string ⟨#[]⟩,.bool false,.slice none 0 0] 37))=wA at *
       refine (uh HP).mono ?_
       rintro e w1 ⟨rfl,r1,k1⟩
       have HR1:=hide r1
       have hz1:w.heap.size < w1.heap.size:=by have:=k1.size; have:=uh HZ; omega
       have HK1:=hide ((uh HK).kb k1 (by omega))
       have HKB1:=hide ((uh HKB).trans k1)
       clear HP r1 k1 HZ HK HKB
       have HC:=hide (uh HI w1 (uh HR1))
       go_wp2_with fail
       refine (uh HC).mono ?_
       rintro e w2 ⟨k2,hno,hyes⟩
       clear HC
       cases hp:pInt (dr s i) with
       | none=>
        obtain rfl:=hno (by rw[hp] <;> rfl)
        exact⟨rfl,(uh HKB1).trans k2,fun _=>rfl,fun x t h=>by rw[uh HV,hp] at h; cases h⟩
       | some q=>
        obtain⟨j,hj1,hj2,hj3,r2,rfl⟩:=hyes q.1 q.2 (by rw[hp] <;> rfl)
        have KB2:=hide ((uh HK1).kb k2 (by omega))
        have HKB2:=hide ((uh HKB1).trans k2)
        have HR2:=hide r2
        have HV2:Hid (pOpd (dr s i)=some (opI q.1,dr s j)):=by show _=_; rw[uh HV,hp,← hj1]; rfl
        obtain⟨c0,c1,c2,c3,c4⟩:=(uh KB2).c
        obtain⟨f0,f1,f2,f3,f4⟩:=(uh KB2).fz
        clear hno hyes hp k2 r2 hj1 HKB1 HK1 HR1
        go_wp2
        refine bodyPost_ret (results_cell_row rfl _ _ w.heap.size 37 #[_,_,_,_,_] (0,0) _ rfl (putN_full (uh KB2) [_,_,_,_,_] rfl) Tryz.underlying37 rfl (by kernel_rfl)) rfl ?_
        have hd:=FV.lit (rb:=rb) 1 q.1 ⟨#[]⟩ (uh HKB2)
        refine⟨hd.1,fun h=>(by rw[uh HV2] at h; cases h),fun x t h=>?_⟩
        rw[uh HV2] at h
        injection h with h
        injection h with h1 h2
        subst h1; subst h2
        exact⟨j,rfl,hj2,hj3,(putN_other (by omega) [_,_,_,_,_] 0).trans (uh HR2),hd.2⟩
def preB (t s:ByteArray) : Bool:=t.data.toList.isPrefixOf s.data.toList
theorem hasPre1 (s t:ByteArray) (w:World) : Calls Tryz.prog 140 #[.string s,.string t] w fun e w'=>e = .returned (.bool (preB t s))∧w=w':=by
 have hdt:=data_len t
 by_cases hin:t.size≤s.size
 ·have h1:(t.size:Int)≤(s.size:Int):=by omega
  have HV:Hid (preB t s=((s.extract 0 t.size).toList == t.toList)):=by
   show t.data.toList.isPrefixOf s.data.toList=_
   rw[ByteArray.toList_eq,ByteArray.toList_eq,Lib.extract_data]
   show _=((s.data.toList).take t.size == t.data.toList)
   rw[Bool.eq_iff_iff,List.isPrefixOf_iff_prefix,beq_iff_eq,List.prefix_iff_eq_take,hdt]
   exact⟨Eq.symm,Eq.symm⟩
  clear hdt
  go_enter Tryz.func140,Tryz.ntmps140
  go_wp2
  go_ret
  exact⟨by rw[uh HV]; rfl,rfl⟩
 ·have h1:¬ (t.size:Int)≤(s.size:Int):=by omega
  have HV:Hid (preB t s=false):=by
   show t.data.toList.isPrefixOf s.data.toList=_
   rw[Bool.eq_false_iff]
   intro h
   have:=(List.isPrefixOf_iff_prefix.1 h).length_le
   rw[hdt,data_len] at this
   omega
  clear hdt
  go_enter Tryz.func140,Tryz.ntmps140
  go_wp2
  go_ret
  exact⟨by rw[uh HV]; rfl,rfl⟩
theorem hasPre (s t:ByteArray) (w:World) : Calls Tryz.prog 138 #[.string s,.string t] w fun e w'=>e = .returned (.bool (preB t s))∧w=w':=by
 have HC:=hide (hasPre1 s t w)
 go_enter Tryz.func138,Tryz.ntmps138
 go_wp2_with fail
 refine (uh HC).mono ?_
 rintro e w1 ⟨rfl,rfl⟩
 go_wp2
 go_ret
 exact⟨rfl,rfl⟩
def cg:Nat→Bs
 | 0=>[61,61]
 | 1=>[33,61]
 | 2=>[60]
 | 3=>[60,61]
 | 4=>[62]
 | _=>[62,61]
theorem cg_len (k:Nat) : 1≤(cg k).length∧(cg k).length≤2:=by
 unfold cg
 split <;> simp
theorem comps2 (w:World) : Calls Tryz.prog 84 #[] w fun e w'=>e = .returned (.slice (some ⟨w.heap.size,0,none⟩) 6 6)∧Below w.heap.size w w'∧w.heap.size < w'.heap.size∧∀ k,k < 6→w'.cell? ⟨w.heap.size,k*2,none⟩=some (.string (bsT (cg k)))∧∃ f,w'.cell? ⟨w.heap.size,k*2+1,none⟩=some (.func (Fn.func f) #[] #[]):=by
 have HB:Hid (∀ o,Below w.heap.size w (w.alloc o)):=fun o=>al_b w o
 have HC:Hid (∀ cs T j,(w.alloc (Obj.cells cs T (0,0))).cell? ⟨w.heap.size,j,none⟩=cs[j]?):=fun cs T j=>Lib.cell_of_heap (heap_alloc_new w _) j
 go_enter Tryz.func84,Tryz.ntmps84
 go_wp2
 go_ret
 refine⟨rfl,uh HB _,by simp,fun k hk=>?_⟩
 rw[uh HC,uh HC]
 match k,hk with
 | 0,_=>exact⟨rfl,_,rfl⟩
 | 1,_=>exact⟨rfl,_,rfl⟩
 | 2,_=>exact⟨rfl,_,rfl⟩
 | 3,_=>exact⟨rfl,_,rfl⟩
 | 4,_=>exact⟨rfl,_,rfl⟩
 | 5,_=>exact⟨rfl,_,rfl⟩
def cgU (l:Bs) : Nat→Bs×Nat
 | 0=>([],0)
 | k+1=>if (cg k).isPrefixOf l=true∧(cgU l k).1.length < (cg k).length then (cg k,k+1) else cgU l k
theorem cgU_len (l:Bs) : ∀ k,(cgU l k).1.length≤2∧(cgU l k).2≤k∧(cgU l k).1.isPrefixOf l=true
 | 0=>by simp[cgU]
 | k+1=>by
  have ih:=cgU_len l k
  have hc:=(cg_len k).2
  unfold cgU
  split
  ·rename_i h; exact⟨hc,by simp,h.1⟩
  ·exact⟨ih.1,by omega,ih.2.2⟩
theorem cgU_nil:cgU [] 6=([],0):=by decide
theorem cgU_one (c:UInt8) : (cgU [c] 6,pCmp [c])=(if c=60 then (([60],3),some (3,[])) else if c=62 then (([62],5),some (5,[])) else (([],0),none)):=by
 have e:pCmp [c]=if c=60 then some (3,[]) else if c=62 then some (5,[]) else none:=by
  by_cases h1:c=60
  ·subst h1; rfl
  ·by_cases h2:c=62
   ·subst h2; rfl
   ·rw[if_neg h1,if_neg h2]
    by_cases h3:c=61
    ·subst h3; rfl
    ·by_cases h4:c=33
     ·subst h4; rfl
     ·exact pCmp_no fun a r h=>by
       injection h with h _
       subst h
       unfold isCm
       simp[h1,h2,h3,h4]
 rw[e]
 by_cases h1:c=60
 ·subst h1; decide
 ·by_cases h2:c=62
  ·subst h2; decide
  ·have:cgU [c] 6=([],0):=by
    simp[cgU,cg,List.isPrefixOf,Ne.symm h1,Ne.symm h2]
   rw[this]
   simp[h1,h2]
theorem cgU_two (c d:UInt8) (r:Bs) : (cgU (c :: d :: r) 6)=(match cmT c d with
  | none=>([],0)
  | some p=>((c :: d :: r).take p.2,p.1.toNat)):=by
 unfold cmT
 by_cases h61:c=61
 ·subst h61
  by_cases hd:d=61
  ·subst hd
   simp[cgU,cg,pf_one,pf_two]
  ·simp[cgU,cg,pf_one,pf_two,hd,Ne.symm hd]
 ·by_cases h33:c=33
  ·subst h33
   by_cases hd:d=61
   ·subst hd
    simp[cgU,cg,pf_one,pf_two]
   ·simp[cgU,cg,pf_one,pf_two,hd,Ne.symm hd]
  ·by_cases h60:c=60
   ·subst h60
    by_cases hd:d=61
    ·subst hd
     simp[cgU,cg,pf_one,pf_two]
    ·simp[cgU,cg,pf_one,pf_two,hd,Ne.symm hd]
   ·by_cases h62:c=62
    ·subst h62
     by_cases hd:d=61
     ·subst hd
      simp[cgU,cg,pf_one,pf_two]
     ·simp[cgU,cg,pf_one,pf_two,hd,Ne.symm hd]
    ·simp[cgU,cg,pf_one,pf_two,h61,h33,h60,h62,Ne.symm h61,Ne.symm h33,Ne.symm h60,Ne.symm h62]
theorem cg_cmp (l:Bs) : (pCmp l=none→cgU l 6=([],0))∧(∀ n u,pCmp l=some (n,u)→0 < (cgU l 6).2∧((cgU l 6).2:Int)=n∧l.drop (cgU l 6).1.length=u):=by
 match l with
 | []=>exact⟨fun _=>cgU_nil,fun n u h=>by cases h⟩
 | [c]=>
  have e:=cgU_one c
  have e1:cgU [c] 6=(if c=60 then ([60],3) else if c=62 then ([62],5) else ([],0)):=by
   have:=congrArg Prod.fst e
   simp only at this
   rw[this]; split <;> (try split) <;> rfl
  have e2:pCmp [c]=(if c=60 then some (3,[]) else if c=62 then some (5,[]) else none):=by
   have:=congrArg Prod.snd e
   simp only at this
   rw[this]; split <;> (try split) <;> rfl
  rw[e1,e2]
  by_cases h1:c=60
  ·simp[h1]
  ·by_cases h2:c=62
   ·simp[h2]
   ·simp[h1,h2]
 | c :: d :: r=>
  rw[cgU_two,pCmp_two]
  cases hm:cmT c d with
  | none=>exact⟨fun _=>rfl,fun n u h=>by cases h⟩
  | some p=>
   have hp:0 < p.1∧p.2≤2:=by
    refine⟨?_,cmT_le hm⟩
    unfold cmT at hm
    repeat' split at hm
    all_goals first
     | (injection hm with hm; rw[← hm]; decide)
     | cases hm
   refine⟨fun h=>(by cases h),fun n u h=>?_⟩
   injection h with h
   injection h with h1 h2
   subst h1; subst h2
   refine⟨by simp only; omega,by simp only; omega,?_⟩
   simp only[List.length_take,List.length_cons]
   rw[Nat.min_eq_left (by omega)]
theorem rComp (rb:Nat) (s:ByteArray) (i:Nat) (d:Int) (w:World) (h:PRd rb s i d w) (hs:s.size≤1048576) (hi:i≤s.size) :
  Calls Tryz.prog 135 #[.pointer (some ⟨rb,0,none⟩)] w fun e w'=>KB rb w w'∧(pCmp (dr s i)=none→e = .returned (.tuple #[.int .i64 0,.bool false])∧PRd rb s i d w') ∧
   ∀ n u,pCmp (dr s i)=some (n,u)→∃ j,u=dr s j∧i≤j∧j≤s.size∧PRd rb s j d w'∧e = .returned (.tuple #[.int .i64 n,.bool true]):=by
 have hlt:=h.lt
 have HCM:=hide (comps2 w)
 have HH:=hide h
 have HL:=hide (cgU_len (dr s i))
 have HCC:=hide (cg_cmp (dr s i))
 have HSX:Hid ((s.extract i s.size).data.toList=dr s i):=by
  show _=_
  rw[Lib.extract_data]; unfold dr; exact List.take_of_length_le (by rw[List.length_drop,data_len]; exact Nat.le_refl _)
 have iI:(i:Int)≤(s.size:Int):=by omega
 have i0:(0:Int)≤(i:Int):=by omega
 clear h
 go_enter Tryz.func135,Tryz.ntmps135
 go_wp2_with fail
 refine (uh HCM).mono ?_
 rintro e w0 ⟨rfl,b0,hz0,hT⟩
 have HT:=hide hT
 have HB0:=hide b0
 clear HCM hT b0
 go_wp2
 go_loopw [4,5,10] (fun bv nv kv wr=>∃ k:Nat,k≤6∧bv = .string (bsT (cgU (dr s i) k).1)∧nv = .int .i64 ((cgU (dr s i) k).2:Int)∧kv = .int .i64 (k:Int)∧Hid (Below w0.heap.size w0 wr)) (fun _ _ kv _=>6 - (intOf kv).toNat)
 case atStart=>exact⟨0,by omega,rfl,rfl,rfl,Below.refl _ _⟩
 case round=>
  obtain⟨k,hk,rfl,rfl,rfl,hb⟩:=hrel
  obtain⟨hl1,hl2,hl3⟩:=uh HL k
  by_cases hlt6:k < 6
  ·have hI:(k:Int) < 6:=by omega
   obtain⟨hc0,f,hc1⟩:=uh HT k hlt6
   have c0:wr.cell? ⟨w.heap.size,k*2,none⟩=some (.string (bsT (cg k))):=((uh hb).cell (by show w.heap.size < _; omega)).trans hc0
   have c1:wr.cell? ⟨w.heap.size,k*2+1,none⟩=some (.func (Fn.func f) #[] #[]):=((uh hb).cell (by show w.heap.size < _; omega)).trans hc1
   have hal:=al_b wr (.cells #[.string (bsT (cg k)),.func (Fn.func f) #[] #[]] 136)
   have K7:=heap_alloc_new wr (.cells #[.string (bsT (cg k)),.func (Fn.func f) #[] #[]] 136)
   have HB7:=hide (below_next (uh hb) hal)
   clear hc0 hc1 hal
   have hU:cgU (dr s i) (k+1)=if (cg k).isPrefixOf (dr s i)=true∧(cgU (dr s i) k).1.length < (cg k).length then (cg k,k+1) else cgU (dr s i) k:=rfl
   have HU:=hide hU
   have hz1:(bsT (cg k)).size=(cg k).length:=by simp[bsT,ByteArray.size]
   have hz2:(bsT (cgU (dr s i) k).1).size=(cgU (dr s i) k).1.length:=by simp[bsT,ByteArray.size]
   have HZ1:=hide hz1
   have HZ2:=hide hz2
   have hcg:=cg_len k
   have HPR:=hide (fun w=>(hasPre (s.extract i s.size) (bsT (cg k)) w).mono fun _ _ ⟨h1,h2⟩=>(⟨h1,h2.symm⟩ : _∧_=w))
   have hpb:preB (bsT (cg k)) (s.extract i s.size)=(cg k).isPrefixOf (dr s i):=by
    unfold preB
    rw[uh HSX]; simp[bsT]
   rw[hpb] at HPR
   clear hU hz1 hz2 hpb
   generalize cgU (dr s i) k=U at *
   generalize cg k=G at *
   go_upto_region 5 with fail
   generalize hw7:(wr.alloc (.cells #[.string (bsT G),.func (Fn.func f) #[] #[]] 136))=w7 at *
   have R7:PRd rb s i d w7:=((uh HH).below (uh HB0)).below (uh HB7)
   have t0:w7.cell? ⟨rb,0,none⟩=some (.string s):=R7.text
   have t1:w7.cell? ⟨rb,1,none⟩=some (.int .i64 (i:Int)):=R7.at
   have q1:w7.cell? ⟨wr.heap.size,0,none⟩=some (.string (bsT G)):=Lib.cell_of_heap K7 0
   clear R7 K7 hw7 c0 c1
   obtain⟨b,hbv⟩ : ∃ b,decide (G.isPrefixOf (dr s i)=true∧U.1.length < G.length)=b:=⟨_,rfl⟩
   have HBV:=hide hbv
   clear hbv
   go_cut [36] from 11 to 36 (fun x wx=>x = .bool b∧Below w7.heap.size w7 wx)
   case first=>
    cases hp:G.isPrefixOf (dr s i) with
    | true=>
     rw[hp] at HPR
     by_cases hl:U.1.length < G.length
     ·have hlI:(((bsT U.1).size:Nat) : Int) < (((bsT G).size:Nat) : Int):=by have:=uh HZ1; have:=uh HZ2; omega
      have HV:Hid (b=true):=by show _=_; rw[← uh HBV]; exact decide_eq_true ⟨hp,hl⟩
      clear hp hl
      go_wp2
      go_quiet ((go_at_call 138; exact Calls.quiet_of_same (uh HPR _)))
      go_wp2
      go_meet
      case rel=>exact⟨by rw[uh HV],dn_b (Below.refl _ _) _⟩
     ·have hlI:¬ (((bsT U.1).size:Nat) : Int) < (((bsT G).size:Nat) : Int):=by have:=uh HZ1; have:=uh HZ2; omega
      have HV:Hid (b=false):=by show _=_; rw[← uh HBV]; exact decide_eq_false fun h=>hl h.2
      clear hp hl
      go_wp2
      go_quiet ((go_at_call 138; exact Calls.quiet_of_same (uh HPR _)))
      go_wp2
      go_meet
      case rel=>exact⟨by rw[uh HV]; exact congrArg Value.bool (decide_eq_false (by omega)),dn_b (Below.refl _ _) _⟩
    | false=>
     rw[hp] at HPR
     have HV:Hid (b=false):=by show _=_; rw[← uh HBV]; exact decide_eq_false fun h=>by rw[hp] at h; cases h.1
     clear hp
     go_wp2
     go_quiet ((go_at_call 138; exact Calls.quiet_of_same (uh HPR _)))
     go_wp2
     go_meet
     case rel=>exact⟨by rw[uh HV],dn_b (Below.refl _ _) _⟩
   obtain⟨rfl,hbc⟩:=hcut
   have HBC:=hide (below_next (uh HB7) hbc)
   have qc:wc.cell? ⟨wr.heap.size,0,none⟩=some (.string (bsT G)):=(hbc.cell (by show wr.heap.size < _; exact World.block_lt_of_cell? w7 ⟨wr.heap.size,0,none⟩ q1)).trans q1
   clear hbc HB7 t0 t1 q1
   cases b with
   | true=>
    have hU:=uh HU
    rw[if_pos (of_decide_eq_true (uh HBV))] at hU
    have HU2:=hide hU
    clear hU HBV
    go_wp2
    go_roundw
    case rel=>exact⟨k+1,by omega,by rw[uh HU2],by rw[uh HU2]; go_num,by go_num,uh HBC⟩
    case measure=>simp[intOf]; omega
   | false=>
    have hU:=uh HU
    rw[if_neg (of_decide_eq_false (uh HBV))] at hU
    have HU2:=hide hU
    clear hU HBV
    go_wp2
    go_roundw
    case rel=>exact⟨k+1,by omega,by rw[uh HU2],by rw[uh HU2],by go_num,uh HBC⟩
    case measure=>simp[intOf]; omega
  ·obtain rfl:k=6:=by omega
   have R6:=((uh HH).below (uh HB0)).below (uh hb)
   have t1:=R6.at
   have f1:=R6.frozen
   have HR6:=hide R6
   have hz2:(bsT (cgU (dr s i) 6).1).size=(cgU (dr s i) 6).1.length:=by simp[bsT,ByteArray.size]
   have hle:i+(cgU (dr s i) 6).1.length≤s.size:=by
    have:=(List.isPrefixOf_iff_prefix.1 hl3).length_le
    rw[dr_len] at this
    omega
   have HKB:Hid (KB rb w wr):=(KB.of_below (uh HB0)).trans (kb_below (KB.refl _ _) (uh hb))
   have HZ2:=hide hz2
   clear hz2 R6 HL HT
   cases hp:pCmp (dr s i) with
   | none=>
    have hN:=(uh HCC).1 hp
    have HN:=hide hp
    rw[hN] at HZ2 hle ⊢
    clear hp hN HCC
    have hz0:(bsT ([] : Bs)).size=0:=rfl
    have hi63:(i:Int) < 9223372036854775807:=by omega
    go_wp2
    go_ret2
    exact⟨(uh HKB).set 1 _,fun _=>⟨rfl,(uh HR6).set _ _ (by first | rfl | go_num | omega)⟩,fun n u h=>by rw[uh HN] at h; cases h⟩
   | some q=>
    obtain⟨hN1,hN2,hN3⟩:=(uh HCC).2 q.1 q.2 hp
    generalize cgU (dr s i) 6=U at *
    have hnI:(0:Int) < (U.2:Int):=by omega
    have hz:=uh HZ2
    have HN2:=hide hN2
    have HN3:=hide hN3
    have HPX:=hide hp
    clear hp HCC hN2 hN3
    go_wp2
    go_ret2
    refine⟨(uh HKB).set 1 _,fun h=>(by rw[uh HPX] at h; cases h),fun n u h=>?_⟩
    rw[uh HPX] at h
    injection h with h
    subst h
    refine⟨i+U.1.length,?_,by omega,hle,(uh HR6).set _ _ (by omega),?_⟩
    ·have:=uh HN3
     simp only at this
     rw[← this,dr_dr]
    ·have:=uh HN2
     simp only at this
     rw[← this]; rfl
end Go.Proofs.YtkjcgkfejdogbaaGreatDoor
