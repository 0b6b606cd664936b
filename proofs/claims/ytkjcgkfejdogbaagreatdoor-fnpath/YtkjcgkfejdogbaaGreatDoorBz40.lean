import Derived.Test.YtkjcgkfejdogbaaGreatDoorBz31
import Derived.Test.YtkjcgkfejdogbaaGreatDoorBz39
set_option maxRecDepth 100000
set_option maxHeartbeats 8000000
namespace Go.Proofs.YtkjcgkfejdogbaaGreatDoor
open Go.RowKit
theorem pathR_O (n:Nat) (s:ByteArray) : pathR (sBr n) s.data.toList=if 1000 < s.size then (([],1) : List PSeg×Int) else match pathO n s with
  | none=>([],2)
  | some x=>if 50 < x.2 then ([],3) else (x.1,0):=by
 unfold pathR
 rw[data_len]
 by_cases h1:1000 < s.size
 ·rw[if_pos h1,if_pos h1]
 ·rw[if_neg h1,if_neg h1]
  unfold pathO
  cases hd:s.data.toList with
  | nil=>
   rw[← dr_zero] at hd
   rw[bt_nil hd,if_neg (by decide)]
  | cons c r=>
   rw[← dr_zero] at hd
   obtain⟨-,hb,hr⟩:=bt_dr hd
   rw[Nat.zero_add] at hr
   rw[hb,hr]
   simp only
   by_cases hc:c=36
   ·subst hc
    rw[if_pos rfl,if_pos (show (36:UInt8).toNat=36 from rfl)]
    rfl
   ·rw[if_neg hc,if_neg (show ¬ c.toNat=36 from fun e=>hc (UInt8.toNat_inj.1 e))]
theorem rClo (rb p q:Nat) (s:ByteArray) (w:World) (h:PRd rb s 0 0 w) (hp:w.heap[p]?=some (.cells #[.pointer (some ⟨rb,0,none⟩)] 64 (0,0))) (hq:w.heap[q]?=some (.cells #[.slice none 0 0] 23 (0,0))) (hqr:q≠rb) (hs:s.size≤1000) :
  Calls Tryz.prog 24 #[.pointer (some ⟨p,0,none⟩),.pointer (some ⟨q,0,none⟩)] w fun e w'=>(pathO 1001 s=none→e=mis∧KB rb w w')∧∀ x,pathO 1001 s=some x→e = .returned (.tuple #[])∧∃ (w1:World) (v:Value) (bl:List Nat),w'=w1.setCell ⟨q,0,none⟩ v∧KB rb w w1∧PRd rb s s.size (max 0 (x.2:Int)) w1∧ORow segE w1 v x.1 bl∧Fsh w.heap.size bl:=by
 have HC:=hide (rPath 1001 rb s 0 w h (by omega) (Int.le_refl _) (by omega))
 have c0:w.cell? ⟨p,0,none⟩=some (.pointer (some ⟨rb,0,none⟩)):=Lib.cell_of_heap hp 0
 have HQ:=hide hq
 clear h hp hq
 go_enter Tryz.func24,Tryz.ntmps24
 go_wp2_with fail
 refine (uh HC).mono ?_
 rintro e w1 ⟨k1,hno,hyes⟩
 clear HC
 cases hR:pathO 1001 s with
 | none=>
  obtain rfl:=hno hR
  exact⟨rfl,fun _=>⟨rfl,k1⟩,fun x h=>by rw[hR] at h; cases h⟩
 | some x=>
  obtain⟨r1,v,bl,rfl,row,fsh⟩:=hyes x hR
  have HX:Hid (∃ (w':World) (v':Value) (bl:List Nat),w1.setCell ⟨q,0,none⟩ v=w'.setCell ⟨q,0,none⟩ v'∧KB rb w w'∧PRd rb s s.size (max 0 (x.2:Int)) w'∧ORow segE w' v' x.1 bl∧Fsh w.heap.size bl):=⟨w1,v,bl,rfl,k1,r1,row,fsh⟩
  have K2:w1.heap[q]?=some (.cells #[.slice none 0 0] 23 (0,0)):=(k1.block q ((Array.getElem?_eq_some_iff.1 (uh HQ)).1) hqr).trans (uh HQ)
  have d0:w1.cell? ⟨q,0,none⟩=some (.slice none 0 0):=Lib.cell_of_heap K2 0
  have f0:=Lib.frozen_of_heap K2 0
  obtain⟨ya,yc,rfl,-,-⟩:=row.form
  have HR:=hide hR
  clear hno hyes k1 r1 row fsh K2 hR
  go_wp2
  go_returns
  refine⟨fun h=>(by rw[uh HR] at h; cases h),fun y h=>?_⟩
  rw[uh HR] at h
  injection h with h
  subst h
  exact⟨rfl,uh HX⟩
def ppW (s:ByteArray) (w:World) : World:=((w.alloc (.cells #[.string s,.int .i64 0,.int .i64 0] 68)).alloc (.cells #[.pointer (some ⟨w.heap.size,0,none⟩)] 64)).alloc (.cells #[.slice none 0 0] 23)
theorem ppW_facts (s:ByteArray) (w:World) : Below w.heap.size w (ppW s w)∧(ppW s w).heap.size=w.heap.size+1+1+1∧PRd w.heap.size s 0 0 (ppW s w)∧(ppW s w).heap[w.heap.size+1]?=some (.cells #[.pointer (some ⟨w.heap.size,0,none⟩)] 64 (0,0))∧(ppW s w).heap[w.heap.size+1+1]?=some (.cells #[.slice none 0 0] 23 (0,0)):=by
 unfold ppW
 have a1:=al_b w (.cells #[.string s,.int .i64 0,.int .i64 0] 68)
 have a2:PRd w.heap.size s 0 0 (w.alloc (.cells #[.string s,.int .i64 0,.int .i64 0] 68)):=heap_alloc_new w _
 have a3:(w.alloc (.cells #[.string s,.int .i64 0,.int .i64 0] 68)).heap.size=w.heap.size+1:=by simp
 generalize (w.alloc (.cells #[.string s,.int .i64 0,.int .i64 0] 68))=wA at *
 have b1:=al_b wA (.cells #[.pointer (some ⟨w.heap.size,0,none⟩)] 64)
 have b2:=heap_alloc_new wA (.cells #[.pointer (some ⟨w.heap.size,0,none⟩)] 64)
 have b3:(wA.alloc (.cells #[.pointer (some ⟨w.heap.size,0,none⟩)] 64)).heap.size=w.heap.size+1+1:=by rw[← a3]; simp
 rw[a3] at b2
 generalize (wA.alloc (.cells #[.pointer (some ⟨w.heap.size,0,none⟩)] 64))=wB at *
 have c1:=al_b wB (.cells #[.slice none 0 0] 23)
 have c2:=heap_alloc_new wB (.cells #[.slice none 0 0] 23)
 rw[b3] at c2
 exact⟨below_next (below_next a1 b1) c1,by rw[← b3]; simp,(a2.below b1).below c1,(c1.block _ (by omega)).trans b2,c2⟩
theorem enters_pp:∀ args (w:World),(callFunc 24 args).run Tryz.prog w = .ok (.enter 24 args) w:=enters_of Tryz.func24 (by kernel_rfl) rfl
theorem implParse_walk (s:ByteArray) (w:World) (hs:s.size≤1048576) : Calls Tryz.prog 10 #[.string s] w (PRet w (pathR (sBr 1001) s.data.toList)):=by
 have HV:=hide (pathR_O 1001 s)
 by_cases h1:1000 < s.size
 ·have h1I:(1000:Int) < (s.size:Int):=by omega
  have HR:Hid (pathR (sBr 1001) s.data.toList=([],1)):=by show _=_; rw[uh HV,if_pos h1]
  clear h1 HV
  go_enter Tryz.func10,Tryz.ntmps10
  go_wp2
  go_ret2
  rw[uh HR]
  exact⟨Below.refl _ _,_,[],rfl,ORow.nil _ _,Fsh.nil _⟩
 ·have h1I:¬ (1000:Int) < (s.size:Int):=by omega
  obtain⟨hW1,hW2,hW3,hW4,hW5⟩:=ppW_facts s w
  have hal:=al_b (ppW s w) (.cells #[.bool false] 4)
  have hok:OkCell (ppW s w).heap.size ((ppW s w).alloc (.cells #[.bool false] 4)):=heap_alloc_new (ppW s w) _
  have hCl:=rClo w.heap.size (w.heap.size+1) (w.heap.size+1+1) s ((ppW s w).alloc (.cells #[.bool false] 4)) (hW3.below hal) ((hal.block _ (by omega)).trans hW4) ((hal.block _ (by omega)).trans hW5) (by omega) (by omega)
  have hz4:((ppW s w).alloc (.cells #[.bool false] 4)).heap.size=(ppW s w).heap.size+1:=by simp
  cases hR:pathO 1001 s with
  | none=>
   have HR:Hid (pathR (sBr 1001) s.data.toList=([],2)):=by show _=_; rw[uh HV,if_neg h1,hR]
   have HF:=hide (fits_mis 24 #[.pointer (some ⟨w.heap.size+1,0,none⟩),.pointer (some ⟨w.heap.size+1+1,0,none⟩)] (ppW s w) (fun w1=>Below w.heap.size w w1∧(ppW s w).heap.size < w1.heap.size) enters_pp (hCl.mono (by
    rintro e w' ⟨hn,-⟩
    obtain⟨rfl,hk⟩:=hn hR
    have hsz:=hk.size
    refine⟨rfl,(hk.block _ (by omega) (by omega)).trans hok,(below_next hW1 hal).trans (hk.below (Nat.le_refl _) (by omega)),by omega⟩)))
   have HZ:=hide hW2
   clear hCl hok hal hW1 hW3 hW4 hW5 HV hR hz4 hW2
   go_enter Tryz.func10,Tryz.ntmps10
   go_wp2_with fail
   refine (uh HF).mono ?_
   rintro e w2 ⟨rfl,w1,⟨b1,hz1⟩,rfl⟩
   have hzz:=uh HZ
   have HB:Hid (Below w.heap.size w ((w1.alloc (.cells #[] 99)).setCell ⟨(ppW s w).heap.size,0,none⟩ (.bool false))):=(b1.trans ((al_b w1 _).mono (by omega))).setCell (by show _≤(ppW s w).heap.size; omega) _
   generalize ((w1.alloc (.cells #[] 99)).setCell ⟨(ppW s w).heap.size,0,none⟩ (.bool false))=w3 at *
   clear HF b1 hzz
   go_wp2
   go_ret2
   rw[uh HR]
   exact⟨uh HB,_,[],rfl,ORow.nil _ _,Fsh.nil _⟩
  | some x=>
   have HR:Hid (pathR (sBr 1001) s.data.toList=if 50 < x.2 then ([],3) else (x.1,0)):=by show _=_; rw[uh HV,if_neg h1,hR]
   have HF:=hide (fits_ok 24 #[.pointer (some ⟨w.heap.size+1,0,none⟩),.pointer (some ⟨w.heap.size+1+1,0,none⟩)] (ppW s w) (fun w'=>∃ (w1:World) (v:Value) (bl:List Nat),w'=w1.setCell ⟨w.heap.size+1+1,0,none⟩ v∧KB w.heap.size ((ppW s w).alloc (.cells #[.bool false] 4)) w1∧PRd w.heap.size s s.size (max 0 (x.2:Int)) w1∧ORow segE w1 v x.1 bl∧Fsh (w.heap.size+1+1+1+1) bl) enters_pp (hCl.mono (by
    rintro e w' ⟨-,hy⟩
    obtain⟨rfl,w1,v,bl,rfl,hk,hr,hrow,hfsh⟩:=hy x hR
    have hsz:=hk.size
    refine⟨rfl,(Below.heap_setCell _ _ _ _ (by show _≠w.heap.size+1+1; omega)).trans ((hk.block _ (by omega) (by omega)).trans hok),w1,v,bl,rfl,hk,hr,hrow,by rw[hz4,hW2] at hfsh; exact hfsh⟩)))
   have HB0:=hide (below_next hW1 hal)
   have H4:=hide ((hal.block _ (by omega)).trans hW4)
   have H5:=hide ((hal.block _ (by omega)).trans hW5)
   have HZ:=hide hW2
   have HZ4:=hide hz4
   clear hCl hok hal hW1 hW3 hW4 hW5 HV hR hz4
   go_enter Tryz.func10,Tryz.ntmps10
   go_wp2_with fail
   refine (uh HF).mono ?_
   rintro e w2 ⟨rfl,w',⟨w1,v,bl,rfl,hk,hr,hrow,hfsh⟩,rfl⟩
   have hsz:=hk.size
   have hz4:=uh HZ4
   have hz:=uh HZ
   obtain⟨ya,yc,rfl,-,-⟩:=hrow.form
   have hnt:w.heap.size+1+1 ∉ bl:=fun hb=>by have:=hfsh.2 _ hb; omega
   have hno:(ppW s w).heap.size ∉ bl:=fun hb=>by have:=hfsh.2 _ hb; omega
   have K5:(w1.setCell ⟨w.heap.size+1+1,0,none⟩ (.slice ya x.1.length yc)).heap[w.heap.size+1+1]?=some (.cells #[.slice ya x.1.length yc] 23 (0,0)):=Go.heap_setCell_same w1 _ 0 _ 23 _ ((hk.block _ (by omega) (by omega)).trans (uh H5))
   have K5':((w1.setCell ⟨w.heap.size+1+1,0,none⟩ (.slice ya x.1.length yc)).setCell ⟨(ppW s w).heap.size,0,none⟩ (.bool true)).heap[w.heap.size+1+1]?=some (.cells #[.slice ya x.1.length yc] 23 (0,0)):=(Below.heap_setCell _ _ _ _ (by show _≠(ppW s w).heap.size; omega)).trans K5
   have K4:((w1.setCell ⟨w.heap.size+1+1,0,none⟩ (.slice ya x.1.length yc)).setCell ⟨(ppW s w).heap.size,0,none⟩ (.bool true)).heap[w.heap.size+1]?=some (.cells #[.pointer (some ⟨w.heap.size,0,none⟩)] 64 (0,0)):=(Below.heap_setCell _ _ _ _ (by show _≠(ppW s w).heap.size; omega)).trans ((Below.heap_setCell _ _ _ _ (by show _≠w.heap.size+1+1; omega)).trans ((hk.block _ (by omega) (by omega)).trans (uh H4)))
   have KR:PRd w.heap.size s s.size (max 0 (x.2:Int)) ((w1.setCell ⟨w.heap.size+1+1,0,none⟩ (.slice ya x.1.length yc)).setCell ⟨(ppW s w).heap.size,0,none⟩ (.bool true)):=(Below.heap_setCell _ _ _ _ (by show _≠(ppW s w).heap.size; omega)).trans ((Below.heap_setCell _ _ _ _ (by show _≠w.heap.size+1+1; omega)).trans hr)
   have HROW:=hide ((hrow.set (p:=⟨w.heap.size+1+1,0,none⟩) hnt (.slice ya x.1.length yc)).set (p:=⟨(ppW s w).heap.size,0,none⟩) hno (.bool true))
   have HB2:Hid (Below w.heap.size w ((w1.setCell ⟨w.heap.size+1+1,0,none⟩ (.slice ya x.1.length yc)).setCell ⟨(ppW s w).heap.size,0,none⟩ (.bool true))):=(((uh HB0).trans (hk.below (Nat.le_refl _) (by omega))).setCell (by show _≤w.heap.size+1+1; omega) _).setCell (by show _≤(ppW s w).heap.size; omega) _
   have HFSH:=hide (hfsh.mono (show w.heap.size≤w.heap.size+1+1+1+1 by omega))
   generalize ((w1.setCell ⟨w.heap.size+1+1,0,none⟩ (.slice ya x.1.length yc)).setCell ⟨(ppW s w).heap.size,0,none⟩ (.bool true))=w3 at *
   have c4:w3.cell? ⟨w.heap.size+1,0,none⟩=some (.pointer (some ⟨w.heap.size,0,none⟩)):=Lib.cell_of_heap K4 0
   have c5:w3.cell? ⟨w.heap.size+1+1,0,none⟩=some (.slice ya x.1.length yc):=Lib.cell_of_heap K5' 0
   have cd:=KR.deep.1
   clear HF hk hr hrow hfsh K5 K5' K4 KR H4 H5 HB0
   by_cases h50:50 < x.2
   ·have h50I:(50:Int) < max 0 (x.2:Int):=by omega
    have HR2:Hid (pathR (sBr 1001) s.data.toList=([],3)):=by show _=_; rw[uh HR,if_pos h50]
    clear h50
    go_wp2
    go_ret2
    rw[uh HR2]
    exact⟨uh HB2,_,[],rfl,ORow.nil _ _,Fsh.nil _⟩
   ·have h50I:¬ (50:Int) < max 0 (x.2:Int):=by omega
    have HR2:Hid (pathR (sBr 1001) s.data.toList=(x.1,0)):=by show _=_; rw[uh HR,if_neg h50]
    clear h50
    go_wp2
    go_ret2
    rw[uh HR2]
    exact⟨uh HB2,_,bl,rfl,uh HROW,uh HFSH⟩
end Go.Proofs.YtkjcgkfejdogbaaGreatDoor
