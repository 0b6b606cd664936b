import Derived.Test.YtkjcgkfejdogbaaGreatDoorBz14
import Derived.Test.YtkjcgkfejdogbaaGreatDoorBz13
set_option maxRecDepth 100000
set_option maxHeartbeats 8000000
namespace Go.Proofs.YtkjcgkfejdogbaaGreatDoor
open Go.RowKit
def selK:KE PSel where
 T:=86
 wd:=10
 pos:=by decide
 R:=fun w S vs o=>∃ (x:Option Addr) (y z:Nat) (p:Option Addr),vs=[.int .i64 o.k,.string o.name,.bool o.hasA,.bool o.hasB,.bool o.hasC,.int .i64 o.a,.int .i64 o.b,.int .i64 o.c,.slice x y z,.pointer p]∧(o.k=5→∀ c,condR o.cond=some c→∃ n,(condK n).R w S [.pointer p] c)
 len:=fun h=>by obtain⟨x,y,z,p,rfl,-⟩:=h; rfl
 move:=fun h hm=>by
  obtain⟨x,y,z,p,h1,h2⟩:=h
  refine⟨x,y,z,p,h1,fun hk c hc=>?_⟩
  obtain⟨n,hn⟩:=h2 hk c hc
  exact⟨n,(condK n).move hn hm⟩
theorem infoSelr:(Tryz.prog.info? 86).map (fun i=>(i.zero,i.size,i.bytes))=some (some (.agg #[.int .i64 0,.string ByteArray.empty,.bool false,.bool false,.bool false,.int .i64 0,.int .i64 0,.int .i64 0,.slice none 0 0,.pointer none]),10,88):=by kernel_rfl
theorem WRow.slice {α:Type} {e:KE α} {w:World} {S0:Nat→Prop} {B:Nat} {v:Value} {xs:List α} (h:WRow e w S0 B v xs) : ∃ x y z,v = .slice x y z:=by
 rcases h.form with ⟨e,-⟩ | ⟨g,cap,e,-⟩
 ·exact⟨_,_,_,e⟩
 ·exact⟨_,_,_,e⟩
def selsOk (l:List PSel) : Bool:=decide (1≤l.length) && decide (l.length≤1000) && l.all selOk
def VRes {α:Type} (e:KE α) (ok:Bool) (xs:List α) (bl:List Nat) (w:World) : Ending→World→Prop:=fun en w'=>∃ ra rn rc,en = .returned (.tuple #[.slice ra rn rc,.bool ok])∧Below w.heap.size w w'∧(ok=true→LRow e w' (fun b=>b∈bl∨w.heap.size≤b) (.slice ra rn rc) xs)
theorem validSels_walk (v:Value) (sels:List PSel) (bl:List Nat) (w:World) (h:ORow selTl w v sels bl) (hs:szSels sels≤1048576) :
  Calls Tryz.prog 33 #[v] w (VRes selK (selsOk sels) sels bl w):=by
 have hlt0:=h.lt
 obtain⟨a,c,rfl,-,hxa⟩:=h.form
 have hlen:sels.length≤1048576:=by unfold szSels at hs; omega
 have hlI:(sels.length:Int)≤1048576:=by omega
 by_cases h0:(sels.length:Int)=0
 ·have h0b:((sels.length:Int) == 0)=true:=by simpa using h0
  have HV:Hid (selsOk sels=false):=by show _=_; unfold selsOk; rw[decide_eq_false (show ¬ 1≤sels.length by omega)]; rfl
  clear h hxa hs hlt0
  go_enter Tryz.func33,Tryz.ntmps33
  go_wp2
  go_ret2
  exact⟨_,_,_,by rw[uh HV]; rfl,Below.refl _ _,fun e=>by rw[uh HV] at e; cases e⟩
 have h0b:((sels.length:Int) == 0)=false:=by simpa using h0
 by_cases hbig:(1000:Int) < (sels.length:Int)
 ·have HV:Hid (selsOk sels=false):=by show _=_; unfold selsOk; rw[decide_eq_false (show ¬ sels.length≤1000 by omega),Bool.and_false]; rfl
  clear h hxa hs hlt0
  go_enter Tryz.func33,Tryz.ntmps33
  go_wp2
  go_ret2
  exact⟨_,_,_,by rw[uh HV]; rfl,Below.refl _ _,fun e=>by rw[uh HV] at e; cases e⟩
 have HS0:Hid (∀ b,b∈bl→b < w.heap.size):=hlt0
 have HROW:Hid (∀ (wr:World) (j:Nat) (hj:j < sels.length),Below w.heap.size w wr→∃ g x y z ib,a=some ⟨g,0,none⟩∧wr.cell? ⟨g,j*9,none⟩=some (.int .i64 sels[j].k)∧wr.cell? ⟨g,j*9+1,none⟩=some (.string sels[j].name)∧wr.cell? ⟨g,j*9+2,none⟩=some (.bool sels[j].hasA)∧wr.cell? ⟨g,j*9+3,none⟩=some (.bool sels[j].hasB)∧wr.cell? ⟨g,j*9+4,none⟩=some (.bool sels[j].hasC)∧wr.cell? ⟨g,j*9+5,none⟩=some (.int .i64 sels[j].a)∧wr.cell? ⟨g,j*9+6,none⟩=some (.int .i64 sels[j].b)∧wr.cell? ⟨g,j*9+7,none⟩=some (.int .i64 sels[j].c)∧wr.cell? ⟨g,j*9+8,none⟩=some (.slice x y z) ∧
   (∀ b∈ib,b∈bl)∧(∀ wx,Below wr.heap.size wr wx→Calls Tryz.prog 53 #[.agg #[.int .i64 sels[j].k,.string sels[j].name,.bool sels[j].hasA,.bool sels[j].hasB,.bool sels[j].hasC,.int .i64 sels[j].a,.int .i64 sels[j].b,.int .i64 sels[j].c,.slice x y z]] wx fun e w'=>e = .returned (.bool (goodS sels[j]))∧Below wx.heap.size wx w') ∧
   ∀ wx,Below wr.heap.size wr wx→Calls Tryz.prog 54 #[.slice x y z] wx (VCond sels[j].cond ib wx)):=by
  intro wr j hj hb
  obtain⟨g,rfl⟩:=hxa (by omega)
  obtain⟨vs,ib,hE,hc,hib,-,-⟩:=(h.below hb).at (List.getElem?_eq_getElem hj)
  obtain⟨q,rfl,hst⟩:=hE
  have hz:=sz_sel hs (List.getElem_mem hj)
  have hz2:szFops sels[j].cond≤1048576:=Nat.le_trans (Nat.le_add_left _ sels[j].name.size) hz
  obtain⟨x,z,rfl,-⟩:=hst.form
  exact⟨g,x,_,z,ib,rfl,(hc 0 _ rfl).1,(hc 1 _ rfl).1,(hc 2 _ rfl).1,(hc 3 _ rfl).1,(hc 4 _ rfl).1,(hc 5 _ rfl).1,(hc 6 _ rfl).1,(hc 7 _ rfl).1,(hc 8 _ rfl).1,hib,fun wx hx=>goodSel_walk _ _ ib wx (hst.below hx) hz,fun wx hx=>validCond_walk _ _ ib wx (hst.below hx) hz2⟩
 have HNO:Hid (∀ j (hj:j < sels.length),selOk sels[j]=false→selsOk sels=false):=fun j hj e=>by unfold selsOk; rw[all_no hj e,Bool.and_false]
 have HYES:Hid ((∀ j (hj:j < sels.length),selOk sels[j]=true)→selsOk sels=true):=fun e=>by unfold selsOk; rw[all_yes e,decide_eq_true (by omega),decide_eq_true (by omega)]; rfl
 clear h hxa hs hlt0
 generalize selsOk sels=SO at *
 obtain⟨i0,hi,hz0,hz1,hz2⟩:=info_parts infoSelr
 go_enter Tryz.func33,Tryz.ntmps33
 go_wp2_with (at_make; refine wpList_make_own _ rfl _ _ 55 rfl w.heap.size 86 i0 _ 10 Tryz.underlying55 hi hz0 hz1 .i64 .i64 _ sels.length rfl rfl rfl (by rw[hz2]; omega) (by unfold maxLen; omega) (Nat.le_refl _) ?_)
 intro w3 hown3 hgrow3
 have HB3:Hid (Below w.heap.size w w3):=(Below.refl _ _).grown hgrow3 (Nat.le_refl _) (by intro k hk; cases hk)
 have HO3:Hid (WRow selK w3 (·∈bl) w.heap.size (.slice (some ⟨w.heap.size,0,none⟩) 0 sels.length) []):=WRow.start (e:=selK) hown3
 clear hown3 hgrow3
 go_wp2
 go_loopw [4,22] (fun lv iv wr=>∃ (j:Nat),j≤sels.length∧iv = .int .i64 (j:Int)∧Hid (WRow selK wr (·∈bl) w.heap.size lv (sels.take j))∧Below w.heap.size w wr∧Hid (∀ x (hx:x < sels.length),x < j→selOk sels[x]=true)) (fun _ i _=>sels.length - (intOf i).toNat)
 case atStart=>exact⟨0,Nat.zero_le _,rfl,uh HO3,uh HB3,fun x _ hx=>by omega⟩
 case round=>
  obtain⟨j,hj,rfl,hW,hb,hd⟩:=hrel
  obtain⟨lx,ly,lz,rfl⟩:=WRow.slice (uh hW)
  clear HO3 HB3
  by_cases hlt:j < sels.length
  ·have hltI:(j:Int) < (sels.length:Int):=by omega
   obtain⟨g0,qx,qy,qz,ib,rfl,d0,d1,d2,d3,d4,d5,d6,d7,d8,hib,hgs,hvc⟩:=uh HROW _ j hlt hb
   have HGS:=hide hgs
   have HVC:=hide hvc
   have HIB:=hide hib
   have HB:=hide hb
   have HJY:Hid (selOk sels[j]=true→∀ x (hx:x < sels.length),x < j+1→selOk sels[x]=true):=fun e x hx h=>by
    by_cases ex:x=j
    ·subst ex; exact e
    ·exact uh hd x hx (by omega)
   have HJN:Hid (selOk sels[j]=false→SO=false):=uh HNO j hlt
   have HTK:Hid (sels.take (j+1)=sels.take j++[sels[j]]):=List.take_succ_eq_append_getElem hlt
   have HTL:Hid ((sels.take j).length≤1000):=by show _≤_; rw[List.length_take]; omega
   have HE:Hid (selOk sels[j]=(goodS sels[j] && (sels[j].k != 5 || condOk sels[j].cond))):=selOk_good _
   clear hgs hvc hib hb hd HNO HROW HYES
   generalize sels[j]=o at *
   obtain⟨k,name,ha,hb,hc,aa,bb,cc,cond⟩:=o
   simp only at *
   obtain⟨SEL,hSEL⟩ : ∃ SEL:Obj,SEL=Obj.cells #[.int .i64 k,.string name,.bool ha,.bool hb,.bool hc,.int .i64 aa,.int .i64 bb,.int .i64 cc,.slice qx qy qz] 40 (0,0):=⟨_,rfl⟩
   go_wp2_with fail
   refine (uh HGS _ (alloc_b wr _)).mono ?_
   rintro e w2 ⟨rfl,b2⟩
   have HB2:Hid (Below wr.heap.size wr w2):=below_next (alloc_b wr _) b2
   have HBW2:Hid (Below w.heap.size w w2):=below_next (uh HB) (uh HB2)
   have HC6:Hid (∀ w',Below w2.heap.size w2 w'→w'.cell? ⟨wr.heap.size,0,none⟩=some (.int .i64 k)∧w'.cell? ⟨wr.heap.size,1,none⟩=some (.string name)∧w'.cell? ⟨wr.heap.size,2,none⟩=some (.bool ha)∧w'.cell? ⟨wr.heap.size,3,none⟩=some (.bool hb)∧w'.cell? ⟨wr.heap.size,4,none⟩=some (.bool hc)∧w'.cell? ⟨wr.heap.size,5,none⟩=some (.int .i64 aa)∧w'.cell? ⟨wr.heap.size,6,none⟩=some (.int .i64 bb)∧w'.cell? ⟨wr.heap.size,7,none⟩=some (.int .i64 cc)∧w'.cell? ⟨wr.heap.size,8,none⟩=some (.slice qx qy qz)):=fun w' hx=>by
    have h0:=heap_alloc_new wr (Obj.cells #[.int .i64 k,.string name,.bool ha,.bool hb,.bool hc,.int .i64 aa,.int .i64 bb,.int .i64 cc,.slice qx qy qz] 40 (0,0))
    have h1:=(b2.block _ (Array.getElem?_eq_some_iff.1 h0).1).trans h0
    have h2:=(hx.block _ (Array.getElem?_eq_some_iff.1 h1).1).trans h1
    exact⟨Lib.cell_of_heap h2 0,Lib.cell_of_heap h2 1,Lib.cell_of_heap h2 2,Lib.cell_of_heap h2 3,Lib.cell_of_heap h2 4,Lib.cell_of_heap h2 5,Lib.cell_of_heap h2 6,Lib.cell_of_heap h2 7,Lib.cell_of_heap h2 8⟩
   have HW2:Hid (WRow selK w2 (·∈bl) w.heap.size _ (sels.take j)):=(uh hW).keep (uh HB2)
   clear b2 hW HGS hSEL SEL
   cases hg:goodS ⟨k,name,ha,hb,hc,aa,bb,cc,cond⟩ with
   | false=>
    have HV:Hid (SO=false):=uh HJN (by rw[uh HE,hg]; rfl)
    clear HE HJN HJY HC6 HW2 HIB HVC hg d0 d1 d2 d3 d4 d5 d6 d7 d8
    go_wp2
    go_ret2
    exact⟨_,_,_,by rw[uh HV]; rfl,uh HBW2,fun e=>by rw[uh HV] at e; cases e⟩
   | true=>
    have HE2:Hid (selOk ⟨k,name,ha,hb,hc,aa,bb,cc,cond⟩=(k != 5 || condOk cond)):=by show _=_; rw[uh HE,hg]; rfl
    clear HE hg d0 d1 d2 d3 d4 d5 d6 d7 d8
    obtain⟨x0,x1,x2,x3,x4,x5,x6,x7,x8⟩:=uh HC6 w2 (Below.refl _ _)
    have y0:∀ o,(w2.alloc o).cell? ⟨wr.heap.size,0,none⟩=some (.int .i64 k):=fun o=>(uh HC6 _ (alloc_b w2 o)).1
    have y8:∀ o,(w2.alloc o).cell? ⟨wr.heap.size,8,none⟩=some (.slice qx qy qz):=fun o=>(uh HC6 _ (alloc_b w2 o)).2.2.2.2.2.2.2.2
    by_cases hk5:k=5
    ·subst hk5
     have HVC2:=hide (uh HVC _ (below_next (uh HB2) (alloc_b w2 (Obj.cells #[.int .i64 5,.string name,.bool ha,.bool hb,.bool hc,.int .i64 aa,.int .i64 bb,.int .i64 cc,.slice qx qy qz,.pointer none] 86 (0,0)))))
     clear HVC
     go_wp2_with fail
     refine (uh HVC2).mono ?_
     rintro e w4 ⟨pv,rfl,b4,⟨pp,rfl⟩,hcn⟩
     have HCN:=hide hcn
     have h70:=heap_alloc_new w2 (Obj.cells #[.int .i64 5,.string name,.bool ha,.bool hb,.bool hc,.int .i64 aa,.int .i64 bb,.int .i64 cc,.slice qx qy qz,.pointer none] 86 (0,0))
     have h7:=(b4.block _ (Array.getElem?_eq_some_iff.1 h70).1).trans h70
     have f9:w4.frozen? ⟨w2.heap.size,9,none⟩=false:=Lib.frozen_of_heap h7 9
     have z9:w4.cell? ⟨w2.heap.size,9,none⟩=some (.pointer none):=Lib.cell_of_heap h7 9
     have HB4:Hid (Below w2.heap.size w2 w4):=below_next (alloc_b w2 _) b4
     have HB5:Hid (Below w2.heap.size w2 (w4.setCell ⟨w2.heap.size,9,none⟩ (.pointer pp))):=(uh HB4).setCell (p:=⟨w2.heap.size,9,none⟩) (Nat.le_refl _) _
     have H7:Hid ((w4.setCell ⟨w2.heap.size,9,none⟩ (.pointer pp)).heap[w2.heap.size]?=some (Obj.cells #[.int .i64 5,.string name,.bool ha,.bool hb,.bool hc,.int .i64 aa,.int .i64 bb,.int .i64 cc,.slice qx qy qz,.pointer pp] 86 (0,0))):=(heap_setCell_same w4 w2.heap.size 9 _ _ _ h7).trans rfl
     clear b4 h70 h7 HVC2 hcn x0 x1 x2 x3 x4 x5 x6 x7 x8 y0 y8
     cases hcr:condR cond with
     | none=>
      have HV:Hid (SO=false):=uh HJN (by rw[uh HE2,← condR_some,hcr]; rfl)
      have HB6:=hide (below_next (uh HBW2) (uh HB5))
      clear HE2 HJN HJY HC6 HW2 HIB HCN hcr HB4 HB5 H7
      go_wp2
      go_ret2
      exact⟨_,_,_,by rw[uh HV]; rfl,uh HB6,fun e=>by rw[uh HV] at e; cases e⟩
     | some ct=>
      have HD:=hide (uh HJY (by rw[uh HE2,← condR_some,hcr]; rfl))
      have HNO5:Hid (∀ W5,Mv (fun b=>b∈ib∨(w2.alloc (Obj.cells #[.int .i64 5,.string name,.bool ha,.bool hb,.bool hc,.int .i64 aa,.int .i64 bb,.int .i64 cc,.slice qx qy qz,.pointer none] 86 (0,0))).heap.size≤b) (Hd (·∈bl) w.heap.size (Value.slice lx ly lz).ownBlock) w4 W5→selK.R W5 (Hd (·∈bl) w.heap.size (Value.slice lx ly lz).ownBlock) [Value.int .i64 5,.string name,.bool ha,.bool hb,.bool hc,.int .i64 aa,.int .i64 bb,.int .i64 cc,.slice qx qy qz,.pointer pp] ⟨5,name,ha,hb,hc,aa,bb,cc,cond⟩):=fun W5 hmv=>⟨_,_,_,_,rfl,fun _ c hc=>by
       obtain⟨n,hn⟩:=uh HCN c hc
       exact⟨n,(condK n).move hn hmv⟩⟩
      have HMV:Hid (∀ o,Mv (fun b=>b∈ib∨(w2.alloc (Obj.cells #[.int .i64 5,.string name,.bool ha,.bool hb,.bool hc,.int .i64 aa,.int .i64 bb,.int .i64 cc,.slice qx qy qz,.pointer none] 86 (0,0))).heap.size≤b) (Hd (·∈bl) w.heap.size (Value.slice lx ly lz).ownBlock) w4 ((w4.setCell ⟨w2.heap.size,9,none⟩ (.pointer pp)).alloc o)):=fun o b hb hlt=>by
       have hz1:=(uh HBW2).size
       have hne:b≠w2.heap.size:=by
        rcases hb with hb | hb
        ·have:=uh HS0 b (uh HIB b hb); omega
        ·simp at hb; omega
       have hset:(w4.setCell ⟨w2.heap.size,9,none⟩ (.pointer pp)).heap[b]?=w4.heap[b]?:=Below.heap_setCell _ _ _ _ hne
       have hlt2:b < (w4.setCell ⟨w2.heap.size,9,none⟩ (.pointer pp)).heap.size:=by simpa [World.setCell] using hlt
       refine⟨?_,((alloc_b _ o).block b hlt2).trans hset⟩
       rcases hb with hb | hb
       ·exact .inl (uh HIB b hb)
       ·simp at hb
        refine .inr ⟨by omega,fun e=>?_⟩
        obtain⟨_,-,ho⟩:=uh HW2
        have:=(ho.lt b e).2
        omega
      have HCT:Hid (∀ w5,w5=w4.setCell ⟨w2.heap.size,9,none⟩ (.pointer pp)→∀ (i:Nat) (u:Value),[Value.int .i64 5,.string name,.bool ha,.bool hb,.bool hc,.int .i64 aa,.int .i64 bb,.int .i64 cc,.slice qx qy qz,.pointer pp][i]?=some u→w5.cell? ⟨w2.heap.size,i,none⟩=some u):=fun w5 e i u hu=>by
       rw[e,Lib.cell_of_heap (uh H7) i]
       simpa using hu
      clear hcr HCN
      go_upto_region 13 with fail
      obtain⟨w5,hw5⟩ : ∃ w5,w5=w4.setCell ⟨w2.heap.size,9,none⟩ (.pointer pp):=⟨_,rfl⟩
      rw[← hw5]
      have hct:=uh HCT w5 hw5
      have t0:=hct 0 _ rfl
      have t1:=hct 1 _ rfl
      have t2:=hct 2 _ rfl
      have t3:=hct 3 _ rfl
      have t4:=hct 4 _ rfl
      have t5:=hct 5 _ rfl
      have t6:=hct 6 _ rfl
      have t7:=hct 7 _ rfl
      have t8:=hct 8 _ rfl
      have t9:=hct 9 _ rfl
      have HBW:Hid (Below w2.heap.size w2 w5):=by rw[hw5]; exact uh HB5
      have HNODE:Hid (selK.R (w5.alloc (.cells #[.int .i64 5,.string name,.bool ha,.bool hb,.bool hc,.int .i64 aa,.int .i64 bb,.int .i64 cc,.slice qx qy qz,.pointer pp] 86)) (Hd (·∈bl) w.heap.size (Value.slice lx ly lz).ownBlock) [Value.int .i64 5,.string name,.bool ha,.bool hb,.bool hc,.int .i64 aa,.int .i64 bb,.int .i64 cc,.slice qx qy qz,.pointer pp] ⟨5,name,ha,hb,hc,aa,bb,cc,cond⟩):=by rw[hw5]; exact uh HNO5 _ (uh HMV _)
      clear hct HCT H7 HB5 HB4 hw5 HNO5 HMV f9 z9 HE2 HJN HJY HIB
      have HCELL:Hid (∀ (i:Nat) (u:Value),[Value.int .i64 5,.string name,.bool ha,.bool hb,.bool hc,.int .i64 aa,.int .i64 bb,.int .i64 cc,.slice qx qy qz,.pointer pp][i]?=some u→(w5.alloc (.cells #[.int .i64 5,.string name,.bool ha,.bool hb,.bool hc,.int .i64 aa,.int .i64 bb,.int .i64 cc,.slice qx qy qz,.pointer pp] 86)).cell? ((⟨(w5).heap.size,0,none⟩ : Addr).add i)=some u):=fun i u hu=>litK_cells w5 _ _ i u hu
      have HBA:Hid (Below w2.heap.size w2 (w5.alloc (.cells #[.int .i64 5,.string name,.bool ha,.bool hb,.bool hc,.int .i64 aa,.int .i64 bb,.int .i64 cc,.slice qx qy qz,.pointer pp] 86))):=below_next (uh HBW) (alloc_b _ _)
      have HWA:Hid (WRow selK (w5.alloc (.cells #[.int .i64 5,.string name,.bool ha,.bool hb,.bool hc,.int .i64 aa,.int .i64 bb,.int .i64 cc,.slice qx qy qz,.pointer pp] 86)) (·∈bl) w.heap.size (.slice lx ly lz) (sels.take j)):=(uh HW2).keep (uh HBA)
      have HZA:Hid (w.heap.size≤(w5.alloc (.cells #[.int .i64 5,.string name,.bool ha,.bool hb,.bool hc,.int .i64 aa,.int .i64 bb,.int .i64 cc,.slice qx qy qz,.pointer pp] 86)).heap.size):=Nat.le_trans (uh HBW2).size (uh HBA).size
      clear HBW HC6 HW2
      go_wp2_with (at_builtin; refine wpList_append_K selK Tryz.underlying55 infoSelr rfl (by decide) rfl (.tmp 43) (.tmp 45) rfl rfl (uh HWA) (uh HS0) (uh HNODE) rfl (uh HCELL) (by intro u hu; simp at hu; rcases hu with rfl | rfl | rfl | rfl | rfl | rfl | rfl | rfl | rfl | rfl <;> rfl) (uh HZA) (Nat.le_trans (uh HTL) (by decide)) ?_)
      intro v' w5 hW5 hg5 hown5
      have HW5:Hid (WRow selK w5 (·∈bl) w.heap.size v' (sels.take (j+1))):=by show WRow _ _ _ _ _ _; rw[uh HTK]; exact hW5
      have HB5:Hid (Below w.heap.size w w5):=(below_next (uh HBW2) (uh HBA)).grown hg5 (uh HZA) hown5
      clear hW5 hg5 hown5 HNODE HWA HCELL
      go_wp2
      go_roundw
      case rel=>exact⟨j+1,by omega,by go_num,HW5,uh HB5,HD⟩
      case measure=>simp[intOf]; omega
    ·have hk5b:(k == 5)=false:=by simpa using hk5
     have HD:=hide (uh HJY (by rw[uh HE2]; simp[hk5]))
     have HCT:Hid (∀ w5,w5=(w2.alloc (Obj.cells #[.int .i64 k,.string name,.bool ha,.bool hb,.bool hc,.int .i64 aa,.int .i64 bb,.int .i64 cc,.slice qx qy qz,.pointer none] 86 (0,0)))→∀ (i:Nat) (u:Value),[Value.int .i64 k,.string name,.bool ha,.bool hb,.bool hc,.int .i64 aa,.int .i64 bb,.int .i64 cc,.slice qx qy qz,.pointer none][i]?=some u→w5.cell? ⟨w2.heap.size,i,none⟩=some u):=fun w5 e i u hu=>by
      rw[e,Lib.cell_of_heap (heap_alloc_new w2 _) i]
      simpa using hu
     go_upto_region 15 with fail
     obtain⟨w5,hw5⟩ : ∃ w5,w5=(w2.alloc (Obj.cells #[.int .i64 k,.string name,.bool ha,.bool hb,.bool hc,.int .i64 aa,.int .i64 bb,.int .i64 cc,.slice qx qy qz,.pointer none] 86 (0,0))):=⟨_,rfl⟩
     rw[← hw5]
     have hct:=uh HCT w5 hw5
     have t0:=hct 0 _ rfl
     have t1:=hct 1 _ rfl
     have t2:=hct 2 _ rfl
     have t3:=hct 3 _ rfl
     have t4:=hct 4 _ rfl
     have t5:=hct 5 _ rfl
     have t6:=hct 6 _ rfl
     have t7:=hct 7 _ rfl
     have t8:=hct 8 _ rfl
     have t9:=hct 9 _ rfl
     have HBW:Hid (Below w2.heap.size w2 w5):=by rw[hw5]; exact alloc_b w2 _
     clear hct HCT hw5 HVC HE2 HJN HJY HIB x0 x1 x2 x3 x4 x5 x6 x7 x8 y0 y8
     have HCELL:Hid (∀ (i:Nat) (u:Value),[Value.int .i64 k,.string name,.bool ha,.bool hb,.bool hc,.int .i64 aa,.int .i64 bb,.int .i64 cc,.slice qx qy qz,.pointer none][i]?=some u→(w5.alloc (.cells #[.int .i64 k,.string name,.bool ha,.bool hb,.bool hc,.int .i64 aa,.int .i64 bb,.int .i64 cc,.slice qx qy qz,.pointer none] 86)).cell? ((⟨(w5).heap.size,0,none⟩ : Addr).add i)=some u):=fun i u hu=>litK_cells w5 _ _ i u hu
     have HBA:Hid (Below w2.heap.size w2 (w5.alloc (.cells #[.int .i64 k,.string name,.bool ha,.bool hb,.bool hc,.int .i64 aa,.int .i64 bb,.int .i64 cc,.slice qx qy qz,.pointer none] 86))):=below_next (uh HBW) (alloc_b _ _)
     have HWA:Hid (WRow selK (w5.alloc (.cells #[.int .i64 k,.string name,.bool ha,.bool hb,.bool hc,.int .i64 aa,.int .i64 bb,.int .i64 cc,.slice qx qy qz,.pointer none] 86)) (·∈bl) w.heap.size (.slice lx ly lz) (sels.take j)):=(uh HW2).keep (uh HBA)
     have HZA:Hid (w.heap.size≤(w5.alloc (.cells #[.int .i64 k,.string name,.bool ha,.bool hb,.bool hc,.int .i64 aa,.int .i64 bb,.int .i64 cc,.slice qx qy qz,.pointer none] 86)).heap.size):=Nat.le_trans (uh HBW2).size (uh HBA).size
     have HNODE:Hid (selK.R (w5.alloc (.cells #[.int .i64 k,.string name,.bool ha,.bool hb,.bool hc,.int .i64 aa,.int .i64 bb,.int .i64 cc,.slice qx qy qz,.pointer none] 86)) (Hd (·∈bl) w.heap.size (Value.slice lx ly lz).ownBlock) [.int .i64 k,.string name,.bool ha,.bool hb,.bool hc,.int .i64 aa,.int .i64 bb,.int .i64 cc,.slice qx qy qz,.pointer none] ⟨k,name,ha,hb,hc,aa,bb,cc,cond⟩):=⟨_,_,_,_,rfl,fun e=>absurd e hk5⟩
     clear HBW HC6 HW2
     go_wp2_with (at_builtin; refine wpList_append_K selK Tryz.underlying55 infoSelr rfl (by decide) rfl (.tmp 43) (.tmp 45) rfl rfl (uh HWA) (uh HS0) (uh HNODE) rfl (uh HCELL) (by intro u hu; simp at hu; rcases hu with rfl | rfl | rfl | rfl | rfl | rfl | rfl | rfl | rfl | rfl <;> rfl) (uh HZA) (Nat.le_trans (uh HTL) (by decide)) ?_)
     intro v' w5 hW5 hg5 hown5
     have HW5:Hid (WRow selK w5 (·∈bl) w.heap.size v' (sels.take (j+1))):=by show WRow _ _ _ _ _ _; rw[uh HTK]; exact hW5
     have HB5:Hid (Below w.heap.size w w5):=(below_next (uh HBW2) (uh HBA)).grown hg5 (uh HZA) hown5
     clear hW5 hg5 hown5 HNODE HWA HCELL
     go_wp2
     go_roundw
     case rel=>exact⟨j+1,by omega,by go_num,HW5,uh HB5,HD⟩
     case measure=>simp[intOf]; omega
  ·have hjl:sels.take j=sels:=List.take_of_length_le (by omega)
   have HW:Hid (WRow selK wr (·∈bl) w.heap.size (.slice lx ly lz) sels):=by
    show WRow _ _ _ _ _ _
    have:=uh hW
    rwa [hjl] at this
   have HV:=hide (uh HYES fun x hx=>uh hd x hx (by omega))
   have HB:=hide hb
   clear hW hd hb HROW HNO HYES hjl
   go_wp2
   go_ret2
   exact⟨_,_,_,by rw[uh HV]; rfl,uh HB,fun _=>(uh HW).done⟩
def segK:KE PSeg where
 T:=57
 wd:=2
 pos:=by decide
 R:=fun w S vs g=>∃ (x:Option Addr) (y z:Nat),vs=[.bool g.deep,.slice x y z]∧LRow selK w S (.slice x y z) g.sels
 len:=fun h=>by obtain⟨x,y,z,rfl,-⟩:=h; rfl
 move:=fun h hm=>by
  obtain⟨x,y,z,h1,h2⟩:=h
  exact⟨x,y,z,h1,h2.move hm⟩
theorem infoSegr:(Tryz.prog.info? 57).map (fun i=>(i.zero,i.size,i.bytes))=some (some (.agg #[.bool false,.slice none 0 0]),2,32):=by kernel_rfl
theorem validSegs_walk (v:Value) (ms:List PSeg) (bl:List Nat) (w:World) (h:ORow segTl w v ms bl) (hs:szSegs ms≤1048576) :
  Calls Tryz.prog 16 #[v] w (VRes segK (pathOk ms) ms bl w):=by
 have hlt0:=h.lt
 obtain⟨a,c,rfl,-,hxa⟩:=h.form
 have hlen:ms.length≤1048576:=by unfold szSegs at hs; omega
 have hlI:(ms.length:Int)≤1048576:=by omega
 by_cases hbig:(1000:Int) < (ms.length:Int)
 ·have HV:Hid (pathOk ms=false):=by show _=_; unfold pathOk; rw[decide_eq_false (show ¬ ms.length≤1000 by omega)]; rfl
  clear h hxa hs hlt0
  go_enter Tryz.func16,Tryz.ntmps16
  go_wp2
  go_ret2
  exact⟨_,_,_,by rw[uh HV]; rfl,Below.refl _ _,fun e=>by rw[uh HV] at e; cases e⟩
 have HS0:Hid (∀ b,b∈bl→b < w.heap.size):=hlt0
 have HROW:Hid (∀ (wr:World) (j:Nat) (hj:j < ms.length),Below w.heap.size w wr→∃ g x y z ib,a=some ⟨g,0,none⟩∧wr.cell? ⟨g,j*2,none⟩=some (.bool ms[j].deep)∧wr.cell? ⟨g,j*2+1,none⟩=some (.slice x y z) ∧
   (∀ b∈ib,b∈bl)∧∀ wx,Below wr.heap.size wr wx→Calls Tryz.prog 33 #[.slice x y z] wx (VRes selK (segOk ms[j]) ms[j].sels ib wx)):=by
  intro wr j hj hb
  obtain⟨g,rfl⟩:=hxa (by omega)
  obtain⟨vs,ib,hE,hc,hib,-,-⟩:=(h.below hb).at (List.getElem?_eq_getElem hj)
  obtain⟨q,rfl,hst⟩:=hE
  have hz:=sz_seg hs (List.getElem_mem hj)
  obtain⟨x,z,rfl,-,-⟩:=hst.form
  exact⟨g,x,_,z,ib,rfl,(hc 0 _ rfl).1,(hc 1 _ rfl).1,hib,fun wx hx=>validSels_walk _ _ ib wx (hst.below hx) hz⟩
 have HNO:Hid (∀ j (hj:j < ms.length),segOk ms[j]=false→pathOk ms=false):=fun j hj e=>by unfold pathOk; rw[all_no hj e,Bool.and_false]
 have HYES:Hid ((∀ j (hj:j < ms.length),segOk ms[j]=true)→pathOk ms=true):=fun e=>by unfold pathOk; rw[all_yes e,decide_eq_true (by omega)]; rfl
 clear h hxa hs hlt0
 generalize pathOk ms=SO at *
 obtain⟨i0,hi,hz0,hz1,hz2⟩:=info_parts infoSegr
 go_enter Tryz.func16,Tryz.ntmps16
 go_wp2_with (at_make; refine wpList_make_own _ rfl _ _ 46 rfl w.heap.size 57 i0 _ 2 Tryz.underlying46 hi hz0 hz1 .i64 .i64 _ ms.length rfl rfl rfl (by rw[hz2]; omega) (by unfold maxLen; omega) (Nat.le_refl _) ?_)
 intro w3 hown3 hgrow3
 have HB3:Hid (Below w.heap.size w w3):=(Below.refl _ _).grown hgrow3 (Nat.le_refl _) (by intro k hk; cases hk)
 have HO3:Hid (WRow segK w3 (·∈bl) w.heap.size (.slice (some ⟨w.heap.size,0,none⟩) 0 ms.length) []):=WRow.start (e:=segK) hown3
 clear hown3 hgrow3
 go_wp2
 go_loopw [4,17] (fun lv iv wr=>∃ (j:Nat),j≤ms.length∧iv = .int .i64 (j:Int)∧Hid (WRow segK wr (·∈bl) w.heap.size lv (ms.take j))∧Below w.heap.size w wr∧Hid (∀ x (hx:x < ms.length),x < j→segOk ms[x]=true)) (fun _ i _=>ms.length - (intOf i).toNat)
 case atStart=>exact⟨0,Nat.zero_le _,rfl,uh HO3,uh HB3,fun x _ hx=>by omega⟩
 case round=>
  obtain⟨j,hj,rfl,hW,hb,hd⟩:=hrel
  obtain⟨lx,ly,lz,rfl⟩:=WRow.slice (uh hW)
  clear HO3 HB3
  by_cases hlt:j < ms.length
  ·have hltI:(j:Int) < (ms.length:Int):=by omega
   obtain⟨g0,qx,qy,qz,ib,rfl,d0,d1,hib,hvs⟩:=uh HROW _ j hlt hb
   have HVS:=hide (hvs _ (alloc_b wr (Obj.cells #[.bool ms[j].deep,.slice qx qy qz] 43 (0,0))))
   have HIB:=hide hib
   have HB:=hide hb
   have HJY:Hid (segOk ms[j]=true→∀ x (hx:x < ms.length),x < j+1→segOk ms[x]=true):=fun e x hx h=>by
    by_cases ex:x=j
    ·subst ex; exact e
    ·exact uh hd x hx (by omega)
   have HJN:Hid (segOk ms[j]=false→SO=false):=uh HNO j hlt
   have HTK:Hid (ms.take (j+1)=ms.take j++[ms[j]]):=List.take_succ_eq_append_getElem hlt
   have HTL:Hid ((ms.take j).length≤1000):=by show _≤_; rw[List.length_take]; omega
   clear hvs hib hb hd HNO HROW HYES
   generalize ms[j]=o at *
   obtain⟨deep,sels⟩:=o
   simp only at *
   go_wp2_with fail
   refine (uh HVS).mono ?_
   rintro e w2 ⟨ra,rn,rc,rfl,b2,hres⟩
   have HRES:=hide hres
   have HB2:Hid (Below wr.heap.size wr w2):=below_next (alloc_b wr _) b2
   have HBW2:Hid (Below w.heap.size w w2):=below_next (uh HB) (uh HB2)
   have h0:=heap_alloc_new wr (Obj.cells #[.bool deep,.slice qx qy qz] 43 (0,0))
   have x0:w2.cell? ⟨wr.heap.size,0,none⟩=some (.bool deep):=Lib.cell_of_heap ((b2.block _ (Array.getElem?_eq_some_iff.1 h0).1).trans h0) 0
   have HW2:Hid (WRow segK w2 (·∈bl) w.heap.size (.slice lx ly lz) (ms.take j)):=(uh hW).keep (uh HB2)
   have HMV:Hid (∀ o,Mv (fun b=>b∈ib∨(wr.alloc (Obj.cells #[.bool deep,.slice qx qy qz] 43 (0,0))).heap.size≤b) (Hd (·∈bl) w.heap.size (Value.slice lx ly lz).ownBlock) w2 (w2.alloc o)):=fun o b hb hlt=>by
    refine⟨?_,(alloc_b _ o).block b hlt⟩
    rcases hb with hb | hb
    ·exact .inl (uh HIB b hb)
    ·simp at hb
     have hz1:=(uh HB).size
     refine .inr ⟨by omega,fun e=>?_⟩
     obtain⟨_,-,ho⟩:=uh hW
     have:=(ho.lt b e).2
     omega
   clear b2 hW HVS hres h0 d0 d1
   cases hg:segOk ⟨deep,sels⟩ with
   | false=>
    have HV:Hid (SO=false):=uh HJN hg
    clear HJN HJY HW2 HIB HMV HRES hg x0
    go_wp2
    go_ret2
    exact⟨_,_,_,by rw[uh HV]; rfl,uh HBW2,fun e=>by rw[uh HV] at e; cases e⟩
   | true=>
    have HD:=hide (uh HJY hg)
    have HL:=hide (uh HRES hg)
    clear HJN HJY HRES hg
    have HCELL:Hid (∀ (i:Nat) (u:Value),[Value.bool deep,.slice ra rn rc][i]?=some u→(w2.alloc (.cells #[.bool deep,.slice ra rn rc] 57)).cell? ((⟨w2.heap.size,0,none⟩ : Addr).add i)=some u):=fun i u hu=>litK_cells w2 _ _ i u hu
    have HBA:Hid (Below w2.heap.size w2 (w2.alloc (.cells #[.bool deep,.slice ra rn rc] 57))):=alloc_b _ _
    have HWA:Hid (WRow segK (w2.alloc (.cells #[.bool deep,.slice ra rn rc] 57)) (·∈bl) w.heap.size (.slice lx ly lz) (ms.take j)):=(uh HW2).keep (uh HBA)
    have HZA:Hid (w.heap.size≤(w2.alloc (.cells #[.bool deep,.slice ra rn rc] 57)).heap.size):=Nat.le_trans (uh HBW2).size (uh HBA).size
    have HNODE:Hid (segK.R (w2.alloc (.cells #[.bool deep,.slice ra rn rc] 57)) (Hd (·∈bl) w.heap.size (Value.slice lx ly lz).ownBlock) [.bool deep,.slice ra rn rc] ⟨deep,sels⟩):=⟨_,_,_,rfl,(uh HL).move (uh HMV _)⟩
    clear HW2 HMV HL HIB
    go_wp2_with (at_builtin; refine wpList_append_K segK Tryz.underlying46 infoSegr rfl (by decide) rfl (.tmp 29) (.tmp 34) rfl rfl (uh HWA) (uh HS0) (uh HNODE) rfl (uh HCELL) (by intro u hu; simp at hu; rcases hu with rfl | rfl <;> rfl) (uh HZA) (Nat.le_trans (uh HTL) (by decide)) ?_)
    intro v' w5 hW5 hg5 hown5
    have HW5:Hid (WRow segK w5 (·∈bl) w.heap.size v' (ms.take (j+1))):=by show WRow _ _ _ _ _ _; rw[uh HTK]; exact hW5
    have HB5:Hid (Below w.heap.size w w5):=(below_next (uh HBW2) (uh HBA)).grown hg5 (uh HZA) hown5
    clear hW5 hg5 hown5 HNODE HWA HCELL
    go_wp2
    go_roundw
    case rel=>exact⟨j+1,by omega,by go_num,HW5,uh HB5,HD⟩
    case measure=>simp[intOf]; omega
  ·have hjl:ms.take j=ms:=List.take_of_length_le (by omega)
   have HW:Hid (WRow segK wr (·∈bl) w.heap.size (.slice lx ly lz) ms):=by
    show WRow _ _ _ _ _ _
    have:=uh hW
    rwa [hjl] at this
   have HV:=hide (uh HYES fun x hx=>uh hd x hx (by omega))
   have HB:=hide hb
   clear hW hd hb HROW HNO HYES hjl
   go_wp2
   go_ret2
   exact⟨_,_,_,by rw[uh HV]; rfl,uh HB,fun _=>(uh HW).done⟩
theorem implPathOk_walk (v:Value) (ms:List PSeg) (bl:List Nat) (w:World) (h:ORow segTl w v ms bl) (hs:szSegs ms≤1048576) :
  Calls Tryz.prog 7 #[v] w fun e w'=>e = .returned (.bool (pathOk ms))∧Below w.heap.size w w':=by
 have HV:=hide (validSegs_walk v ms bl w h hs)
 obtain⟨a,c,rfl,-,-⟩:=h.form
 clear h
 go_enter Tryz.func7,Tryz.ntmps7
 go_wp2_with fail
 refine (uh HV).mono ?_
 rintro e w2 ⟨ra,rn,rc,rfl,b2,-⟩
 have HB:=hide b2
 clear b2 HV
 go_wp2
 go_ret
 exact⟨rfl,uh HB⟩
end Go.Proofs.YtkjcgkfejdogbaaGreatDoor
