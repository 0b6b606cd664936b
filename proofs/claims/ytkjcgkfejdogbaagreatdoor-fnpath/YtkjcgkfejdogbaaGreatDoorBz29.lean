import Derived.Test.YtkjcgkfejdogbaaGreatDoorBz28
import Derived.Test.YtkjcgkfejdogbaaGreatDoorBz23
set_option maxRecDepth 100000
set_option maxHeartbeats 8000000
namespace Go.Proofs.YtkjcgkfejdogbaaGreatDoor
open Go.RowKit
theorem stp_apps {α:Type} {e:Elem α} {t:TypeId} (K:EK e t) {w:World} {ops:Array Oper} {o:Oper} {a:Act} {Kt:Act→World→Prop} {Q:Exit→Act→World→Prop} {F:Prop} (hg:o.guard=none) (s x:Operand)
  (ho:o.op = .call { callee:=.builtin .append,args:=#[s,x],argTypes:=#[t,t] }) {B:Nat} {v:Value} {xs:List α} {bl:List Nat} (hs:a.eval s=v) (h:ORow e w v xs bl) (hF:Fsh B bl)
  {qs:List (List Value×List Nat)} {ys:List α} (hql:qs.length=ys.length) (h0:0 < ys.length) (hE:∀ (j:Nat) (p:List Value×List Nat) (y:α),qs[j]?=some p→ys[j]?=some y→e.E w p.1 y p.2) (hFi:Fsh B (qs.flatMap (·.2))) (hap:∀ b∈qs.flatMap (·.2),b ∉ bl)
  {g c:Nat} (hx:a.eval x = .slice (some ⟨g,0,none⟩) ys.length c) (hcell:∀ (j:Nat) (u:Value),(qs.flatMap (·.1))[j]?=some u→w.cell? ((⟨g,0,none⟩ : Addr).add j)=some u) (h1:∀ u∈qs.flatMap (·.1),u.oneCell'=true) (hB:B≤w.heap.size) (hl:xs.length+ys.length≤40000000)
  (hK:∀ v' w' bl',Appd e B w w' v v' bl (qs.flatMap (·.2)) bl' (xs++ys)→Kt (a.put o.dst v') w') :
  if Region.wanted o (yielded ops a.tmps)=true then Oper.wp Tryz.prog o a w Kt Q else F:=by
 have hw:Region.wanted o (yielded ops a.tmps)=true:=by simp[Region.wanted,hg]
 rw[if_pos hw]
 obtain⟨v',w',bl',hr,hA⟩:=run_app K w o.type h hF hql h0 hE hFi hap (g:=g) (c:=c) hcell h1 hB hl
 exact wp_append_run s x t ho hs hx hr (hK v' w' bl' hA)
def TRd (rb:Nat) (s:ByteArray) (i:Nat) (d':Nat→Int) (w:World) (B:Nat) (ops:List PFOp) (bl:List Nat) (R:Option (XC×Bs)) (e:Ending) (w':World) : Prop:=
 Fr (rb :: bl) w w'∧(R=none→e=mis)∧∀ x t,R=some (x,t)→∃ (j:Nat) (v':Value) (bl':List Nat),t=dr s j∧i≤j∧j≤s.size∧PRd rb s j (d' x.2) w'∧e = .returned v'∧ORow fopE w' v' (ops++x.1) bl'∧Fsh B bl'∧∀ b∈bl',b∈bl∨w.heap.size≤b
theorem KB.fr {rb:Nat} {w w':World} (h:KB rb w w') (bl:List Nat) : Fr (rb :: bl) w w':=⟨h.os,h.tape,h.output,h.size,fun k hk hn=>h.block k hk fun e=>hn (by rw[e]; simp)⟩
theorem Fr.below3 {bl:List Nat} {a a1 c:World} (h:Fr bl a a1) (hb:Below a.heap.size a1 c) : Fr bl a c:=
 ⟨hb.os.trans h.os,hb.tape.trans h.tape,hb.output.trans h.output,Nat.le_trans h.size hb.size,fun k hk hn=>(hb.block k hk).trans (h.block k hk hn)⟩
theorem Fr.appd {α:Type} {e:Elem α} {rb B:Nat} {w w5 w6:World} {v v':Value} {xs zs:List α} {bl ib bl':List Nat} (h:Fr (rb :: bl) w w5) (hA:Appd e B w5 w6 v v' bl ib bl' zs) (h0:ORow e w5 v xs bl) : Fr (rb :: bl) w w6:=
 h.trans' (hA.fr h0) fun _ hb=>.inl (List.mem_cons_of_mem _ hb)
theorem rTest (rb:Nat) (s:ByteArray) (i:Nat) (d:Int) (w:World) (B:Nat) (v:Value) (ops:List PFOp) (bl:List Nat) (h:PRd rb s i d w) (hs:s.size≤1048576) (hi:i≤s.size) (hrow:ORow fopE w v ops bl) (hF:Fsh B bl) (hB:B≤w.heap.size) (hrB:rb < B) (hN:ops.length+3≤10000000) :
  Calls Tryz.prog 133 #[.pointer (some ⟨rb,0,none⟩),v] w (TRd rb s i (fun _=>d) w B ops bl ((pTest (dr s i)).map fun p=>((p.1,0),p.2))):=by
 have hlt:=h.lt
 have HO:=hide (rOperand rb s i d w h hs hi)
 have HOB:=hide (fun (j:Nat) (w:World) (hj:j≤s.size) h=>rOperand rb s j d w h hs hj)
 have HCP:=hide (fun (j:Nat) (w:World) (hj:j≤s.size) h=>rComp rb s j d w h hs hj)
 have HROW:=hide hrow
 have HF:=hide hF
 have HLT:=hide hrow.lt
 have HNB:Hid (rb ∉ bl):=fun hb=>by have:=hF.2 _ hb; omega
 obtain⟨va,vc,rfl,-,-⟩:=hrow.form
 have HV:Hid (pTest (dr s i)=match pOpd (dr s i) with
  | none=>none
  | some (a,t)=>match pCmp t with
   | some (n,u)=>match pOpd u with
    | none=>none
    | some (b,v)=>some ([a,b,cmO n],v)
   | none=>if a.k=6 then some ([{ a with k:=8 }],t) else none):=rfl
 clear h hrow hF
 go_enter Tryz.func133,Tryz.ntmps133
 go_wp2_with fail
 refine (uh HO).mono ?_
 rintro e w1 ⟨k1,hno,hyes⟩
 clear HO
 cases hp:pOpd (dr s i) with
 | none=>
  obtain rfl:=hno hp
  exact⟨rfl,k1.fr bl,fun _=>rfl,fun x t h=>by rw[uh HV,hp] at h; cases h⟩
 | some z=>
  obtain⟨a,t⟩:=z
  obtain⟨j1,hj1,hj2,hj3,r1,qv,ba,rfl,rowa,fsha⟩:=hyes a t hp
  subst hj1
  obtain⟨qa,qc,rfl,-,-⟩:=rowa.form
  have hz1:=k1.size
  have hal:=al_b w1 (.cells #[.int .i64 a.k,.int .i64 a.n,.string a.s,.bool a.root,.slice qa a.steps.length qc] 37)
  have K2:FB (w1.alloc (.cells #[.int .i64 a.k,.int .i64 a.n,.string a.s,.bool a.root,.slice qa a.steps.length qc] 37)) w1.heap.size a.k a.n a.s a.root (.slice qa a.steps.length qc):=heap_alloc_new w1 _
  have KB2:=hide (k1.trans (KB.of_below hal))
  have HROW2:=hide (((uh HROW).kb k1 (uh HNB)).below hal)
  have HROA:=hide (rowa.below hal)
  have HFA:=hide fsha
  have HK2:=hide K2
  have HC2:=hide (uh HCP j1 _ hj3 (r1.below hal))
  have hz2:(w1.alloc (.cells #[.int .i64 a.k,.int .i64 a.n,.string a.s,.bool a.root,.slice qa a.steps.length qc] 37)).heap.size=w1.heap.size+1:=by simp
  have HV2:Hid (pTest (dr s i)=match pCmp (dr s j1) with
   | some (n,u)=>match pOpd u with
    | none=>none
    | some (b,v)=>some ([a,b,cmO n],v)
   | none=>if a.k=6 then some ([{ a with k:=8 }],dr s j1) else none):=by show _=_; rw[uh HV,hp]
  have HLA:=hide rowa.lt
  have HNA:Hid (rb ∉ ba):=fun hb=>by have:=fsha.2 _ hb; omega
  clear hno hyes hp k1 r1 rowa fsha K2 hal HV HROW HCP
  go_wp2_with fail
  generalize (w1.alloc (.cells #[.int .i64 a.k,.int .i64 a.n,.string a.s,.bool a.root,.slice qa a.steps.length qc] 37))=w2 at *
  refine (uh HC2).mono ?_
  rintro e w3 ⟨k3,hno,hyes⟩
  have hz3:=k3.size
  have KB3:=hide ((uh KB2).trans k3)
  have HROW3:=hide ((uh HROW2).kb k3 (uh HNB))
  have HROA3:=hide ((uh HROA).kb k3 (uh HNA))
  have HK3:=hide ((uh HK2).kb k3 (by omega))
  clear HC2 HROW2 HROA HK2 KB2 k3
  cases hp:pCmp (dr s j1) with
  | none=>
   obtain⟨rfl,r3⟩:=hno hp
   have HR3:=hide r3
   have HV3:Hid (pTest (dr s i)=if a.k=6 then some ([{ a with k:=8 }],dr s j1) else none):=by show _=_; rw[uh HV2,hp]
   obtain⟨c0,c1,c2,c3,c4⟩:=(uh HK3).c
   obtain⟨f0,f1,f2,f3,f4⟩:=(uh HK3).fz
   clear hno hyes hp r3 HV2
   by_cases h6:a.k=6
   ·have n6:(a.k != 6)=false:=by rw[h6]; rfl
    have HV4:Hid (pTest (dr s i)=some ([{ a with k:=8 }],dr s j1)):=by show _=_; rw[uh HV3,if_pos h6]
    have K4:=(uh HK3).set0 8
    have hG:w1.heap.size < w3.heap.size:=(uh HK3).lt
    have hnG:w1.heap.size ∉ bl:=fun hb=>by have:=uh HLT _ hb; omega
    have hnA:w1.heap.size ∉ ba:=fun hb=>by have:=uh HLA _ hb; omega
    have hal:=al_b (w3.setCell ⟨w1.heap.size,0,none⟩ (.int .i64 8)) (.cells #[.int .i64 8,.int .i64 a.n,.string a.s,.bool a.root,.slice qa a.steps.length qc] 37)
    have HB5:Hid (Below w.heap.size w3 ((w3.setCell ⟨w1.heap.size,0,none⟩ (.int .i64 8)).alloc (.cells #[.int .i64 8,.int .i64 a.n,.string a.s,.bool a.root,.slice qa a.steps.length qc] 37))):=((Below.refl _ _).setCell (by show _≤w1.heap.size; omega) _).trans (hal.mono (by show _≤(World.setCell _ _ _).heap.size; simp[World.setCell]; omega))
    have HR5:Hid (PRd rb s j1 d ((w3.setCell ⟨w1.heap.size,0,none⟩ (.int .i64 8)).alloc (.cells #[.int .i64 8,.int .i64 a.n,.string a.s,.bool a.root,.slice qa a.steps.length qc] 37))):=(uh HR3).below' (uh HB5) hlt
    have ROW5:=hide (((uh HROW3).set hnG (.int .i64 8)).below hal)
    have EL:=hide (show fopE.E ((w3.setCell ⟨w1.heap.size,0,none⟩ (.int .i64 8)).alloc (.cells #[.int .i64 8,.int .i64 a.n,.string a.s,.bool a.root,.slice qa a.steps.length qc] 37)) [.int .i64 8,.int .i64 a.n,.string a.s,.bool a.root,.slice qa a.steps.length qc] { a with k:=8 } ba from ⟨_,rfl,((uh HROA3).set hnA (.int .i64 8)).below hal⟩)
    have FI:=hide ((uh HFA).mono (show B≤w.heap.size by omega))
    have AP:Hid (∀ b∈ba,b ∉ bl):=fun b hb hbl=>by have h1:=(uh HFA).2 b hb; have h2:=uh HLT b hbl; omega
    obtain⟨k0,k1,k2,k3,k4⟩:=K4.c
    have hz4:(w3.setCell ⟨w1.heap.size,0,none⟩ (.int .i64 8)).heap.size=w3.heap.size:=by simp[World.setCell]
    clear h6 hal K4
    go_upto_region 8 with fail
    generalize (w3.setCell ⟨w1.heap.size,0,none⟩ (.int .i64 8))=w4 at *
    have hB4:B≤w4.heap.size:=by omega
    have hw4:w.heap.size≤w4.heap.size:=by omega
    clear hz4
    go_wp2_with (at_builtin; refine wpl_app1 ekFOp rfl (.tmp 30) (.tmp 32) rfl rfl (uh ROW5) (uh HF) (vs:=[.int .i64 8,.int .i64 a.n,.string a.s,.bool a.root,.slice qa a.steps.length qc]) (y:={ a with k:=8 }) (uh EL) (uh FI) (uh AP) rfl (by exact lit_cells w4 [_,_,_,_,_] _) (fop_one _ _ _ _ _ _ _) (by simp; omega) (by omega) ?_)
    intro v6 w6 bl6 hA
    have HA:=hide hA
    obtain⟨za,zc,rfl,-,-⟩:=hA.row.form
    clear hA
    go_wp2
    go_ret
    have hA:=uh HA
    refine⟨(((uh KB3).fr bl).below3 (uh HB5)).appd hA (uh ROW5),fun h=>(by rw[uh HV4] at h; cases h),fun x t h=>?_⟩
    rw[uh HV4] at h
    injection h with h
    injection h with h1 h2
    subst h1; subst h2
    refine⟨j1,_,bl6,rfl,hj2,hj3,(hA.block (uh ROW5) (uh HR5).lt (uh HNB)).trans (uh HR5),rfl,hA.row,hA.fsh,fun b hb=>?_⟩
    rcases hA.sub b hb with h1 | h1 | h1
    ·exact .inl h1
    ·right; have:=(uh HFA).2 b h1; omega
    ·right; rw[h1]; simp; omega
   ·have n6:(a.k != 6)=true:=by rw[bne_iff_ne]; exact h6
    have HF4:Hid (pTest (dr s i)=none):=by show _=_; rw[uh HV3,if_neg h6]
    clear h6
    go_wp2
    exact⟨rfl,(uh KB3).fr bl,fun _=>rfl,fun x t h=>by rw[uh HF4] at h; cases h⟩
  | some q=>
   obtain⟨n,u⟩:=q
   obtain⟨j2,hj4,hj5,hj6,r3,rfl⟩:=hyes n u hp
   subst hj4
   have HV3:Hid (pTest (dr s i)=match pOpd (dr s j2) with
    | none=>none
    | some (b,v)=>some ([a,b,cmO n],v)):=by show _=_; rw[uh HV2,hp]
   have HC4:=hide (uh HOB j2 w3.drew hj6 r3)
   obtain⟨c0,c1,c2,c3,c4⟩:=(show FB w3.drew w1.heap.size a.k a.n a.s a.root (.slice qa a.steps.length qc) from uh HK3).c
   clear hno hyes hp r3 HV2 HOB
   cases hp:pOpd (dr s j2) with
   | none=>
    have HF4:Hid (pTest (dr s i)=none):=by show _=_; rw[uh HV3,hp]
    have HP:=hide hp
    clear hp HV3
    go_wp2
    refine wp_region_any (by kernel_rfl) ?_
    try (change wpAny _ _ _ _ _ _ _ (World.drew _))
    refine wpAny_take (i:=0) (v:=?_) rfl (by kernel_rfl) (by kernel_rfl) (by kernel_rfl) (fun _ _ _ h=>h) (Or.inl ⟨by rfl,?_⟩) ?_
    rotate_left 1
    ·intro w
     go_simp
     try with_reducible rfl
    refine wpAny_take (i:=2) (v:=?_) rfl (by kernel_rfl) (by kernel_rfl) (by kernel_rfl) (fun _ _ _ h=>h) (Or.inl ⟨by rfl,?_⟩) ?_
    rotate_left 1
    ·intro w
     go_simp
     try with_reducible rfl
    refine wpAny_take (i:=4) (v:=?_) rfl (by kernel_rfl) (by kernel_rfl) (by kernel_rfl) (fun _ _ _ h=>h) (Or.inl ⟨by rfl,?_⟩) ?_
    rotate_left 1
    ·intro w
     go_simp
     try with_reducible rfl
    refine wpAny_take (i:=5) (v:=?_) rfl (by kernel_rfl) (by kernel_rfl) (by kernel_rfl) (fun _ _ _ h=>h) (Or.inl ⟨by rfl,?_⟩) ?_
    rotate_left 1
    ·intro w
     go_simp
     try with_reducible rfl
    refine wpAny_ready (rs:=[1,3]) (by kernel_rfl) (by simp) ?_
    refine AllReady.cons rfl (fun K hK=>?_) ?_
    ·go_simp
     refine hK _ _ ?_
     clear hK K
     refine wpAny_ready (rs:=[3]) (by kernel_rfl) (by simp) ?_
     refine AllReady.cons rfl (fun K hK=>?_) AllReady.nil
     go_simp
     refine (uh HC4).mono ?_
     rintro e w9 ⟨k9,hno,-⟩
     obtain rfl:=hno (uh HP)
     exact⟨rfl,(((uh KB3).drew).trans k9).fr bl,fun _=>rfl,fun x t h=>by rw[uh HF4] at h; cases h⟩
    ·refine AllReady.cons rfl (fun K hK=>?_) AllReady.nil
     go_simp
     refine (uh HC4).mono ?_
     rintro e w9 ⟨k9,hno,-⟩
     obtain rfl:=hno (uh HP)
     exact⟨rfl,(((uh KB3).drew).trans k9).fr bl,fun _=>rfl,fun x t h=>by rw[uh HF4] at h; cases h⟩
   | some q=>
    obtain⟨b,t4⟩:=q
    have HP:=hide hp
    have HKD3:Hid (KB rb w w3.drew):=(uh KB3).drew
    have hz3d:w3.drew.heap.size=w3.heap.size:=rfl
    have HKF:Hid (FB w3.drew w1.heap.size a.k a.n a.s a.root (.slice qa a.steps.length qc)):=uh HK3
    have HRW:Hid (ORow fopE w3.drew (.slice va ops.length vc) ops bl):=(uh HROW3).drew 1
    have HRA:Hid (ORow stepE w3.drew (.slice qa a.steps.length qc) a.steps ba):=(uh HROA3).drew 1
    clear hp HK3 HROW3 HROA3 KB3
    go_wp2
    go_region_law (first
     | (
       refine stp_apps ekFOp rfl (.tmp 16) (.tmp 22) rfl rfl (uh RW7) (uh HF) (qs:=[([.int .i64 a.k,.int .i64 a.n,.string a.s,.bool a.root,.slice qa a.steps.length qc],ba),([.int .i64 b.k,.int .i64 b.n,.string b.s,.bool b.root,.slice ya b.steps.length yc],bb),([.int .i64 9,.int .i64 n,.string ⟨#[]⟩,.bool false,.slice none 0 0],([] : List Nat))]) (ys:=[a,b,cmO n]) rfl (by simp) (uh EL) (by rw[uh HFL]; exact uh FI) (by rw[uh HFL]; exact uh AP) rfl (by exact lit_cells w5 [_,_,_,_,_,_,_,_,_,_,_,_,_,_,_] _) (uh ONE) (by simp; omega) (by simp; omega) ?_
       intro v6 w6 bl6 hA
       have HA:=hide hA
       obtain⟨za,zc,hza,-,-⟩:=hA.row.form
       rw[show (ops++[a,b,cmO n]).length=ops.length+3 by simp] at hza
       subst hza
       clear hA)
     | (
       go_simp; refine (uh HC4).mono ?_
       rintro e w5 ⟨k5,-,hyes⟩
       obtain⟨j3,hj7,hj8,hj9,r5,qv,bb,rfl,rowb,fshb⟩:=hyes b t4 (uh HP)
       obtain⟨ya,yc,rfl,-,-⟩:=rowb.form
       have hz5:=k5.size
       have hal:=al_b w5 (.cells #[.int .i64 a.k,.int .i64 a.n,.string a.s,.bool a.root,.slice qa a.steps.length qc,.int .i64 b.k,.int .i64 b.n,.string b.s,.bool b.root,.slice ya b.steps.length yc,.int .i64 9,.int .i64 n,.string ⟨#[]⟩,.bool false,.slice none 0 0] 37)
       obtain⟨e0,e1,e2,e3,e4⟩:=((uh HKF).kb k5 (by omega)).c
       have RW7:=hide (((uh HRW).kb k5 (uh HNB)).below hal)
       have RA7:=((uh HRA).kb k5 (uh HNA)).below hal
       have RB7:=rowb.below hal
       have KB7:=hide (((uh HKD3).trans k5).trans (KB.of_below hal))
       have HR7:=hide (r5.below hal)
       have EL:Hid (∀ (j:Nat) (p:List Value×List Nat) (y:PFOp),[([.int .i64 a.k,.int .i64 a.n,.string a.s,.bool a.root,.slice qa a.steps.length qc],ba),([.int .i64 b.k,.int .i64 b.n,.string b.s,.bool b.root,.slice ya b.steps.length yc],bb),([.int .i64 9,.int .i64 n,.string ⟨#[]⟩,.bool false,.slice none 0 0],([] : List Nat))][j]?=some p→[a,b,cmO n][j]?=some y→fopE.E (w5.alloc (.cells #[.int .i64 a.k,.int .i64 a.n,.string a.s,.bool a.root,.slice qa a.steps.length qc,.int .i64 b.k,.int .i64 b.n,.string b.s,.bool b.root,.slice ya b.steps.length yc,.int .i64 9,.int .i64 n,.string ⟨#[]⟩,.bool false,.slice none 0 0] 37)) p.1 y p.2):=fun j p y h1 h2=>by
        match j,h1,h2 with
        | 0,h1,h2=>simp at h1 h2; subst h1; subst h2; exact⟨_,rfl,RA7⟩
        | 1,h1,h2=>simp at h1 h2; subst h1; subst h2; exact⟨_,rfl,RB7⟩
        | 2,h1,h2=>simp at h1 h2; subst h1; subst h2; exact fopE_lit _ _ _ _
        | j+3,h1,h2=>simp at h1
       have hfl:([([.int .i64 a.k,.int .i64 a.n,.string a.s,.bool a.root,.slice qa a.steps.length qc],ba),([.int .i64 b.k,.int .i64 b.n,.string b.s,.bool b.root,.slice ya b.steps.length yc],bb),([.int .i64 9,.int .i64 n,.string ⟨#[]⟩,.bool false,.slice none 0 0],([] : List Nat))] : List (List Value×List Nat)).flatMap (·.2)=ba++bb:=by simp
       have HFL:=hide hfl
       have FI:Hid (Fsh B (ba++bb)):=((uh HFA).mono (by omega)).app (fun x hx=>by have:=uh HLA x hx; omega) fshb (by omega)
       have AP:Hid (∀ x∈ba++bb,x ∉ bl):=fun x hb hbl=>by
        have h2:=uh HLT x hbl
        rcases List.mem_append.1 hb with hb | hb
        ·have h1:=(uh HFA).2 x hb; omega
        ·have h1:=fshb.2 x hb; omega
       have ONE:Hid (∀ u∈([([.int .i64 a.k,.int .i64 a.n,.string a.s,.bool a.root,.slice qa a.steps.length qc],ba),([.int .i64 b.k,.int .i64 b.n,.string b.s,.bool b.root,.slice ya b.steps.length yc],bb),([.int .i64 9,.int .i64 n,.string ⟨#[]⟩,.bool false,.slice none 0 0],([] : List Nat))] : List (List Value×List Nat)).flatMap (·.1),u.oneCell'=true):=by
        intro u hu
        simp at hu
        rcases hu with rfl | rfl | rfl | rfl | rfl | rfl | rfl | rfl | rfl | rfl | rfl | rfl | rfl | rfl | rfl <;> rfl
       have FB5:=hide fshb
       have HJ7:=hide hj7
       clear hfl RA7 RB7 rowb fshb k5 r5 hyes hal))
    all_goals
     go_wp2
     go_ret
     have hA:=uh HA
     have HV4:pTest (dr s i)=some ([a,b,cmO n],t4):=by rw[uh HV3,uh HP]
     refine⟨((uh KB7).fr bl).appd hA (uh RW7),fun h=>(by rw[HV4] at h; cases h),fun x t h=>?_⟩
     rw[HV4] at h
     injection h with h
     injection h with h1 h2
     subst h1; subst h2
     refine⟨j3,_,bl6,uh HJ7,by omega,hj9,(hA.block (uh RW7) (uh HR7).lt (uh HNB)).trans (uh HR7),rfl,hA.row,hA.fsh,fun x hx=>?_⟩
     rcases hA.sub x hx with h1 | h1 | h1
     ·exact .inl h1
     ·rw[uh HFL] at h1
      right
      rcases List.mem_append.1 h1 with h1 | h1
      ·have:=(uh HFA).2 x h1; omega
      ·have:=(uh FB5).2 x h1; omega
     ·right; rw[h1]; simp; omega
theorem PRd.deep {rb:Nat} {s:ByteArray} {i:Nat} {d:Int} {w:World} (h:PRd rb s i d w) : w.cell? ⟨rb,2,none⟩=some (.int .i64 d)∧w.frozen? ⟨rb,2,none⟩=false:=⟨Lib.cell_of_heap h 2,Lib.frozen_of_heap h 2⟩
theorem PRd.setD {rb:Nat} {s:ByteArray} {i:Nat} {d:Int} {w:World} (h:PRd rb s i d w) (d':Int) : PRd rb s i d' (w.setCell ⟨rb,2,none⟩ (.int .i64 d')):=Go.heap_setCell_same w rb 2 _ 68 _ h
def SmallP (f:Bs→Option (XC×Bs)) : Prop:=∀ l x t,f l=some (x,t)→x.1.length+3*t.length≤3*l.length∧x.2+t.length≤l.length
theorem Fit.small {f:Bs→Option (XC×Bs)} {g:Bs→Option XC} {E P:UInt8→Bool} (h:Fit f g E P) (hg:SmallC g) : SmallP f:=fun l x t hf=>by
 obtain⟨s,hs,hx,-⟩:=h.got hf
 have:=hg s x hx
 rw[hs,List.length_append]
 omega
theorem pPr_small (n:Nat) : SmallP (pPr n):=(fit_pr n).small (sPr_len n)
theorem pCj_small (n:Nat) : SmallP (pCj n):=(fit_pr n).cj.small (sJoin_len (sPr_len n) 10 38)
def Reads (F:FuncId) (rb:Nat) (s:ByteArray) (f:Bs→Option (XC×Bs)) (n:Nat) : Prop:=∀ (i:Nat) (d:Int) (nest:Nat) (w:World) (B:Nat) (v:Value) (ops:List PFOp) (bl:List Nat),PRd rb s i d w→i≤s.size→s.size - i < n→ORow fopE w v ops bl→Fsh B bl→B≤w.heap.size→rb < B→ops.length+3*(s.size - i)+3≤10000000→nest+(s.size - i)≤5000000 →
 Calls Tryz.prog F #[.pointer (some ⟨rb,0,none⟩),v,.int .i64 (nest:Int)] w (TRd rb s i (fun x=>max d ((nest+x:Nat) : Int)) w B ops bl (f (dr s i)))
structure MS (rb:Nat) (s:ByteArray) (i:Nat) (d:Int) (nest:Nat) (w:World) (B:Nat) (ops:List PFOp) (bl:List Nat) (wr:World) (ov:Value) (x:XC) (j:Nat) (bc:List Nat) : Prop where
 fr:Fr (rb :: bl) w wr
 rd:PRd rb s j (max d ((nest+x.2:Nat) : Int)) wr
 row:ORow fopE wr ov (ops++x.1) bc
 fsh:Fsh B bc
 new:∀ b∈bc,b∈bl∨w.heap.size≤b
 nb:rb < B
 le:i≤j∧j≤s.size
section
variable {rb:Nat} {s:ByteArray} {i:Nat} {d:Int} {nest:Nat} {w:World} {B:Nat} {ops:List PFOp} {bl:List Nat} {wr:World} {ov:Value} {x:XC} {j:Nat} {bc:List Nat}
theorem MS.far (h:MS rb s i d nest w B ops bl wr ov x j bc) : rb ∉ bc:=fun hb=>by have:=h.fsh.2 _ hb; have:=h.nb; omega
theorem MS.kb (h:MS rb s i d nest w B ops bl wr ov x j bc) {w2:World} {j2:Nat} (hk:KB rb wr w2) (hr:PRd rb s j2 (max d ((nest+x.2:Nat) : Int)) w2) (h1:j≤j2) (h2:j2≤s.size) : MS rb s i d nest w B ops bl w2 ov x j2 bc:=
 ⟨h.fr.trans' (hk.fr []) (fun b hb=>.inl (by simp at hb; simp[hb])),hr,h.row.kb hk h.far,h.fsh,h.new,h.nb,by have:=h.le; omega⟩
theorem MS.call (h:MS rb s i d nest w B ops bl wr ov x j bc) {w2:World} {v2:Value} {y:XC} {b2:List Nat} {j2:Nat} (hf:Fr (rb :: bc) wr w2) (hr:PRd rb s j2 (max (max d ((nest+x.2:Nat) : Int)) ((nest+y.2:Nat) : Int)) w2) (row:ORow fopE w2 v2 (ops++x.1++y.1) b2) (fsh:Fsh B b2) (new:∀ b∈b2,b∈bc∨wr.heap.size≤b) (h1:j≤j2) (h2:j2≤s.size) :
  MS rb s i d nest w B ops bl w2 v2 (x.1++y.1,max x.2 y.2) j2 b2:=by
 have hsz:=h.fr.size
 refine⟨h.fr.trans' hf fun b hb=>?_,?_,by rw[← List.append_assoc]; exact row,fsh,fun b hb=>?_,h.nb,by have:=h.le; omega⟩
 ·rcases List.mem_cons.1 hb with rfl | hb
  ·left; simp
  ·rcases h.new b hb with h3 | h3
   ·left; exact List.mem_cons_of_mem _ h3
   ·right; exact h3
 ·have e:max (max d ((nest+x.2:Nat) : Int)) ((nest+y.2:Nat) : Int)=max d ((nest+max x.2 y.2:Nat) : Int):=by omega
  rw[e] at hr
  exact hr
 ·rcases new b hb with h3 | h3
  ·exact h.new b h3
  ·right; omega
theorem MS.app (h:MS rb s i d nest w B ops bl wr ov x j bc) {w5 w2:World} {v2:Value} {b2:List Nat} {k:Int} (hb:Below wr.heap.size wr w5) (hA:Appd fopE B w5 w2 ov v2 bc [] b2 ((ops++x.1)++[opK k])) : MS rb s i d nest w B ops bl w2 v2 (x.1++[opK k],x.2) j b2:=by
 have hsz:=h.fr.size
 have hsz2:=hb.size
 have hrow:=h.row.below hb
 refine⟨?_,(hA.block hrow (h.rd.below hb).lt h.far).trans (h.rd.below hb),by rw[← List.append_assoc]; exact hA.row,hA.fsh,fun b hb2=>?_,h.nb,h.le⟩
 ·refine (h.fr.next hb).trans' (hA.fr hrow) fun b hb=>?_
  rcases h.new b hb with h3 | h3
  ·left; exact List.mem_cons_of_mem _ h3
  ·right; exact h3
 ·rcases hA.sub b hb2 with h3 | h3 | h3
  ·exact h.new b h3
  ·simp at h3
  ·right; omega
theorem MS.done (h:MS rb s i d nest w B ops bl wr ov x j bc) {R:Option (XC×Bs)} (hR:R=some (x,dr s j)) : TRd rb s i (fun x=>max d ((nest+x:Nat) : Int)) w B ops bl R (.returned ov) wr:=by
 refine⟨h.fr,fun e=>(by rw[hR] at e; cases e),fun y t e=>?_⟩
 rw[hR] at e
 injection e with e
 injection e with e1 e2
 subst e1; subst e2
 exact⟨j,ov,bc,rfl,h.le.1,h.le.2,h.rd,rfl,h.row,h.fsh,h.new⟩
theorem MS.bad {w2:World} (hf:Fr (rb :: bl) w w2) {D:Nat→Int} {R:Option (XC×Bs)} (hR:R=none) : TRd rb s i D w B ops bl R mis w2:=⟨hf,fun _=>rfl,fun y t e=>by rw[hR] at e; cases e⟩
end
def MU (f:Bs→Option (XC×Bs)) (c:UInt8) (k:Int) (s:ByteArray) (R:Option (XC×Bs)) (x:XC) (j:Nat) : Prop:=∃ m,(dr s j).length < m∧R=pTail f c k m x (dr s j)
section
variable {f:Bs→Option (XC×Bs)} {c:UInt8} {k:Int} {s:ByteArray} {R:Option (XC×Bs)} {x:XC} {j:Nat}
theorem MU.fin (h:MU f c k s R x j) (hc:¬ bt s j=c.toNat) : R=some (x,dr s j):=by
 obtain⟨m,hm,hR⟩:=h
 obtain⟨q,rfl⟩ : ∃ q,m=q+1:=⟨m - 1,by omega⟩
 by_cases hj:j < s.size
 ·rw[hR,dr_at hj,pTail_con,if_neg (bt_ne hj c hc)]
 ·rw[hR,dr_end (by omega),pTail_nil]
theorem MU.one (h:MU f c k s R x j) (h0:c.toNat≠0) (hc:bt s j=c.toNat) (hd:¬ bt s (j+1)=c.toNat) : R=none:=by
 obtain⟨m,hm,hR⟩:=h
 obtain⟨q,rfl⟩ : ∃ q,m=q+1:=⟨m - 1,by omega⟩
 obtain⟨hj,hcc⟩:=bt_is c hc h0
 rw[hR,dr_at hj,pTail_con,if_pos hcc]
 by_cases hj2:j+1 < s.size
 ·rw[dr_at hj2]; simp only; rw[if_neg (bt_ne hj2 c hd)]
 ·rw[dr_end (by omega)]
theorem MU.two (h:MU f c k s R x j) (h0:c.toNat≠0) (hc:bt s j=c.toNat) (hd:bt s (j+1)=c.toNat) : (f (dr s (j+2))=none→R=none)∧∀ y q,f (dr s (j+2))=some (y,dr s q)→j+2≤q→q≤s.size→MU f c k s R (joinX k x y) q:=by
 obtain⟨m,hm,hR⟩:=h
 obtain⟨m,rfl⟩ : ∃ q,m=q+1:=⟨m - 1,by omega⟩
 obtain⟨hj,hcc⟩:=bt_is c hc h0
 obtain⟨hj2,hcd⟩:=bt_is c hd h0
 have e:R=match f (dr s (j+2)) with
   | none=>none
   | some (y,u)=>pTail f c k m (joinX k x y) u:=by
  rw[hR,dr_at hj,pTail_con,if_pos hcc,dr_at hj2]; simp only; rw[if_pos hcd]
  rfl
 refine⟨fun hn=>by rw[e,hn],fun y q hy hq1 hq2=>⟨m,by rw[dr_len] at hm ⊢; omega,by rw[e,hy]⟩⟩
end
theorem rConj {rb:Nat} {s:ByteArray} {n m:Nat} (hs:s.size≤1000000) (IH:Reads 129 rb s (pPr n) m) : Reads 122 rb s (pCj n) m:=by
 intro i d nest w B v ops bl h hi hm hrow hF hB hrB hN hn
 have HC:=hide (IH i d nest w B v ops bl h hi hm hrow hF hB hrB hN hn)
 have HIH:=hide IH
 have HF:=hide hF
 have HSM:=hide (pPr_small n)
 have HV:Hid (pCj n (dr s i)=match pPr n (dr s i) with
  | none=>none
  | some (x,t)=>pTail (pPr n) 38 10 (t.length+1) x t):=rfl
 obtain⟨va,vc,rfl,-,-⟩:=hrow.form
 clear h hrow hF IH
 go_enter Tryz.func122,Tryz.ntmps122
 go_wp2_with fail
 refine (uh HC).mono ?_
 rintro e w1 ⟨fr1,hno,hyes⟩
 clear HC
 cases hp:pPr n (dr s i) with
 | none=>
  obtain rfl:=hno hp
  exact⟨rfl,MS.bad fr1 (by rw[uh HV,hp])⟩
 | some z=>
  obtain⟨x,t⟩:=z
  obtain⟨j,v1,b1,hj1,hj2,hj3,r1,rfl,row1,fsh1,new1⟩:=hyes x t hp
  subst hj1
  obtain⟨qa,qc,rfl,-,-⟩:=row1.form
  have hsm:=uh HSM _ _ _ hp
  rw[dr_len,dr_len] at hsm
  have S1:Hid (MS rb s i d nest w B ops bl w1 (.slice qa (ops++x.1).length qc) x j b1):=⟨fr1,r1,row1,fsh1,new1,hrB,hj2,hj3⟩
  have U1:Hid (MU (pPr n) 38 10 s (pCj n (dr s i)) x j):=⟨_,Nat.lt_succ_self _,by rw[uh HV,hp]⟩
  have HSY:Hid (∀ (q:Nat) (D:Int) (w:World),q < s.size→bt s q=38→PRd rb s q D w→Calls Tryz.prog 69 #[.pointer (some ⟨rb,0,none⟩),.int .u8 ((38:Nat) : Int)] w fun e w'=>e = .returned (.bool true)∧PRd rb s (q+1) D w'∧KB rb w w'):=fun q D w hj hb hr=>pskip_yes rb s q D w hr (by omega) 38 hb hj
  have HSN:Hid (∀ (q:Nat) (D:Int) (w:World),q≤s.size→¬ bt s q=38→PRd rb s q D w→Calls Tryz.prog 69 #[.pointer (some ⟨rb,0,none⟩),.int .u8 ((38:Nat) : Int)] w fun e w'=>e = .returned (.bool false)∧PRd rb s q D w'∧KB rb w w'):=fun q D w hj hb hr=>pskip_no rb s q D w hr hj 38 (.inl hb)
  have HEY:Hid (∀ (q:Nat) (D:Int) (w:World),q < s.size→bt s q=38→PRd rb s q D w→Calls Tryz.prog 48 #[.pointer (some ⟨rb,0,none⟩),.int .u8 ((38:Nat) : Int)] w fun e w'=>e = .returned (.tuple #[])∧PRd rb s (q+1) D w'∧KB rb w w'):=fun q D w hj hb hr=>pexpect_yes rb s q D w hr (by omega) 38 hb hj
  have HEN:Hid (∀ (q:Nat) (D:Int) (w:World),q≤s.size→¬ bt s q=38→PRd rb s q D w→Calls Tryz.prog 48 #[.pointer (some ⟨rb,0,none⟩),.int .u8 ((38:Nat) : Int)] w fun e w'=>e=mis∧KB rb w w'):=fun q D w hj hb hr=>pexpect_no rb s q D w hr (by omega) hj 38 (.inl hb)
  have hjs:x.1.length+3*(s.size - j)≤3*(s.size - i):=by omega
  obtain⟨L,hL⟩ : ∃ L,(ops++x.1).length=L:=⟨_,rfl⟩
  rw[hL] at S1 ⊢
  clear fr1 hno hyes hp r1 row1 fsh1 new1 HV hsm hL
  go_wp2_with fail
  go_loopg [1] (s.size+1 - j) (fun gk ov wr=>∃ (j:Nat) (x:XC) (oa:Option Addr) (ol oc:Nat) (bc:List Nat),gk=s.size+1 - j∧ov = .slice oa ol oc∧x.1.length+3*(s.size - j)≤3*(s.size - i)∧Hid (MU (pPr n) 38 10 s (pCj n (dr s i)) x j)∧Hid (MS rb s i d nest w B ops bl wr (.slice oa ol oc) x j bc))
  case atStart=>exact⟨j,x,qa,_,qc,b1,rfl,rfl,hjs,U1,S1⟩
  case round=>
   obtain⟨j,x,oa,ol,oc,bc,hg,rfl,hjs,hu,hms⟩:=hrel
   clear S1 U1
   obtain⟨hij,hjl⟩:=(uh hms).le
   by_cases hc:bt s j=38
   ·obtain⟨hjs2,-⟩:=bt_is 38 hc (by decide)
    have HC1:=hide (uh HSY j _ wr hjs2 hc (uh hms).rd)
    go_wp2_with fail
    refine (uh HC1).mono ?_
    rintro e w2 ⟨rfl,r2,k2⟩
    have S2:=hide ((uh hms).kb k2 r2 (by omega) (by omega))
    clear HC1 r2 k2 hms
    by_cases hd:bt s (j+1)=38
    ·obtain⟨hjs3,-⟩:=bt_is 38 hd (by decide)
     have HC2:=hide (uh HEY (j+1) _ w2 hjs3 hd (uh S2).rd)
     obtain⟨hu1,hu2⟩:=(uh hu).two (by decide) hc hd
     have HU1:=hide hu1
     have HU2:=hide hu2
     clear hc hd hu hu1 hu2
     go_wp2_with fail
     refine (uh HC2).mono ?_
     rintro e w3 ⟨rfl,r3,k3⟩
     have S3:=hide ((uh S2).kb k3 r3 (by omega) (by omega))
     have hz3:=(uh S3).fr.size
     have HC3:=hide (uh HIH (j+1+1) _ nest w3 B _ _ bc (uh S3).rd (by omega) (by omega) (uh S3).row (uh S3).fsh (by omega) hrB (by rw[List.length_append]; omega) (by omega))
     clear HC2 r3 k3 S2
     go_wp2_with fail
     refine (uh HC3).mono ?_
     rintro e w4 ⟨fr4,hno,hyes⟩
     clear HC3
     cases hp:pPr n (dr s (j+1+1)) with
     | none=>
      obtain rfl:=hno hp
      have hfr:Fr (rb :: bl) w w4:=(uh S3).fr.trans' fr4 fun b hb=>by
       rcases List.mem_cons.1 hb with rfl | hb
       ·left; simp
       ·rcases (uh S3).new b hb with h3 | h3
        ·left; exact List.mem_cons_of_mem _ h3
        ·right; exact h3
      exact⟨rfl,MS.bad hfr (uh HU1 hp)⟩
     | some z=>
      obtain⟨y,t⟩:=z
      obtain⟨q,v4,b4,hq1,hq2,hq3,r4,rfl,row4,fsh4,new4⟩:=hyes y t hp
      subst hq1
      obtain⟨ya,yc,rfl,-,-⟩:=row4.form
      have hsm:=uh HSM _ _ _ hp
      rw[dr_len,dr_len] at hsm
      have hs4:=(uh S3).call fr4 r4 row4 fsh4 new4 hq2 hq3
      have hU4:=uh HU2 y q hp (by omega) hq3
      have HU4:=hide hU4
      obtain⟨L2,hL2⟩ : ∃ L,(ops++x.1++y.1).length=L:=⟨_,rfl⟩
      have hl2:L2≤ops.length+6*(s.size - i):=by rw[← hL2,List.length_append,List.length_append]; omega
      rw[hL2] at hs4 ⊢
      have S4:=hide hs4
      have hz4:=hs4.fr.size
      have hlen4:((ops++(x.1++y.1)).length)+1≤40000000:=by rw[← List.append_assoc,hL2]; omega
      have hal:=al_b w4 (.cells #[.int .i64 10,.int .i64 0,.string ⟨#[]⟩,.bool false,.slice none 0 0] 37)
      have ROW5:=hide (hs4.row.below hal)
      have FSH5:=hide hs4.fsh
      clear hno hyes hp fr4 r4 row4 fsh4 new4 hs4 hU4 HU1 HU2 S3 hL2 hal
      go_wp2_with (at_builtin; refine wpl_app1 ekFOp rfl (.tmp 22) (.tmp 24) rfl rfl (uh ROW5) (uh FSH5) (vs:=[.int .i64 10,.int .i64 0,.string ⟨#[]⟩,.bool false,.slice none 0 0]) (y:=opK 10) (fopE_lit _ _ _ _) (Fsh.nil _) (by simp) rfl (by exact lit_cells w4 [_,_,_,_,_] _) (fop_one _ _ _ _ _ _ _) (by simp; omega) hlen4 ?_)
      intro v5 w5 b5 hA
      rw[show ops++(x.1++(y.1++[opK 10]))=(ops++(x.1++y.1))++[opK 10] by simp] at hA
      have S5:=hide ((uh S4).app (al_b w4 _) hA)
      obtain⟨za,zc,hza,-,-⟩:=hA.row.form
      obtain⟨L3,hL3⟩ : ∃ L,(ops++(x.1++y.1)++[opK 10]).length=L:=⟨_,rfl⟩
      rw[hL3] at hza
      subst hza
      clear hL3
      clear hA
      go_wp2
      go_roundg (s.size+1 - q)
      case rel=>
       refine⟨q,joinX 10 x y,za,_,zc,b5,rfl,rfl,?_,HU4,S5⟩
       show (x.1++y.1++[opK 10]).length+_≤_
       simp only[List.length_append,List.length_singleton]
       omega
      case measure=>omega
    ·have HC2:=hide (uh HEN (j+1) _ w2 (by omega) hd (uh S2).rd)
     have HF2:=hide ((uh hu).one (by decide) hc hd)
     clear hc hd hu
     go_wp2_with fail
     refine (uh HC2).mono ?_
     rintro e w3 ⟨rfl,k3⟩
     exact⟨rfl,MS.bad ((uh S2).fr.trans' (k3.fr []) (fun b hb=>.inl (by simp at hb; simp[hb]))) (uh HF2)⟩
   ·have HC1:=hide (uh HSN j _ wr hjl hc (uh hms).rd)
    have HF1:=hide ((uh hu).fin hc)
    clear hc hu
    go_wp2_with fail
    refine (uh HC1).mono ?_
    rintro e w2 ⟨rfl,r2,k2⟩
    have S2:=hide ((uh hms).kb k2 r2 (Nat.le_refl _) hjl)
    clear HC1 r2 k2 hms
    go_wp2
    try simp only[Exit.inBlock,Exit.then]
    go_ret
    exact (uh S2).done (uh HF1)
theorem rCond {rb:Nat} {s:ByteArray} {n m:Nat} (hs:s.size≤1000000) (IH:Reads 122 rb s (pCj n) m) : Reads 112 rb s (pCd n) m:=by
 intro i d nest w B v ops bl h hi hm hrow hF hB hrB hN hn
 have HC:=hide (IH i d nest w B v ops bl h hi hm hrow hF hB hrB hN hn)
 have HIH:=hide IH
 have HF:=hide hF
 have HSM:=hide (pCj_small n)
 have HV:Hid (pCd n (dr s i)=match pCj n (dr s i) with
  | none=>none
  | some (x,t)=>pTail (pCj n) 124 11 (t.length+1) x t):=rfl
 obtain⟨va,vc,rfl,-,-⟩:=hrow.form
 clear h hrow hF IH
 go_enter Tryz.func112,Tryz.ntmps112
 go_wp2_with fail
 refine (uh HC).mono ?_
 rintro e w1 ⟨fr1,hno,hyes⟩
 clear HC
 cases hp:pCj n (dr s i) with
 | none=>
  obtain rfl:=hno hp
  exact⟨rfl,MS.bad fr1 (by rw[uh HV,hp])⟩
 | some z=>
  obtain⟨x,t⟩:=z
  obtain⟨j,v1,b1,hj1,hj2,hj3,r1,rfl,row1,fsh1,new1⟩:=hyes x t hp
  subst hj1
  obtain⟨qa,qc,rfl,-,-⟩:=row1.form
  have hsm:=uh HSM _ _ _ hp
  rw[dr_len,dr_len] at hsm
  have S1:Hid (MS rb s i d nest w B ops bl w1 (.slice qa (ops++x.1).length qc) x j b1):=⟨fr1,r1,row1,fsh1,new1,hrB,hj2,hj3⟩
  have U1:Hid (MU (pCj n) 124 11 s (pCd n (dr s i)) x j):=⟨_,Nat.lt_succ_self _,by rw[uh HV,hp]⟩
  have HSY:Hid (∀ (q:Nat) (D:Int) (w:World),q < s.size→bt s q=124→PRd rb s q D w→Calls Tryz.prog 69 #[.pointer (some ⟨rb,0,none⟩),.int .u8 ((124:Nat) : Int)] w fun e w'=>e = .returned (.bool true)∧PRd rb s (q+1) D w'∧KB rb w w'):=fun q D w hj hb hr=>pskip_yes rb s q D w hr (by omega) 124 hb hj
  have HSN:Hid (∀ (q:Nat) (D:Int) (w:World),q≤s.size→¬ bt s q=124→PRd rb s q D w→Calls Tryz.prog 69 #[.pointer (some ⟨rb,0,none⟩),.int .u8 ((124:Nat) : Int)] w fun e w'=>e = .returned (.bool false)∧PRd rb s q D w'∧KB rb w w'):=fun q D w hj hb hr=>pskip_no rb s q D w hr hj 124 (.inl hb)
  have HEY:Hid (∀ (q:Nat) (D:Int) (w:World),q < s.size→bt s q=124→PRd rb s q D w→Calls Tryz.prog 48 #[.pointer (some ⟨rb,0,none⟩),.int .u8 ((124:Nat) : Int)] w fun e w'=>e = .returned (.tuple #[])∧PRd rb s (q+1) D w'∧KB rb w w'):=fun q D w hj hb hr=>pexpect_yes rb s q D w hr (by omega) 124 hb hj
  have HEN:Hid (∀ (q:Nat) (D:Int) (w:World),q≤s.size→¬ bt s q=124→PRd rb s q D w→Calls Tryz.prog 48 #[.pointer (some ⟨rb,0,none⟩),.int .u8 ((124:Nat) : Int)] w fun e w'=>e=mis∧KB rb w w'):=fun q D w hj hb hr=>pexpect_no rb s q D w hr (by omega) hj 124 (.inl hb)
  have hjs:x.1.length+3*(s.size - j)≤3*(s.size - i):=by omega
  obtain⟨L,hL⟩ : ∃ L,(ops++x.1).length=L:=⟨_,rfl⟩
  rw[hL] at S1 ⊢
  clear fr1 hno hyes hp r1 row1 fsh1 new1 HV hsm hL
  go_wp2_with fail
  go_loopg [1] (s.size+1 - j) (fun gk ov wr=>∃ (j:Nat) (x:XC) (oa:Option Addr) (ol oc:Nat) (bc:List Nat),gk=s.size+1 - j∧ov = .slice oa ol oc∧x.1.length+3*(s.size - j)≤3*(s.size - i)∧Hid (MU (pCj n) 124 11 s (pCd n (dr s i)) x j)∧Hid (MS rb s i d nest w B ops bl wr (.slice oa ol oc) x j bc))
  case atStart=>exact⟨j,x,qa,_,qc,b1,rfl,rfl,hjs,U1,S1⟩
  case round=>
   obtain⟨j,x,oa,ol,oc,bc,hg,rfl,hjs,hu,hms⟩:=hrel
   clear S1 U1
   obtain⟨hij,hjl⟩:=(uh hms).le
   by_cases hc:bt s j=124
   ·obtain⟨hjs2,-⟩:=bt_is 124 hc (by decide)
    have HC1:=hide (uh HSY j _ wr hjs2 hc (uh hms).rd)
    go_wp2_with fail
    refine (uh HC1).mono ?_
    rintro e w2 ⟨rfl,r2,k2⟩
    have S2:=hide ((uh hms).kb k2 r2 (by omega) (by omega))
    clear HC1 r2 k2 hms
    by_cases hd:bt s (j+1)=124
    ·obtain⟨hjs3,-⟩:=bt_is 124 hd (by decide)
     have HC2:=hide (uh HEY (j+1) _ w2 hjs3 hd (uh S2).rd)
     obtain⟨hu1,hu2⟩:=(uh hu).two (by decide) hc hd
     have HU1:=hide hu1
     have HU2:=hide hu2
     clear hc hd hu hu1 hu2
     go_wp2_with fail
     refine (uh HC2).mono ?_
     rintro e w3 ⟨rfl,r3,k3⟩
     have S3:=hide ((uh S2).kb k3 r3 (by omega) (by omega))
     have hz3:=(uh S3).fr.size
     have HC3:=hide (uh HIH (j+1+1) _ nest w3 B _ _ bc (uh S3).rd (by omega) (by omega) (uh S3).row (uh S3).fsh (by omega) hrB (by rw[List.length_append]; omega) (by omega))
     clear HC2 r3 k3 S2
     go_wp2_with fail
     refine (uh HC3).mono ?_
     rintro e w4 ⟨fr4,hno,hyes⟩
     clear HC3
     cases hp:pCj n (dr s (j+1+1)) with
     | none=>
      obtain rfl:=hno hp
      have hfr:Fr (rb :: bl) w w4:=(uh S3).fr.trans' fr4 fun b hb=>by
       rcases List.mem_cons.1 hb with rfl | hb
       ·left; simp
       ·rcases (uh S3).new b hb with h3 | h3
        ·left; exact List.mem_cons_of_mem _ h3
        ·right; exact h3
      exact⟨rfl,MS.bad hfr (uh HU1 hp)⟩
     | some z=>
      obtain⟨y,t⟩:=z
      obtain⟨q,v4,b4,hq1,hq2,hq3,r4,rfl,row4,fsh4,new4⟩:=hyes y t hp
      subst hq1
      obtain⟨ya,yc,rfl,-,-⟩:=row4.form
      have hsm:=uh HSM _ _ _ hp
      rw[dr_len,dr_len] at hsm
      have hs4:=(uh S3).call fr4 r4 row4 fsh4 new4 hq2 hq3
      have hU4:=uh HU2 y q hp (by omega) hq3
      have HU4:=hide hU4
      obtain⟨L2,hL2⟩ : ∃ L,(ops++x.1++y.1).length=L:=⟨_,rfl⟩
      have hl2:L2≤ops.length+6*(s.size - i):=by rw[← hL2,List.length_append,List.length_append]; omega
      rw[hL2] at hs4 ⊢
      have S4:=hide hs4
      have hz4:=hs4.fr.size
      have hlen4:((ops++(x.1++y.1)).length)+1≤40000000:=by rw[← List.append_assoc,hL2]; omega
      have hal:=al_b w4 (.cells #[.int .i64 11,.int .i64 0,.string ⟨#[]⟩,.bool false,.slice none 0 0] 37)
      have ROW5:=hide (hs4.row.below hal)
      have FSH5:=hide hs4.fsh
      clear hno hyes hp fr4 r4 row4 fsh4 new4 hs4 hU4 HU1 HU2 S3 hL2 hal
      go_wp2_with (at_builtin; refine wpl_app1 ekFOp rfl (.tmp 22) (.tmp 24) rfl rfl (uh ROW5) (uh FSH5) (vs:=[.int .i64 11,.int .i64 0,.string ⟨#[]⟩,.bool false,.slice none 0 0]) (y:=opK 11) (fopE_lit _ _ _ _) (Fsh.nil _) (by simp) rfl (by exact lit_cells w4 [_,_,_,_,_] _) (fop_one _ _ _ _ _ _ _) (by simp; omega) hlen4 ?_)
      intro v5 w5 b5 hA
      rw[show ops++(x.1++(y.1++[opK 11]))=(ops++(x.1++y.1))++[opK 11] by simp] at hA
      have S5:=hide ((uh S4).app (al_b w4 _) hA)
      obtain⟨za,zc,hza,-,-⟩:=hA.row.form
      obtain⟨L3,hL3⟩ : ∃ L,(ops++(x.1++y.1)++[opK 11]).length=L:=⟨_,rfl⟩
      rw[hL3] at hza
      subst hza
      clear hL3
      clear hA
      go_wp2
      go_roundg (s.size+1 - q)
      case rel=>
       refine⟨q,joinX 11 x y,za,_,zc,b5,rfl,rfl,?_,HU4,S5⟩
       show (x.1++y.1++[opK 11]).length+_≤_
       simp only[List.length_append,List.length_singleton]
       omega
      case measure=>omega
    ·have HC2:=hide (uh HEN (j+1) _ w2 (by omega) hd (uh S2).rd)
     have HF2:=hide ((uh hu).one (by decide) hc hd)
     clear hc hd hu
     go_wp2_with fail
     refine (uh HC2).mono ?_
     rintro e w3 ⟨rfl,k3⟩
     exact⟨rfl,MS.bad ((uh S2).fr.trans' (k3.fr []) (fun b hb=>.inl (by simp at hb; simp[hb]))) (uh HF2)⟩
   ·have HC1:=hide (uh HSN j _ wr hjl hc (uh hms).rd)
    have HF1:=hide ((uh hu).fin hc)
    clear hc hu
    go_wp2_with fail
    refine (uh HC1).mono ?_
    rintro e w2 ⟨rfl,r2,k2⟩
    have S2:=hide ((uh hms).kb k2 r2 (Nat.le_refl _) hjl)
    clear HC1 r2 k2 hms
    go_wp2
    try simp only[Exit.inBlock,Exit.then]
    go_ret
    exact (uh S2).done (uh HF1)
theorem pPr_not {n:Nat} {s:ByteArray} {i:Nat} (h:bt s i=33) : pPr (n+1) (dr s i)=(pPr n (dr s (i+1))).map (fun p=>((p.1.1++[opK 12],p.1.2+1),p.2)):=by
 obtain⟨hi,hc⟩:=bt_is 33 h (by decide)
 rw[dr_at hi,pPr_con,if_pos hc]
theorem pPr_par {n:Nat} {s:ByteArray} {i:Nat} (h:bt s i=40) : pPr (n+1) (dr s i)=(match pCd n (dr s (i+1)) with
  | none=>none
  | some (x,t)=>match t with
   | []=>none
   | d :: u=>if d=41 then some ((x.1,x.2+1),u) else none):=by
 obtain⟨hi,hc⟩:=bt_is 40 h (by decide)
 rw[dr_at hi,pPr_con,if_neg (by rw[hc]; decide),if_pos hc]
 rfl
theorem pPr_else {n:Nat} {s:ByteArray} {i:Nat} (h1:¬ bt s i=33) (h2:¬ bt s i=40) : pPr (n+1) (dr s i)=(pTest (dr s i)).map fun p=>((p.1,0),p.2):=by
 by_cases hi:i < s.size
 ·rw[dr_at hi,pPr_con,if_neg (bt_ne hi 33 h1),if_neg (bt_ne hi 40 h2)]
 ·rw[dr_end (by omega)]; rfl
theorem rPrim {rb:Nat} {s:ByteArray} {n m:Nat} (hs:s.size≤1000000) (IHp:Reads 129 rb s (pPr n) m) (IHc:Reads 112 rb s (pCd n) m) : Reads 129 rb s (pPr (n+1)) (m+1):=by
 intro i d nest w B v ops bl h hi hm hrow hF hB hrB hN hn
 obtain⟨d1,hd1⟩ : ∃ d1,max d ((nest:Nat) : Int)=d1:=⟨_,rfl⟩
 have hlt:=h.lt
 obtain⟨cd,fd⟩:=h.deep
 have hR1:=h.setD d1
 have hKB:KB rb w (w.setCell ⟨rb,2,none⟩ (.int .i64 d1)):=(KB.refl rb w).set 2 _
 have hnb:rb ∉ bl:=fun hb=>by have:=hF.2 _ hb; omega
 have hrow1:ORow fopE (w.setCell ⟨rb,2,none⟩ (.int .i64 d1)) v ops bl:=hrow.set hnb _
 have hz:(w.setCell ⟨rb,2,none⟩ (.int .i64 d1)).heap.size=w.heap.size:=by simp[World.setCell]
 have HF:=hide hF
 have HFR:Hid (Fr (rb :: bl) w (w.setCell ⟨rb,2,none⟩ (.int .i64 d1))):=hKB.fr bl
 have HR1:=hide hR1
 have HROW1:=hide hrow1
 have HZ:=hide hz
 have HD:Hid (max d ((nest:Nat) : Int)=d1):=hd1
 have HIHp:=hide IHp
 have HIHc:=hide IHc
 obtain⟨va,vc,rfl,-,-⟩:=hrow.form
 have HSY:Hid (∀ (c:Nat) (w:World),i < s.size→bt s i=c→PRd rb s i d1 w→Calls Tryz.prog 69 #[.pointer (some ⟨rb,0,none⟩),.int .u8 (c:Int)] w fun e w'=>e = .returned (.bool true)∧PRd rb s (i+1) d1 w'∧KB rb w w'):=fun c w hj hb hr=>pskip_yes rb s i d1 w hr (by omega) c hb hj
 have HSN:Hid (∀ (c:Nat) (w:World),¬ bt s i=c→PRd rb s i d1 w→Calls Tryz.prog 69 #[.pointer (some ⟨rb,0,none⟩),.int .u8 (c:Int)] w fun e w'=>e = .returned (.bool false)∧PRd rb s i d1 w'∧KB rb w w'):=fun c w hb hr=>pskip_no rb s i d1 w hr hi c (.inl hb)
 have HNB:=hide hnb
 have nI:(0:Int)≤(nest:Int):=by omega
 clear h hrow hF hR1 hKB hrow1 hz IHp IHc hnb
 go_enter Tryz.func129,Tryz.ntmps129
 go_upto_region 2 with fail
 generalize (w.setCell ⟨rb,2,none⟩ (.int .i64 d1))=wS at *
 have hzS:w.heap.size≤wS.heap.size:=by have:=uh HZ; omega
 clear cd fd
 have HKFR:Hid (∀ (wa wb:World),Fr (rb :: bl) w wa→KB rb wa wb→Fr (rb :: bl) w wb):=fun _ _ h k=>h.trans' (k.fr []) (fun b hb=>.inl (by simp at hb; simp[hb]))
 by_cases h33:bt s i=33
 ·obtain⟨hil,-⟩:=bt_is 33 h33 (by decide)
  have HC1:=hide (uh HSY 33 wS hil h33 (uh HR1))
  have HV:=hide (pPr_not (n:=n) h33)
  clear h33
  go_wp2_with fail
  refine (uh HC1).mono ?_
  rintro e w2 ⟨rfl,r2,k2⟩
  have hz2:=k2.size
  have FR2:=hide (uh HKFR _ _ (uh HFR) k2)
  have ROW2:=(uh HROW1).kb k2 (uh HNB)
  have hC2:=uh HIHp (i+1) d1 (nest+1) w2 B _ ops bl r2 (by omega) (by omega) ROW2 (uh HF) (by omega) hrB (by omega) (by omega)
  rw[show ((nest+1:Nat) : Int)=(nest:Int)+1 by omega] at hC2
  have HC2:=hide hC2
  clear HC1 r2 k2 ROW2 hC2 HFR HROW1 HR1
  go_wp2_with fail
  refine (uh HC2).mono ?_
  rintro e w3 ⟨fr3,hno,hyes⟩
  clear HC2
  have FR3:Fr (rb :: bl) w w3:=(uh FR2).trans fr3
  cases hp:pPr n (dr s (i+1)) with
  | none=>
   obtain rfl:=hno hp
   exact⟨rfl,MS.bad FR3 (by rw[uh HV,hp]; rfl)⟩
  | some z=>
   obtain⟨x,t⟩:=z
   obtain⟨j,v3,b3,hj1,hj2,hj3,r3,rfl,row3,fsh3,new3⟩:=hyes x t hp
   subst hj1
   obtain⟨ya,yc,rfl,-,-⟩:=row3.form
   have hsm:=(pPr_small n _ _ _ hp).1
   rw[dr_len,dr_len] at hsm
   have hR:pPr (n+1) (dr s i)=some ((x.1++[opK 12],x.2+1),dr s j):=by rw[uh HV,hp]; rfl
   have e:max d1 ((nest+1+x.2:Nat) : Int)=max d ((nest+(x.2+1) : Nat) : Int):=by omega
   have r3':PRd rb s j (max d1 ((nest+1+x.2:Nat) : Int)) w3:=r3
   rw[e] at r3'
   obtain⟨L2,hL2⟩ : ∃ L,(ops++x.1).length=L:=⟨_,rfl⟩
   have hl2:(ops++x.1).length+1≤40000000:=by rw[List.length_append]; omega
   rw[hL2] at row3 ⊢
   have S3:Hid (MS rb s i d nest w B ops bl w3 (.slice ya L2 yc) (x.1,x.2+1) j b3):=⟨FR3,r3',row3,fsh3,fun b hb=>by
    rcases new3 b hb with h3 | h3
    ·exact .inl h3
    ·right; omega,hrB,by omega,hj3⟩
   have hal:=al_b w3 (.cells #[.int .i64 12,.int .i64 0,.string ⟨#[]⟩,.bool false,.slice none 0 0] 37)
   have ROW5:=hide (row3.below hal)
   have FSH5:=hide fsh3
   have HR:=hide hR
   have hz3:=FR3.size
   clear hno hyes hp fr3 FR3 r3 r3' row3 fsh3 new3 hal hR e hL2
   go_wp2_with (at_builtin; refine wpl_app1 ekFOp rfl (.tmp 25) (.tmp 27) rfl rfl (uh ROW5) (uh FSH5) (vs:=[.int .i64 12,.int .i64 0,.string ⟨#[]⟩,.bool false,.slice none 0 0]) (y:=opK 12) (fopE_lit _ _ _ _) (Fsh.nil _) (by simp) rfl (by exact lit_cells w3 [_,_,_,_,_] _) (fop_one _ _ _ _ _ _ _) (by simp; omega) hl2 ?_)
   intro v5 w5 b5 hA
   try rw[show ops++(x.1++[opK 12])=(ops++x.1)++[opK 12] by simp] at hA
   have S5:=hide ((uh S3).app (al_b w3 _) hA)
   obtain⟨za,zc,hza,-,-⟩:=hA.row.form
   obtain⟨L3,hL3⟩ : ∃ L,(ops++x.1++[opK 12]).length=L:=⟨_,rfl⟩
   rw[hL3] at hza
   subst hza
   clear hA hL3
   go_wp2
   try simp only[Exit.inBlock,Exit.then]
   go_ret
   exact (uh S5).done (uh HR)
 ·have HC1:=hide (uh HSN 33 wS h33 (uh HR1))
  go_wp2_with fail
  refine (uh HC1).mono ?_
  rintro e w2 ⟨rfl,r2,k2⟩
  have hz2:=k2.size
  have FR2:=hide (uh HKFR _ _ (uh HFR) k2)
  have ROW2:=hide ((uh HROW1).kb k2 (uh HNB))
  have HR2:=hide r2
  clear HC1 r2 k2 HFR HROW1 HR1
  by_cases h40:bt s i=40
  ·obtain⟨hil,-⟩:=bt_is 40 h40 (by decide)
   have HC2:=hide (uh HSY 40 w2 hil h40 (uh HR2))
   have HV:=hide (pPr_par (n:=n) h40)
   clear h33 h40
   go_wp2_with fail
   refine (uh HC2).mono ?_
   rintro e w3 ⟨rfl,r3,k3⟩
   have hz3:=k3.size
   have FR3:=hide (uh HKFR _ _ (uh FR2) k3)
   have ROW3:=(uh ROW2).kb k3 (uh HNB)
   have hC3:=uh HIHc (i+1) d1 (nest+1) w3 B _ ops bl r3 (by omega) (by omega) ROW3 (uh HF) (by omega) hrB (by omega) (by omega)
   rw[show ((nest+1:Nat) : Int)=(nest:Int)+1 by omega] at hC3
   have HC3:=hide hC3
   clear HC2 r3 k3 ROW3 hC3 FR2 ROW2 HR2
   go_wp2_with fail
   refine (uh HC3).mono ?_
   rintro e w4 ⟨fr4,hno,hyes⟩
   clear HC3
   have FR4:Fr (rb :: bl) w w4:=(uh FR3).trans fr4
   cases hp:pCd n (dr s (i+1)) with
   | none=>
    obtain rfl:=hno hp
    exact⟨rfl,MS.bad FR4 (by rw[uh HV,hp])⟩
   | some z=>
    obtain⟨x,t⟩:=z
    obtain⟨j,v4,b4,hj1,hj2,hj3,r4,rfl,row4,fsh4,new4⟩:=hyes x t hp
    subst hj1
    obtain⟨ya,yc,rfl,-,-⟩:=row4.form
    have e:max d1 ((nest+1+x.2:Nat) : Int)=max d ((nest+(x.2+1) : Nat) : Int):=by omega
    have r4':PRd rb s j (max d1 ((nest+1+x.2:Nat) : Int)) w4:=r4
    rw[e] at r4'
    obtain⟨L2,hL2⟩ : ∃ L,(ops++x.1).length=L:=⟨_,rfl⟩
    rw[hL2] at row4 ⊢
    have S4:Hid (MS rb s i d nest w B ops bl w4 (.slice ya L2 yc) (x.1,x.2+1) j b4):=⟨FR4,r4',row4,fsh4,fun b hb=>by
     rcases new4 b hb with h3 | h3
     ·exact .inl h3
     ·right; omega,hrB,by omega,hj3⟩
    have HV2:Hid (pPr (n+1) (dr s i)=match dr s j with
     | []=>none
     | d :: u=>if d=41 then some ((x.1,x.2+1),u) else none):=by show _=_; rw[uh HV,hp]
    clear hno hyes hp fr4 FR4 r4 r4' row4 fsh4 new4 e hL2 HV FR3
    by_cases h41:bt s j=41
    ·obtain⟨hjl,hjc⟩:=bt_is 41 h41 (by decide)
     have HC5:=hide (pexpect_yes rb s j _ w4 (uh S4).rd (by omega) 41 h41 hjl)
     have HV3:Hid (pPr (n+1) (dr s i)=some ((x.1,x.2+1),dr s (j+1))):=by show _=_; rw[uh HV2,dr_at hjl]; simp only; rw[if_pos hjc]
     clear h41 hjc HV2
     go_wp2_with fail
     refine (uh HC5).mono ?_
     rintro e w5 ⟨rfl,r5,k5⟩
     have S5:=hide ((uh S4).kb k5 r5 (by omega) (by omega))
     clear HC5 r5 k5
     go_wp2
     try simp only[Exit.inBlock,Exit.then]
     go_ret
     exact (uh S5).done (uh HV3)
    ·have HC5:=hide (pexpect_no rb s j _ w4 (uh S4).rd (by omega) hj3 41 (.inl h41))
     have HF3:Hid (pPr (n+1) (dr s i)=none):=by
      show _=_
      rw[uh HV2]
      by_cases hjl:j < s.size
      ·rw[dr_at hjl]; simp only; rw[if_neg (bt_ne hjl 41 h41)]
      ·rw[dr_end (by omega)]
     clear h41 HV2
     go_wp2_with fail
     refine (uh HC5).mono ?_
     rintro e w5 ⟨rfl,k5⟩
     exact⟨rfl,MS.bad (uh HKFR _ _ (uh S4).fr k5) (uh HF3)⟩
  ·have HC2:=hide (uh HSN 40 w2 h40 (uh HR2))
   have HV:=hide (pPr_else (n:=n) h33 h40)
   clear h33 h40
   go_wp2_with fail
   refine (uh HC2).mono ?_
   rintro e w3 ⟨rfl,r3,k3⟩
   have hz3:=k3.size
   have FR3:=hide (uh HKFR _ _ (uh FR2) k3)
   have HC3:=hide (rTest rb s i d1 w3 B _ ops bl r3 (by omega) hi ((uh ROW2).kb k3 (uh HNB)) (uh HF) (by omega) hrB (by omega))
   clear HC2 r3 k3 FR2 ROW2 HR2
   go_wp2_with fail
   refine (uh HC3).mono ?_
   rintro e w4 ⟨fr4,hno,hyes⟩
   clear HC3
   have FR4:Fr (rb :: bl) w w4:=(uh FR3).trans fr4
   cases hp:pTest (dr s i) with
   | none=>
    obtain rfl:=hno (by rw[hp]; rfl)
    exact⟨rfl,MS.bad FR4 (by rw[uh HV,hp]; rfl)⟩
   | some z=>
    obtain⟨x,t⟩:=z
    obtain⟨j,v4,b4,hj1,hj2,hj3,r4,rfl,row4,fsh4,new4⟩:=hyes (x,0) t (by rw[hp]; rfl)
    subst hj1
    have r4':PRd rb s j d1 w4:=r4
    rw[show d1=max d ((nest+0:Nat) : Int) by rw[← uh HD]; rfl] at r4'
    have HS:Hid (MS rb s i d nest w B ops bl w4 v4 (x,0) j b4):=⟨FR4,r4',row4,fsh4,fun b hb=>by
     rcases new4 b hb with h3 | h3
     ·exact .inl h3
     ·right; omega,hrB,hj2,hj3⟩
    have HR:Hid (pPr (n+1) (dr s i)=some ((x,0),dr s j)):=by show _=_; rw[uh HV,hp]; rfl
    obtain⟨ya,yc,rfl,-,-⟩:=row4.form
    clear hno hyes hp fr4 FR4 r4 r4' row4 fsh4 new4 FR3
    go_wp2
    try simp only[Exit.inBlock,Exit.then]
    go_ret
    have hd:=(uh HS).done (uh HR)
    simpa using hd
theorem rPrims {rb:Nat} {s:ByteArray} (hs:s.size≤1000000) : ∀ n:Nat,Reads 129 rb s (pPr n) n
 | 0=>fun i d nest w B v ops bl h hi hm=>by omega
 | n+1=>rPrim hs (rPrims hs n) (rCond hs (rConj hs (rPrims hs n)))
theorem rConds {rb:Nat} {s:ByteArray} (hs:s.size≤1000000) (n:Nat) : Reads 112 rb s (pCd n) n:=rCond hs (rConj hs (rPrims hs n))
end Go.Proofs.YtkjcgkfejdogbaaGreatDoor
