import Derived.Test.YtkjcgkfejdogbaaGreatDoorBz37
import Derived.Deep.RegionHeld
set_option maxRecDepth 100000
set_option maxHeartbeats 8000000
namespace Go.Proofs.YtkjcgkfejdogbaaGreatDoor
open Go.RowKit
def WCo (B b:Nat) (v:Value) (t:List UInt8) (w:World) : Prop:=∀ (l:List UInt8) (w1:World),WB B b l w w1→l.length+t.length≤650000000 →
 Calls Tryz.prog 59 #[v,.pointer (some ⟨b,0,none⟩)] w1 fun e w'=>e = .returned (.tuple #[])∧WB B b (l++t) w w'
theorem wnot (p g cap:Nat) (c1 c2 c3 c4 va:Value) (t:List UInt8) (B b:Nat) (w:World) (hp:w.heap[p]?=some (.cells #[.int .i64 12,c1,c2,c3,c4,.slice (some ⟨g,0,none⟩) 1 cap] 132 (0,0))) (hpB:p < B) (hgB:g < B) (hg:w.cell? ⟨g,0,none⟩=some va) (ha:WCo B b va t w) :
  WCo B b (.pointer (some ⟨p,0,none⟩)) (33 :: t) w:=by
 intro l w1 h1 hl
 rw[List.length_cons] at hl
 have HC:Hid (∀ w',Below B w w'→w'.cell? ⟨p,0,none⟩=some (.int .i64 12)∧w'.cell? ⟨p,5,none⟩=some (.slice (some ⟨g,0,none⟩) 1 cap)∧w'.cell? ⟨g,0,none⟩=some va):=fun w' hb=>
  have h2:=(hb.block p hpB).trans hp
  ⟨Lib.cell_of_heap h2 0,Lib.cell_of_heap h2 5,(World.cell?_of_block (a:=⟨g,0,none⟩) (hb.block g hgB)).trans hg⟩
 have H33:=hide (wb B b l 33 33 rfl w w1 h1 (by omega))
 have HA:Hid (∀ w2,WB B b (l++[33]) w w2→Calls Tryz.prog 59 #[va,.pointer (some ⟨b,0,none⟩)] w2 fun e w'=>e = .returned (.tuple #[])∧WB B b (l++33 :: t) w w'):=fun w2 h2=>by
  rw[show l++33 :: t=(l++[33])++t by simp]
  exact ha _ w2 h2 (by rw[List.length_append]; simp; omega)
 obtain⟨x0,-,-⟩:=uh HC w1 h1.bel
 clear hp hg ha h1 hl
 go_enter Tryz.func59,Tryz.ntmps59
 go_wp2_with fail
 refine (uh H33).mono ?_
 rintro e w2 ⟨rfl,h2⟩
 obtain⟨-,y5,yg⟩:=uh HC w2 h2.bel
 have HA2:=hide (uh HA w2 h2)
 clear H33 h2 HA HC x0
 go_wp2_with fail
 refine (uh HA2).mono ?_
 rintro e w3 ⟨rfl,h3⟩
 have HW:=hide h3
 clear HA2 h3 y5 yg
 go_wp2
 go_end0
 exact⟨rfl,uh HW⟩
theorem wtwo (k:Int) (hk:k=10∨k=11) (p g cap:Nat) (c1 c2 c3 c4 va vb:Value) (t u:List UInt8) (B b:Nat) (w:World) (hp:w.heap[p]?=some (.cells #[.int .i64 k,c1,c2,c3,c4,.slice (some ⟨g,0,none⟩) 2 cap] 132 (0,0))) (hpB:p < B) (hgB:g < B) (hg:w.cell? ⟨g,0,none⟩=some va) (hg1:w.cell? ⟨g,1,none⟩=some vb) (ha:WCo B b va t w) (hb:WCo B b vb u w) :
  WCo B b (.pointer (some ⟨p,0,none⟩)) (40 :: (t++(jointT k++(u++[41])))) w:=by
 intro l w1 h1 hl
 have hj:=jointT_len k
 simp only[List.length_cons,List.length_append,List.length_nil] at hl
 have HC:Hid (∀ w',Below B w w'→w'.cell? ⟨p,0,none⟩=some (.int .i64 k)∧w'.cell? ⟨p,5,none⟩=some (.slice (some ⟨g,0,none⟩) 2 cap)∧w'.cell? ⟨g,0,none⟩=some va∧w'.cell? ⟨g,1,none⟩=some vb):=fun w' hb=>
  have h2:=(hb.block p hpB).trans hp
  ⟨Lib.cell_of_heap h2 0,Lib.cell_of_heap h2 5,(World.cell?_of_block (a:=⟨g,0,none⟩) (hb.block g hgB)).trans hg,(World.cell?_of_block (a:=⟨g,1,none⟩) (hb.block g hgB)).trans hg1⟩
 have H40:=hide (wb B b l 40 40 rfl w w1 h1 (by omega))
 have HA:Hid (∀ w2,WB B b (l++[40]) w w2→Calls Tryz.prog 59 #[va,.pointer (some ⟨b,0,none⟩)] w2 fun e w'=>e = .returned (.tuple #[])∧WB B b ((l++[40])++t) w w'):=fun w2 h2=>ha _ w2 h2 (by rw[List.length_append]; simp; omega)
 have HJ:Hid (∀ w2,WB B b ((l++[40])++t) w w2→Calls Tryz.prog 35 #[.pointer (some ⟨b,0,none⟩),.string (strOf (jointT k))] w2 fun e w'=>e = .returned (.tuple #[.int .i64 (strOf (jointT k)).size,.nilIface])∧WB B b (((l++[40])++t)++jointT k) w w'):=fun w2 h2=>ws B b _ _ _ (strOf_toList _).symm w w2 h2 (by rw[List.length_append,List.length_append]; simp; omega) (by rw[strOf_size]; omega)
 have HBB:Hid (∀ w2,WB B b (((l++[40])++t)++jointT k) w w2→Calls Tryz.prog 59 #[vb,.pointer (some ⟨b,0,none⟩)] w2 fun e w'=>e = .returned (.tuple #[])∧WB B b ((((l++[40])++t)++jointT k)++u) w w'):=fun w2 h2=>hb _ w2 h2 (by rw[List.length_append,List.length_append,List.length_append]; simp; omega)
 have H41:Hid (∀ w2,WB B b ((((l++[40])++t)++jointT k)++u) w w2→Calls Tryz.prog 17 #[.pointer (some ⟨b,0,none⟩),.int .u8 41] w2 fun e w'=>e = .returned .nilIface∧WB B b (((((l++[40])++t)++jointT k)++u)++[41]) w w'):=fun w2 h2=>wb B b _ 41 41 rfl w w2 h2 (by rw[List.length_append,List.length_append,List.length_append,List.length_append]; simp; omega)
 have HV:Hid (l++40 :: (t++(jointT k++(u++[41])))=((((l++[40])++t)++jointT k)++u)++[41]):=by show _=_; simp
 have HJT:Hid (∀ w2,Calls Tryz.prog 85 #[.int .i64 k] w2 fun e w'=>e = .returned (.string (strOf (jointT k)))∧w2=w'):=fun w2=>joint_walk k w2
 obtain⟨x0,-,-,-⟩:=uh HC w1 h1.bel
 clear hp hg hg1 ha hb h1 hl hj
 generalize strOf (jointT k)=JV at *
 generalize jointT k=JL at *
 rcases hk with rfl | rfl
 all_goals
  go_enter Tryz.func59,Tryz.ntmps59
  go_wp2_with fail
  refine (uh H40).mono ?_
  rintro e w2 ⟨rfl,h2⟩
  obtain⟨-,y5,yg,-⟩:=uh HC w2 h2.bel
  have HA2:=hide (uh HA w2 h2)
  clear H40 h2 HA x0
  go_wp2_with fail
  refine (uh HA2).mono ?_
  rintro e w3 ⟨rfl,h3⟩
  obtain⟨z0,-,-,-⟩:=uh HC w3 h3.bel
  have HJ2:=hide (uh HJ w3 h3)
  clear HA2 h3 HJ y5 yg
  go_wp2_with fail
  refine (uh HJT _).mono ?_
  rintro e w3' ⟨rfl,rfl⟩
  go_wp2_with fail
  refine (uh HJ2).mono ?_
  rintro e w4 ⟨rfl,h4⟩
  obtain⟨-,v5,-,vg⟩:=uh HC w4 h4.bel
  have HB2:=hide (uh HBB w4 h4)
  clear HJ2 h4 HBB z0 HC HJT
  go_wp2_with fail
  refine (uh HB2).mono ?_
  rintro e w5 ⟨rfl,h5⟩
  have H42:=hide (uh H41 w5 h5)
  clear HB2 h5 H41 v5 vg
  go_wp2_with fail
  refine (uh H42).mono ?_
  rintro e w6 ⟨rfl,h6⟩
  have HW:=hide h6
  clear H42 h6
  go_wp2
  go_end0
  exact⟨rfl,by rw[uh HV]; exact uh HW⟩
def HSn (p:Nat) (n:Int) (w:World) : Prop:=w.cell? ⟨p,1,none⟩=some (.int .i64 n)
theorem wcmp (n:Int) (hn:1≤n∧n≤6) (p g cap:Nat) (c2 c3 c4 va vb:Value) (t u:List UInt8) (B b:Nat) (w:World) (hp:w.heap[p]?=some (.cells #[.int .i64 9,.int .i64 n,c2,c3,c4,.slice (some ⟨g,0,none⟩) 2 cap] 132 (0,0))) (hpB:p < B) (hgB:g < B) (hg:w.cell? ⟨g,0,none⟩=some va) (hg1:w.cell? ⟨g,1,none⟩=some vb) (ha:WCo B b va t w) (hb:WCo B b vb u w) :
  WCo B b (.pointer (some ⟨p,0,none⟩)) (t++(signT n++u)) w:=by
 intro l w1 h1 hl
 have hj:=signT_len n
 simp only[List.length_append] at hl
 have HC:Hid (∀ w',Below B w w'→w'.cell? ⟨p,0,none⟩=some (.int .i64 9)∧w'.cell? ⟨p,1,none⟩=some (.int .i64 n)∧w'.cell? ⟨p,5,none⟩=some (.slice (some ⟨g,0,none⟩) 2 cap)∧w'.cell? ⟨g,0,none⟩=some va∧w'.cell? ⟨g,1,none⟩=some vb):=fun w' hb=>
  have h2:=(hb.block p hpB).trans hp
  ⟨Lib.cell_of_heap h2 0,Lib.cell_of_heap h2 1,Lib.cell_of_heap h2 5,(World.cell?_of_block (a:=⟨g,0,none⟩) (hb.block g hgB)).trans hg,(World.cell?_of_block (a:=⟨g,1,none⟩) (hb.block g hgB)).trans hg1⟩
 have HA:Hid (Calls Tryz.prog 59 #[va,.pointer (some ⟨b,0,none⟩)] w1 fun e w'=>e = .returned (.tuple #[])∧WB B b (l++t) w w'):=ha _ w1 h1 (by omega)
 have HJ:Hid (∀ w2,WB B b (l++t) w w2→Calls Tryz.prog 35 #[.pointer (some ⟨b,0,none⟩),.string (strOf (signT n))] w2 fun e w'=>e = .returned (.tuple #[.int .i64 (strOf (signT n)).size,.nilIface])∧WB B b ((l++t)++signT n) w w'):=fun w2 h2=>ws B b _ _ _ (strOf_toList _).symm w w2 h2 (by rw[List.length_append]; omega) (by rw[strOf_size]; omega)
 have HBB:Hid (∀ w2,WB B b ((l++t)++signT n) w w2→Calls Tryz.prog 59 #[vb,.pointer (some ⟨b,0,none⟩)] w2 fun e w'=>e = .returned (.tuple #[])∧WB B b (((l++t)++signT n)++u) w w'):=fun w2 h2=>hb _ w2 h2 (by rw[List.length_append,List.length_append]; omega)
 have HV:Hid (l++(t++(signT n++u))=((l++t)++signT n)++u):=by show _=_; simp
 have HSN:Hid (∀ w',Below B w w'→HSn p n w'):=fun w' hb=>(uh HC w' hb).2.1
 obtain⟨x0,-,x5,xg,-⟩:=uh HC w1 h1.bel
 clear hp hg hg1 ha hb h1 hl hj
 rcases (show n=1∨n=2∨n=3∨n=4∨n=5∨n=6 by omega) with rfl | rfl | rfl | rfl | rfl | rfl
 all_goals
  clear hn
  have zq0:IntKind.i64.wrap 0=0:=by decide
  have zq1:IntKind.i64.wrap 1=1:=by decide
  have zq2:IntKind.i64.wrap 2=2:=by decide
  have zq3:IntKind.i64.wrap 3=3:=by decide
  have zq4:IntKind.i64.wrap 4=4:=by decide
  have zq5:IntKind.i64.wrap 5=5:=by decide
  go_enter Tryz.func59,Tryz.ntmps59
  go_wp2_with fail
  refine (uh HA).mono ?_
  rintro e w2 ⟨rfl,h2⟩
  have H2:=hide h2
  have HD2:Hid (WB B b (l++t) w w2.drew):=(uh H2).up (Below.refl _ _).drew
  have HCM:=hide (comps_walk w2.drew)
  have SD:=hide (uh HSN w2.drew (uh HD2).bel)
  clear HA h2 x0 x5 xg
  go_wp2_with fail
  refine wp_region_held_drew (S:=HSn p _) (by kernel_rfl) (uh SD) (fun hHeld=>?_)
  refine wpAnyH_take (i:=0) (v:=?_) rfl (by kernel_rfl) (by kernel_rfl) (by kernel_rfl) (fun _ _ _ h=>h) (Or.inl ⟨by rfl,?_⟩) (by assumption) ?_
  rotate_left 1
  ·intro wy hSw
   unfold HSn at hSw
   go_simp
   try with_reducible rfl
  try simp only[Act.put]
  refine wpAnyH_take (i:=2) (v:=?_) rfl (by kernel_rfl) (by kernel_rfl) (by kernel_rfl) (fun _ _ _ h=>h) (Or.inl ⟨by rfl,?_⟩) (by assumption) ?_
  rotate_left 1
  ·intro wy hSw
   unfold HSn at hSw
   go_simp
   try with_reducible rfl
  try simp only[Act.put]
  refine wpAnyH_take (i:=3) (v:=?_) rfl (by kernel_rfl) (by kernel_rfl) (by kernel_rfl) (fun _ _ _ h=>h) (Or.inl ⟨by rfl,?_⟩) (by assumption) ?_
  rotate_left 1
  ·intro wy hSw
   unfold HSn at hSw
   go_simp
   try with_reducible rfl
  try simp only[Act.put]
  refine wpAnyH_take (i:=4) (v:=?_) rfl (by kernel_rfl) (by kernel_rfl) (by kernel_rfl) (fun _ _ _ h=>h) (Or.inl ⟨by rfl,?_⟩) (by assumption) ?_
  rotate_left 1
  ·intro wy hSw
   unfold HSn at hSw
   go_simp
   try with_reducible rfl
  try simp only[Act.put]
  refine wpAnyH_take (i:=5) (v:=?_) rfl (by kernel_rfl) (by kernel_rfl) (by kernel_rfl) (fun _ _ _ h=>h) (Or.inl ⟨by rfl,?_⟩) (by assumption) ?_
  rotate_left 1
  ·intro wy hSw
   unfold HSn at hSw
   go_simp
   try with_reducible rfl
  try simp only[Act.put]
  refine wpAnyH_take (i:=6) (v:=?_) rfl (by kernel_rfl) (by kernel_rfl) (by kernel_rfl) (fun _ _ _ h=>h) (Or.inl ⟨by rfl,?_⟩) (by assumption) ?_
  rotate_left 1
  ·intro wy hSw
   unfold HSn at hSw
   go_simp
   try with_reducible rfl
  try simp only[Act.put]
  refine wpAnyH_take (i:=7) (v:=?_) rfl (by kernel_rfl) (by kernel_rfl) (by kernel_rfl) (fun _ _ _ h=>h) (Or.inl ⟨by rfl,?_⟩) (by assumption) ?_
  rotate_left 1
  ·intro wy hSw
   unfold HSn at hSw
   go_simp
   try with_reducible rfl
  try simp only[Act.put]
  refine wpAnyH_ready (rs:=[1]) (by kernel_rfl) (by simp) ?_
  refine AllReadyH.cons rfl (fun K hK=>?_) AllReadyH.nil
  go_simp
  refine (uh HCM).mono ?_
  rintro e w3 ⟨g3,rfl,b3,hg3,q0,q2,q4,q6,q8,q10⟩
  have HW3:=hide ((uh HD2).up b3)
  have HJ3:=hide (uh HJ w3 (uh HW3))
  clear HCM b3 hg3
  refine hK.out _ _ (show HSn p _ _ from uh HSN w3 (uh HW3).bel) (fun hHeld=>?_)
  clear hK K
  try simp only[Act.put]
  refine wpAnyH_take (i:=8) (v:=?_) rfl (by kernel_rfl) (by kernel_rfl) (by kernel_rfl) (fun _ _ _ h=>h) (Or.inl ⟨by rfl,?_⟩) (by assumption) ?_
  rotate_left 1
  ·intro wy hSw
   unfold HSn at hSw
   go_simp
   try with_reducible rfl
  try simp only[Act.put]
  refine wpAnyH_take (i:=9) (v:=?_) rfl (by kernel_rfl) (by kernel_rfl) (by kernel_rfl) (fun _ _ _ h=>h) (Or.inl ⟨by rfl,?_⟩) (by assumption) ?_
  rotate_left 1
  ·intro wy hSw
   unfold HSn at hSw
   go_simp
   try with_reducible rfl
  try simp only[Act.put]
  refine wpAnyH_ready (rs:=[10]) (by kernel_rfl) (by simp) ?_
  refine AllReadyH.cons rfl (fun K hK=>?_) AllReadyH.nil
  go_simp
  refine hK.out _ _ (show HSn p _ _ from uh HSN w3 (uh HW3).bel) (fun hHeld=>?_)
  clear hK K
  try simp only[Act.put]
  refine wpAnyH_ready (rs:=[11]) (by kernel_rfl) (by simp) ?_
  refine AllReadyH.cons rfl (fun K hK=>?_) AllReadyH.nil
  go_simp
  refine (uh HJ3).mono ?_
  rintro e w4 ⟨rfl,h4⟩
  have HW4:=hide h4
  clear HJ3 h4
  refine hK.out _ _ (show HSn p _ _ from uh HSN w4 (uh HW4).bel) (fun hHeld=>?_)
  clear hK K
  try simp only[Act.put]
  refine wpAnyH_done (by kernel_rfl) ?_ _
  obtain⟨-,-,v5,-,vg⟩:=uh HC w4 (uh HW4).bel
  have HB2:=hide (uh HBB w4 (uh HW4))
  clear HBB HC q0 q2 q4 q6 q8 q10 HJ HSN HW3 hHeld zq0 zq1 zq2 zq3 zq4 zq5
  go_wp2_with fail
  refine (uh HB2).mono ?_
  rintro e w5 ⟨rfl,h5⟩
  have HW:=hide h5
  clear HB2 h5
  go_wp2
  go_end0
  exact⟨rfl,by rw[uh HV]; exact uh HW⟩
theorem LRow.get {α:Type} {e:KE α} {w:World} {S:Nat→Prop} {v:Value} {xs:List α} (h:LRow e w S v xs) (h0:0 < xs.length) : ∃ g cap,v = .slice (some ⟨g,0,none⟩) xs.length cap∧S g:=by
 obtain⟨a,cap,g,vss,hv,ha,-,-⟩:=h
 obtain⟨rfl,hg⟩:=ha h0
 exact⟨g,cap,hv,hg⟩
theorem szFops_mem {l:List PFOp} {o:PFOp} (h:o∈l) : szFop o≤szFops l:=by
 have h1:=sum_mem szFop h
 have e:szFops l=l.length+(l.map szFop).sum:=rfl
 omega
theorem condK_part {m:Nat} {w:World} {S:Nat→Prop} {g n cap:Nat} {xs:List CT} (h:LRow (condK m) w S (.slice (some ⟨g,0,none⟩) n cap) xs) {j:Nat} {x:CT} (hx:xs[j]?=some x) : ∃ v,(condK m).R w S [v] x∧w.cell? ⟨g,j,none⟩=some v:=by
 obtain⟨vs,hR,hc⟩:=h.at hx
 obtain⟨b,st,pa,rfl,-⟩:=condK_cells hR
 refine⟨_,hR,?_⟩
 have:=hc 0 _ rfl
 rwa [condK_wd,Nat.mul_one,Nat.add_zero] at this
theorem cmp_n {o:PFOp} (hf:fopOk o=true) (hk:o.k=9) : 1≤o.n∧o.n≤6:=by
 unfold fopOk at hf
 simp only[Bool.and_eq_true,decide_eq_true_eq] at hf
 have h:=hf.1.2
 unfold numOk at h
 rw[hk] at h
 simpa using h
theorem wcond {B b:Nat} {w:World} {S:Nat→Prop} (hP:PwB B w) (hS:∀ x,S x→x < w.heap.size→x < B) {c:CT} (h:GC c) : ∀ (n:Nat) (v:Value),(condK n).R w S [v] c→szFops c.fl≤1048576→WCo B b v c.txt w:=by
 induction h with
 | @leaf o hf hp0=>
  intro n v hR hs l w1 h1 hl
  cases n with
  | zero=>exact hR.elim
  | succ n=>
   obtain⟨p,st,pa,bl,e,hSp,hb,ho,hbl,-⟩:=hR
   injection e with e _
   subst e
   have hpB:=hS p hSp (Array.getElem?_eq_some_iff.1 hb).1
   have hblB:∀ x∈bl,x < B:=fun x hx=>hS x (hbl x hx) (ho.lt x hx)
   have h2:szFop o≤1048576:=Nat.le_trans (szFops_mem (by unfold CT.fl; simp)) hs
   have e2:szFop o=o.s.size+szSteps o.steps:=rfl
   have ht:(CT.mk o []).txt=leafT o:=by unfold CT.txt; rfl
   rw[ht] at hl ⊢
   exact (wleaf o p st pa bl B b l w1 hf hp0 ((h1.bel.block p hpB).trans hb) hpB (ho.keep fun x hx=>h1.bel.block x (hblB x hx)) hblB (by omega) (by omega) (hP.keep h1.bel) h1.self (by omega)).mono fun e w' hh=>⟨hh.1,h1.next hh.2⟩
 | @not o a hf hk _ ht ih=>
  intro n v hR hs
  cases n with
  | zero=>exact hR.elim
  | succ n=>
   obtain⟨p,st,pa,bl,e,hSp,hb,ho,hbl,hps⟩:=hR
   injection e with e _
   subst e
   have hpB:=hS p hSp (Array.getElem?_eq_some_iff.1 hb).1
   obtain⟨g,cap,rfl,hSg⟩:=hps.get (show 0 < (CT.mk o [a]).ps.length by simp[CT.ps])
   obtain⟨va,hRa,hca⟩:=condK_part hps (j:=0) (x:=a) rfl
   have hgB:=hS g hSg (World.block_lt_of_cell? _ _ hca)
   have e1:(CT.mk o [a]).fl=a.fl++[o]:=by rw[CT.fl]
   have e2:(CT.mk o [a]).txt=33 :: a.txt:=by rw[CT.txt]
   rw[e1,szFops_app] at hs
   rw[e2]
   have e3:(CT.mk o [a]).op=o:=rfl
   rw[e3,hk] at hb
   exact wnot p g cap _ _ _ _ va a.txt B b w hb hpB hgB hca (ih n va hRa (by omega))
 | @cmp o a b' hf hk _ _ ha hb' ia ib=>
  intro n v hR hs
  cases n with
  | zero=>exact hR.elim
  | succ n=>
   obtain⟨p,st,pa,bl,e,hSp,hb,ho,hbl,hps⟩:=hR
   injection e with e _
   subst e
   have hpB:=hS p hSp (Array.getElem?_eq_some_iff.1 hb).1
   obtain⟨g,cap,rfl,hSg⟩:=hps.get (show 0 < (CT.mk o [a,b']).ps.length by simp[CT.ps])
   obtain⟨va,hRa,hca⟩:=condK_part hps (j:=0) (x:=a) rfl
   obtain⟨vb,hRb,hcb⟩:=condK_part hps (j:=1) (x:=b') rfl
   have hgB:=hS g hSg (World.block_lt_of_cell? _ _ hca)
   have e1:(CT.mk o [a,b']).fl=a.fl++(b'.fl++[o]):=by rw[CT.fl]
   have e2:(CT.mk o [a,b']).txt=a.txt++(signT o.n++b'.txt):=by rw[CT.txt,if_pos hk]
   rw[e1,szFops_app,szFops_app] at hs
   rw[e2]
   have e3:(CT.mk o [a,b']).op=o:=rfl
   rw[e3,hk] at hb
   exact wcmp o.n (cmp_n hf hk) p g cap _ _ _ va vb a.txt b'.txt B b w hb hpB hgB hca hcb (ia n va hRa (by omega)) (ib n vb hRb (by omega))
 | @two o a b' hf hk _ _ ha hb' ia ib=>
  intro n v hR hs
  cases n with
  | zero=>exact hR.elim
  | succ n=>
   obtain⟨p,st,pa,bl,e,hSp,hb,ho,hbl,hps⟩:=hR
   injection e with e _
   subst e
   have hpB:=hS p hSp (Array.getElem?_eq_some_iff.1 hb).1
   obtain⟨g,cap,rfl,hSg⟩:=hps.get (show 0 < (CT.mk o [a,b']).ps.length by simp[CT.ps])
   obtain⟨va,hRa,hca⟩:=condK_part hps (j:=0) (x:=a) rfl
   obtain⟨vb,hRb,hcb⟩:=condK_part hps (j:=1) (x:=b') rfl
   have hgB:=hS g hSg (World.block_lt_of_cell? _ _ hca)
   have e1:(CT.mk o [a,b']).fl=a.fl++(b'.fl++[o]):=by rw[CT.fl]
   have e2:(CT.mk o [a,b']).txt=40 :: (a.txt++(jointT o.k++(b'.txt++[41]))):=by rw[CT.txt,if_neg (by rcases hk with hk | hk <;> rw[hk] <;> decide)]
   rw[e1,szFops_app,szFops_app] at hs
   rw[e2]
   exact wtwo o.k hk p g cap _ _ _ _ va vb a.txt b'.txt B b w hb hpB hgB hca hcb (ia n va hRa (by omega)) (ib n vb hRb (by omega))
theorem wsel (o:PSel) (x:Option Addr) (y z:Nat) (pp:Option Addr) {B b:Nat} {w:World} {S:Nat→Prop} (hP:PwB B w) (hS:∀ x,S x→x < w.heap.size→x < B) (ho:selOk o=true) (hs:szSel o≤1048576) (hc:o.k=5→∀ c,condR o.cond=some c→∃ n,(condK n).R w S [.pointer pp] c) (l:List UInt8) (w1:World) (h1:WB B b l w w1) (hl:l.length+(selT o).length≤640000000) :
  Calls Tryz.prog 36 #[.agg #[.int .i64 o.k,.string o.name,.bool o.hasA,.bool o.hasB,.bool o.hasC,.int .i64 o.a,.int .i64 o.b,.int .i64 o.c,.slice x y z,.pointer pp],.pointer (some ⟨b,0,none⟩)] w1 fun e w'=>e = .returned (.tuple #[])∧WB B b (l++selT o) w w':=by
 obtain⟨hk,ra,rb,rc,h5⟩:=sel_parts ho
 have hsz:o.name.size+szFops o.cond≤1048576:=hs
 have HNB:Hid (w1.heap.size≠b):=fun e=>by have:=h1.ne; omega
 have HWA:Hid (WB B b l w (w1.alloc (Obj.cells #[.int .i64 o.k,.string o.name,.bool o.hasA,.bool o.hasB,.bool o.hasC,.int .i64 o.a,.int .i64 o.b,.int .i64 o.c,.slice x y z,.pointer pp] 86 (0,0)))):=h1.up (alloc_b _ _)
 have HQ:=hide (wq B b l o.name w _ (uh HWA) (by omega) (by omega))
 have H42:=hide (wb B b l 42 42 rfl w _ (uh HWA) (by omega))
 have HI:=hide (wi o.a B b l w _ (uh HWA) ra hP)
 have HIS:Hid (∀ w3,WB B b l w w3→Calls Tryz.prog 35 #[.pointer (some ⟨b,0,none⟩),.string (strOf (sdec o.a))] w3 fun e w'=>e = .returned (.tuple #[.int .i64 (strOf (sdec o.a)).size,.nilIface])∧WB B b (l++sdec o.a) w w'):=fun w3 h3=>ws B b l _ _ (strOf_toList _).symm w w3 h3 (by omega) (by rw[strOf_size]; have:=sdec_len ra; omega)
 have HSL:Hid (Calls Tryz.prog 58 #[.agg #[.int .i64 o.k,.string o.name,.bool o.hasA,.bool o.hasB,.bool o.hasC,.int .i64 o.a,.int .i64 o.b,.int .i64 o.c,.slice x y z,.pointer pp],.pointer (some ⟨b,0,none⟩)] (w1.alloc (Obj.cells #[.int .i64 o.k,.string o.name,.bool o.hasA,.bool o.hasB,.bool o.hasC,.int .i64 o.a,.int .i64 o.b,.int .i64 o.c,.slice x y z,.pointer pp] 86 (0,0))) fun e w'=>e = .returned (.tuple #[])∧WB B b (l++sliceT o) w w'):=(wsl o x y z pp B b l _ ra rb rc (hP.keep (uh HWA).bel) (uh HWA).self (by omega)).mono fun e w' hh=>⟨hh.1,(uh HWA).next hh.2⟩
 have H63:=hide (wb B b l 63 63 rfl w _ (uh HWA) (by omega))
 have HCO:Hid (o.k=5→∀ w2,WB B b (l++[63]) w w2→Calls Tryz.prog 59 #[.pointer pp,.pointer (some ⟨b,0,none⟩)] w2 fun e w'=>e = .returned (.tuple #[])∧WB B b ((l++[63])++cdT o.cond) w w'):=fun hk5 w2 h2=>by
  obtain⟨c,hcr,hg,hf,ht,-⟩:=cond_tree (h5 hk5)
  obtain⟨n,hn⟩:=hc hk5 c hcr
  rw[ht]
  refine wcond hP hS hg n _ hn (by rw[hf]; omega) _ w2 h2 ?_
  have e1:selT o=63 :: cdT o.cond:=by unfold selT; rw[hk5]; rfl
  rw[e1,ht,List.length_cons] at hl
  rw[List.length_append]; simp; omega
 have HB9:Hid (∀ m w2,WB B b m (w1.alloc (Obj.cells #[.int .i64 o.k,.string o.name,.bool o.hasA,.bool o.hasB,.bool o.hasC,.int .i64 o.a,.int .i64 o.b,.int .i64 o.c,.slice x y z,.pointer pp] 86 (0,0))) w2→w2.cell? ⟨w1.heap.size,9,none⟩=some (.pointer pp)):=fun m w2 h2=>Lib.cell_of_heap (h2.at (heap_alloc_new w1 _) (by decide) (uh HNB)) 9
 have H63b:=hide (wb B b l 63 63 rfl _ _ (uh HWA).self (by omega))
 have HT:Hid (selT o=if o.k=1 then quo o.name else if o.k=2 then [42] else if o.k=3 then sdec o.a else if o.k=5 then 63 :: cdT o.cond else sliceT o):=rfl
 generalize selT o=ST at *
 generalize sliceT o=SL at *
 obtain⟨k,name,hA,hB,hC,a,b',c,cond⟩:=o
 simp only at *
 have HN:Hid (∀ w2 m,WB B b m (w1.alloc (Obj.cells #[.int .i64 k,.string name,.bool hA,.bool hB,.bool hC,.int .i64 a,.int .i64 b',.int .i64 c,.slice x y z,.pointer pp] 86 (0,0))) w2→WB B b m w w2):=fun w2 m h=>(uh HWA).next h
 clear h1 hl hP hS ho hs hc ra rb rc h5 hsz HWA HNB
 generalize strOf (sdec a)=SA at *
 generalize cdT cond=CD at *
 rcases (show k=1∨k=2∨k=3∨k=4∨k=5 by omega) with rfl | rfl | rfl | rfl | rfl
 ·have HV:Hid (ST=quo name):=by show _=_; rw[uh HT]; rfl
  clear hk H42 HI HIS HSL H63 HCO HB9 H63b HT HN
  go_enter Tryz.func36,Tryz.ntmps36
  go_wp2_with fail
  refine (uh HQ).mono ?_
  rintro e w2 ⟨rfl,h2⟩
  have HW:=hide h2
  clear HQ h2
  go_wp2
  go_end0
  exact⟨rfl,by rw[uh HV]; exact uh HW⟩
 ·have HV:Hid (ST=[42]):=by show _=_; rw[uh HT]; rfl
  clear hk HQ HI HIS HSL H63 HCO HB9 H63b HT HN
  go_enter Tryz.func36,Tryz.ntmps36
  go_wp2_with fail
  refine (uh H42).mono ?_
  rintro e w2 ⟨rfl,h2⟩
  have HW:=hide h2
  clear H42 h2
  go_wp2
  go_end0
  exact⟨rfl,by rw[uh HV]; exact uh HW⟩
 ·have HV:Hid (ST=sdec a):=by show _=_; rw[uh HT]; rfl
  clear hk HQ H42 HSL H63 HCO HB9 H63b HT HN
  go_enter Tryz.func36,Tryz.ntmps36
  go_wp2_with fail
  refine (uh HI).mono ?_
  rintro e w2 ⟨rfl,h2⟩
  have HI2:=hide (uh HIS w2 h2)
  clear HI HIS h2
  go_wp2_with fail
  refine (uh HI2).mono ?_
  rintro e w3 ⟨rfl,h3⟩
  have HW:=hide h3
  clear HI2 h3
  go_wp2
  go_end0
  exact⟨rfl,by rw[uh HV]; exact uh HW⟩
 ·have HV:Hid (ST=SL):=by show _=_; rw[uh HT]; rfl
  clear hk HQ H42 HI HIS H63 HCO HB9 H63b HT HN
  go_enter Tryz.func36,Tryz.ntmps36
  go_wp2_with fail
  refine (uh HSL).mono ?_
  rintro e w2 ⟨rfl,h2⟩
  have HW:=hide h2
  clear HSL h2
  go_wp2
  go_end0
  exact⟨rfl,by rw[uh HV]; exact uh HW⟩
 ·have HV:Hid (l++ST=(l++[63])++CD):=by show _=_; rw[uh HT]; simp
  have HC5:=hide (uh HCO rfl)
  clear hk HQ H42 HI HIS HSL H63 HCO HT
  go_enter Tryz.func36,Tryz.ntmps36
  go_wp2_with fail
  refine (uh H63b).mono ?_
  rintro e w2 ⟨rfl,h2⟩
  have d9:=uh HB9 _ w2 h2
  have HC6:=hide (uh HC5 w2 (uh HN w2 _ h2))
  clear H63b HC5 HN HB9 h2
  go_wp2_with fail
  refine (uh HC6).mono ?_
  rintro e w3 ⟨rfl,h3⟩
  have HW:=hide h3
  clear HC6 h3
  go_wp2
  go_end0
  exact⟨rfl,by rw[uh HV]; exact uh HW⟩
def selsX (l:List PSel) (k:Nat) : List UInt8:=if k=0 then [91] else selsU l k
theorem selsX_one {l:List PSel} (h:0 < l.length) : selsX l (0+1)=selsX l 0++selT l[0]:=by
 unfold selsX; rw[if_neg (by omega),if_pos rfl,selsU_next h]; rfl
theorem selsX_next {l:List PSel} {k:Nat} (h:k < l.length) (hk:k≠0) : selsX l (k+1)=(selsX l k++[44])++selT l[k]:=by
 unfold selsX; rw[if_neg (by omega),if_neg hk,selsU_next h,if_neg hk]; simp
theorem selsX_le {l:List PSel} {k:Nat} (h:l.all selOk=true) (hk:k≤l.length) : (selsX l k).length≤1+36*szSels l:=by
 unfold selsX
 split
 ·simp
 ·have:=selsU_le h hk; omega
def SelW (B b:Nat) (g j:Nat) (o:PSel) (w:World) (cs:List Value) : Prop:=(∀ w',Below B w w'→∀ (m:Nat) (u:Value),cs[m]?=some u→w'.cell? ⟨g,j*10+m,none⟩=some u) ∧
 ∀ (l:List UInt8) (w1:World),WB B b l w w1→l.length+(selT o).length≤640000000→Calls Tryz.prog 36 #[.agg cs.toArray,.pointer (some ⟨b,0,none⟩)] w1 fun e w'=>e = .returned (.tuple #[])∧WB B b (l++selT o) w w'
theorem selW {B b g n cap:Nat} {w:World} {S:Nat→Prop} {sels:List PSel} (hP:PwB B w) (hS:∀ x,S x→x < w.heap.size→x < B) (h:LRow selK w S (.slice (some ⟨g,0,none⟩) n cap) sels) (hgB:g < B) (hok:sels.all selOk=true) (hs:szSels sels≤1048576) {j:Nat} (hj:j < sels.length) :
  ∃ (k:Int) (nm:ByteArray) (hA hB hC:Bool) (a b' c:Int) (x:Option Addr) (y z:Nat) (pp:Option Addr),SelW B b g j sels[j] w [.int .i64 k,.string nm,.bool hA,.bool hB,.bool hC,.int .i64 a,.int .i64 b',.int .i64 c,.slice x y z,.pointer pp]:=by
 obtain⟨vs,hR,hc⟩:=h.at (List.getElem?_eq_getElem hj)
 obtain⟨x,y,z,pp,rfl,h5⟩:=hR
 refine⟨_,_,_,_,_,_,_,_,x,y,z,pp,⟨fun w' hb m u hu=>(World.cell?_of_block (a:=⟨g,j*10+m,none⟩) (hb.block g hgB)).trans (hc m u hu),fun l w1 h1 hl=>?_⟩⟩
 exact wsel sels[j] x y z pp hP hS (List.all_eq_true.1 hok _ (List.getElem_mem hj)) (sz_sel hs (List.getElem_mem hj)) h5 l w1 h1 hl
theorem wseg (gs:PSeg) (ra:Option Addr) (rn rc:Nat) {B b:Nat} {w:World} {S:Nat→Prop} (hP:PwB B w) (hS:∀ x,S x→x < w.heap.size→x < B) (ho:segOk gs=true) (hs:szSels gs.sels≤1048576) (h:LRow selK w S (.slice ra rn rc) gs.sels) (l:List UInt8) (w1:World) (h1:WB B b l w w1) (hl:l.length≤400000000) :
  Calls Tryz.prog 18 #[.agg #[.bool gs.deep,.slice ra rn rc],.pointer (some ⟨b,0,none⟩)] w1 fun e w'=>e = .returned (.tuple #[])∧WB B b (l++segX gs) w w':=by
 unfold segOk at ho
 simp only[Bool.and_eq_true,decide_eq_true_eq] at ho
 obtain⟨⟨hn1,hn2⟩,hall⟩:=ho
 obtain⟨g,cap,hv,hSg⟩:=h.get (by omega)
 injection hv with hv1 hv2 hv3
 subst hv1; subst hv2; subst hv3
 have hgB:g < B:=by
  obtain⟨vs,hR,hc⟩:=h.at (List.getElem?_eq_getElem (show 0 < gs.sels.length by omega))
  obtain⟨x,y,z,pp,rfl,-⟩:=hR
  exact hS g hSg (World.block_lt_of_cell? _ _ (hc 0 _ rfl))
 have HSW:Hid (∀ j (hj:j < gs.sels.length),∃ (k:Int) (nm:ByteArray) (hA hB hC:Bool) (a b' c:Int) (x:Option Addr) (y z:Nat) (pp:Option Addr),SelW B b g j gs.sels[j] w [.int .i64 k,.string nm,.bool hA,.bool hB,.bool hC,.int .i64 a,.int .i64 b',.int .i64 c,.slice x y z,.pointer pp]):=fun j hj=>selW hP hS h hgB hall hs hj
 have HLE:Hid (∀ j,j≤gs.sels.length→(l++deepT gs++selsX gs.sels j).length≤500000000):=fun j hj=>by
  have:=selsX_le hall hj
  have h2:(deepT gs).length≤2:=by unfold deepT; split <;> simp
  rw[List.length_append,List.length_append]; omega
 have HTL:Hid (∀ j (hj:j < gs.sels.length),(selT gs.sels[j]).length≤16000000):=fun j hj=>by
  have h3:=selT_len (List.all_eq_true.1 hall _ (List.getElem_mem hj))
  have h4:=sz_sel hs (List.getElem_mem hj)
  omega
 have HN1:Hid (∀ j (hj:j < gs.sels.length),j=0→l++deepT gs++selsX gs.sels (j+1)=(l++deepT gs++selsX gs.sels j)++selT gs.sels[j]):=fun j hj h0=>by subst h0; rw[selsX_one hj]; simp
 have HNX:Hid (∀ j (hj:j < gs.sels.length),j≠0→l++deepT gs++selsX gs.sels (j+1)=((l++deepT gs++selsX gs.sels j)++[44])++selT gs.sels[j]):=fun j hj h0=>by rw[selsX_next hj h0]; simp
 have HFIN:Hid (l++segX gs=(l++deepT gs++selsX gs.sels gs.sels.length)++[93]):=by
  show _=_
  unfold segX selsX
  rw[if_neg (by omega)]; simp
 have H0:Hid (l++deepT gs++selsX gs.sels 0=(l++deepT gs)++[91]):=by show _=_; unfold selsX; rw[if_pos rfl]
 have HNB:Hid (w1.heap.size≠b):=fun e=>by have:=h1.ne; omega
 obtain⟨CEL,hCEL⟩ : ∃ CEL:Obj,CEL=Obj.cells #[.bool gs.deep,.slice (some ⟨g,0,none⟩) gs.sels.length rc] 57 (0,0):=⟨_,rfl⟩
 have HWA:Hid (WB B b l w (w1.alloc CEL)):=h1.up (alloc_b _ _)
 have HC1:Hid (∀ m w2,WB B b m (w1.alloc CEL) w2→w2.cell? ⟨w1.heap.size,1,none⟩=some (.slice (some ⟨g,0,none⟩) gs.sels.length rc)):=fun m w2 h2=>by
  rw[hCEL] at h2
  exact Lib.cell_of_heap (h2.at (heap_alloc_new w1 _) (by decide) (uh HNB)) 1
 have HWS:=hide (uh HWA).self
 have HUP:Hid (∀ m w2,WB B b m (w1.alloc CEL) w2→WB B b m w w2):=fun m w2 h2=>(uh HWA).next h2
 have HDD:=hide (ws B b l [46,46] ⟨#[46,46]⟩ rfl _ _ (uh HWS) (by omega) (by decide))
 have HDE:Hid (gs.deep=true→deepT gs=[46,46]):=fun e=>by unfold deepT; rw[if_pos e]
 have HDN:Hid (gs.deep=false→deepT gs=[]):=fun e=>by unfold deepT; rw[if_neg (by rw[e]; simp)]
 have H91:Hid (∀ m w2,m.length≤500000000→WB B b m (w1.alloc CEL) w2→Calls Tryz.prog 17 #[.pointer (some ⟨b,0,none⟩),.int .u8 91] w2 fun e w'=>e = .returned .nilIface∧WB B b (m++[91]) (w1.alloc CEL) w'):=fun m w2 hm h2=>wb B b m 91 91 rfl _ w2 h2 (by omega)
 have hlI:(gs.sels.length:Int)≤1000:=by omega
 obtain⟨deep,sels⟩:=gs
 simp only at *
 generalize segX ⟨deep,sels⟩=SX at *
 generalize hDT:deepT ⟨deep,sels⟩=DT at *
 have HLD:Hid ((l++DT).length≤500000000):=by
  have:=uh HLE 0 (by omega)
  rw[List.length_append] at this
  show _≤_; omega
 clear h hall hS hP h1 hs hSg hgB hn2 HWA hDT
 cases deep with
 | true=>
  have HD:=uh HDE rfl
  subst HD
  clear HDE HDN
  subst hCEL
  go_enter Tryz.func18,Tryz.ntmps18
  go_wp2_with fail
  refine (uh HDD).mono ?_
  rintro e w2 ⟨rfl,h2⟩
  have H3:=hide (uh H91 _ w2 (uh HLD) h2)
  clear HDD H91 h2
  go_wp2_with fail
  refine (uh H3).mono ?_
  rintro e w3 ⟨rfl,h3⟩
  have d1:=uh HC1 _ w3 h3
  have HW3:Hid (WB B b (l++[46,46]++selsX sels 0) w w3):=by show WB _ _ _ _ _; rw[uh H0]; exact uh HUP _ _ h3
  clear H3 h3 HC1 HUP H0 HWS HLD
  go_wp2
  go_loopw [15] (fun iv wr=>∃ j:Nat,j≤sels.length∧iv = .int .i64 (j:Int)∧Hid (WB B b (l++[46,46]++selsX sels j) w wr)) (fun i _=>sels.length - (intOf i).toNat)
  case atStart=>exact⟨0,Nat.zero_le _,rfl,uh HW3⟩
  case round=>
   obtain⟨j,hj,rfl,hW⟩:=hrel
   clear HW3
   by_cases hlt:j < sels.length
   ·have hltI:(j:Int) < (sels.length:Int):=by omega
    obtain⟨k,nm,hA,hB,hC,a,b',c,x,y,z,pp,hcl,hwr⟩:=uh HSW j hlt
    have hbw:=(uh hW).bel
    have e0:wr.cell? ⟨g,j*10,none⟩=some (.int .i64 k):=hcl wr hbw 0 _ rfl
    have e1:wr.cell? ⟨g,j*10+1,none⟩=some (.string nm):=hcl wr hbw 1 _ rfl
    have e2:wr.cell? ⟨g,j*10+2,none⟩=some (.bool hA):=hcl wr hbw 2 _ rfl
    have e3:wr.cell? ⟨g,j*10+3,none⟩=some (.bool hB):=hcl wr hbw 3 _ rfl
    have e4:wr.cell? ⟨g,j*10+4,none⟩=some (.bool hC):=hcl wr hbw 4 _ rfl
    have e5:wr.cell? ⟨g,j*10+5,none⟩=some (.int .i64 a):=hcl wr hbw 5 _ rfl
    have e6:wr.cell? ⟨g,j*10+6,none⟩=some (.int .i64 b'):=hcl wr hbw 6 _ rfl
    have e7:wr.cell? ⟨g,j*10+7,none⟩=some (.int .i64 c):=hcl wr hbw 7 _ rfl
    have e8:wr.cell? ⟨g,j*10+8,none⟩=some (.slice x y z):=hcl wr hbw 8 _ rfl
    have e9:wr.cell? ⟨g,j*10+9,none⟩=some (.pointer pp):=hcl wr hbw 9 _ rfl
    have hUL:=uh HLE j hj
    have hTL:=uh HTL j hlt
    have HWA:Hid (WB B b (l++[46,46]++selsX sels j) w (wr.alloc (Obj.cells #[.int .i64 k,.string nm,.bool hA,.bool hB,.bool hC,.int .i64 a,.int .i64 b',.int .i64 c,.slice x y z,.pointer pp] 86 (0,0)))):=(uh hW).up (alloc_b _ _)
    have HNE:Hid (wr.heap.size≠b):=fun e=>by have:=(uh hW).ne; omega
    have HWR:=hide hwr
    clear hcl hwr hbw hW HSW HLE
    by_cases hj0:j=0
    ·have hz:(0 < j)=False:=eq_false (by omega)
     have HEQ:=hide (uh HN1 j hlt hj0)
     have HK:Hid (Calls Tryz.prog 36 #[.agg #[.int .i64 k,.string nm,.bool hA,.bool hB,.bool hC,.int .i64 a,.int .i64 b',.int .i64 c,.slice x y z,.pointer pp],.pointer (some ⟨b,0,none⟩)] (wr.alloc (Obj.cells #[.int .i64 k,.string nm,.bool hA,.bool hB,.bool hC,.int .i64 a,.int .i64 b',.int .i64 c,.slice x y z,.pointer pp] 86 (0,0))) fun e w'=>e = .returned (.tuple #[])∧WB B b (l++[46,46]++selsX sels (j+1)) w w'):=by
      show Calls _ _ _ _ _
      rw[uh HEQ]
      exact uh HWR _ _ (uh HWA) (by omega)
     clear hj0 HEQ HWR HWA HNE HN1 HNX hUL hTL HTL HFIN
     go_wp2_with fail
     refine (uh HK).mono ?_
     rintro e w4 ⟨rfl,h4⟩
     have HW4:=hide h4
     clear HK h4 e0 e1 e2 e3 e4 e5 e6 e7 e8 e9
     go_wp2
     go_roundw
     case rel=>exact⟨j+1,by omega,by go_num,HW4⟩
     case measure=>simp[intOf]; omega
    ·have hz:(0 < j)=True:=eq_true (by omega)
     have HEQ:=hide (uh HNX j hlt hj0)
     have H44:=hide (wb B b (l++[46,46]++selsX sels j) 44 44 rfl _ _ (uh HWA).self (by omega))
     have HK:Hid (∀ w4,WB B b ((l++[46,46]++selsX sels j)++[44]) (wr.alloc (Obj.cells #[.int .i64 k,.string nm,.bool hA,.bool hB,.bool hC,.int .i64 a,.int .i64 b',.int .i64 c,.slice x y z,.pointer pp] 86 (0,0))) w4→w4.heap[wr.heap.size]?=some (Obj.cells #[.int .i64 k,.string nm,.bool hA,.bool hB,.bool hC,.int .i64 a,.int .i64 b',.int .i64 c,.slice x y z,.pointer pp] 86 (0,0))∧Calls Tryz.prog 36 #[.agg #[.int .i64 k,.string nm,.bool hA,.bool hB,.bool hC,.int .i64 a,.int .i64 b',.int .i64 c,.slice x y z,.pointer pp],.pointer (some ⟨b,0,none⟩)] w4 fun e w'=>e = .returned (.tuple #[])∧WB B b (l++[46,46]++selsX sels (j+1)) w w'):=fun w4 h4=>by
      refine⟨h4.at (heap_alloc_new wr _) (by decide) (uh HNE),?_⟩
      rw[uh HEQ]
      exact uh HWR _ w4 ((uh HWA).next h4) (by rw[List.length_append]; simp only[List.length_cons,List.length_nil]; omega)
     clear hj0 HEQ HWR HWA HNE HN1 HNX hUL hTL HTL HFIN
     go_wp2_with fail
     refine (uh H44).mono ?_
     rintro e w4 ⟨rfl,h4⟩
     obtain⟨hh,hk⟩:=uh HK w4 h4
     have f0:w4.cell? ⟨wr.heap.size,0,none⟩=some (.int .i64 k):=Lib.cell_of_heap hh 0
     have f1:w4.cell? ⟨wr.heap.size,1,none⟩=some (.string nm):=Lib.cell_of_heap hh 1
     have f2:w4.cell? ⟨wr.heap.size,2,none⟩=some (.bool hA):=Lib.cell_of_heap hh 2
     have f3:w4.cell? ⟨wr.heap.size,3,none⟩=some (.bool hB):=Lib.cell_of_heap hh 3
     have f4:w4.cell? ⟨wr.heap.size,4,none⟩=some (.bool hC):=Lib.cell_of_heap hh 4
     have f5:w4.cell? ⟨wr.heap.size,5,none⟩=some (.int .i64 a):=Lib.cell_of_heap hh 5
     have f6:w4.cell? ⟨wr.heap.size,6,none⟩=some (.int .i64 b'):=Lib.cell_of_heap hh 6
     have f7:w4.cell? ⟨wr.heap.size,7,none⟩=some (.int .i64 c):=Lib.cell_of_heap hh 7
     have f8:w4.cell? ⟨wr.heap.size,8,none⟩=some (.slice x y z):=Lib.cell_of_heap hh 8
     have f9:w4.cell? ⟨wr.heap.size,9,none⟩=some (.pointer pp):=Lib.cell_of_heap hh 9
     have HK2:=hide hk
     clear H44 HK h4 hk hh e0 e1 e2 e3 e4 e5 e6 e7 e8 e9
     go_wp2_with fail
     refine (uh HK2).mono ?_
     rintro e w5 ⟨rfl,h5⟩
     have HW5:=hide h5
     clear HK2 h5 f0 f1 f2 f3 f4 f5 f6 f7 f8 f9
     go_wp2
     go_roundw
     case rel=>exact⟨j+1,by omega,by go_num,HW5⟩
     case measure=>simp[intOf]; omega
   ·have hje:j=sels.length:=by omega
    subst hje
    have H93:=hide (wb B b _ 93 93 rfl _ _ (uh hW) (by have:=uh HLE _ (Nat.le_refl _); omega))
    clear hW HN1 HNX HLE HTL HSW
    go_wp2_with fail
    refine (uh H93).mono ?_
    rintro e w4 ⟨rfl,h4⟩
    have HW4:=hide h4
    clear H93 h4
    go_wp2
    go_end0
    exact⟨rfl,by rw[uh HFIN]; exact uh HW4⟩
 | false=>
  have HD:=uh HDN rfl
  subst HD
  clear HDE HDN HDD
  simp only[List.append_nil] at HLE HN1 HNX HFIN H0 HLD
  subst hCEL
  have H3:=hide (uh H91 _ _ (uh HLD) (uh HWS))
  clear H91
  go_enter Tryz.func18,Tryz.ntmps18
  go_wp2_with fail
  refine (uh H3).mono ?_
  rintro e w3 ⟨rfl,h3⟩
  have d1:=uh HC1 _ w3 h3
  have HW3:Hid (WB B b (l++selsX sels 0) w w3):=by show WB _ _ _ _ _; rw[uh H0]; exact uh HUP _ _ h3
  clear H3 h3 HC1 HUP H0 HWS HLD
  go_wp2
  go_loopw [15] (fun iv wr=>∃ j:Nat,j≤sels.length∧iv = .int .i64 (j:Int)∧Hid (WB B b (l++selsX sels j) w wr)) (fun i _=>sels.length - (intOf i).toNat)
  case atStart=>exact⟨0,Nat.zero_le _,rfl,uh HW3⟩
  case round=>
   obtain⟨j,hj,rfl,hW⟩:=hrel
   clear HW3
   by_cases hlt:j < sels.length
   ·have hltI:(j:Int) < (sels.length:Int):=by omega
    obtain⟨k,nm,hA,hB,hC,a,b',c,x,y,z,pp,hcl,hwr⟩:=uh HSW j hlt
    have hbw:=(uh hW).bel
    have e0:wr.cell? ⟨g,j*10,none⟩=some (.int .i64 k):=hcl wr hbw 0 _ rfl
    have e1:wr.cell? ⟨g,j*10+1,none⟩=some (.string nm):=hcl wr hbw 1 _ rfl
    have e2:wr.cell? ⟨g,j*10+2,none⟩=some (.bool hA):=hcl wr hbw 2 _ rfl
    have e3:wr.cell? ⟨g,j*10+3,none⟩=some (.bool hB):=hcl wr hbw 3 _ rfl
    have e4:wr.cell? ⟨g,j*10+4,none⟩=some (.bool hC):=hcl wr hbw 4 _ rfl
    have e5:wr.cell? ⟨g,j*10+5,none⟩=some (.int .i64 a):=hcl wr hbw 5 _ rfl
    have e6:wr.cell? ⟨g,j*10+6,none⟩=some (.int .i64 b'):=hcl wr hbw 6 _ rfl
    have e7:wr.cell? ⟨g,j*10+7,none⟩=some (.int .i64 c):=hcl wr hbw 7 _ rfl
    have e8:wr.cell? ⟨g,j*10+8,none⟩=some (.slice x y z):=hcl wr hbw 8 _ rfl
    have e9:wr.cell? ⟨g,j*10+9,none⟩=some (.pointer pp):=hcl wr hbw 9 _ rfl
    have hUL:=uh HLE j hj
    have hTL:=uh HTL j hlt
    have HWA:Hid (WB B b (l++selsX sels j) w (wr.alloc (Obj.cells #[.int .i64 k,.string nm,.bool hA,.bool hB,.bool hC,.int .i64 a,.int .i64 b',.int .i64 c,.slice x y z,.pointer pp] 86 (0,0)))):=(uh hW).up (alloc_b _ _)
    have HNE:Hid (wr.heap.size≠b):=fun e=>by have:=(uh hW).ne; omega
    have HWR:=hide hwr
    clear hcl hwr hbw hW HSW HLE
    by_cases hj0:j=0
    ·have hz:(0 < j)=False:=eq_false (by omega)
     have HEQ:=hide (uh HN1 j hlt hj0)
     have HK:Hid (Calls Tryz.prog 36 #[.agg #[.int .i64 k,.string nm,.bool hA,.bool hB,.bool hC,.int .i64 a,.int .i64 b',.int .i64 c,.slice x y z,.pointer pp],.pointer (some ⟨b,0,none⟩)] (wr.alloc (Obj.cells #[.int .i64 k,.string nm,.bool hA,.bool hB,.bool hC,.int .i64 a,.int .i64 b',.int .i64 c,.slice x y z,.pointer pp] 86 (0,0))) fun e w'=>e = .returned (.tuple #[])∧WB B b (l++selsX sels (j+1)) w w'):=by
      show Calls _ _ _ _ _
      rw[uh HEQ]
      exact uh HWR _ _ (uh HWA) (by omega)
     clear hj0 HEQ HWR HWA HNE HN1 HNX hUL hTL HTL HFIN
     go_wp2_with fail
     refine (uh HK).mono ?_
     rintro e w4 ⟨rfl,h4⟩
     have HW4:=hide h4
     clear HK h4 e0 e1 e2 e3 e4 e5 e6 e7 e8 e9
     go_wp2
     go_roundw
     case rel=>exact⟨j+1,by omega,by go_num,HW4⟩
     case measure=>simp[intOf]; omega
    ·have hz:(0 < j)=True:=eq_true (by omega)
     have HEQ:=hide (uh HNX j hlt hj0)
     have H44:=hide (wb B b (l++selsX sels j) 44 44 rfl _ _ (uh HWA).self (by omega))
     have HK:Hid (∀ w4,WB B b ((l++selsX sels j)++[44]) (wr.alloc (Obj.cells #[.int .i64 k,.string nm,.bool hA,.bool hB,.bool hC,.int .i64 a,.int .i64 b',.int .i64 c,.slice x y z,.pointer pp] 86 (0,0))) w4→w4.heap[wr.heap.size]?=some (Obj.cells #[.int .i64 k,.string nm,.bool hA,.bool hB,.bool hC,.int .i64 a,.int .i64 b',.int .i64 c,.slice x y z,.pointer pp] 86 (0,0))∧Calls Tryz.prog 36 #[.agg #[.int .i64 k,.string nm,.bool hA,.bool hB,.bool hC,.int .i64 a,.int .i64 b',.int .i64 c,.slice x y z,.pointer pp],.pointer (some ⟨b,0,none⟩)] w4 fun e w'=>e = .returned (.tuple #[])∧WB B b (l++selsX sels (j+1)) w w'):=fun w4 h4=>by
      refine⟨h4.at (heap_alloc_new wr _) (by decide) (uh HNE),?_⟩
      rw[uh HEQ]
      exact uh HWR _ w4 ((uh HWA).next h4) (by rw[List.length_append]; simp only[List.length_cons,List.length_nil]; omega)
     clear hj0 HEQ HWR HWA HNE HN1 HNX hUL hTL HTL HFIN
     go_wp2_with fail
     refine (uh H44).mono ?_
     rintro e w4 ⟨rfl,h4⟩
     obtain⟨hh,hk⟩:=uh HK w4 h4
     have f0:w4.cell? ⟨wr.heap.size,0,none⟩=some (.int .i64 k):=Lib.cell_of_heap hh 0
     have f1:w4.cell? ⟨wr.heap.size,1,none⟩=some (.string nm):=Lib.cell_of_heap hh 1
     have f2:w4.cell? ⟨wr.heap.size,2,none⟩=some (.bool hA):=Lib.cell_of_heap hh 2
     have f3:w4.cell? ⟨wr.heap.size,3,none⟩=some (.bool hB):=Lib.cell_of_heap hh 3
     have f4:w4.cell? ⟨wr.heap.size,4,none⟩=some (.bool hC):=Lib.cell_of_heap hh 4
     have f5:w4.cell? ⟨wr.heap.size,5,none⟩=some (.int .i64 a):=Lib.cell_of_heap hh 5
     have f6:w4.cell? ⟨wr.heap.size,6,none⟩=some (.int .i64 b'):=Lib.cell_of_heap hh 6
     have f7:w4.cell? ⟨wr.heap.size,7,none⟩=some (.int .i64 c):=Lib.cell_of_heap hh 7
     have f8:w4.cell? ⟨wr.heap.size,8,none⟩=some (.slice x y z):=Lib.cell_of_heap hh 8
     have f9:w4.cell? ⟨wr.heap.size,9,none⟩=some (.pointer pp):=Lib.cell_of_heap hh 9
     have HK2:=hide hk
     clear H44 HK h4 hk hh e0 e1 e2 e3 e4 e5 e6 e7 e8 e9
     go_wp2_with fail
     refine (uh HK2).mono ?_
     rintro e w5 ⟨rfl,h5⟩
     have HW5:=hide h5
     clear HK2 h5 f0 f1 f2 f3 f4 f5 f6 f7 f8 f9
     go_wp2
     go_roundw
     case rel=>exact⟨j+1,by omega,by go_num,HW5⟩
     case measure=>simp[intOf]; omega
   ·have hje:j=sels.length:=by omega
    subst hje
    have H93:=hide (wb B b _ 93 93 rfl _ _ (uh hW) (by have:=uh HLE _ (Nat.le_refl _); omega))
    clear hW HN1 HNX HLE HTL HSW
    go_wp2_with fail
    refine (uh H93).mono ?_
    rintro e w4 ⟨rfl,h4⟩
    have HW4:=hide h4
    clear H93 h4
    go_wp2
    go_end0
    exact⟨rfl,by rw[uh HFIN]; exact uh HW4⟩
def SegW (B b:Nat) (g j:Nat) (o:PSeg) (w:World) (x:Option Addr) (y z:Nat) : Prop:=(∀ w',Below B w w'→w'.cell? ⟨g,j*2,none⟩=some (.bool o.deep)∧w'.cell? ⟨g,j*2+1,none⟩=some (.slice x y z)) ∧
 ∀ (l:List UInt8) (w1:World),WB B b l w w1→l.length≤400000000→Calls Tryz.prog 18 #[.agg #[.bool o.deep,.slice x y z],.pointer (some ⟨b,0,none⟩)] w1 fun e w'=>e = .returned (.tuple #[])∧WB B b (l++segX o) w w'
theorem implPathText_walk (v:Value) (ms:List PSeg) (bl:List Nat) (w:World) (h:ORow segTl w v ms bl) (hs:szSegs ms≤1048576) (hP:PwB w.heap.size w) :
  Calls Tryz.prog 6 #[v] w fun e w'=>e = .returned (.tuple #[.string (ptV ms).1,.bool (ptV ms).2])∧Below w.heap.size w w':=by
 have HV:=hide (validSegs_walk v ms bl w h hs)
 have HLT:=hide h.lt
 obtain⟨xa,xc,rfl,-,-⟩:=h.form
 clear h
 cases hpo:pathOk ms with
 | false=>
  have HPT:Hid (ptV ms=(⟨#[]⟩,false)):=by show _=_; unfold ptV; rw[if_neg (by rw[hpo]; simp)]
  rw[hpo] at HV
  clear hpo
  go_enter Tryz.func6,Tryz.ntmps6
  go_wp2_with fail
  refine (uh HV).mono ?_
  rintro e w2 ⟨ra,rn,rc,rfl,b2,-⟩
  have HB:=hide b2
  clear b2 HV
  go_wp2
  go_ret2
  exact⟨by rw[uh HPT]; rfl,uh HB⟩
 | true=>
  have HPT:Hid (ptV ms=(strOf (pathU ms ms.length),true)):=by show _=_; unfold ptV; rw[if_pos hpo]
  rw[hpo] at HV
  have hpo2:=hpo
  unfold pathOk at hpo2
  simp only[Bool.and_eq_true,decide_eq_true_eq] at hpo2
  have hlI:(ms.length:Int)≤1000:=by omega
  have HALL:=hide hpo2.2
  have HU0:Hid (pathU ms 0=[36]):=rfl
  have HUN:Hid (∀ j (hj:j < ms.length),pathU ms (j+1)=pathU ms j++segX ms[j]):=fun j hj=>pathU_next hj
  have HUL:Hid (∀ j,(pathU ms j).length≤40000000):=fun j=>by
   have:=pathU_le (uh HALL) j
   omega
  have HPW:=hide hP
  clear hpo hpo2 hP
  go_enter Tryz.func6,Tryz.ntmps6
  go_wp2_with fail
  refine (uh HV).mono ?_
  rintro e w2 ⟨ra,rn,rc,rfl,b2,hL⟩
  have hw2:=b2.size
  -- the rows lie below the builder
  have HL0:Hid (LRow segK w2 (fun x=>x < w2.heap.size) (.slice ra rn rc) ms):=(hL rfl).move (.sub fun x _ hx=>hx)
  obtain⟨Z,hZ⟩ : ∃ Z:Obj,Z=Obj.cells #[.pointer none,.slice none 0 0] 51 (0,0):=⟨_,rfl⟩
  have HW0:Hid (WB w2.heap.size w2.heap.size [] (w2.alloc Z) (w2.alloc Z)):=by
   rw[hZ]
   exact⟨Lib.fresh_isBuilder _ _ w2,by simp,Below.refl _ _,Lib.OthersKept.refl _ _ _⟩
  have HBA:Hid (Below w2.heap.size w2 (w2.alloc Z)):=alloc_b _ _
  have HLA:Hid (LRow segK (w2.alloc Z) (fun x=>x < w2.heap.size) (.slice ra rn rc) ms):=(uh HL0).move (.below (uh HBA))
  have HPA:Hid (PwB w2.heap.size (w2.alloc Z)):=(((uh HPW).next b2 (Nat.le_refl _)).up hw2).keep (uh HBA)
  have hrn:rn=ms.length:=by
   obtain⟨a,c,e,-⟩:=(uh HL0).form
   injection e
  subst hrn
  have HSW:Hid (∀ j (hj:j < ms.length),∃ g x y z,ra=some ⟨g,0,none⟩∧SegW w2.heap.size w2.heap.size g j ms[j] (w2.alloc Z) x y z):=fun j hj=>by
   obtain⟨g,cap,e,hg⟩:=(uh HLA).get (by omega)
   injection e with e1 e2 e3
   subst e1; subst e3
   obtain⟨vs,hR,hc⟩:=(uh HLA).at (List.getElem?_eq_getElem hj)
   obtain⟨x,y,z,rfl,hrow⟩:=hR
   refine⟨g,x,y,z,rfl,⟨fun w' hb=>⟨(World.cell?_of_block (a:=⟨g,j*2,none⟩) (hb.block g hg)).trans (hc 0 _ rfl),(World.cell?_of_block (a:=⟨g,j*2+1,none⟩) (hb.block g hg)).trans (hc 1 _ rfl)⟩,fun l w1 h1 hl=>?_⟩⟩
   exact wseg ms[j] x y z (uh HPA) (fun x hx _=>hx) (List.all_eq_true.1 (uh HALL) _ (List.getElem_mem hj)) (sz_seg hs (List.getElem_mem hj)) hrow l w1 h1 hl
  have H36:=hide (wb w2.heap.size w2.heap.size [] 36 36 rfl _ _ (uh HW0) (by simp))
  have HBW:Hid (∀ w',Below w2.heap.size (w2.alloc Z) w'→Below w.heap.size w w'):=fun w' hb=>b2.trans (((uh HBA).trans hb).mono hw2)
  clear HV b2 hL HL0 HW0 HBA HLA HPA HPW hs HALL HLT hw2
  subst hZ
  go_wp2_with fail
  refine (uh H36).mono ?_
  rintro e w3 ⟨rfl,h3⟩
  have HW3:Hid (WB w2.heap.size w2.heap.size (pathU ms 0) (w2.alloc (Obj.cells #[.pointer none,.slice none 0 0] 51 (0,0))) w3):=h3
  clear H36 h3
  go_wp2
  go_loopw [19] (fun iv wr=>∃ j:Nat,j≤ms.length∧iv = .int .i64 (j:Int)∧Hid (WB w2.heap.size w2.heap.size (pathU ms j) (w2.alloc (Obj.cells #[.pointer none,.slice none 0 0] 51 (0,0))) wr)) (fun i _=>ms.length - (intOf i).toNat)
  case atStart=>exact⟨0,Nat.zero_le _,rfl,uh HW3⟩
  case round=>
   obtain⟨j,hj,rfl,hW⟩:=hrel
   clear HW3
   by_cases hlt:j < ms.length
   ·have hltI:(j:Int) < (ms.length:Int):=by omega
    obtain⟨g,x,y,z,rfl,hc,hwr⟩:=uh HSW j hlt
    obtain⟨e0,e1⟩:=hc wr (uh hW).bel
    have HK:Hid (Calls Tryz.prog 18 #[.agg #[.bool ms[j].deep,.slice x y z],.pointer (some ⟨w2.heap.size,0,none⟩)] (wr.alloc (Obj.cells #[.bool ms[j].deep,.slice x y z] 57 (0,0))) fun e w'=>e = .returned (.tuple #[])∧WB w2.heap.size w2.heap.size (pathU ms (j+1)) (w2.alloc (Obj.cells #[.pointer none,.slice none 0 0] 51 (0,0))) w'):=by
     show Calls _ _ _ _ _
     rw[uh HUN j hlt]
     exact hwr _ _ ((uh hW).up (alloc_b _ _)) (by have:=uh HUL j; omega)
    clear hc hwr hW HSW HUN HUL HU0 HPT
    go_wp2_with fail
    refine (uh HK).mono ?_
    rintro e w4 ⟨rfl,h4⟩
    have HW4:=hide h4
    clear HK h4 e0 e1
    go_wp2
    go_roundw
    case rel=>exact⟨j+1,by omega,by go_num,HW4⟩
    case measure=>simp[intOf]; omega
   ·have hje:j=ms.length:=by omega
    have HST:=hide (bldString w2.heap.size w2.heap.size (pathU ms j) wr (uh hW).is (uh hW).sz)
    have HWB:=hide (uh hW).bel
    clear hW HSW HUN HUL HU0
    have HJE:=hide hje
    clear hje
    go_wp2_with fail
    refine (uh HST).mono ?_
    rintro e w4 ⟨rfl,b4⟩
    have HB4:=hide (uh HBW w4 ((uh HWB).trans b4))
    clear HST b4 HWB HBW
    go_wp2
    go_ret2
    exact⟨by rw[uh HPT,← uh HJE]; rfl,uh HB4⟩
end Go.Proofs.YtkjcgkfejdogbaaGreatDoor
