import Derived.Test.YtocnekbedcnmgaaGreatDoorBa39
import Derived.Test.YtocnekbedcnmgaaGreatDoorBa37
import Derived.Test.YtocnekbedcnmgaaGreatDoorBa2
import Derived.Test.YtocnekbedcnmgaaGreatDoorBa34
set_option maxRecDepth 100000
set_option maxHeartbeats 8000000
namespace Go.Proofs.YtocnekbedcnmgaaGreatDoor
open Go.RowKit
def TypV (w:World) : Prop:=w.cell? ⟨0,0,none⟩=some (.iface 249 (.agg #[.pointer (some ⟨9,86,none⟩)]))
theorem TypV.up {w w':World} (h:TypV w) (hb:Below w.heap.size w w') : TypV w':=(hb.cell (p:=⟨0,0,none⟩) (World.block_lt_of_cell? _ _ h)).trans h
theorem as_grown (w:World) (o1 o2 o3 o4:Obj) (tb:Nat) (x:Value) : w.grownBy ((((w.alloc o1).alloc o2).alloc o3).alloc o4 |>.setCell ⟨tb,0,none⟩ x) (some tb):=by
 have h1:w.grownBy ((((w.alloc o1).alloc o2).alloc o3).alloc o4) (some tb):=
  grownBy_below (((((Below.refl w.heap.size w).alloc (Nat.le_refl _) o1).alloc (by simp) o2).alloc (by simp; omega) o3).alloc (by simp; omega) o4)
 exact grownBy_trans h1 ((grown_setD _ 0 tb 0 x))
theorem asF_walk (eb fb tb:Nat) (i:Value) (t0:TypeId) (w:World) (he:w.heap[eb]?=some (.cells #[i,.iface 156 (.pointer (some ⟨fb,0,none⟩))] 161 (0,0))) (hg:TypV w) (ht:w.heap[tb]?=some (.cells #[.pointer none] t0 (0,0))) :
  Calls Tryz.prog 100 #[.iface 159 (.pointer (some ⟨eb,0,none⟩)),.iface 163 (.pointer (some ⟨tb,0,none⟩))] w fun e w'=>e = .returned (.bool true)∧w.grownBy w' (some tb)∧w'.cell? ⟨tb,0,none⟩=some (.pointer (some ⟨fb,0,none⟩)):=by
 have hc:w.cell? ⟨tb,0,none⟩=some (.pointer none):=Lib.cell_of_heap ht 0
 have hlt:=(Array.getElem?_eq_some_iff.1 ht).1
 refine (asFlt ⟨fb,0,none⟩ ⟨tb,0,none⟩ (.pointer none) w eb (Lib.cell_of_heap he 1) hg hc (by simp[World.frozen?,ht])).mono ?_
 rintro e w' ⟨rfl,rfl⟩
 refine⟨rfl,as_grown _ _ _ _ _ _ _,?_⟩
 refine World.cell?_setCell_same' _ _ _ ?_
 rw[World.cell?_alloc_lt _ _ ⟨tb,0,none⟩ (by simp; omega),World.cell?_alloc_lt _ _ ⟨tb,0,none⟩ (by simp; omega),World.cell?_alloc_lt _ _ ⟨tb,0,none⟩ (by simp; omega),World.cell?_alloc_lt _ _ ⟨tb,0,none⟩ hlt,hc]
 rfl
theorem asO_walk (eb tb:Nat) (t0:TypeId) (w:World) (hg:TypV w) (ht:w.heap[tb]?=some (.cells #[.pointer none] t0 (0,0))) :
  Calls Tryz.prog 100 #[.iface 159 (.pointer (some ⟨eb,0,none⟩)),.iface 164 (.pointer (some ⟨tb,0,none⟩))] w fun e w'=>e = .returned (.bool true)∧w.grownBy w' (some tb)∧w'.cell? ⟨tb,0,none⟩=some (.pointer (some ⟨eb,0,none⟩)):=by
 have hc:w.cell? ⟨tb,0,none⟩=some (.pointer none):=Lib.cell_of_heap ht 0
 have hlt:=(Array.getElem?_eq_some_iff.1 ht).1
 refine (asOpE ⟨eb,0,none⟩ ⟨tb,0,none⟩ (.pointer none) w hg hc (by simp[World.frozen?,ht])).mono ?_
 rintro e w' ⟨rfl,rfl⟩
 refine⟨rfl,as_grown _ _ _ _ _ _ _,?_⟩
 refine World.cell?_setCell_same' _ _ _ ?_
 rw[World.cell?_alloc_lt _ _ ⟨tb,0,none⟩ (by simp; omega),World.cell?_alloc_lt _ _ ⟨tb,0,none⟩ (by simp; omega),World.cell?_alloc_lt _ _ ⟨tb,0,none⟩ (by simp; omega),World.cell?_alloc_lt _ _ ⟨tb,0,none⟩ hlt,hc]
 rfl
theorem explain_nil (w:World) : Calls Tryz.prog 52 #[.nilIface] w fun e w'=>e = .returned (.tuple #[.int .i64 0,.int .i64 0])∧Below w.heap.size w w':=by
 have HN:Hid (∀ (t:Value) (w:World),Calls Tryz.prog 100 #[.nilIface,t] w fun e w'=>e = .returned (.bool false)∧w=w'):=as_nil
 go_enter Tryz.func52,Tryz.ntmps52
 go_wp2_with fail
 refine (uh HN _ _).mono ?_
 rintro e w1 ⟨rfl,rfl⟩
 go_wp2_with fail
 refine (uh HN _ _).mono ?_
 rintro e w1 ⟨rfl,rfl⟩
 go_wp2
 go_ret2
 exact⟨rfl,below_next (alloc_b _ _) (alloc_b _ _)⟩
theorem explain_err (i c:Int) (t:TypeId) (p:Value) (w:World) (h:OpErr w i c (.iface t p)) (hg:TypV w) :
  Calls Tryz.prog 52 #[.iface t p] w fun e w'=>e = .returned (.tuple #[.int .i64 c,.int .i64 i])∧Below w.heap.size w w':=by
 obtain⟨eb,fv,e1,he,fb,e2,hf⟩:=h
 injection e1 with e1 e1'
 subst e1; subst e1'; subst e2
 have B1:=alloc_b w (.cells #[.pointer none] 156)
 have hel:=(Array.getElem?_eq_some_iff.1 he).1
 have hfl:=(Array.getElem?_eq_some_iff.1 hf).1
 have HA:=hide (asF_walk eb fb w.heap.size _ 156 (w.alloc (.cells #[.pointer none] 156)) ((B1.block eb hel).trans he) (hg.up B1) (heap_alloc_new w _))
 have HE:=hide he
 have HF:=hide hf
 have HG:=hide hg
 have HB1:=hide B1
 clear he hf hg B1
 go_enter Tryz.func52,Tryz.ntmps52
 go_wp2_with fail
 refine (uh HA).mono ?_
 rintro e w2 ⟨rfl,g2,c2⟩
 have B2:Below w.heap.size w w2:=(uh HB1).trans (below_of_grown g2 (Nat.le_refl _) (uh HB1).size)
 have cf:w2.cell? ⟨fb,0,none⟩=some (.int .i64 c):=(B2.cell (p:=⟨fb,0,none⟩) hfl).trans (Lib.cell_of_heap (uh HF) 0)
 have B3:=below_next B2 (alloc_b w2 (.cells #[.pointer none] 159))
 have HA2:=hide (asO_walk eb w2.heap.size 159 (w2.alloc (.cells #[.pointer none] 159)) ((uh HG).up B3) (heap_alloc_new w2 _))
 have HB3:=hide B3
 have hs2:=B2.size
 clear HA g2 B2 B3 HB1
 go_wp2_with fail
 refine (uh HA2).mono ?_
 rintro e w4 ⟨rfl,g4,c4⟩
 have B4:Below w.heap.size w w4:=(uh HB3).trans (below_of_grown g4 hs2 (uh HB3).size)
 have ce:w4.cell? ⟨eb,0,none⟩=some (.int .i64 i):=(B4.cell (p:=⟨eb,0,none⟩) hel).trans (Lib.cell_of_heap (uh HE) 0)
 have HB4:=hide B4
 clear HA2 g4 B4 HB3 c2 cf
 go_wp2
 go_ret2
 exact⟨rfl,uh HB4⟩
end Go.Proofs.YtocnekbedcnmgaaGreatDoor
