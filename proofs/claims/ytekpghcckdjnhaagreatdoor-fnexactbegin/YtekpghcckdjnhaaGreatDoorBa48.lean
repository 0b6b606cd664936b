import Derived.Test.YtekpghcckdjnhaaGreatDoorBa46
import Derived.Test.YtekpghcckdjnhaaGreatDoorBa43
import Derived.Test.YtekpghcckdjnhaaGreatDoorBa47
set_option maxRecDepth 100000
set_option maxHeartbeats 8000000
namespace Go.Proofs.YtekpghcckdjnhaaGreatDoor
open Go.RowKit Go.Proofs.Tryz
def znY (w:World) : Prop:=w.cell? ⟨0,0,none⟩=some (.iface 264 (.agg #[.pointer (some ⟨9,128,none⟩)]))
theorem znY.up {w w':World} (h:znY w) (hb:Below w.heap.size w w') : znY w':=(hb.cell (p:=⟨0,0,none⟩) (yJ _ _ h)).trans h
theorem znZ (w:World) (o1 o2 o3 o4:Obj) (tb:Nat) (x:Value) : w.grownBy ((((w.alloc o1).alloc o2).alloc o3).alloc o4 |>.setCell ⟨tb,0,none⟩ x) (some tb):=by
 have h1:w.grownBy ((((w.alloc o1).alloc o2).alloc o3).alloc o4) (some tb):=
  zjF (((((yH w.heap.size w).alloc (ye _) o1).alloc (by simp) o2).alloc (by simp; omega) o3).alloc (by simp; omega) o4)
 exact zjE h1 ((zoU _ 0 tb 0 x))
theorem zth (eb fb tb:Nat) (i:Value) (t0:TypeId) (w:World) (he:w.heap[eb]?=some (.cells #[i,.iface 165 (.pointer (some ⟨fb,0,none⟩))] 169 (0,0))) (hg:znY w) (ht:w.heap[tb]?=some (.cells #[.pointer none] t0 (0,0))) :
  Calls prog 138 #[.iface 164 (.pointer (some ⟨eb,0,none⟩)),.iface 211 (.pointer (some ⟨tb,0,none⟩))] w fun e w'=>e = .returned (.bool true)/\w.grownBy w' (some tb)/\w'.cell? ⟨tb,0,none⟩=some (.pointer (some ⟨fb,0,none⟩)):=by
 have hc:w.cell? ⟨tb,0,none⟩=some (.pointer none):=yF ht 0
 have hlt:=(yB.1 ht).1
 refine (zym ⟨fb,0,none⟩ ⟨tb,0,none⟩ (.pointer none) w eb (yF he 1) hg hc (by simp[World.frozen?,ht])).mono ?_
 rintro e w' ⟨rfl,rfl⟩
 refine⟨rfl,znZ _ _ _ _ _ _ _,?_⟩
 refine World.cell?_setCell_same' _ _ _ ?_
 rw[World.cell?_alloc_lt _ _ ⟨tb,0,none⟩ (by simp; omega),World.cell?_alloc_lt _ _ ⟨tb,0,none⟩ (by simp; omega),World.cell?_alloc_lt _ _ ⟨tb,0,none⟩ (by simp; omega),World.cell?_alloc_lt _ _ ⟨tb,0,none⟩ hlt,hc]
 rfl
theorem zti (eb tb:Nat) (t0:TypeId) (w:World) (hg:znY w) (ht:w.heap[tb]?=some (.cells #[.pointer none] t0 (0,0))) :
  Calls prog 138 #[.iface 164 (.pointer (some ⟨eb,0,none⟩)),.iface 212 (.pointer (some ⟨tb,0,none⟩))] w fun e w'=>e = .returned (.bool true)/\w.grownBy w' (some tb)/\w'.cell? ⟨tb,0,none⟩=some (.pointer (some ⟨eb,0,none⟩)):=by
 have hc:w.cell? ⟨tb,0,none⟩=some (.pointer none):=yF ht 0
 have hlt:=(yB.1 ht).1
 refine (zyl ⟨eb,0,none⟩ ⟨tb,0,none⟩ (.pointer none) w hg hc (by simp[World.frozen?,ht])).mono ?_
 rintro e w' ⟨rfl,rfl⟩
 refine⟨rfl,znZ _ _ _ _ _ _ _,?_⟩
 refine World.cell?_setCell_same' _ _ _ ?_
 rw[World.cell?_alloc_lt _ _ ⟨tb,0,none⟩ (by simp; omega),World.cell?_alloc_lt _ _ ⟨tb,0,none⟩ (by simp; omega),World.cell?_alloc_lt _ _ ⟨tb,0,none⟩ (by simp; omega),World.cell?_alloc_lt _ _ ⟨tb,0,none⟩ hlt,hc]
 rfl
theorem zmN (w:World) : Calls prog 105 #[.nilIface] w fun e w'=>e = .returned (.tuple #[.int .i64 0,.int .i64 0])/\Below w.heap.size w w':=by
 have HN:Hid (∀ (t:Value) (w:World),Calls prog 138 #[.nilIface,t] w fun e w'=>e = .returned (.bool false)/\w=w'):=zwB
 go_enter func105,ntmps105
 go_wp2_with fail
 refine (uh HN _ _).mono ?_
 rintro e w1 ⟨rfl,rfl⟩
 go_wp2_with fail
 refine (uh HN _ _).mono ?_
 rintro e w1 ⟨rfl,rfl⟩
 go_wp2
 go_ret2
 exact⟨rfl,zaa (zag _ _) (zag _ _)⟩
theorem zmO (i c:Int) (t:TypeId) (p:Value) (w:World) (h:zqS w i c (.iface t p)) (hg:znY w) :
  Calls prog 105 #[.iface t p] w fun e w'=>e = .returned (.tuple #[.int .i64 c,.int .i64 i])/\Below w.heap.size w w':=by
 obtain⟨eb,fv,e1,he,fb,e2,hf⟩:=h
 injection e1 with e1 e1'
 subst e1; subst e1'; subst e2
 have B1:=zag w (.cells #[.pointer none] 165)
 have hel:=(yB.1 he).1
 have hfl:=(yB.1 hf).1
 have HA:=zab (zth eb fb w.heap.size _ 165 (w.alloc (.cells #[.pointer none] 165)) ((B1.block eb hel).trans he) (hg.up B1) (yG w _))
 have HE:=zab he
 have HF:=zab hf
 have HG:=zab hg
 have HB1:=zab B1
 clear he hf hg B1
 go_enter func105,ntmps105
 go_wp2_with fail
 refine (uh HA).mono ?_
 rintro e w2 ⟨rfl,g2,c2⟩
 have B2:Below w.heap.size w w2:=(uh HB1).trans (zbl g2 (ye _) (uh HB1).size)
 have cf:w2.cell? ⟨fb,0,none⟩=some (.int .i64 c):=(B2.cell (p:=⟨fb,0,none⟩) hfl).trans (yF (uh HF) 0)
 have B3:=zaa B2 (zag w2 (.cells #[.pointer none] 164))
 have HA2:=zab (zti eb w2.heap.size 164 (w2.alloc (.cells #[.pointer none] 164)) ((uh HG).up B3) (yG w2 _))
 have HB3:=zab B3
 have hs2:=B2.size
 clear HA g2 B2 B3 HB1
 go_wp2_with fail
 refine (uh HA2).mono ?_
 rintro e w4 ⟨rfl,g4,c4⟩
 have B4:Below w.heap.size w w4:=(uh HB3).trans (zbl g4 hs2 (uh HB3).size)
 have ce:w4.cell? ⟨eb,0,none⟩=some (.int .i64 i):=(B4.cell (p:=⟨eb,0,none⟩) hel).trans (yF (uh HE) 0)
 have HB4:=zab B4
 clear HA2 g4 B4 HB3 c2 cf
 go_wp2
 go_ret2
 exact⟨rfl,uh HB4⟩
theorem zvt:((List.range prog.types.size).filter fun t=>prog.rowNamed t [101,114,114,111,114])=[128]:=by kernel_rfl
theorem zxc : (Tryz.prog.cutTypes.find? (·.1 == "internal/reflectlite.rtype")).map (·.2) = some 264 := by kernel_rfl
theorem zxd {W : World} (h : handlesMet Tryz.prog [("errors.errorType", Rows.laid_errors_errorType)] W) : znY W := by
 obtain⟨name,u,ty,e1,e2,e3,e4,e5⟩:=h _ (List.mem_singleton.2 rfl)
 have en:name=[101,114,114,111,114]:=(Option.some.inj e1).symm
 subst en
 obtain rfl:=Option.some.inj (zxc.symm.trans e2)
 have hm:ty∈(List.range prog.types.size).filter fun t=>prog.rowNamed t [101,114,114,111,114]:=List.mem_filter.2 ⟨List.mem_range.2 e3,e4⟩
 rw[zvt] at hm
 obtain rfl:=List.mem_singleton.1 hm
 have hh:typeHandle prog 128 = .pointer (some ⟨9,128,none⟩):=by kernel_rfl
 rw[hh] at e5
 exact World.var?_cell (show Tryz.prog.globalNamed "errors.errorType" = some 0 by kernel_rfl) e5 0
end Go.Proofs.YtekpghcckdjnhaaGreatDoor
