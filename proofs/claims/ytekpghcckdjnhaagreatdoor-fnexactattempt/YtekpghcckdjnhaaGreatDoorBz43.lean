import Derived.Test.YtekpghcckdjnhaaGreatDoorBz41
import Derived.Test.YtekpghcckdjnhaaGreatDoorBz37
import Derived.Test.YtekpghcckdjnhaaGreatDoorBz42
set_option maxRecDepth 100000
set_option maxHeartbeats 8000000
namespace Go.Proofs.YtekpghcckdjnhaaGreatDoor
open Go.RowKit Go.Proofs.Tryz
def YD(w:Wo):Prop:=w.cell? ⟨0,0,none⟩=some (.iface 264 (.agg #[.pointer (some ⟨9,128,none⟩)]))
theorem YD.up{w w':Wo}(h:YD w)(hb:Bw w w'):YD w':=(hb.cell (p:=⟨0,0,none⟩) (yJ _ _ h)).trans h
theorem ze5(w:Wo)(o1 o2 o3 o4:Obj)(tb:Nat)(x:Value):w.grownBy ((((w.alloc o1).alloc o2).alloc o3).alloc o4 |>.setCell ⟨tb,0,none⟩ x) (some tb):=by
 have a:w.grownBy ((((w.alloc o1).alloc o2).alloc o3).alloc o4) (some tb):=
  Eu (((((yH w.heap.size w).alloc (ye _) o1).alloc (by simp) o2).alloc (by simp;omega) o3).alloc (by simp;omega) o4)
 exact Et a ((Ev _ 0 tb 0 x))
theorem Cf{q p:Nat}(h:QP q p)(eb tb:Nat)(x:Value)(t0:TypeId)(w:Wo)(hx:p=164/\x= .iface 164 (.pointer (some ⟨eb,0,none⟩))∨p=165/\∃ o,x= .iface 164 (.pointer (some ⟨o,0,none⟩))/\w.cell? ⟨o,1,none⟩=some (.iface 165 (.pointer (some ⟨eb,0,none⟩))))(hg:YD w)(ht:w.heap[tb]?=some (.cells #[.pointer none] t0 (0,0))):
  Calls prog 138 #[x,.iface q (.pointer (some ⟨tb,0,none⟩))] w fun e w'=>e= .returned (.bool true)/\w.grownBy w' (some tb)/\w'.cell? ⟨tb,0,none⟩=some (.pointer (some ⟨eb,0,none⟩)):=by
 have b:w.cell? ⟨tb,0,none⟩=some (.pointer none):=yF ht 0;have a:=(yB.1 ht).1;refine (ze0 h ⟨eb,0,none⟩ ⟨tb,0,none⟩ x (.pointer none) w hx hg b (by simp[World.frozen?,ht])).mono ?_;rintro e w' ⟨rfl,rfl⟩;refine⟨rfl,ze5 _ _ _ _ _ _ _,?_⟩;refine World.cell?_setCell_same' _ _ _ ?_;unfold WI;rw[World.cell?_alloc_lt _ _ ⟨tb,0,none⟩ (by simp;omega),World.cell?_alloc_lt _ _ ⟨tb,0,none⟩ (by simp;omega),World.cell?_alloc_lt _ _ ⟨tb,0,none⟩ (by simp;omega),World.cell?_alloc_lt _ _ ⟨tb,0,none⟩ a,b];rfl
theorem ze6(w:Wo):Calls prog 105 #[.nilIface] w fun e w'=>e= .returned (.tuple #[.int .i64 0,.int .i64 0])/\Bw w w':=by
 have a:Hid (∀ (t:Value) (w:Wo),Calls prog 138 #[.nilIface,t] w (Rk (.bool false) w)):=zeM;go_in;go_wp2_with fail;refine (uh a _ _).mono ?_;rintro e b ⟨rfl,rfl⟩;go_wp2_with fail;refine (uh a _ _).mono ?_;rintro e b ⟨rfl,rfl⟩;go_wp2;go_ret2;exact⟨rfl,zh (zu _ _) (zu _ _)⟩
theorem ze7(i c:Int)(t:TypeId)(p:Value)(w:Wo)(h:KF w i c (.iface t p))(hg:YD w):
  Calls prog 105 #[.iface t p] w fun e w'=>e= .returned (.tuple #[.int .i64 c,.int .i64 i])/\Bw w w':=by
 obtain⟨g,H,r,m,fb,F,s⟩:=h;injection r with r e1';subst r;subst e1';subst F;have k:=zu w (.cells #[.pointer none] 165);have j:=(yB.1 m).1;have u:=(yB.1 s).1;have x:=zb (Cf (.inl ⟨rfl,rfl⟩) fb w.heap.size _ 165 (w.alloc (.cells #[.pointer none] 165)) (.inr ⟨rfl,g,rfl,yF ((k.block g j).trans m) 1⟩) (hg.up k) (yG w _));have B:=zb m;have C:=zb s;have D:=zb hg;have a:=zb k;clear m s hg k;go_in;go_wp2_with fail;refine (uh x).mono ?_;rintro e d ⟨rfl,y,c2⟩;have l:Bw w d:=(uh a).trans (Uu y (ye _) (uh a).size);have E:d.cell? ⟨fb,0,none⟩=some (.int .i64 c):=(l.cell (p:=⟨fb,0,none⟩) u).trans (yF (uh C) 0);have n:=zh l (zu d (.cells #[.pointer none] 164));have f:=zb (Cf (.inr ⟨rfl,rfl⟩) g d.heap.size _ 164 (d.alloc (.cells #[.pointer none] 164)) (.inl ⟨rfl,rfl⟩) ((uh D).up n) (yG d _));have b:=zb n;have v:=l.size;clear x y l n a;go_wp2_with fail;refine (uh f).mono ?_;rintro e A ⟨rfl,z,c4⟩;have o:Bw w A:=(uh b).trans (Uu z v (uh b).size);have G:A.cell? ⟨g,0,none⟩=some (.int .i64 i):=(o.cell (p:=⟨g,0,none⟩) j).trans (yF (uh B) 0);have q:=zb o;clear f z o b c2 E;go_wp2;go_ret2;exact⟨rfl,uh q⟩
theorem ze8:((List.range prog.types.size).filter fun t=>prog.rowNamed t [101,114,114,111,114])=[128]:=by kernel_rfl
theorem ze9 : (Tryz.prog.cutTypes.find? (·.1 == "internal/reflectlite.rtype")).map (·.2) = some 264 := by kernel_rfl
theorem zfa {W : World} (h : handlesMet Tryz.prog [("errors.errorType", Rows.laid_errors_errorType)] W) : YD W := by
 obtain⟨name,u,ty,e1,e2,e3,e4,e5⟩:=h _ (List.mem_singleton.2 rfl);have en:name=[101,114,114,111,114]:=(Option.some.inj e1).symm;subst en;obtain rfl:=Option.some.inj (ze9.symm.trans e2);have hm:ty∈(List.range prog.types.size).filter fun t=>prog.rowNamed t [101,114,114,111,114]:=List.mem_filter.2 ⟨List.mem_range.2 e3,e4⟩;rw[ze8]at hm;obtain rfl:=List.mem_singleton.1 hm;have hh:typeHandle prog 128= .pointer (some ⟨9,128,none⟩):=by kernel_rfl
 rw[hh]at e5
 exact World.var?_cell (show Tryz.prog.globalNamed "errors.errorType" = some 0 by kernel_rfl) e5 0
end Go.Proofs.YtekpghcckdjnhaaGreatDoor
