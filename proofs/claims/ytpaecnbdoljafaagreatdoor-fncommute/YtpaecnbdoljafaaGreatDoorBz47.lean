import Derived.Test.YtpaecnbdoljafaaGreatDoorBz45
import Derived.Test.YtpaecnbdoljafaaGreatDoorBz43
import Derived.Test.YtpaecnbdoljafaaGreatDoorBz46
set_option maxRecDepth 100000
set_option maxHeartbeats 8000000
namespace Go.Proofs.YtpaecnbdoljafaaGreatDoor
open Go.RowKit Go.Proofs.Tryz
def YC(w:Wo):Prop:=w.cell? ⟨0,0,none⟩=some (.iface 241 (.agg #[.pointer (some ⟨9,71,none⟩)]))
theorem YC.up{w w':Wo}(h:YC w)(hb:Bw w w'):YC w':=(hb.cell (p:=⟨0,0,none⟩) (yK _ _ h)).trans h
theorem zfG(w:Wo)(o1 o2 o3 o4:Obj)(tb:Nat)(x:Value):w.grownBy ((((w.alloc o1).alloc o2).alloc o3).alloc o4 |>.setCell ⟨tb,0,none⟩ x) (some tb):=by
 have a:w.grownBy ((((w.alloc o1).alloc o2).alloc o3).alloc o4) (some tb):=
  qI (((((yI w.heap.size w).alloc (ye _) o1).alloc (by simp) o2).alloc (by simp;omega) o3).alloc (by simp;omega) o4)
 exact ZD a ((O9 _ 0 tb 0 x))
theorem Eq{q p:Nat}(h:QP q p)(eb tb:Nat)(x:Value)(t0:TypeId)(w:Wo)(hx:p=141/\x= .iface 141 (.pointer (some ⟨eb,0,none⟩))∨p=138/\∃ o,x= .iface 141 (.pointer (some ⟨o,0,none⟩))/\w.cell? ⟨o,1,none⟩=some (.iface 138 (.pointer (some ⟨eb,0,none⟩))))(hg:YC w)(ht:w.heap[tb]?=some (.cells #[.pointer none] t0 (0,0))):
  Calls prog 80 #[x,.iface q (.pointer (some ⟨tb,0,none⟩))] w fun e w'=>e= .returned (.bool true)/\w.grownBy w' (some tb)/\w'.cell? ⟨tb,0,none⟩=some (.pointer (some ⟨eb,0,none⟩)):=by
 have b:w.cell? ⟨tb,0,none⟩=some (.pointer none):=yG ht 0;have a:=(yC.1 ht).1;refine (zfE h ⟨eb,0,none⟩ ⟨tb,0,none⟩ x (.pointer none) w hx hg b (by simp[World.frozen?,ht])).mono ?_;rintro e w' ⟨rfl,rfl⟩;refine⟨rfl,zfG _ _ _ _ _ _ _,?_⟩;refine World.cell?_setCell_same' _ _ _ ?_;unfold W6;rw[World.cell?_alloc_lt _ _ ⟨tb,0,none⟩ (by simp;omega),World.cell?_alloc_lt _ _ ⟨tb,0,none⟩ (by simp;omega),World.cell?_alloc_lt _ _ ⟨tb,0,none⟩ (by simp;omega),World.cell?_alloc_lt _ _ ⟨tb,0,none⟩ a,b];rfl
theorem zfH(w:Wo):Calls prog 35 #[.nilIface] w fun e w'=>e= .returned (.tuple #[.int .i64 0,.int .i64 0])/\Bw w w':=by
 have a:Hid (∀ (t:Value) (w:Wo),Calls prog 80 #[.nilIface,t] w (Rk (.bool false) w)):=zfq;go_in;go_wp2_with fail;refine (uh a _ _).mono ?_;rintro e b ⟨rfl,rfl⟩;go_wp2_with fail;refine (uh a _ _).mono ?_;rintro e b ⟨rfl,rfl⟩;go_wp2;go_ret2;exact⟨rfl,zi (zY _ _) (zY _ _)⟩
theorem zfI(i c:Int)(t:TypeId)(p:Value)(w:Wo)(h:Xl w i c (.iface t p))(hg:YC w):
  Calls prog 35 #[.iface t p] w fun e w'=>e= .returned (.tuple #[.int .i64 c,.int .i64 i])/\Bw w w':=by
 obtain⟨g,G,r,m,fb,E,s⟩:=h;injection r with r e1';subst r;subst e1';subst E;have k:=zY w (.cells #[.pointer none] 138);have j:=(yC.1 m).1;have u:=(yC.1 s).1;have x:=ze (Eq (.inl ⟨rfl,rfl⟩) fb w.heap.size _ 138 (w.alloc (.cells #[.pointer none] 138)) (.inr ⟨rfl,g,rfl,yG ((k.block g j).trans m) 1⟩) (hg.up k) (yH w _));have B:=ze m;have C:=ze s;have D:=ze hg;have a:=ze k;clear m s hg k;go_in;go_wp2_with fail;refine (uh x).mono ?_;rintro e d ⟨rfl,y,c2⟩;have l:Bw w d:=(uh a).trans (US y (ye _) (uh a).size);have cf:d.cell? ⟨fb,0,none⟩=some (.int .i64 c):=(l.cell (p:=⟨fb,0,none⟩) u).trans (yG (uh C) 0);have n:=zi l (zY d (.cells #[.pointer none] 141));have f:=ze (Eq (.inr ⟨rfl,rfl⟩) g d.heap.size _ 141 (d.alloc (.cells #[.pointer none] 141)) (.inl ⟨rfl,rfl⟩) ((uh D).up n) (yH d _));have b:=ze n;have v:=l.size;clear x y l n a;go_wp2_with fail;refine (uh f).mono ?_;rintro e A ⟨rfl,z,c4⟩;have o:Bw w A:=(uh b).trans (US z v (uh b).size);have F:A.cell? ⟨g,0,none⟩=some (.int .i64 i):=(o.cell (p:=⟨g,0,none⟩) j).trans (yG (uh B) 0);have q:=ze o;clear f z o b c2 cf;go_wp2;go_ret2;exact⟨rfl,uh q⟩
theorem zfJ:((List.range prog.types.size).filter fun t=>prog.rowNamed t [101,114,114,111,114])=[71]:=by kernel_rfl
theorem zfK : (Tryz.prog.cutTypes.find? (·.1 == "internal/reflectlite.rtype")).map (·.2) = some 241 := by kernel_rfl
theorem Er {W : World} (h : handlesMet Tryz.prog [("errors.errorType", Rows.laid_errors_errorType)] W) : YC W := by
 obtain⟨name,u,ty,e1,e2,e3,e4,e5⟩:=h _ (List.mem_singleton.2 rfl);have en:name=[101,114,114,111,114]:=(Option.some.inj e1).symm;subst en;obtain rfl:=Option.some.inj (zfK.symm.trans e2);have hm:ty∈(List.range prog.types.size).filter fun t=>prog.rowNamed t [101,114,114,111,114]:=List.mem_filter.2 ⟨List.mem_range.2 e3,e4⟩;rw[zfJ]at hm;obtain rfl:=List.mem_singleton.1 hm;have hh:typeHandle prog 71= .pointer (some ⟨9,71,none⟩):=by kernel_rfl
 rw[hh]at e5
 exact World.var?_cell (show Tryz.prog.globalNamed "errors.errorType" = some 0 by kernel_rfl) e5 0
def Ou(w:Wo):Prop:=(Gm w/\Qt w.heap.size w/\QE w.heap.size w)/\YC w
end Go.Proofs.YtpaecnbdoljafaaGreatDoor
