import Derived.Test.YtadefcohbkgbfabGreatDoorBn26
import Derived.Test.YtadefcohbkgbfabGreatDoorBn22
import Derived.Test.YtadefcohbkgbfabGreatDoorBn6
import Derived.Handy
namespace Go.Proofs.YtadefcohbkgbfabGreatDoor
open Go.RowKit

abbrev rtW (s : ByteArray) (w : World) : World := ((w.alloc (.cells #[.string s, .int .i64 0, .bool false, .bool false] 50)).alloc (.cells #[.pointer (some ⟨w.heap.size, 0, none⟩)] 46)).alloc (.cells #[.nilIface] 54)
theorem rtW_size (s : ByteArray) (w : World) : (rtW s w).heap.size = w.heap.size + 3 := by simp
theorem rtW_rdr (s : ByteArray) (w : World) (o : Obj) : Rdr w.heap.size s 0 false false ((rtW s w).alloc o) := by
  unfold Rdr
  rw [Lib.alloc_old _ o _ (by simp; omega), Lib.alloc_old _ _ _ (by simp; omega), Lib.alloc_old _ _ _ (by simp)]
  exact heap_alloc_new w _
theorem rtW_ptr (s : ByteArray) (w : World) (o : Obj) : Var (w.heap.size + 1) 46 (.pointer (some ⟨w.heap.size, 0, none⟩)) ((rtW s w).alloc o) := by
  unfold Var
  rw [Lib.alloc_old _ o _ (by simp), Lib.alloc_old _ _ _ (by simp)]
  have := heap_alloc_new (w.alloc (.cells #[.string s, .int .i64 0, .bool false, .bool false] 50)) (.cells #[.pointer (some ⟨w.heap.size, 0, none⟩)] 46)
  simpa using this
theorem rtW_root (s : ByteArray) (w : World) (o : Obj) : Var (w.heap.size + 1 + 1) 54 .nilIface ((rtW s w).alloc o) := by
  unfold Var
  rw [Lib.alloc_old _ o _ (by simp)]
  have := heap_alloc_new ((w.alloc (.cells #[.string s, .int .i64 0, .bool false, .bool false] 50)).alloc (.cells #[.pointer (some ⟨w.heap.size, 0, none⟩)] 46)) (.cells #[.nilIface] 54)
  simpa using this
theorem rtW_below (s : ByteArray) (w : World) (o : Obj) : Below w.heap.size w ((rtW s w).alloc o) :=
  ((((Below.refl _ _).alloc (Nat.le_refl _) _).alloc (by simp) _).alloc (by simp; omega) _).alloc (by simp; omega) _
theorem enters_text : ∀ args (w : World), (callFunc 53 args).run Tryz.prog w = .ok (.enter 53 args) w := enters_of Tryz.func53 (by kernel_rfl) rfl
theorem Var.below {b : Nat} {t : TypeId} {v : Value} {w w' : World} (h : Var b t v w) (hb : Below w.heap.size w w') : Var b t v w' := (hb.block b h.lt).trans h
theorem Rdr.big {rb : Nat} {s : ByteArray} {i : Nat} {tb kt : Bool} {w : World} (h : Rdr rb s i tb kt w) : w.cell? ⟨rb, 2, none⟩ = some (.bool tb) := by rw [Lib.cell_of_heap h]; rfl
theorem Rdr.twice {rb : Nat} {s : ByteArray} {i : Nat} {tb kt : Bool} {w : World} (h : Rdr rb s i tb kt w) : w.cell? ⟨rb, 3, none⟩ = some (.bool kt) := by rw [Lib.cell_of_heap h]; rfl

end Go.Proofs.YtadefcohbkgbfabGreatDoor


namespace Go.Proofs.YtadefcohbkgbfabGreatDoor
open Go.RowKit

/-- A size, as the program gives it. -/
def szV (d c b : Nat) : Value := .agg #[.int .i64 (d : Int), .int .i64 (c : Int), .int .i64 (b : Int)]
abbrev szB (d c b : Nat) : Obj := .cells #[.int .i64 (d : Int), .int .i64 (c : Int), .int .i64 (b : Int)] 64 (0, 0)
/-- A block that holds a size. -/
def Szb (g d c b : Nat) (w : World) : Prop := w.heap[g]? = some (szB d c b)
theorem Szb.c0 {g d c b : Nat} {w : World} (h : Szb g d c b w) : w.cell? ⟨g, 0, none⟩ = some (.int .i64 (d : Int)) := by rw [Lib.cell_of_heap h]; rfl
theorem Szb.c1 {g d c b : Nat} {w : World} (h : Szb g d c b w) : w.cell? ⟨g, 1, none⟩ = some (.int .i64 (c : Int)) := by rw [Lib.cell_of_heap h]; rfl
theorem Szb.c2 {g d c b : Nat} {w : World} (h : Szb g d c b w) : w.cell? ⟨g, 2, none⟩ = some (.int .i64 (b : Int)) := by rw [Lib.cell_of_heap h]; rfl
theorem Szb.fz {g d c b : Nat} {w : World} (h : Szb g d c b w) (k : Nat) : w.frozen? ⟨g, k, none⟩ = false := Lib.frozen_of_heap h k
theorem Szb.lt {g d c b : Nat} {w : World} (h : Szb g d c b w) : g < w.heap.size := (Array.getElem?_eq_some_iff.1 h).1
theorem Szb.below {g d c b : Nat} {w w' : World} (h : Szb g d c b w) (hb : Below w.heap.size w w') : Szb g d c b w' := (hb.block g h.lt).trans h
theorem Szb.alloc {g d c b : Nat} {w : World} (h : Szb g d c b w) (o : Obj) : Szb g d c b (w.alloc o) := h.below ((Below.refl _ _).alloc (Nat.le_refl _) o)
theorem Szb.other {g d c b : Nat} {w : World} (h : Szb g d c b w) {p : Addr} (hp : g ≠ p.block) (v : Value) : Szb g d c b (w.setCell p v) := (Below.heap_setCell w p v g hp).trans h
theorem Szb.set0 {g d c b : Nat} {w : World} (h : Szb g d c b w) (z : Int) (n : Nat) (hz : z = (n : Int)) : Szb g n c b (w.setCell ⟨g, 0, none⟩ (.int .i64 z)) := by
  subst hz; exact heap_setCell_same w g 0 _ 64 (.int .i64 (n : Int)) h
theorem Szb.set1 {g d c b : Nat} {w : World} (h : Szb g d c b w) (z : Int) (n : Nat) (hz : z = (n : Int)) : Szb g d n b (w.setCell ⟨g, 1, none⟩ (.int .i64 z)) := by
  subst hz; exact heap_setCell_same w g 1 _ 64 (.int .i64 (n : Int)) h
theorem Szb.set2 {g d c b : Nat} {w : World} (h : Szb g d c b w) (z : Int) (n : Nat) (hz : z = (n : Int)) : Szb g d c n (w.setCell ⟨g, 2, none⟩ (.int .i64 z)) := by
  subst hz; exact heap_setCell_same w g 2 _ 64 (.int .i64 (n : Int)) h
theorem Szb.put {g d c b : Nat} {w : World} (h : Szb g d c b w) (x y z : Int) (d' c' b' : Nat) (hx : x = (d' : Int)) (hy : y = (c' : Int)) (hz : z = (b' : Int)) :
    Szb g d' c' b' (((w.setCell ⟨g, 0, none⟩ (.int .i64 x)).setCell ⟨g, 1, none⟩ (.int .i64 y)).setCell ⟨g, 2, none⟩ (.int .i64 z)) := ((h.set0 x d' hx).set1 y c' hy).set2 z b' hz
theorem below_put3 {B g : Nat} {w w' : World} (h : Below B w w') (hg : B ≤ g) (a b c : Value) :
    Below B w (((w'.setCell ⟨g, 0, none⟩ a).setCell ⟨g, 1, none⟩ b).setCell ⟨g, 2, none⟩ c) :=
  ((h.setCell (p := ⟨g, 0, none⟩) hg _).setCell (p := ⟨g, 1, none⟩) hg _).setCell (p := ⟨g, 2, none⟩) hg _
theorem szb_ret {fn : Func} (hres : fn.results = #[.cell 2 64]) {tmps : Array Value} {g d c b : Nat} {w : World} (hp : tmps.getD 2 undef = .pointer (some ⟨g, 0, none⟩)) (h : Szb g d c b w) :
    (results fn tmps).run Tryz.prog w = .ok (szV d c b) w :=
  results_cell_row hres tmps w g 64 _ (0, 0) _ hp h Tryz.underlying64 rfl (by kernel_rfl)
theorem szb_new (w : World) : Szb w.heap.size 0 0 0 (w.alloc (szB 0 0 0)) := heap_alloc_new w _
theorem szb_below (w : World) : Below w.heap.size w (w.alloc (szB 0 0 0)) := (Below.refl _ _).alloc (Nat.le_refl _) _

set_option maxRecDepth 100000 in
set_option maxHeartbeats 800000 in
/-- A value that is no array and no object. -/
theorem size_leaf (t : TypeId) (p : Value) (tx : List UInt8) (w : World)
    (h1 : ∀ w : World, (Instr.typeAssert (.iface t p) 54 103 true).run Tryz.prog w = .ok (.tuple #[.pointer none, .bool false]) w)
    (h2 : ∀ w : World, (Instr.typeAssert (.iface t p) 54 109 true).run Tryz.prog w = .ok (.tuple #[.pointer none, .bool false]) w)
    (hc : ∀ w1, Below w.heap.size w w1 → Calls Tryz.prog 29 #[.iface t p] w1 fun e w' => e = .returned (.string (strOf tx)) ∧ Below w1.heap.size w1 w') :
    Calls Tryz.prog 39 #[.iface t p] w fun e w' => e = .returned (szV 1 1 tx.length) ∧ Below w.heap.size w w' := by
  have HC := hide (hc (w.alloc (szB 0 0 0)) (szb_below w))
  have hz : (strOf tx).size = tx.length := strOf_size tx
  clear hc
  generalize strOf tx = tb at *
  go_enter Tryz.func39, Tryz.ntmps39
  go_wp2_with fail
  refine (unhide HC).mono ?_
  rintro e w1 ⟨rfl, b1⟩
  have R1 := (szb_new w).below b1
  have r0 := R1.c0
  have r1 := R1.c1
  have r2 := R1.c2
  have q0 := R1.fz 0
  have q1 := R1.fz 1
  have q2 := R1.fz 2
  have RX := hide (R1.put 1 1 (tx.length : Int) 1 1 tx.length rfl rfl rfl)
  have BX := hide (below_put3 (below_next (szb_below w) b1) (Nat.le_refl _) (.int .i64 1) (.int .i64 1) (.int .i64 (tx.length : Int)))
  clear HC R1 b1
  go_wp2
  try simp only [Exit.inBlock, Exit.then]
  refine bodyPost_ret (szb_ret rfl rfl (unhide RX)) rfl ?_
  exact ⟨rfl, unhide BX⟩
end Go.Proofs.YtadefcohbkgbfabGreatDoor

