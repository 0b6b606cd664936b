import Derived.Test.YtocnekbedcnmgaaGreatDoorBp22
import Derived.Test.YtocnekbedcnmgaaGreatDoorBp26
import Derived.Test.YtocnekbedcnmgaaGreatDoorBp3
namespace Go.Proofs.YtocnekbedcnmgaaGreatDoor
open Go.RowKit

abbrev rtW (s : ByteArray) (w : World) : World := ((w.alloc (.cells #[.string s, .int .i64 0, .bool false, .bool false] 134)).alloc (.cells #[.pointer (some ⟨w.heap.size, 0, none⟩)] 130)).alloc (.cells #[.nilIface] 65)
theorem rtW_size (s : ByteArray) (w : World) : (rtW s w).heap.size = w.heap.size + 3 := by simp
theorem rtW_rdr (s : ByteArray) (w : World) (o : Obj) : Rdr w.heap.size s 0 false false ((rtW s w).alloc o) := by
  unfold Rdr
  rw [Lib.alloc_old _ o _ (by simp; omega), Lib.alloc_old _ _ _ (by simp; omega), Lib.alloc_old _ _ _ (by simp)]
  exact heap_alloc_new w _
theorem rtW_ptr (s : ByteArray) (w : World) (o : Obj) : Var (w.heap.size + 1) 130 (.pointer (some ⟨w.heap.size, 0, none⟩)) ((rtW s w).alloc o) := by
  unfold Var
  rw [Lib.alloc_old _ o _ (by simp), Lib.alloc_old _ _ _ (by simp)]
  have := heap_alloc_new (w.alloc (.cells #[.string s, .int .i64 0, .bool false, .bool false] 134)) (.cells #[.pointer (some ⟨w.heap.size, 0, none⟩)] 130)
  simpa using this
theorem rtW_root (s : ByteArray) (w : World) (o : Obj) : Var (w.heap.size + 1 + 1) 65 .nilIface ((rtW s w).alloc o) := by
  unfold Var
  rw [Lib.alloc_old _ o _ (by simp)]
  have := heap_alloc_new ((w.alloc (.cells #[.string s, .int .i64 0, .bool false, .bool false] 134)).alloc (.cells #[.pointer (some ⟨w.heap.size, 0, none⟩)] 130)) (.cells #[.nilIface] 65)
  simpa using this
theorem rtW_below (s : ByteArray) (w : World) (o : Obj) : Below w.heap.size w ((rtW s w).alloc o) :=
  ((((Below.refl _ _).alloc (Nat.le_refl _) _).alloc (by simp) _).alloc (by simp; omega) _).alloc (by simp; omega) _
theorem enters_text : ∀ args (w : World), (callFunc 84 args).run Tryz.prog w = .ok (.enter 84 args) w := enters_of Tryz.func84 (by kernel_rfl) rfl
theorem Var.below {b : Nat} {t : TypeId} {v : Value} {w w' : World} (h : Var b t v w) (hb : Below w.heap.size w w') : Var b t v w' := (hb.block b h.lt).trans h
theorem Rdr.big {rb : Nat} {s : ByteArray} {i : Nat} {tb kt : Bool} {w : World} (h : Rdr rb s i tb kt w) : w.cell? ⟨rb, 2, none⟩ = some (.bool tb) := by rw [Lib.cell_of_heap h]; rfl
theorem Rdr.twice {rb : Nat} {s : ByteArray} {i : Nat} {tb kt : Bool} {w : World} (h : Rdr rb s i tb kt w) : w.cell? ⟨rb, 3, none⟩ = some (.bool kt) := by rw [Lib.cell_of_heap h]; rfl

end Go.Proofs.YtocnekbedcnmgaaGreatDoor

