import Derived.Test.YtocnekbedcnmgaaGreatDoorBq25
import Derived.Test.YtocnekbedcnmgaaGreatDoorBq26
import Derived.Test.YtocnekbedcnmgaaGreatDoorBq3
namespace Go.Proofs.YtocnekbedcnmgaaGreatDoor
open Go.RowKit

/-- All old blocks but two are as they were. -/
structure KB2 (rb sc : Nat) (w w' : World) : Prop where
  os : w'.os = w.os
  tape : w'.tape = w.tape
  output : w'.output = w.output
  size : w.heap.size ≤ w'.heap.size
  block : ∀ k, k < w.heap.size → k ≠ rb → k ≠ sc → w'.heap[k]? = w.heap[k]?
theorem KB.two {rb : Nat} {w w' : World} (h : KB rb w w') (sc : Nat) : KB2 rb sc w w' := ⟨h.os, h.tape, h.output, h.size, fun k hk h1 _ => h.block k hk h1⟩
theorem KB2.trans {rb sc : Nat} {a b c : World} (h : KB2 rb sc a b) (k : KB2 rb sc b c) : KB2 rb sc a c :=
  ⟨k.os.trans h.os, k.tape.trans h.tape, k.output.trans h.output, Nat.le_trans h.size k.size, fun i hi h1 h2 => (k.block i (Nat.lt_of_lt_of_le hi h.size) h1 h2).trans (h.block i hi h1 h2)⟩
theorem KB2.set {rb sc : Nat} {a w : World} (h : KB2 rb sc a w) (j : Nat) (v : Value) : KB2 rb sc a (w.setCell ⟨sc, j, none⟩ v) :=
  h.trans ⟨rfl, rfl, rfl, by simp [World.setCell], fun k _ _ hn => Below.heap_setCell _ _ _ _ hn⟩

/-- A variable that holds one value. -/
def Var (b : Nat) (t : TypeId) (v : Value) (w : World) : Prop := w.heap[b]? = some (.cells #[v] t (0, 0))
theorem Var.cell {b : Nat} {t : TypeId} {v : Value} {w : World} (h : Var b t v w) : w.cell? ⟨b, 0, none⟩ = some v := by rw [Lib.cell_of_heap h]; rfl
theorem Var.frozen {b : Nat} {t : TypeId} {v : Value} {w : World} (h : Var b t v w) : w.frozen? ⟨b, 0, none⟩ = false := Lib.frozen_of_heap h 0
theorem Var.lt {b : Nat} {t : TypeId} {v : Value} {w : World} (h : Var b t v w) : b < w.heap.size := (Array.getElem?_eq_some_iff.1 h).1
theorem Var.kb {b rb : Nat} {t : TypeId} {v : Value} {w w' : World} (h : Var b t v w) (k : KB rb w w') (hn : b ≠ rb) : Var b t v w' := (k.block b h.lt hn).trans h
theorem Var.set {b : Nat} {t : TypeId} {v : Value} {w : World} (h : Var b t v w) (v' : Value) : Var b t v' (w.setCell ⟨b, 0, none⟩ v') := heap_setCell_same w b 0 _ t v' h
theorem Var.other {b : Nat} {t : TypeId} {v : Value} {w : World} (h : Var b t v w) {p : Addr} (hp : b ≠ p.block) (v' : Value) : Var b t v (w.setCell p v') := (Below.heap_setCell w p v' b hp).trans h
theorem Rdr.other {rb : Nat} {s : ByteArray} {i : Nat} {tb kt : Bool} {w : World} (h : Rdr rb s i tb kt w) {p : Addr} (hp : rb ≠ p.block) (v' : Value) : Rdr rb s i tb kt (w.setCell p v') := (Below.heap_setCell w p v' rb hp).trans h

theorem ok_new (w : World) : OkCell w.heap.size (w.alloc (.cells #[.bool false] 4)) := heap_alloc_new w _
theorem KB2.below {rb sc B : Nat} {w w' : World} (h : KB2 rb sc w w') (h1 : B ≤ rb) (h2 : B ≤ sc) (hs : B ≤ w.heap.size) : Below B w w' := ⟨h.os, h.tape, h.output, h.size, fun k hk => h.block k (by omega) (by omega) (by omega)⟩

end Go.Proofs.YtocnekbedcnmgaaGreatDoor


namespace Go.Proofs.YtocnekbedcnmgaaGreatDoor
open Go.RowKit

end Go.Proofs.YtocnekbedcnmgaaGreatDoor

