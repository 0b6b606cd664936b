import Derived.Test.YtiolpmhodbefoaaPRow
import Derived.Test.YtiolpmhodbefoaaSzMsg
import Derived.Test.YtiolpmhodbefoaaStrTo
import Derived.Lib.Builder
import Derived.Handy
namespace Go.Proofs.Ytiolpmhodbefoaa
open Go.RowKit

theorem ORow.other {α : Type} {e : Elem α} {w : World} {v : Value} {xs : List α} {bl : List Nat} (h : ORow e w v xs bl) {g : Nat} (hg : g ∉ bl) (o : Nat) (u : Value) : ORow e (w.setCell ⟨g, o, none⟩ u) v xs bl :=
  h.keep fun b hb => Below.heap_setCell _ _ _ _ fun he => hg (by subst he; exact hb)
theorem Fsh.not {B g : Nat} {bl : List Nat} (h : Fsh B bl) (hg : g < B) : g ∉ bl := fun hm => by have := h.2 g hm; omega
/-- Three new blocks. -/
structure New3 (w : World) (a b c : Obj) (w' : World) : Prop where
  bel : Below w.heap.size w w'
  size : w'.heap.size = w.heap.size + 1 + 1 + 1
  k0 : w'.heap[w.heap.size]? = some a
  k1 : w'.heap[w.heap.size + 1]? = some b
  k2 : w'.heap[w.heap.size + 1 + 1]? = some c
theorem new3 (w : World) (a b c : Obj) : New3 w a b c (((w.alloc a).alloc b).alloc c) := by
  refine ⟨below_next (below_next (alloc_b w _) (alloc_b _ _)) (alloc_b _ _), by simp, ?_, ?_, ?_⟩
  · exact ((alloc_b _ c).block _ (by simp; omega)).trans (((alloc_b _ b).block _ (by simp)).trans (heap_alloc_new w a))
  · have := heap_alloc_new (w.alloc a) b
    rw [show (w.alloc a).heap.size = w.heap.size + 1 from by simp] at this
    exact ((alloc_b _ c).block _ (by simp)).trans this
  · have := heap_alloc_new ((w.alloc a).alloc b) c
    simpa using this
theorem ORow.putN {α : Type} {e : Elem α} {w : World} {v : Value} {xs : List α} {bl : List Nat} (h : ORow e w v xs bl) {g : Nat} (hg : g ∉ bl) (vs : List Value) (o : Nat) : ORow e (putN w g o vs) v xs bl :=
  h.keep fun b hb => putN_other (fun he => hg (by subst he; exact hb)) _ _
end Go.Proofs.Ytiolpmhodbefoaa
