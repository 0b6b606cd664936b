import Derived.Test.YtiolpmhodbefoaaHubRep
import Derived.Test.YtiolpmhodbefoaaStrSz
namespace Go.Proofs.Ytiolpmhodbefoaa
open Go.RowKit

/-- What is left of L when n is taken away, -1 when there is not so much. -/
def szI (L n : Nat) : Int := if n ≤ L then (L : Int) - n else -1
theorem szI_ok {L n : Nat} (h : n ≤ L) : szI L n = ((L - n : Nat) : Int) := by unfold szI; rw [if_pos h]; omega
theorem szI_no {L n : Nat} (h : ¬ n ≤ L) : szI L n = -1 := by unfold szI; rw [if_neg h]
theorem szI_ge (L n : Nat) : -1 ≤ szI L n := by unfold szI; split <;> omega
theorem szI_le (L n : Nat) : szI L n ≤ L := by unfold szI; split <;> omega
def szStr (ss : List ByteArray) : Nat := ss.length + tot ss
def szMsg (m : Msg) : Nat := szStr m.ptrs
theorem alloc_b (w : World) (o : Obj) : Below w.heap.size w (w.alloc o) := (Below.refl _ _).alloc (Nat.le_refl _) o
theorem list2 {α : Type} {l : List α} (h : l.length = 2) : ∃ a b, l = [a, b] := by
  match l, h with
  | [a, b], _ => exact ⟨a, b, rfl⟩
theorem list3 {α : Type} {l : List α} (h : l.length = 3) : ∃ a b c, l = [a, b, c] := by
  match l, h with
  | [a, b, c], _ => exact ⟨a, b, c, rfl⟩
theorem list4 {α : Type} {l : List α} (h : l.length = 4) : ∃ a b c d, l = [a, b, c, d] := by
  match l, h with
  | [a, b, c, d], _ => exact ⟨a, b, c, d, rfl⟩
theorem list6 {α : Type} {l : List α} (h : l.length = 6) : ∃ a b c d e f, l = [a, b, c, d, e, f] := by
  match l, h with
  | [a, b, c, d, e, f], _ => exact ⟨a, b, c, d, e, f, rfl⟩
theorem sum_take_le (l : List Nat) (k : Nat) : (l.take k).sum ≤ l.sum := by
  have h := List.take_append_drop k l
  have : (l.take k ++ l.drop k).sum = l.sum := by rw [h]
  rw [List.sum_append] at this; omega
theorem sum_take_snoc {α : Type} (f : α → Nat) (l : List α) (k : Nat) (x : α) (h : l[k]? = some x) : ((l.take (k + 1)).map f).sum = ((l.take k).map f).sum + f x := by
  rw [List.take_add_one, h]; simp
def szMsgs (ms : List Msg) : Nat := ms.length + (ms.map szMsg).sum
def szNws (m : Nws) : Nat := szStr m.ptrs
def szNwss (ms : List Nws) : Nat := ms.length + (ms.map szNws).sum
def szWat (m : Wat) : Nat := m.ptr.size + szMsgs m.queue
def szWats (ms : List Wat) : Nat := ms.length + (ms.map szWat).sum
def szHb (h : Hb) : Nat := szWats h.watches + szNwss h.waiting
end Go.Proofs.Ytiolpmhodbefoaa
