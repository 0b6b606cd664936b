import Derived.Test.YtiolpmhodbefoaaBp2
import Derived.Test.YtiolpmhodbefoaaBp1
namespace Go.Proofs.Ytiolpmhodbefoaa
open Go.RowKit

structure Msg where
  ver : Int
  ptrs : List ByteArray
  over : Bool
structure Wat where
  client : Int
  ptr : ByteArray
  cap : Int
  since : Int
  closed : Bool
  queue : List Msg
structure Nws where
  ver : Int
  ptrs : List ByteArray
structure Hb where
  watches : List Wat
  waiting : List Nws

def msgR : RElem Msg where
  wd := 3
  R := fun w vs m => ∃ q, vs = [.int .i64 m.ver, q, .bool m.over] ∧ RRow sRE w q m.ptrs
  len := fun h => by obtain ⟨q, h, _⟩ := h; rw [h]; rfl
  keep := fun h hb => by obtain ⟨q, h1, h2⟩ := h; exact ⟨q, h1, h2.below hb⟩
def nwsR : RElem Nws where
  wd := 2
  R := fun w vs m => ∃ q, vs = [.int .i64 m.ver, q] ∧ RRow sRE w q m.ptrs
  len := fun h => by obtain ⟨q, h, _⟩ := h; rw [h]; rfl
  keep := fun h hb => by obtain ⟨q, h1, h2⟩ := h; exact ⟨q, h1, h2.below hb⟩
def watR : RElem Wat where
  wd := 6
  R := fun w vs m => ∃ q, vs = [.int .i64 m.client, .string m.ptr, .int .i64 m.cap, .int .i64 m.since, .bool m.closed, q] ∧ m.ptr.size ≤ maxLen ∧ RRow msgR w q m.queue
  len := fun h => by obtain ⟨q, h, _⟩ := h; rw [h]; rfl
  keep := fun h hb => by obtain ⟨q, h1, h0, h2⟩ := h; exact ⟨q, h1, h0, h2.below hb⟩
def RHub (w : World) (v : Value) (h : Hb) : Prop := ∃ p q, v = .agg #[p, q] ∧ RRow watR w p h.watches ∧ RRow nwsR w q h.waiting
theorem RHub.below {w w' : World} {v : Value} {h : Hb} (hr : RHub w v h) (hb : Below w.heap.size w w') : RHub w' v h := by
  obtain ⟨p, q, hv, h1, h2⟩ := hr
  exact ⟨p, q, hv, h1.below hb, h2.below hb⟩

end Go.Proofs.Ytiolpmhodbefoaa


namespace Go.Proofs.Ytiolpmhodbefoaa
open Go.RowKit

theorem alloc_b (w : World) (o : Obj) : Below w.heap.size w (w.alloc o) := (Below.refl _ _).alloc (Nat.le_refl _) o
theorem list2 {α : Type} {l : List α} (h : l.length = 2) : ∃ a b, l = [a, b] := by
  match l, h with
  | [a, b], _ => exact ⟨a, b, rfl⟩
theorem list3 {α : Type} {l : List α} (h : l.length = 3) : ∃ a b c, l = [a, b, c] := by
  match l, h with
  | [a, b, c], _ => exact ⟨a, b, c, rfl⟩
theorem sum_take_le (l : List Nat) (k : Nat) : (l.take k).sum ≤ l.sum := by
  have h := List.take_append_drop k l
  have : (l.take k ++ l.drop k).sum = l.sum := by rw [h]
  rw [List.sum_append] at this; omega
theorem sum_take_snoc {α : Type} (f : α → Nat) (l : List α) (k : Nat) (x : α) (h : l[k]? = some x) : ((l.take (k + 1)).map f).sum = ((l.take k).map f).sum + f x := by
  rw [List.take_add_one, h]; simp
end Go.Proofs.Ytiolpmhodbefoaa


namespace Go.Proofs.Ytiolpmhodbefoaa
open Go.RowKit

theorem list5 {α : Type} {l : List α} (h : l.length = 5) : ∃ a b c d e, l = [a, b, c, d, e] := by
  match l, h with
  | [a, b, c, d, e], _ => exact ⟨a, b, c, d, e, rfl⟩
theorem list9 {α : Type} {l : List α} (h : l.length = 9) : ∃ a b c d e f g i j, l = [a, b, c, d, e, f, g, i, j] := by
  match l, h with
  | [a, b, c, d, e, f, g, i, j], _ => exact ⟨a, b, c, d, e, f, g, i, j, rfl⟩
end Go.Proofs.Ytiolpmhodbefoaa

