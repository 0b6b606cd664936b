import Derived.Test.YtiolpmhodbefoaaArgRow
namespace Go.Proofs.Ytiolpmhodbefoaa
open Go.RowKit

structure Msg where
  ver : Int
  ptrs : List ByteArray
  over : Bool
structure Wat where
  client : Int
  ptr : ByteArray
  cap : Int
  since : Int
  closed : Bool
  queue : List Msg
structure Nws where
  ver : Int
  ptrs : List ByteArray
structure Hb where
  watches : List Wat
  waiting : List Nws

def msgR : RElem Msg where
  wd := 3
  R := fun w vs m => ∃ q, vs = [.int .i64 m.ver, q, .bool m.over] ∧ RRow sRE w q m.ptrs
  len := fun h => by obtain ⟨q, h, _⟩ := h; rw [h]; rfl
  keep := fun h hb => by obtain ⟨q, h1, h2⟩ := h; exact ⟨q, h1, h2.below hb⟩
def nwsR : RElem Nws where
  wd := 2
  R := fun w vs m => ∃ q, vs = [.int .i64 m.ver, q] ∧ RRow sRE w q m.ptrs
  len := fun h => by obtain ⟨q, h, _⟩ := h; rw [h]; rfl
  keep := fun h hb => by obtain ⟨q, h1, h2⟩ := h; exact ⟨q, h1, h2.below hb⟩
def watR : RElem Wat where
  wd := 6
  R := fun w vs m => ∃ q, vs = [.int .i64 m.client, .string m.ptr, .int .i64 m.cap, .int .i64 m.since, .bool m.closed, q] ∧ m.ptr.size ≤ maxLen ∧ RRow msgR w q m.queue
  len := fun h => by obtain ⟨q, h, _⟩ := h; rw [h]; rfl
  keep := fun h hb => by obtain ⟨q, h1, h0, h2⟩ := h; exact ⟨q, h1, h0, h2.below hb⟩
def RHub (w : World) (v : Value) (h : Hb) : Prop := ∃ p q, v = .agg #[p, q] ∧ RRow watR w p h.watches ∧ RRow nwsR w q h.waiting
theorem RHub.below {w w' : World} {v : Value} {h : Hb} (hr : RHub w v h) (hb : Below w.heap.size w w') : RHub w' v h := by
  obtain ⟨p, q, hv, h1, h2⟩ := hr
  exact ⟨p, q, hv, h1.below hb, h2.below hb⟩

end Go.Proofs.Ytiolpmhodbefoaa
