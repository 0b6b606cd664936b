import Derived.Test.YtadefcohbkgbfaaDoorRows
import Derived.WalkKit
namespace Go.Proofs.YtadefcohbkgbfaaDoor
open Go.RowKit

structure SS (w : World) (xa : Option Addr) (xb xo : Nat) (ss : List ByteArray) : Prop where
  ad : 0 < ss.length → xa = some ⟨xb, xo, none⟩
  cell : ∀ j, j < ss.length → w.cell? ⟨xb, xo + j, none⟩ = some (.string (ss.getD j ByteArray.empty))

theorem SS.below {w w' : World} {xa : Option Addr} {xb xo : Nat} {ss : List ByteArray} (h : SS w xa xb xo ss) (hb : Below w.heap.size w w') : SS w' xa xb xo ss :=
  ⟨h.ad, fun j hj => (hb.cell (p := ⟨xb, xo + j, none⟩) (World.block_lt_of_cell? _ _ (h.cell j hj))).trans (h.cell j hj)⟩

theorem below_next {w w1 w2 : World} (h : Below w.heap.size w w1) (k : Below w1.heap.size w1 w2) : Below w.heap.size w w2 := h.trans (k.mono h.size)
def tot (ss : List ByteArray) : Nat := (ss.map ByteArray.size).sum
theorem take_snoc {ss : List ByteArray} {j : Nat} (hj : j < ss.length) : ss.take (j + 1) = ss.take j ++ [ss.getD j ByteArray.empty] := by
  rw [List.take_add_one, List.getElem?_eq_getElem hj]; simp [List.getD, hj]
theorem tot_snoc (ss : List ByteArray) (s : ByteArray) : tot (ss ++ [s]) = tot ss + s.size := by simp [tot]
theorem tot_take_le (ss : List ByteArray) (k : Nat) : tot (ss.take k) ≤ tot ss := by
  have h : tot ss = tot (ss.take k) + tot (ss.drop k) := by
    unfold tot; rw [← List.sum_append, ← List.map_append, List.take_append_drop]
  omega
def szr (L : Nat) (ss : List ByteArray) : Int := if ss.length + tot ss ≤ L then (L : Int) - (ss.length + tot ss : Nat) else -1

theorem hide {p : Prop} (h : p) : Hid p := h
theorem unhide {p : Prop} (h : Hid p) : p := h
theorem ret_int {k : IntKind} {a b : Int} (h : a = b) : Ending.returned (.int k a) = .returned (.int k b) := by rw [h]

end Go.Proofs.YtadefcohbkgbfaaDoor
