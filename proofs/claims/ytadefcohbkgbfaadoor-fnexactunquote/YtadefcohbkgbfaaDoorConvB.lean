import Derived.Test.YtadefcohbkgbfaaDoorSpecUtf8
import Derived.Test.YtadefcohbkgbfaaDoorByteRow
import Derived.Test.YtadefcohbkgbfaaDoorOwnB
import Derived.Laws.IdiomStrings
namespace Go.Proofs.YtadefcohbkgbfaaDoor
open Go.RowKit

theorem one_bytes (l : List UInt8) : ∀ u ∈ Lib.byteCells l, u.oneCell' = true := by
  intro u hu
  simp only [Lib.byteCells, List.mem_map] at hu
  obtain ⟨b, _, rfl⟩ := hu
  rfl

/-- A string's bytes in a new row. -/
theorem conv_bytes (w : World) (l : List UInt8) : ∃ cap W, (convert 9 32 (.string (strOf l))).run Tryd.prog w = .ok (.slice (some ⟨w.heap.size, 0, none⟩) l.length cap) W ∧
    (∀ j u, (Lib.byteCells l)[j]? = some u → W.cell? ((⟨w.heap.size, 0, none⟩ : Addr).add j) = some u) ∧ Below w.heap.size w W ∧ (∀ (B e : Nat) v n xs, w.ownsRow B e 1 v n xs → W.ownsRow B e 1 v n xs) ∧ w.heap.size ≤ W.heap.size := by
  have h := run_bytes_of_string (P := Tryd.prog) w 9 32 5 (strOf l) Tryd.underlying9 Tryd.underlying32 Tryd.underlying5
  have hsz : (strOf l).size = l.length := strOf_size l
  refine ⟨_, _, (by rw [h, hsz]), ?_, ?_, ?_, ?_⟩
  · intro j u hj
    have hjl : j < l.length := by
      have := (List.getElem?_eq_some_iff.1 hj).1
      rwa [Lib.byteCells_length] at this
    have hd : (strOf l).data.size = l.length := by simp [strOf]
    have h1 := bytesRow_at (strOf l) (grownCap w (strOf l).size 0 5) j (by omega)
    rw [Go.WideShapes.add_plain, show (0 : Nat) + j = j from by omega]
    have hh : (w.drew.alloc (.cells (bytesRow (strOf l) (grownCap w (strOf l).size 0 5)) 5 ((bytesRow (strOf l) (grownCap w (strOf l).size 0 5)).size, (bytesRow (strOf l) (grownCap w (strOf l).size 0 5)).size + 1))).heap[w.heap.size]? = some (.cells (bytesRow (strOf l) (grownCap w (strOf l).size 0 5)) 5 ((bytesRow (strOf l) (grownCap w (strOf l).size 0 5)).size, (bytesRow (strOf l) (grownCap w (strOf l).size 0 5)).size + 1)) := heap_alloc_new w.drew _
    rw [hsz] at hh h1
    rw [cell_of_row _ w.heap.size j _ 5 _ hh, h1]
    rw [byteCells_at hjl] at hj
    rw [← hj]
    simp [strOf]
  · exact ((Below.refl _ _).drew).alloc (Nat.le_refl _) _
  · intro B e v n xs ho
    exact World.ownsRow.alloc (w := w.drew) ho _
  · show w.heap.size ≤ (w.heap.push _).size
    simp
end Go.Proofs.YtadefcohbkgbfaaDoor
