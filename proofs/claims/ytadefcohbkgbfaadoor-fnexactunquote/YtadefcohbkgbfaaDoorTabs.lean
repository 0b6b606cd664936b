import Derived.Test.YtadefcohbkgbfaaDoorStr
import Derived.Shelf.Unicode.DecodeSlow
namespace Go.Proofs.YtadefcohbkgbfaaDoor
open Go.RowKit

/-- The two tables of unicode/utf8. -/
def Tabs (w : World) : Prop := Lib.Utf8Tabs 0 1 w
theorem Tabs.below {w w' : World} (h : Tabs w) (hb : Below w.heap.size w w') : Tabs w' := by
  refine ⟨fun c hc => ?_, fun i hi => ?_⟩
  · have := h.1 c hc
    exact (hb.cell (World.block_lt_of_cell? _ _ this)).trans this
  · have h2 := h.2 i hi
    exact ⟨(hb.cell (World.block_lt_of_cell? _ _ h2.1)).trans h2.1, (hb.cell (World.block_lt_of_cell? _ _ h2.2)).trans h2.2⟩
/-- The tables, below block B. -/
def TabsB (B : Nat) (w : World) : Prop := ∃ w0 : World, w0.heap.size ≤ B ∧ Tabs w0 ∧ Below w0.heap.size w0 w
theorem TabsB.of {w : World} (h : Tabs w) : TabsB w.heap.size w := ⟨w, Nat.le_refl _, h, Below.refl _ _⟩
theorem TabsB.tabs {B : Nat} {w : World} (h : TabsB B w) : Tabs w := by
  obtain ⟨w0, _, t, b⟩ := h
  exact t.below b
theorem TabsB.next {B B' : Nat} {w w' : World} (h : TabsB B w) (hb : Below B' w w') (hB : B ≤ B') : TabsB B w' := by
  obtain ⟨w0, h0, t, b⟩ := h
  exact ⟨w0, h0, t, b.trans (hb.mono (by omega))⟩
end Go.Proofs.YtadefcohbkgbfaaDoor
