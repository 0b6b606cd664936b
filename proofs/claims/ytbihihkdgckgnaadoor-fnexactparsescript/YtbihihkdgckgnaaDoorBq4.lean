import Derived.Test.YtbihihkdgckgnaaDoorBq1
import Derived.Test.YtbihihkdgckgnaaDoorBq3
namespace Go.Proofs.YtbihihkdgckgnaaDoor
open Go.RowKit Go.Shelf

def ML (w : World) : Prop := ∃ m, w.cell? ⟨Tryd.laysM146_ren.g 1, 0, none⟩ = some (.int .i64 m)
theorem ML.of {w : World} (h : w.ShapedOpen Tryd.prog) : ML w := Tryd.laysM146.s1_3 w h
theorem ML.below {w w' : World} (h : ML w) (hb : Below w.heap.size w w') : ML w' := by
  obtain ⟨m, hm⟩ := h
  exact ⟨m, (hb.cell (World.block_lt_of_cell? _ _ hm)).trans hm⟩

end Go.Proofs.YtbihihkdgckgnaaDoor

