import Derived.Test.YtadefcohbkgbfaaDoorTokRow
import Derived.Test.YtadefcohbkgbfaaDoorShelf
namespace Go.Proofs.YtadefcohbkgbfaaDoor
open Go.RowKit Go.Shelf

def ML (w : World) : Prop := ∃ m, w.cell? ⟨Tryd.laysM146_ren.g 1, 0, none⟩ = some (.int .i64 m)
theorem ML.of {w : World} (h : w.ShapedOpen Tryd.prog) : ML w := Tryd.laysM146.s1_3 w h
theorem ML.below {w w' : World} (h : ML w) (hb : Below w.heap.size w w') : ML w' := by
  obtain ⟨m, hm⟩ := h
  exact ⟨m, (hb.cell (World.block_lt_of_cell? _ _ hm)).trans hm⟩

def cuts (s : ByteArray) : List ByteArray := Lib.splitB ⟨#[47]⟩ 0 (Lib.countB s ⟨#[47]⟩) s
theorem cuts_data (s : ByteArray) : (cuts s).map (·.data.toList) = pieces s.data.toList := splitB_pieces s
theorem cuts_len (s : ByteArray) : (cuts s).length = Lib.countB s ⟨#[47]⟩ + 1 := Lib.splitB_all ⟨#[47]⟩ (by decide) 0 _ s rfl
theorem cuts_le (s : ByteArray) : (cuts s).length ≤ s.size + 1 := by rw [cuts_len]; have := Lib.countB_le ⟨#[47]⟩ (by decide) _ s (Nat.le_refl _); omega

theorem split_walk (s : ByteArray) (w : World) (h : ML w) (hs : s.size ≤ 1048576) :
    Calls Tryd.prog 29 #[.string s, .string ⟨#[47]⟩] w fun e w' => e = .returned (.slice (some ⟨w.heap.size, 0, none⟩) (cuts s).length (cuts s).length) ∧ SS w' (some ⟨w.heap.size, 0, none⟩) w.heap.size 0 (cuts s) ∧ Below w.heap.size w w' ∧ w.heap.size < w'.heap.size := by
  obtain ⟨m, hm⟩ := h
  refine Calls.mono (Any.strings_Split { Tryd.laysM146 with } Tryd.laysM146.i9 s ⟨#[47]⟩ m w (by omega) hm (by decide)) ?_
  rintro e w' ⟨rfl, rfl⟩
  refine ⟨?_, ⟨fun _ => rfl, fun j hj => ?_⟩, (Below.refl _ _).alloc (Nat.le_refl _) _, by simp⟩
  · rw [cuts_len]
  · have hg := heap_alloc_new w (.cells ((cuts s).map Value.string).toArray 9)
    show (w.alloc (.cells ((cuts s).map Value.string).toArray 9)).cell? _ = _
    rw [Lib.cell_of_heap hg]
    simp [hj]
end Go.Proofs.YtadefcohbkgbfaaDoor
