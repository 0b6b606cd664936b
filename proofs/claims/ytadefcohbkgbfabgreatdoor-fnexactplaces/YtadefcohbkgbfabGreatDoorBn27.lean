import Derived.Stop.LaidErr
import Derived.Lib.LaidU8T
import Derived.PinnedBridge
import Derived.Test.YtadefcohbkgbfabGreatDoorBn1
import Derived.Test.YtadefcohbkgbfabGreatDoorBn23
import Derived.Test.YtadefcohbkgbfabGreatDoorBn26
namespace Go.Proofs.YtadefcohbkgbfabGreatDoor
open Go.RowKit Go.Shelf Go.Lib

theorem tabs_at {W : World} (h : laidMet Tryz.prog Rows.fnStringRow.laid W) : Tabs W := by
  refine utf8Tabs_of_readsT ⟨Tryz.laysDecode.t5, Tryz.laysDecode.t119, Tryz.laysDecode.t138, Tryz.laysDecode.t139⟩ ⟨by kernel_rfl, by kernel_rfl, by kernel_rfl, by kernel_rfl, by kernel_rfl, by kernel_rfl, by kernel_rfl⟩ ?_ ?_
  · have h1 := Lib.laidMet.reads h (d := Rows.laid_unicode_utf8_first) (.tail _ (.tail _ (.tail _ (.tail _ (.tail _ (.tail _ (.head _)))))))
    rw [show Rows.laid_unicode_utf8_first = firstData from Pinned.utf8First_eq] at h1
    exact h1
  · have h1 := Lib.laidMet.reads h (d := Rows.laid_unicode_utf8_acceptRanges) (.tail _ (.tail _ (.tail _ (.head _))))
    rw [show (Rows.laid_unicode_utf8_acceptRanges : DataW Unit) = acceptData from by kernel_rfl] at h1
    exact h1
theorem var_lt {W : World} {n : String} {g : Nat} {cs : Array Value} (hg : Tryz.prog.globalNamed n = some g) (h : W.var? Tryz.prog n = some cs) : g < W.heap.size := by
  unfold World.var? at h
  rw [hg] at h
  simp only [Option.bind_some] at h
  rcases Nat.lt_or_ge g W.heap.size with h' | h'
  · exact h'
  · rw [Array.getElem?_eq_none h'] at h; cases h
theorem pow_at {W : World} (h : laidMet Tryz.prog Rows.fnStringRow.laid W) : PowB W.heap.size W := by
  have h3 : laidMet Tryz.prog (("internal/strconv.uint64pow10", Lib.tabData .u64 Lib.pow10Tab) :: _) W := h.tail.tail
  have hg : Tryz.prog.globalNamed "internal/strconv.uint64pow10" = some 2 := by kernel_rfl
  have ht : Lib.TabIs Tryz.prog W "internal/strconv.uint64pow10" .u64 Lib.pow10Tab := Lib.tabIs_of_head hg (t := 169) (by kernel_rfl) Tryz.underlying169 Tryz.underlying118 (by kernel_rfl) (by kernel_rfl) h3
  exact ⟨var_lt hg ht, ht⟩
theorem err_star : "*" ++ "errors.errorString" = "*errors.errorString" := by decide
theorem err_row (u : TypeId) (h : Tryz.prog.typeName? 3 u = some "*errors.errorString") : u = 192 :=
  typeName_ptr_named (nm := "errors.errorString") (by rw [err_star]; kernel_rfl) (by kernel_rfl) (by decide) u (by rw [err_star]; exact h)
theorem err_at {W : World} (h : laidMet Tryz.prog Rows.fnStringRow.laid W) : ErrB W.heap.size W := by
  have h4 := h.tail.tail.tail.tail
  have hg : Tryz.prog.globalNamed "strconv.ErrRange" = some 4 := by kernel_rfl
  obtain ⟨a, s, hv, _, _, _⟩ := laid_sentinel h4 hg (ti := 89) (by kernel_rfl) Tryz.underlying89 err_row Tryz.underlying192 Tryz.underlying194 rfl rfl Tryz.underlying9 (by kernel_rfl) (by kernel_rfl)
  refine ⟨var_lt hg hv, _, _, World.var?_cell hg hv 0⟩
end Go.Proofs.YtadefcohbkgbfabGreatDoor
