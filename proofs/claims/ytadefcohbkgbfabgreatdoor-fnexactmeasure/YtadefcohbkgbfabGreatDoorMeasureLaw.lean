import Derived.Test.YtadefcohbkgbfabGreatDoorCanonIn
import Derived.Test.YtadefcohbkgbfabGreatDoorBn27
namespace Go.Proofs.YtadefcohbkgbfabGreatDoor
open Go.RowKit

/-- What the row's condition says of the tables. -/
def VarsOk (w : World) : Prop := Tabs w ∧ ErrB w.heap.size w ∧ PowB w.heap.size w
theorem tables_of {W : World} (hL : laidMetH Tryz.prog Rows.fnExactMeasureRow.laid W) : VarsOk W := by
  have h : laidMet Tryz.prog Rows.fnStringRow.laid W := hL
  exact ⟨tabs_at h, err_at h, pow_at h⟩
theorem measureLaw_walk (s : ByteArray) (w : World) (h : VarsOk w) :
    Calls Tryz.prog 5 #[.string s] w fun e w' => e = .returned (.bool true) ∧ Below w.heap.size w w' := measureLaw_in s w h.1 h.2.1 h.2.2
end Go.Proofs.YtadefcohbkgbfabGreatDoor
