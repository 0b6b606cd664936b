import Derived.Test.YtadefcohbkgbfabGreatDoorBn39
import Derived.Test.YtadefcohbkgbfabGreatDoorBn27
namespace Go.Proofs.YtadefcohbkgbfabGreatDoor
open Go.RowKit

/-- What the row's condition says of the tables. -/
def VarsOk (w : World) : Prop := Tabs w ∧ ErrB w.heap.size w ∧ PowB w.heap.size w
theorem tables_of {W : World} (hL : laidMetH Tryz.prog Rows.fnExactPlacesRow.laid W) : VarsOk W := by
  have h : laidMet Tryz.prog Rows.fnStringRow.laid W := hL
  exact ⟨tabs_at h, err_at h, pow_at h⟩
theorem placesLaw_walk (s : ByteArray) (w : World) (h : VarsOk w) :
    Calls Tryz.prog 6 #[.string s] w fun e w' => e = .returned (.bool true) ∧ Below w.heap.size w w' := placesLaw_in s w h.1 h.2.1 h.2.2
end Go.Proofs.YtadefcohbkgbfabGreatDoor
