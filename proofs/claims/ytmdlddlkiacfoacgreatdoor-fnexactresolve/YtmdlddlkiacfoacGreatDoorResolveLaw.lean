import Derived.Test.YtmdlddlkiacfoacGreatDoorImplRes
import Derived.Test.YtmdlddlkiacfoacGreatDoorVarsA
namespace Go.Proofs.YtmdlddlkiacfoacGreatDoor
open Go.RowKit

/-- What the row's condition says of the tables. -/
def VarsOk (w : World) : Prop := Tabs w ∧ ErrB w.heap.size w ∧ PowB w.heap.size w
theorem tables_of {W : World} (hL : laidMetH Tryz.prog Rows.fnExactResolveRow.laid W) : VarsOk W := by
  have h : laidMet Tryz.prog laidAll W := hL
  exact ⟨tabs_at h, err_at h, pow_at h⟩
theorem resolveLaw_walk (s t : ByteArray) (w : World) (hML : ML w) (h : VarsOk w) :
    Calls Tryz.prog 3 #[.string s, .string t] w fun e w' => e = .returned (.bool true) ∧ Below w.heap.size w w' := resolveLaw_in s t w h.1 h.2.1 h.2.2 hML
end Go.Proofs.YtmdlddlkiacfoacGreatDoor
