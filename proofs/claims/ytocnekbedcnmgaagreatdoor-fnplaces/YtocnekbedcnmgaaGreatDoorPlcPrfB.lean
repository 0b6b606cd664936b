import Derived.Test.YtocnekbedcnmgaaGreatDoorPlcPrfA
namespace Go.Proofs.YtocnekbedcnmgaaGreatDoor
open Go.ChangeShapes Go.WideShapes Go.ChangeAt Go.RowKit
open Go.ChangeMaps (open_string shut_string)

theorem plc_inPlace : (Rows.fnPlacesRow.inPlace == Tryz.prog.inPlace 6) = true := by kernel_rfl
theorem plc_unfollowed : (Rows.fnPlacesRow.unfollowed == Tryz.prog.unfollowed 6) = true := by kernel_rfl
theorem plc_recurses : (Rows.fnPlacesRow.recurses == Tryz.prog.recurses 6) = true := by kernel_rfl
theorem plc_varsNamed : (Rows.fnPlacesRow.named == Tryz.prog.varsNamed 6) = true := by kernel_rfl
set_option maxRecDepth 100000 in
theorem plc_closed : joinedFacts Tryz.prog 6 Tryz.f6 Rows.fnPlacesSpec Rows.fnPlacesRow = true := by
  unfold joinedFacts
  rw [plc_inPlace, plc_unfollowed, plc_recurses, plc_varsNamed]
  kernel_rfl
set_option maxRecDepth 100000 in
theorem plc_said : Rows.FnPlacesSaid :=
  OpenClaim.holds_of_cond 6 Tryz.f6 rfl rfl rfl rfl rfl rfl rfl ⟨rfl, rfl, rfl, rfl, rfl⟩ rfl rfl rfl rfl rfl (by kernel_rfl) Tryz.func6 plc_closed
    (of_decide_eq_true (by kernel_rfl)) (by unfold Func.isWrapper; first | (rw [if_pos (by decide +kernel)]; kernel_rfl) | (rw [if_neg (by decide +kernel)]; exact ⟨rfl, rfl⟩))
    (fun os started H enc _ F => by rw [OpenClaim.pre_eq_preRow]; exact plc_lifted os started H enc F)
end Go.Proofs.YtocnekbedcnmgaaGreatDoor
