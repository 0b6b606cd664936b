import Derived.Test.YtcjajchfjoffnaaGreatDoorTouchPrfA
namespace Go.Proofs.YtcjajchfjoffnaaGreatDoor
open Go.ChangeShapes Go.WideShapes Go.ChangeAt Go.RowKit
open Go.ChangeMaps (open_string shut_string)

theorem touch_inPlace : (Rows.fnExactTouchedRow.inPlace == Tryz.prog.inPlace 6) = true := by kernel_rfl
theorem touch_unfollowed : (Rows.fnExactTouchedRow.unfollowed == Tryz.prog.unfollowed 6) = true := by kernel_rfl
theorem touch_recurses : (Rows.fnExactTouchedRow.recurses == Tryz.prog.recurses 6) = true := by kernel_rfl
theorem touch_varsNamed : (Rows.fnExactTouchedRow.named == Tryz.prog.varsNamed 6) = true := by kernel_rfl
set_option maxRecDepth 100000 in
theorem touch_closed : joinedFacts Tryz.prog 6 Tryz.f6 Rows.fnExactTouchedSpec Rows.fnExactTouchedRow = true := by
  unfold joinedFacts
  rw [touch_inPlace, touch_unfollowed, touch_recurses, touch_varsNamed]
  kernel_rfl
set_option maxRecDepth 100000 in
theorem touch_said : Rows.FnExactTouchedSaid :=
  OpenClaim.holds_of_cond 6 Tryz.f6 rfl rfl rfl rfl rfl rfl rfl ⟨rfl, rfl, rfl, rfl, rfl⟩ rfl rfl rfl rfl rfl (by kernel_rfl) Tryz.func6 touch_closed
    (of_decide_eq_true (by kernel_rfl)) (by unfold Func.isWrapper; first | (rw [if_pos (by decide +kernel)]; kernel_rfl) | (rw [if_neg (by decide +kernel)]; exact ⟨rfl, rfl⟩))
    (fun os started H enc _ F => by rw [OpenClaim.pre_eq_preRow]; exact touch_lifted os started H enc F)
end Go.Proofs.YtcjajchfjoffnaaGreatDoor
