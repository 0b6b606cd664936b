import Derived.Test.YtocnekbedcnmgaaGreatDoorApplyPrfA
namespace Go.Proofs.YtocnekbedcnmgaaGreatDoor
open Go.ChangeShapes Go.WideShapes Go.ChangeAt Go.RowKit
open Go.ChangeMaps (open_string shut_string)

theorem apply_inPlace : (Rows.fnExactApplyRow.inPlace == Tryz.prog.inPlace 5) = true := by kernel_rfl
theorem apply_unfollowed : (Rows.fnExactApplyRow.unfollowed == Tryz.prog.unfollowed 5) = true := by kernel_rfl
theorem apply_recurses : (Rows.fnExactApplyRow.recurses == Tryz.prog.recurses 5) = true := by kernel_rfl
theorem apply_varsNamed : (Rows.fnExactApplyRow.named == Tryz.prog.varsNamed 5) = true := by kernel_rfl
set_option maxRecDepth 100000 in
theorem apply_closed : joinedFacts Tryz.prog 5 Tryz.f5 Rows.fnExactApplySpec Rows.fnExactApplyRow = true := by
  unfold joinedFacts
  rw [apply_inPlace, apply_unfollowed, apply_recurses, apply_varsNamed]
  kernel_rfl
set_option maxRecDepth 100000 in
theorem apply_said : Rows.FnExactApplySaid :=
  OpenClaim.holds_of_cond 5 Tryz.f5 rfl rfl rfl rfl rfl rfl rfl ⟨rfl, rfl, rfl, rfl, rfl⟩ rfl rfl rfl rfl rfl (by kernel_rfl) Tryz.func5 apply_closed
    (of_decide_eq_true (by kernel_rfl)) (by unfold Func.isWrapper; first | (rw [if_pos (by decide +kernel)]; kernel_rfl) | (rw [if_neg (by decide +kernel)]; exact ⟨rfl, rfl⟩))
    (fun os started H enc _ F => by rw [OpenClaim.pre_eq_preRow]; exact apply_lifted os started H enc F)
end Go.Proofs.YtocnekbedcnmgaaGreatDoor
