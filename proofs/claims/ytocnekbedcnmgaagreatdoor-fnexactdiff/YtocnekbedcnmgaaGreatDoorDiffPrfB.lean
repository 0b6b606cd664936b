import Derived.Test.YtocnekbedcnmgaaGreatDoorDiffPrfA
namespace Go.Proofs.YtocnekbedcnmgaaGreatDoor
open Go.ChangeShapes Go.WideShapes Go.ChangeAt Go.RowKit
open Go.ChangeMaps (open_string shut_string)

theorem diff_inPlace : (Rows.fnExactDiffRow.inPlace == Tryz.prog.inPlace 4) = true := by kernel_rfl
theorem diff_unfollowed : (Rows.fnExactDiffRow.unfollowed == Tryz.prog.unfollowed 4) = true := by kernel_rfl
theorem diff_recurses : (Rows.fnExactDiffRow.recurses == Tryz.prog.recurses 4) = true := by kernel_rfl
theorem diff_varsNamed : (Rows.fnExactDiffRow.named == Tryz.prog.varsNamed 4) = true := by kernel_rfl
set_option maxRecDepth 100000 in
theorem diff_closed : joinedFacts Tryz.prog 4 Tryz.f4 Rows.fnExactDiffSpec Rows.fnExactDiffRow = true := by
  unfold joinedFacts
  rw [diff_inPlace, diff_unfollowed, diff_recurses, diff_varsNamed]
  kernel_rfl
set_option maxRecDepth 100000 in
theorem diff_said : Rows.FnExactDiffSaid :=
  OpenClaim.holds_of_cond 4 Tryz.f4 rfl rfl rfl rfl rfl rfl rfl ⟨rfl, rfl, rfl, rfl, rfl⟩ rfl rfl rfl rfl rfl (by kernel_rfl) Tryz.func4 diff_closed
    (of_decide_eq_true (by kernel_rfl)) (by unfold Func.isWrapper; first | (rw [if_pos (by decide +kernel)]; kernel_rfl) | (rw [if_neg (by decide +kernel)]; exact ⟨rfl, rfl⟩))
    (fun os started H enc _ F => by rw [OpenClaim.pre_eq_preRow]; exact diff_lifted os started H enc F)
end Go.Proofs.YtocnekbedcnmgaaGreatDoor
