import Derived.Test.YtocnekbedcnmgaaGreatDoorDecodePrfA
namespace Go.Proofs.YtocnekbedcnmgaaGreatDoor
open Go.ChangeShapes Go.WideShapes Go.ChangeAt Go.RowKit
open Go.ChangeMaps (open_string shut_string)

theorem decode_inPlace : (Rows.fnExactDecodePatchRow.inPlace == Tryz.prog.inPlace 3) = true := by kernel_rfl
theorem decode_unfollowed : (Rows.fnExactDecodePatchRow.unfollowed == Tryz.prog.unfollowed 3) = true := by kernel_rfl
theorem decode_recurses : (Rows.fnExactDecodePatchRow.recurses == Tryz.prog.recurses 3) = true := by kernel_rfl
theorem decode_varsNamed : (Rows.fnExactDecodePatchRow.named == Tryz.prog.varsNamed 3) = true := by kernel_rfl
set_option maxRecDepth 100000 in
theorem decode_closed : joinedFacts Tryz.prog 3 Tryz.f3 Rows.fnExactDecodePatchSpec Rows.fnExactDecodePatchRow = true := by
  unfold joinedFacts
  rw [decode_inPlace, decode_unfollowed, decode_recurses, decode_varsNamed]
  kernel_rfl
set_option maxRecDepth 100000 in
theorem decode_said : Rows.FnExactDecodePatchSaid :=
  OpenClaim.holds_of_cond 3 Tryz.f3 rfl rfl rfl rfl rfl rfl rfl ⟨rfl, rfl, rfl, rfl, rfl⟩ rfl rfl rfl rfl rfl (by kernel_rfl) Tryz.func3 decode_closed
    (of_decide_eq_true (by kernel_rfl)) (by unfold Func.isWrapper; first | (rw [if_pos (by decide +kernel)]; kernel_rfl) | (rw [if_neg (by decide +kernel)]; exact ⟨rfl, rfl⟩))
    (fun os started H enc _ F => by rw [OpenClaim.pre_eq_preRow]; exact decode_lifted os started H enc F)
end Go.Proofs.YtocnekbedcnmgaaGreatDoor
