import Derived.Test.YtcjajchfjoffnaaGreatDoorChangesPrfA
namespace Go.Proofs.YtcjajchfjoffnaaGreatDoor
open Go.ChangeShapes Go.WideShapes Go.ChangeAt Go.RowKit
open Go.ChangeMaps (open_string shut_string)

theorem changes_inPlace : (Rows.fnExactChangesRow.inPlace == Tryz.prog.inPlace 7) = true := by kernel_rfl
theorem changes_unfollowed : (Rows.fnExactChangesRow.unfollowed == Tryz.prog.unfollowed 7) = true := by kernel_rfl
theorem changes_recurses : (Rows.fnExactChangesRow.recurses == Tryz.prog.recurses 7) = true := by kernel_rfl
theorem changes_varsNamed : (Rows.fnExactChangesRow.named == Tryz.prog.varsNamed 7) = true := by kernel_rfl
set_option maxRecDepth 100000 in
theorem changes_closed : joinedFacts Tryz.prog 7 Tryz.f7 Rows.fnExactChangesSpec Rows.fnExactChangesRow = true := by
  unfold joinedFacts
  rw [changes_inPlace, changes_unfollowed, changes_recurses, changes_varsNamed]
  kernel_rfl
set_option maxRecDepth 100000 in
theorem changes_said : Rows.FnExactChangesSaid :=
  OpenClaim.holds_of_cond 7 Tryz.f7 rfl rfl rfl rfl rfl rfl rfl ⟨rfl, rfl, rfl, rfl, rfl⟩ rfl rfl rfl rfl rfl (by kernel_rfl) Tryz.func7 changes_closed
    (of_decide_eq_true (by kernel_rfl)) (by unfold Func.isWrapper; first | (rw [if_pos (by decide +kernel)]; kernel_rfl) | (rw [if_neg (by decide +kernel)]; exact ⟨rfl, rfl⟩))
    (fun os started H enc _ F => by rw [OpenClaim.pre_eq_preRow]; exact changes_lifted os started H enc F)
end Go.Proofs.YtcjajchfjoffnaaGreatDoor
