import Derived.Test.YtlfonikfjibloaaGreatDoorToldPrfA
namespace Go.Proofs.YtlfonikfjibloaaGreatDoor
open Go.ChangeShapes Go.WideShapes Go.ChangeAt Go.RowKit
open Go.ChangeMaps (open_string shut_string)

theorem told_inPlace : (Rows.fnToldRow.inPlace == Tryz.prog.inPlace 6) = true := by kernel_rfl
theorem told_unfollowed : (Rows.fnToldRow.unfollowed == Tryz.prog.unfollowed 6) = true := by kernel_rfl
theorem told_recurses : (Rows.fnToldRow.recurses == Tryz.prog.recurses 6) = true := by kernel_rfl
theorem told_varsNamed : (Rows.fnToldRow.named == Tryz.prog.varsNamed 6) = true := by kernel_rfl
set_option maxRecDepth 100000 in
theorem told_closed : joinedFacts Tryz.prog 6 Tryz.f6 Rows.fnToldSpec Rows.fnToldRow = true := by
  unfold joinedFacts
  rw [told_inPlace, told_unfollowed, told_recurses, told_varsNamed]
  kernel_rfl
set_option maxRecDepth 100000 in
theorem told_said : Rows.FnToldSaid :=
  OpenClaim.holds_of_cond 6 Tryz.f6 rfl rfl rfl rfl rfl rfl rfl ⟨rfl, rfl, rfl, rfl, rfl⟩ rfl rfl rfl rfl rfl (by kernel_rfl) Tryz.func6 told_closed
    (of_decide_eq_true (by kernel_rfl)) (by unfold Func.isWrapper; first | (rw [if_pos (by decide +kernel)]; kernel_rfl) | (rw [if_neg (by decide +kernel)]; exact ⟨rfl, rfl⟩))
    (fun os started H enc _ F => by rw [OpenClaim.pre_eq_preRow]; exact told_lifted os started H enc F)
end Go.Proofs.YtlfonikfjibloaaGreatDoor
