import Derived.Test.YtkjcgkfejdogbaaGreatDoorPahPrfA
namespace Go.Proofs.YtkjcgkfejdogbaaGreatDoor
open Go.ChangeShapes Go.WideShapes Go.ChangeAt Go.RowKit
open Go.ChangeMaps (open_string shut_string)

theorem pah_inPlace : (Rows.fnPathRow.inPlace == Tryz.prog.inPlace 3) = true := by kernel_rfl
theorem pah_unfollowed : (Rows.fnPathRow.unfollowed == Tryz.prog.unfollowed 3) = true := by kernel_rfl
theorem pah_recurses : (Rows.fnPathRow.recurses == Tryz.prog.recurses 3) = true := by kernel_rfl
theorem pah_varsNamed : (Rows.fnPathRow.named == Tryz.prog.varsNamed 3) = true := by kernel_rfl
set_option maxRecDepth 100000 in
theorem pah_closed : joinedFacts Tryz.prog 3 Tryz.f3 Rows.fnPathSpec Rows.fnPathRow = true := by
  unfold joinedFacts
  rw [pah_inPlace, pah_unfollowed, pah_recurses, pah_varsNamed]
  kernel_rfl
set_option maxRecDepth 100000 in
theorem pah_said : Rows.FnPathSaid :=
  OpenClaim.holds_of_cond 3 Tryz.f3 rfl rfl rfl rfl rfl rfl rfl ⟨rfl, rfl, rfl, rfl, rfl⟩ rfl rfl rfl rfl rfl (by kernel_rfl) Tryz.func3 pah_closed
    (of_decide_eq_true (by kernel_rfl)) (by unfold Func.isWrapper; first | (rw [if_pos (by decide +kernel)]; kernel_rfl) | (rw [if_neg (by decide +kernel)]; exact ⟨rfl, rfl⟩))
    (fun os started H enc _ F => by rw [OpenClaim.pre_eq_preRow]; exact pah_lifted os started H enc F)
end Go.Proofs.YtkjcgkfejdogbaaGreatDoor
