import Derived.Test.YtpaecnbdoljafaaGreatDoorPatPrfA
namespace Go.Proofs.YtpaecnbdoljafaaGreatDoor
open Go.ChangeShapes Go.WideShapes Go.ChangeAt Go.RowKit
open Go.ChangeMaps (open_string shut_string)

theorem pat_inPlace : (Rows.fnPatchTextRow.inPlace == Tryz.prog.inPlace 5) = true := by kernel_rfl
theorem pat_unfollowed : (Rows.fnPatchTextRow.unfollowed == Tryz.prog.unfollowed 5) = true := by kernel_rfl
theorem pat_recurses : (Rows.fnPatchTextRow.recurses == Tryz.prog.recurses 5) = true := by kernel_rfl
theorem pat_varsNamed : (Rows.fnPatchTextRow.named == Tryz.prog.varsNamed 5) = true := by kernel_rfl
set_option maxRecDepth 100000 in
theorem pat_closed : joinedFacts Tryz.prog 5 Tryz.f5 Rows.fnPatchTextSpec Rows.fnPatchTextRow = true := by
  unfold joinedFacts
  rw [pat_inPlace, pat_unfollowed, pat_recurses, pat_varsNamed]
  kernel_rfl
set_option maxRecDepth 100000 in
theorem pat_said : Rows.FnPatchTextSaid :=
  OpenClaim.holds_of_cond 5 Tryz.f5 rfl rfl rfl rfl rfl rfl rfl ⟨rfl, rfl, rfl, rfl, rfl⟩ rfl rfl rfl rfl rfl (by kernel_rfl) Tryz.func5 pat_closed
    (of_decide_eq_true (by kernel_rfl)) (by unfold Func.isWrapper; first | (rw [if_pos (by decide +kernel)]; kernel_rfl) | (rw [if_neg (by decide +kernel)]; exact ⟨rfl, rfl⟩))
    (fun os started H Zw _ F => by rw [OpenClaim.pre_eq_preRow]; exact pat_lifted os started H Zw F)
end Go.Proofs.YtpaecnbdoljafaaGreatDoor
