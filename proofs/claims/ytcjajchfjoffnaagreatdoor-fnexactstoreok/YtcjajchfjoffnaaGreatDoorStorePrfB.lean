import Derived.Test.YtcjajchfjoffnaaGreatDoorStorePrfA
namespace Go.Proofs.YtcjajchfjoffnaaGreatDoor
open Go.ChangeShapes Go.WideShapes Go.ChangeAt Go.RowKit
open Go.ChangeMaps (open_string shut_string)

theorem store_inPlace : (Rows.fnExactStoreOkRow.inPlace == Tryz.prog.inPlace 4) = true := by kernel_rfl
theorem store_unfollowed : (Rows.fnExactStoreOkRow.unfollowed == Tryz.prog.unfollowed 4) = true := by kernel_rfl
theorem store_recurses : (Rows.fnExactStoreOkRow.recurses == Tryz.prog.recurses 4) = true := by kernel_rfl
theorem store_varsNamed : (Rows.fnExactStoreOkRow.named == Tryz.prog.varsNamed 4) = true := by kernel_rfl
set_option maxRecDepth 100000 in
theorem store_closed : joinedFacts Tryz.prog 4 Tryz.f4 Rows.fnExactStoreOkSpec Rows.fnExactStoreOkRow = true := by
  unfold joinedFacts
  rw [store_inPlace, store_unfollowed, store_recurses, store_varsNamed]
  kernel_rfl
set_option maxRecDepth 100000 in
theorem store_said : Rows.FnExactStoreOkSaid :=
  OpenClaim.holds_of_cond 4 Tryz.f4 rfl rfl rfl rfl rfl rfl rfl ⟨rfl, rfl, rfl, rfl, rfl⟩ rfl rfl rfl rfl rfl (by kernel_rfl) Tryz.func4 store_closed
    (of_decide_eq_true (by kernel_rfl)) (by unfold Func.isWrapper; first | (rw [if_pos (by decide +kernel)]; kernel_rfl) | (rw [if_neg (by decide +kernel)]; exact ⟨rfl, rfl⟩))
    (fun os started H enc _ F => by rw [OpenClaim.pre_eq_preRow]; exact store_lifted os started H enc F)
end Go.Proofs.YtcjajchfjoffnaaGreatDoor
