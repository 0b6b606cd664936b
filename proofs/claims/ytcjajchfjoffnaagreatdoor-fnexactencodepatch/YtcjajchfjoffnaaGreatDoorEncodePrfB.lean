import Derived.Test.YtcjajchfjoffnaaGreatDoorEncodePrfA
namespace Go.Proofs.YtcjajchfjoffnaaGreatDoor
open Go.ChangeShapes Go.WideShapes Go.ChangeAt Go.RowKit
open Go.ChangeMaps (open_string shut_string)

theorem encode_inPlace : (Rows.fnExactEncodePatchRow.inPlace == Tryz.prog.inPlace 5) = true := by kernel_rfl
theorem encode_unfollowed : (Rows.fnExactEncodePatchRow.unfollowed == Tryz.prog.unfollowed 5) = true := by kernel_rfl
theorem encode_recurses : (Rows.fnExactEncodePatchRow.recurses == Tryz.prog.recurses 5) = true := by kernel_rfl
theorem encode_varsNamed : (Rows.fnExactEncodePatchRow.named == Tryz.prog.varsNamed 5) = true := by kernel_rfl
set_option maxRecDepth 100000 in
theorem encode_closed : joinedFacts Tryz.prog 5 Tryz.f5 Rows.fnExactEncodePatchSpec Rows.fnExactEncodePatchRow = true := by
  unfold joinedFacts
  rw [encode_inPlace, encode_unfollowed, encode_recurses, encode_varsNamed]
  kernel_rfl
set_option maxRecDepth 100000 in
theorem encode_said : Rows.FnExactEncodePatchSaid :=
  OpenClaim.holds_of_cond 5 Tryz.f5 rfl rfl rfl rfl rfl rfl rfl ⟨rfl, rfl, rfl, rfl, rfl⟩ rfl rfl rfl rfl rfl (by kernel_rfl) Tryz.func5 encode_closed
    (of_decide_eq_true (by kernel_rfl)) (by unfold Func.isWrapper; first | (rw [if_pos (by decide +kernel)]; kernel_rfl) | (rw [if_neg (by decide +kernel)]; exact ⟨rfl, rfl⟩))
    (fun os started H enc _ F => by rw [OpenClaim.pre_eq_preRow]; exact encode_lifted os started H enc F)
end Go.Proofs.YtcjajchfjoffnaaGreatDoor
