import Derived.Test.YtekpghcckdjnhaaGreatDoorBeginPrfA
namespace Go.Proofs.YtekpghcckdjnhaaGreatDoor
open Go.ChangeShapes Go.WideShapes Go.ChangeAt Go.RowKit
open Go.ChangeMaps (open_string shut_string)

theorem zkg : (Rows.fnExactBeginRow.inPlace == Tryz.prog.inPlace 3) = true := by kernel_rfl
theorem zgA : (Rows.fnExactBeginRow.unfollowed == Tryz.prog.unfollowed 3) = true := by kernel_rfl
theorem ziz : (Rows.fnExactBeginRow.recurses == Tryz.prog.recurses 3) = true := by kernel_rfl
theorem zib : (Rows.fnExactBeginRow.named == Tryz.prog.varsNamed 3) = true := by kernel_rfl
set_option maxRecDepth 100000 in
theorem zlS : joinedFacts Tryz.prog 3 Tryz.f3 Rows.fnExactBeginSpec Rows.fnExactBeginRow = true := by
  unfold joinedFacts
  rw [zkg, zgA, ziz, zib]
  kernel_rfl
set_option maxRecDepth 100000 in
theorem zpC : Rows.FnExactBeginSaid :=
  OpenClaim.holds_of_cond 3 Tryz.f3 rfl rfl rfl rfl rfl rfl rfl ⟨rfl, rfl, rfl, rfl, rfl⟩ rfl rfl rfl rfl rfl (by kernel_rfl) Tryz.func3 zlS
    (of_decide_eq_true (by kernel_rfl)) (by unfold Func.isWrapper; first | (rw [yg (by decide +kernel)]; kernel_rfl) | (rw [yf (by decide +kernel)]; exact ⟨rfl, rfl⟩))
    (fun os started H enc _ F => by rw [OpenClaim.pre_eq_preRow]; exact zlR os started H enc F)
end Go.Proofs.YtekpghcckdjnhaaGreatDoor
