import Derived.Test.YtekpghcckdjnhaaGreatDoorAttemptPrfA
namespace Go.Proofs.YtekpghcckdjnhaaGreatDoor
open Go.ChangeShapes Go.WideShapes Go.ChangeAt Go.RowKit
open Go.ChangeMaps (open_string shut_string)

theorem CW:(Rows.fnExactAttemptRow.inPlace ==Tryz.prog.inPlace 4)=true:=by kernel_rfl
theorem CY:(Rows.fnExactAttemptRow.unfollowed ==Tryz.prog.unfollowed 4)=true:=by kernel_rfl
theorem CZ:(Rows.fnExactAttemptRow.recurses ==Tryz.prog.recurses 4)=true:=by kernel_rfl
theorem C0:(Rows.fnExactAttemptRow.named ==Tryz.prog.varsNamed 4)=true:=by kernel_rfl
set_option maxRecDepth 100000 in
theorem C3:joinedFacts Tryz.prog 4 Tryz.f4 Rows.fnExactAttemptSpec Rows.fnExactAttemptRow=true:=by
  unfold joinedFacts;rw [CW,CY,CZ,C0];kernel_rfl
set_option maxRecDepth 100000 in
theorem C4:Rows.FnExactAttemptSaid:=
  OpenClaim.holds_of_cond 4 Tryz.f4 rfl rfl rfl rfl rfl rfl rfl ⟨rfl, rfl, rfl, rfl, rfl⟩ rfl rfl rfl rfl rfl (by kernel_rfl) Tryz.func4 C3
    (of_decide_eq_true (by kernel_rfl)) (by unfold Func.isWrapper;first |(rw [yg (by decide +kernel)];kernel_rfl) |(rw [yf (by decide +kernel)];exact ⟨rfl,rfl⟩))
    (fun os started H enc _ F => by rw [OpenClaim.pre_eq_preRow];exact CU os started H enc F)
end Go.Proofs.YtekpghcckdjnhaaGreatDoor
