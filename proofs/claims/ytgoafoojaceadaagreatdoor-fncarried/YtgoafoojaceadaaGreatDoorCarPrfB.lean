import Derived.Test.YtgoafoojaceadaaGreatDoorCarPrfA
namespace Go.Proofs.YtgoafoojaceadaaGreatDoor
open Go.ChangeShapes Go.WideShapes Go.ChangeAt Go.RowKit
open Go.ChangeMaps (open_string shut_string)

theorem zkE:(Rows.fnCarriedRow.inPlace ==Tryz.prog.inPlace 4)=true:=by kernel_rfl
theorem zkF:(Rows.fnCarriedRow.unfollowed ==Tryz.prog.unfollowed 4)=true:=by kernel_rfl
theorem zkG:(Rows.fnCarriedRow.recurses ==Tryz.prog.recurses 4)=true:=by kernel_rfl
theorem zkH:(Rows.fnCarriedRow.named ==Tryz.prog.varsNamed 4)=true:=by kernel_rfl
set_option maxRecDepth 100000 in
theorem zkI:joinedFacts Tryz.prog 4 Tryz.f4 Rows.fnCarriedSpec Rows.fnCarriedRow=true:=by
  unfold joinedFacts;rw [zkE,zkF,zkG,zkH];kernel_rfl
set_option maxRecDepth 100000 in
theorem zkJ:Rows.FnCarriedSaid:=
  OpenClaim.holds_of_cond 4 Tryz.f4 rfl rfl rfl rfl rfl rfl rfl ⟨rfl, rfl, rfl, rfl, rfl⟩ rfl rfl rfl rfl rfl (by kernel_rfl) Tryz.func4 zkI
    (of_decide_eq_true (by kernel_rfl)) (by unfold Func.isWrapper;first |(rw [yg (by decide +kernel)];kernel_rfl) |(rw [yf (by decide +kernel)];exact ⟨rfl,rfl⟩))
    (fun os started H enc _ F => by rw [OpenClaim.pre_eq_preRow];exact zkD os started H enc F)
