import Derived.Test.YtpaecnbdoljafaaGreatDoorDifPrfA
namespace Go.Proofs.YtpaecnbdoljafaaGreatDoor
open Go.ChangeShapes Go.WideShapes Go.ChangeAt Go.RowKit
open Go.ChangeMaps (open_string shut_string)

theorem zhk:(Rows.fnDiffRow.inPlace ==Tryz.prog.inPlace 3)=true:=by kernel_rfl
theorem zhl:(Rows.fnDiffRow.unfollowed ==Tryz.prog.unfollowed 3)=true:=by kernel_rfl
theorem zhm:(Rows.fnDiffRow.recurses ==Tryz.prog.recurses 3)=true:=by kernel_rfl
theorem zhn:(Rows.fnDiffRow.named ==Tryz.prog.varsNamed 3)=true:=by kernel_rfl
set_option maxRecDepth 100000 in
theorem zho:joinedFacts Tryz.prog 3 Tryz.f3 Rows.fnDiffSpec Rows.fnDiffRow=true:=by
  unfold joinedFacts;rw [zhk,zhl,zhm,zhn];kernel_rfl
set_option maxRecDepth 100000 in
theorem zhp:Rows.FnDiffSaid:=
  OpenClaim.holds_of_cond 3 Tryz.f3 rfl rfl rfl rfl rfl rfl rfl ⟨rfl, rfl, rfl, rfl, rfl⟩ rfl rfl rfl rfl rfl (by kernel_rfl) Tryz.func3 zho
    (of_decide_eq_true (by kernel_rfl)) (by unfold Func.isWrapper;first |(rw [yg (by decide +kernel)];kernel_rfl) |(rw [yf (by decide +kernel)];exact ⟨rfl,rfl⟩))
    (fun os started H enc _ F => by rw [OpenClaim.pre_eq_preRow];exact zhj os started H enc F)
end Go.Proofs.YtpaecnbdoljafaaGreatDoor
