import Derived.Test.YtpaecnbdoljafaaGreatDoorComPrfA
namespace Go.Proofs.YtpaecnbdoljafaaGreatDoor
open Go.ChangeShapes Go.WideShapes Go.ChangeAt Go.RowKit
open Go.ChangeMaps (open_string shut_string)

theorem zg9:(Rows.fnCommuteRow.inPlace ==Tryz.prog.inPlace 4)=true:=by kernel_rfl
theorem zha:(Rows.fnCommuteRow.unfollowed ==Tryz.prog.unfollowed 4)=true:=by kernel_rfl
theorem zhb:(Rows.fnCommuteRow.recurses ==Tryz.prog.recurses 4)=true:=by kernel_rfl
theorem zhc:(Rows.fnCommuteRow.named ==Tryz.prog.varsNamed 4)=true:=by kernel_rfl
set_option maxRecDepth 100000 in
theorem zhd:joinedFacts Tryz.prog 4 Tryz.f4 Rows.fnCommuteSpec Rows.fnCommuteRow=true:=by
  unfold joinedFacts;rw [zg9,zha,zhb,zhc];kernel_rfl
set_option maxRecDepth 100000 in
theorem zhe:Rows.FnCommuteSaid:=
  OpenClaim.holds_of_cond 4 Tryz.f4 rfl rfl rfl rfl rfl rfl rfl ⟨rfl, rfl, rfl, rfl, rfl⟩ rfl rfl rfl rfl rfl (by kernel_rfl) Tryz.func4 zhd
    (of_decide_eq_true (by kernel_rfl)) (by unfold Func.isWrapper;first |(rw [yg (by decide +kernel)];kernel_rfl) |(rw [yf (by decide +kernel)];exact ⟨rfl,rfl⟩))
    (fun os started H enc _ F => by rw [OpenClaim.pre_eq_preRow];exact zg8 os started H enc F)
end Go.Proofs.YtpaecnbdoljafaaGreatDoor
