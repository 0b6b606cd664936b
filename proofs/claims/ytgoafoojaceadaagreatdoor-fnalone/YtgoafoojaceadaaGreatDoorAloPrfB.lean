import Derived.Test.YtgoafoojaceadaaGreatDoorAloPrfA
namespace Go.Proofs.YtgoafoojaceadaaGreatDoor
open Go.ChangeShapes Go.WideShapes Go.ChangeAt Go.RowKit
open Go.ChangeMaps (open_string shut_string)

theorem zbx:(Rows.fnAloneRow.inPlace ==Tryz.prog.inPlace 3)=true:=by kernel_rfl
theorem zby:(Rows.fnAloneRow.unfollowed ==Tryz.prog.unfollowed 3)=true:=by kernel_rfl
theorem zbz:(Rows.fnAloneRow.recurses ==Tryz.prog.recurses 3)=true:=by kernel_rfl
theorem zbA:(Rows.fnAloneRow.named ==Tryz.prog.varsNamed 3)=true:=by kernel_rfl
set_option maxRecDepth 100000 in
theorem zbB:joinedFacts Tryz.prog 3 Tryz.f3 Rows.fnAloneSpec Rows.fnAloneRow=true:=by
  unfold joinedFacts;rw [zbx,zby,zbz,zbA];kernel_rfl
set_option maxRecDepth 100000 in
theorem zbC:Rows.FnAloneSaid:=
  OpenClaim.holds_of_cond 3 Tryz.f3 rfl rfl rfl rfl rfl rfl rfl ⟨rfl, rfl, rfl, rfl, rfl⟩ rfl rfl rfl rfl rfl (by kernel_rfl) Tryz.func3 zbB
    (of_decide_eq_true (by kernel_rfl)) (by unfold Func.isWrapper;first |(rw [yg (by decide +kernel)];kernel_rfl) |(rw [yf (by decide +kernel)];exact ⟨rfl,rfl⟩))
    (fun os started H enc _ F => by rw [OpenClaim.pre_eq_preRow];exact zbw os started H enc F)
