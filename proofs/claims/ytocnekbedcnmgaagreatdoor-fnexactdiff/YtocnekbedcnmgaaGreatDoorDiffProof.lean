import Derived.Test.YtocnekbedcnmgaaGreatDoorDiffPrfB
namespace Go.Proofs.YtocnekbedcnmgaaGreatDoor
open Go.ChangeShapes Go.WideShapes Go.ChangeAt Go.RowKit
open Go.ChangeMaps (open_string shut_string)

theorem diff_plain (f : FuncId) (fn : Func) (hf : Tryz.pinned.checked.prog.funcNamed Rows.fnExactDiffRow.func = some f) (hfn : Tryz.pinned.checked.prog.funcs[f]? = some fn) :
    true = Tryz.pinned.checked.prog.looks [] ∧ ∀ (j : Nat) t, fn.params[j]? = some t → Tryz.pinned.checked.prog.wantsStandIn t = false := by
  obtain rfl : f = 4 := Option.some.inj ((show Tryz.prog.funcNamed Rows.fnExactDiffRow.func = some 4 by kernel_rfl).symm.trans hf) |>.symm
  obtain rfl : fn = Tryz.f4 := (Option.some.inj (Tryz.func4.symm.trans hfn)).symm
  refine ⟨by kernel_rfl, fun j t ht => ?_⟩
  rw [Tryz.params4] at ht
  obtain rfl : t = 9 := by simpa using Array.mem_of_getElem? ht
  exact (show Tryz.prog.wantsStandIn 9 = false by kernel_rfl)

theorem diff_card : Rows.FnExactDiffCardSaid :=
  Claim7.holds_tied_plain_at .later [] _ _ _ _ diff_said (fun _ h => by cases h) (by kernel_rfl) (fun _ h => by cases h) fnExactDiff_row_tie rfl ⟨rfl, rfl⟩ (by kernel_rfl) rfl diff_plain (by kernel_rfl)
#print axioms diff_card
end Go.Proofs.YtocnekbedcnmgaaGreatDoor
