import Derived.Test.YtocnekbedcnmgaaGreatDoorApplyPrfB
namespace Go.Proofs.YtocnekbedcnmgaaGreatDoor
open Go.ChangeShapes Go.WideShapes Go.ChangeAt Go.RowKit
open Go.ChangeMaps (open_string shut_string)

theorem apply_plain (f : FuncId) (fn : Func) (hf : Tryz.pinned.checked.prog.funcNamed Rows.fnExactApplyRow.func = some f) (hfn : Tryz.pinned.checked.prog.funcs[f]? = some fn) :
    true = Tryz.pinned.checked.prog.looks [] ∧ ∀ (j : Nat) t, fn.params[j]? = some t → Tryz.pinned.checked.prog.wantsStandIn t = false := by
  obtain rfl : f = 5 := Option.some.inj ((show Tryz.prog.funcNamed Rows.fnExactApplyRow.func = some 5 by kernel_rfl).symm.trans hf) |>.symm
  obtain rfl : fn = Tryz.f5 := (Option.some.inj (Tryz.func5.symm.trans hfn)).symm
  refine ⟨by kernel_rfl, fun j t ht => ?_⟩
  rw [Tryz.params5] at ht
  have hm := Array.mem_of_getElem? ht
  simp at hm
  rcases hm with rfl | rfl
  · exact (show Tryz.prog.wantsStandIn 9 = false by kernel_rfl)
  · exact (show Tryz.prog.wantsStandIn 31 = false by kernel_rfl)

theorem apply_card : Rows.FnExactApplyCardSaid :=
  Claim7.holds_tied_plain_at .later [] _ _ _ _ apply_said (fun _ h => by cases h) (by kernel_rfl) (fun _ h => by cases h) fnExactApply_row_tie rfl ⟨rfl, rfl⟩ (by kernel_rfl) rfl apply_plain (by kernel_rfl)
#print axioms apply_card
end Go.Proofs.YtocnekbedcnmgaaGreatDoor
