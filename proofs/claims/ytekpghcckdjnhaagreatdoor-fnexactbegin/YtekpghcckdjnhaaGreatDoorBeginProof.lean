import Derived.Test.YtekpghcckdjnhaaGreatDoorBeginPrfB
namespace Go.Proofs.YtekpghcckdjnhaaGreatDoor
open Go.ChangeShapes Go.WideShapes Go.ChangeAt Go.RowKit
open Go.ChangeMaps (open_string shut_string)

theorem znh (f : FuncId) (fn : Func) (hf : Tryz.pinned.checked.prog.funcNamed Rows.fnExactBeginRow.func = some f) (hfn : Tryz.pinned.checked.prog.funcs[f]? = some fn) :
    true = Tryz.pinned.checked.prog.looks [] /\ ∀ (j : Nat) t, fn.params[j]? = some t -> Tryz.pinned.checked.prog.wantsStandIn t = false := by
  obtain rfl : f = 3 := Option.some.inj ((show Tryz.prog.funcNamed Rows.fnExactBeginRow.func = some 3 by kernel_rfl).symm.trans hf) |>.symm
  obtain rfl : fn = Tryz.f3 := (Option.some.inj (Tryz.func3.symm.trans hfn)).symm
  refine ⟨by kernel_rfl, fun j t ht => ?_⟩
  rw [Tryz.params3] at ht
  have hm := Array.mem_of_getElem? ht
  simp at hm
  rcases hm with rfl | rfl
  · exact (show Tryz.prog.wantsStandIn 24 = false by kernel_rfl)
  · exact (show Tryz.prog.wantsStandIn 9 = false by kernel_rfl)

theorem begin_card : Rows.FnExactBeginCardSaid :=
  Claim7.holds_tied_plain_at .later [] _ _ _ _ zpC (fun _ h => by cases h) (by kernel_rfl) (fun _ h => by cases h) fnExactBegin_row_tie rfl ⟨rfl, rfl⟩ (by kernel_rfl) rfl znh (by kernel_rfl)
#print axioms begin_card
end Go.Proofs.YtekpghcckdjnhaaGreatDoor
