import Derived.Test.YtekpghcckdjnhaaGreatDoorAttemptPrfB
namespace Go.Proofs.YtekpghcckdjnhaaGreatDoor
open Go.ChangeShapes Go.WideShapes Go.ChangeAt Go.RowKit
open Go.ChangeMaps (open_string shut_string)

theorem C5(f:FuncId)(fn:Func)(hf:Tryz.pinned.checked.prog.funcNamed Rows.fnExactAttemptRow.func=some f)(hfn:Tryz.pinned.checked.prog.funcs[f]? =some fn):
    true=Tryz.pinned.checked.prog.looks [] /\ ∀ (j:Nat) t,fn.params[j]? =some t -> Tryz.pinned.checked.prog.wantsStandIn t=false:=by
  obtain rfl:f=4:=Option.some.inj ((show Tryz.prog.funcNamed Rows.fnExactAttemptRow.func=some 4 by kernel_rfl).symm.trans hf) |>.symm
  obtain rfl:fn=Tryz.f4:=(Option.some.inj (Tryz.func4.symm.trans hfn)).symm;refine ⟨by kernel_rfl,fun j t ht => ?_⟩;rw [Tryz.params4]at ht;have hm:=Array.mem_of_getElem? ht;simp at hm;rcases hm with rfl | rfl
  ·exact (show Tryz.prog.wantsStandIn 24=false by kernel_rfl)
  ·exact (show Tryz.prog.wantsStandIn 45=false by kernel_rfl)

theorem attempt_card:Rows.FnExactAttemptCardSaid:=
  Claim7.holds_tied_plain_at .later [] _ _ _ _ C4 (fun _ h => by cases h) (by kernel_rfl) (fun _ h => by cases h) fnExactAttempt_row_tie rfl ⟨rfl,rfl⟩ (by kernel_rfl) rfl C5 (by kernel_rfl)
#print axioms attempt_card
end Go.Proofs.YtekpghcckdjnhaaGreatDoor
