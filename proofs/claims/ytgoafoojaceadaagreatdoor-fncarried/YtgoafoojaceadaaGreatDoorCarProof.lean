import Derived.Test.YtgoafoojaceadaaGreatDoorCarPrfB
namespace Go.Proofs.YtgoafoojaceadaaGreatDoor
open Go.ChangeShapes Go.WideShapes Go.ChangeAt Go.RowKit
open Go.ChangeMaps (open_string shut_string)

theorem zkK(f:FuncId)(fn:Func)(hf:Tryz.pinned.checked.prog.funcNamed Rows.fnCarriedRow.func=some f)(hfn:Tryz.pinned.checked.prog.funcs[f]? =some fn):
    true=Tryz.pinned.checked.prog.looks [] /\ ∀ (j:Nat) t,fn.params[j]? =some t -> Tryz.pinned.checked.prog.wantsStandIn t=false:=by
  obtain rfl:f=4:=Option.some.inj ((show Tryz.prog.funcNamed Rows.fnCarriedRow.func=some 4 by kernel_rfl).symm.trans hf) |>.symm
  obtain rfl:fn=Tryz.f4:=(Option.some.inj (Tryz.func4.symm.trans hfn)).symm;refine ⟨by kernel_rfl,fun j t ht => ?_⟩;rw [Tryz.params4]at ht;obtain rfl:t=22:=by simpa using Array.mem_of_getElem? ht
  exact (show Tryz.prog.wantsStandIn 22=false by kernel_rfl)

theorem car_card:Rows.FnCarriedCardSaid:=
  Claim7.holds_tied_plain_at .later [] _ _ _ _ zkJ (fun _ h => by cases h) (by kernel_rfl) (fun _ h => by cases h) fnCarried_row_tie rfl ⟨rfl,rfl⟩ (by kernel_rfl) rfl zkK (by kernel_rfl)
#print axioms car_card
