import Derived.Test.YtgoafoojaceadaaGreatDoorAloPrfB
namespace Go.Proofs.YtgoafoojaceadaaGreatDoor
open Go.ChangeShapes Go.WideShapes Go.ChangeAt Go.RowKit
open Go.ChangeMaps (open_string shut_string)

theorem zbD(f:FuncId)(fn:Func)(hf:Tryz.pinned.checked.prog.funcNamed Rows.fnAloneRow.func=some f)(hfn:Tryz.pinned.checked.prog.funcs[f]? =some fn):
    true=Tryz.pinned.checked.prog.looks [] /\ ∀ (j:Nat) t,fn.params[j]? =some t -> Tryz.pinned.checked.prog.wantsStandIn t=false:=by
  obtain rfl:f=3:=Option.some.inj ((show Tryz.prog.funcNamed Rows.fnAloneRow.func=some 3 by kernel_rfl).symm.trans hf) |>.symm
  obtain rfl:fn=Tryz.f3:=(Option.some.inj (Tryz.func3.symm.trans hfn)).symm;refine ⟨by kernel_rfl,fun j t ht => ?_⟩;rw [Tryz.params3]at ht;obtain rfl:t=22:=by simpa using Array.mem_of_getElem? ht
  exact (show Tryz.prog.wantsStandIn 22=false by kernel_rfl)

theorem alo_card:Rows.FnAloneCardSaid:=
  Claim7.holds_tied_plain_at .later [] _ _ _ _ zbC (fun _ h => by cases h) (by kernel_rfl) (fun _ h => by cases h) fnAlone_row_tie rfl ⟨rfl,rfl⟩ (by kernel_rfl) rfl zbD (by kernel_rfl)
#print axioms alo_card
