import Derived.Test.YtadefcohbkgbfaaDoorRdr
import Derived.Defers
import Derived.Recover
import Derived.Laws.Pointers
namespace Go.Proofs.YtadefcohbkgbfaaDoor
open Go.RowKit

theorem catch_idle (p : Addr) (w : World) :
    CallsD Tryd.prog 51 #[.pointer (some p)] .returning w fun e u' w' => e = .returned (.tuple #[]) ∧ u' = .returning ∧ w' = w := by
  refine callsD_of_wpS Tryd.func51 rfl fun c₀ cs hu => ?_
  apply wpS_seq
  apply wpS_region
  simp [wpOpsS, go_sem, recoverD, hu, Tryd.ntmps51, Exit.thenS]
  refine wpS_of_wp ?_
  go_wp2
  cases c₀
  simp_all [bodyPostS, results, Tryd.results51]

set_option maxHeartbeats 4000000 in
set_option maxRecDepth 100000 in
theorem catch_mis (p : Addr) (x : Value) (older : List PanicEntry) (w : World) (hc : (w.alloc (.cells #[] 81)).cell? p = some x) (hz : (w.alloc (.cells #[] 81)).frozen? p = false) :
    CallsD Tryd.prog 51 #[.pointer (some p)] (.panicking ({ v := .iface 81 (.agg #[]), recovered := false } :: older)) w fun e u' w' =>
      e = .returned (.tuple #[]) ∧ u' = .panicking ({ v := .iface 81 (.agg #[]), recovered := true } :: older) ∧ w' = (w.alloc (.cells #[] 81)).setCell p (.bool false) := by
  have hta : ∀ w : World, (Instr.typeAssert (.iface 81 (.agg #[])) 20 81 true).run Tryd.prog w = .ok (.tuple #[.agg #[], .bool true]) w := fun _ => by kernel_rfl
  refine callsD_of_wpS Tryd.func51 rfl fun c₀ cs hu => ?_
  apply wpS_seq
  apply wpS_region
  simp [wpOpsS, go_sem, recoverD, hu, Tryd.ntmps51, Exit.thenS]
  refine wpS_of_wp ?_
  go_wp2
  simp_all [bodyPostS, results, Tryd.results51]

end Go.Proofs.YtadefcohbkgbfaaDoor
