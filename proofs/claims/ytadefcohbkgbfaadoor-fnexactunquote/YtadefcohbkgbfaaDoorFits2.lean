import Derived.Test.YtadefcohbkgbfaaDoorFits
namespace Go.Proofs.YtadefcohbkgbfaaDoor
open Go.RowKit

/-- What a reading does to the variable of the answer: nothing. -/
def OkCell (ob : Nat) (w : World) : Prop := w.heap[ob]? = some (.cells #[.bool false] 4 (0, 0))

set_option maxHeartbeats 800000 in
theorem fits_ok (F : FuncId) (caps : Array Value) (w : World) (Q : World → Prop) (hent : ∀ args (w : World), (callFunc F args).run Tryd.prog w = .ok (.enter F args) w)
    (hc : Calls Tryd.prog F caps (w.alloc (.cells #[.bool false] 4)) fun e w' => e = .returned (.tuple #[]) ∧ OkCell w.heap.size w' ∧ Q w') :
    Calls Tryd.prog 38 #[.func (.func F) #[] caps] w fun e w' => e = .returned (.bool true) ∧ ∃ w1, Q w1 ∧ w' = w1.setCell ⟨w.heap.size, 0, none⟩ (.bool true) := by
  have hmf : ∀ (fn : Fn) (first cap : Array Value) (w : World), (Instr.makeFunc fn first cap).run Tryd.prog w = .ok (.func fn first cap) w := fun _ _ _ _ => rfl
  have HC := hide hc
  clear hc
  go_enter_defers Tryd.func38, Tryd.ntmps38
  go_wp2_with fail
  refine (unhide HC).mono ?_
  rintro e w1 ⟨rfl, ho, hq⟩
  have c0 : w1.cell? ⟨w.heap.size, 0, none⟩ = some (.bool false) := by rw [Lib.cell_of_heap ho]; rfl
  have f0 : w1.frozen? ⟨w.heap.size, 0, none⟩ = false := Lib.frozen_of_heap ho 0
  have HQ := hide hq
  have HS : Hid ((w1.setCell ⟨w.heap.size, 0, none⟩ (.bool true)).cell? ⟨w.heap.size, 0, none⟩ = some (.bool true)) := by
    have := heap_setCell_same w1 w.heap.size 0 _ 4 (.bool true) ho
    show _ = _
    rw [Lib.cell_of_heap this]; rfl
  clear HC hq ho
  go_wp2
  refine leaves_cons (f := 51) (args := #[.pointer (some ⟨w.heap.size, 0, none⟩)]) (by simp) (by simp [go_sem]) ?_
  refine (catch_idle ⟨w.heap.size, 0, none⟩ _).mono ?_
  rintro e u' w'' ⟨rfl, rfl, rfl⟩
  have hs := unhide HS
  simp [Leaves, settle, results, Tryd.results38, go_sem, hs]
  exact ⟨w1, unhide HQ, rfl⟩

set_option maxHeartbeats 800000 in
theorem fits_mis (F : FuncId) (caps : Array Value) (w : World) (Q : World → Prop) (hent : ∀ args (w : World), (callFunc F args).run Tryd.prog w = .ok (.enter F args) w)
    (hc : Calls Tryd.prog F caps (w.alloc (.cells #[.bool false] 4)) fun e w' => e = mis ∧ OkCell w.heap.size w' ∧ Q w') :
    Calls Tryd.prog 38 #[.func (.func F) #[] caps] w fun e w' => e = .returned (.bool false) ∧ ∃ w1, Q w1 ∧ w' = (w1.alloc (.cells #[] 81)).setCell ⟨w.heap.size, 0, none⟩ (.bool false) := by
  have hmf : ∀ (fn : Fn) (first cap : Array Value) (w : World), (Instr.makeFunc fn first cap).run Tryd.prog w = .ok (.func fn first cap) w := fun _ _ _ _ => rfl
  have HC := hide hc
  clear hc
  go_enter_defers Tryd.func38, Tryd.ntmps38
  go_wp2_with fail
  refine (unhide HC).mono ?_
  rintro e w1 ⟨rfl, ho, hq⟩
  have hlt := (Array.getElem?_eq_some_iff.1 ho).1
  have ho2 : (w1.alloc (.cells #[] 81)).heap[w.heap.size]? = some (.cells #[.bool false] 4 (0, 0)) := (Lib.alloc_old w1 _ _ hlt).trans ho
  have c0 : (w1.alloc (.cells #[] 81)).cell? ⟨w.heap.size, 0, none⟩ = some (.bool false) := by rw [Lib.cell_of_heap ho2]; rfl
  have f0 : (w1.alloc (.cells #[] 81)).frozen? ⟨w.heap.size, 0, none⟩ = false := Lib.frozen_of_heap ho2 0
  have HQ := hide hq
  have HS : Hid (((w1.alloc (.cells #[] 81)).setCell ⟨w.heap.size, 0, none⟩ (.bool false)).cell? ⟨w.heap.size, 0, none⟩ = some (.bool false)) := by
    have := heap_setCell_same (w1.alloc (.cells #[] 81)) w.heap.size 0 _ 4 (.bool false) ho2
    show _ = _
    rw [Lib.cell_of_heap this]; rfl
  clear HC hq ho ho2
  refine leaves_cons (f := 51) (args := #[.pointer (some ⟨w.heap.size, 0, none⟩)]) (by simp) (by simp [go_sem]) ?_
  refine (catch_mis ⟨w.heap.size, 0, none⟩ _ [] _ c0 f0).mono ?_
  rintro e u' w'' ⟨rfl, rfl, rfl⟩
  have hs := unhide HS
  simp [Leaves, settle, results, Tryd.results38, go_sem, hs]
  exact ⟨w1, unhide HQ, rfl⟩
end Go.Proofs.YtadefcohbkgbfaaDoor
