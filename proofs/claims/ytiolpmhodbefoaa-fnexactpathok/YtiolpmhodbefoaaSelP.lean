import Derived.Test.YtiolpmhodbefoaaCondT
namespace Go.Proofs.Ytiolpmhodbefoaa
open Go.RowKit

/-- What is asked of a Sel beside its texts and numbers. -/
def selB (o : PSel) : Bool := (o.k == 1 || empT o.name) && (o.k == 4 || (!o.hasA && !o.hasB && !o.hasC)) && (o.hasA || o.k == 3 || o.a == 0) && (o.hasB || o.b == 0) && (o.hasC || o.c == 0) && (o.k == 5 || decide ((o.cond.length : Int) = 0))
def goodS (o : PSel) : Bool := decide (1 ≤ o.k) && decide (o.k ≤ 5) && plainT o.name && rangeI o.a && rangeI o.b && rangeI o.c && selB o
def selOk (o : PSel) : Bool := decide (1 ≤ o.k) && decide (o.k ≤ 5) && plainT o.name && rangeI o.a && rangeI o.b && rangeI o.c && selB o && (o.k != 5 || condOk o.cond)
theorem selOk_good (o : PSel) : selOk o = (goodS o && (o.k != 5 || condOk o.cond)) := rfl
theorem sum_mem {α : Type} (f : α → Nat) {l : List α} {x : α} (h : x ∈ l) : f x ≤ (l.map f).sum := by
  induction l with
  | nil => cases h
  | cons y r ih =>
    rw [List.map_cons, List.sum_cons]
    rcases List.mem_cons.1 h with rfl | h
    · omega
    · have := ih h; omega
theorem sz_fop {l : List PFOp} (h : szFops l ≤ 1048576) {o : PFOp} (ho : o ∈ l) : o.s.size ≤ 1048576 ∧ ∀ p ∈ o.steps, p.name.size ≤ 1048576 := by
  have h1 := sum_mem szFop ho
  have e1 : szFop o = o.s.size + szSteps o.steps := rfl
  have e2 : szSteps o.steps = o.steps.length + (o.steps.map szStep).sum := rfl
  have e3 : szFops l = l.length + (l.map szFop).sum := rfl
  refine ⟨by omega, fun p hp => ?_⟩
  have h2 := sum_mem szStep hp
  have e4 : szStep p = p.name.size := rfl
  omega
end Go.Proofs.Ytiolpmhodbefoaa
