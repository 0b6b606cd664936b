import Derived.Test.YtbcfkkicmmhhcaaDoorAppZ
namespace Go.Proofs.YtbcfkkicmmhhcaaDoor
open Go.RowKit

/-- A ring that was full, one more element behind the others. -/
theorem RingIs.pushed (q : List Nws) (x : Nws) : RingIs ((q ++ List.replicate (q.length + 1) nws0).set q.length x) 0 (q.length + 1) (q ++ [x]) := by
  have hL : ((q ++ List.replicate (q.length + 1) nws0).set q.length x).length = q.length + (q.length + 1) := by simp
  refine ⟨by simp, by rw [hL]; omega, .inl (by rw [hL]; omega), fun i y hy => ?_⟩
  have hi := (List.getElem?_eq_some_iff.1 hy).1
  rw [List.length_append, List.length_singleton] at hi
  rw [hL, Nat.zero_add, Nat.mod_eq_of_lt (by omega)]
  by_cases h : i = q.length
  · subst h
    rw [List.getElem?_set_self (by simp)]
    simpa using hy
  · rw [List.getElem?_set_ne (by omega), List.getElem?_append_left (by omega)]
    rw [List.getElem?_append_left (by omega)] at hy
    exact hy

end Go.Proofs.YtbcfkkicmmhhcaaDoor
