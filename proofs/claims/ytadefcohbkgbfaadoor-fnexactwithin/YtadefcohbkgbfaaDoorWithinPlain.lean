import Derived.Test.YtadefcohbkgbfaaDoorHeads
namespace Go.Proofs.YtadefcohbkgbfaaDoor

def wSpec (o1 o2 : Option (List (List UInt8))) : Int := match o1, o2 with
  | some ts, some us => if pre ts us = true ∧ pre us ts = true then 1 else if pre ts us = true then 2 else if pre us ts = true then 3 else 0
  | _, _ => -1
def sameTo (n : Nat) (ts us : List (List UInt8)) : Bool := decide ((ts.map baT).take n = (us.map baT).take n)
theorem sameTo_pre {ts us : List (List UInt8)} (h : ts.length ≤ us.length) : sameTo ts.length ts us = pre ts us := by
  unfold sameTo pre
  rw [decide_eq_decide]
  constructor
  · intro e
    refine ⟨h, fun j hj => ?_⟩
    have := congrArg (fun l => l[j]?) e
    simp [hj] at this
    have hj2 : j < us.length := by omega
    simp [hj2] at this
    simpa [hj, hj2] using baT_inj this
  · rintro ⟨_, e⟩
    apply List.ext_getElem?
    intro j
    by_cases hj : j < ts.length
    · have hj2 : j < us.length := by omega
      have := e j hj
      simp [hj, hj2] at this
      simp [hj, hj2, this]
    · simp [List.getElem?_take, hj]
theorem pre_len {ts us : List (List UInt8)} (h : pre ts us = true) : ts.length ≤ us.length := by
  unfold pre at h; exact (of_decide_eq_true h).1
theorem pre_false {ts us : List (List UInt8)} (h : us.length < ts.length) : pre ts us = false := by
  cases e : pre ts us with
  | false => rfl
  | true => have := pre_len e; omega
theorem sameTo_comm (n : Nat) (ts us : List (List UInt8)) : sameTo n ts us = sameTo n us ts := by
  unfold sameTo; rw [decide_eq_decide]; exact eq_comm

theorem w_diff {ts us : List (List UInt8)} (h : sameTo (min ts.length us.length) ts us = false) : wSpec (some ts) (some us) = 0 := by
  have a : pre ts us = false := by
    by_cases hl : ts.length ≤ us.length
    · rw [← sameTo_pre hl]; rw [Nat.min_eq_left hl] at h; exact h
    · exact pre_false (by omega)
  have b : pre us ts = false := by
    by_cases hl : us.length ≤ ts.length
    · rw [← sameTo_pre hl]; rw [Nat.min_eq_right hl, sameTo_comm] at h; exact h
    · exact pre_false (by omega)
  simp [wSpec, a, b]
theorem w_eq {ts us : List (List UInt8)} (h : sameTo (min ts.length us.length) ts us = true) (hl : ts.length = us.length) : wSpec (some ts) (some us) = 1 := by
  have a : pre ts us = true := by rw [← sameTo_pre (by omega)]; rw [Nat.min_eq_left (by omega)] at h; exact h
  have b : pre us ts = true := by rw [← sameTo_pre (by omega)]; rw [Nat.min_eq_right (by omega), sameTo_comm] at h; exact h
  simp [wSpec, a, b]
theorem w_lt {ts us : List (List UInt8)} (h : sameTo (min ts.length us.length) ts us = true) (hl : ts.length < us.length) : wSpec (some ts) (some us) = 2 := by
  have a : pre ts us = true := by rw [← sameTo_pre (by omega)]; rw [Nat.min_eq_left (by omega)] at h; exact h
  have b : pre us ts = false := pre_false hl
  simp [wSpec, a, b]
theorem w_gt {ts us : List (List UInt8)} (h : sameTo (min ts.length us.length) ts us = true) (hl : us.length < ts.length) : wSpec (some ts) (some us) = 3 := by
  have a : pre ts us = false := pre_false hl
  have b : pre us ts = true := by rw [← sameTo_pre (by omega)]; rw [Nat.min_eq_right (by omega), sameTo_comm] at h; exact h
  simp [wSpec, a, b]
end Go.Proofs.YtadefcohbkgbfaaDoor
