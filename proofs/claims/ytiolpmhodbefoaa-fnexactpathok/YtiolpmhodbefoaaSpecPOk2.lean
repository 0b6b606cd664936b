import Derived.Test.YtiolpmhodbefoaaSpecPOk
namespace Go.Proofs.Ytiolpmhodbefoaa
open Go.RowKit

def isRefK (k : Int) : Bool := k == 6 || k == 7 || k == 8
/-- The number of an operation. -/
def numOk (k n : Int) : Bool := if k = 1 then rangeI n else if k = 9 then decide (1 ≤ n) && decide (n ≤ 6) else n == 0
def fopOk (o : PFOp) : Bool := decide (1 ≤ o.k) && decide (o.k ≤ 12) && decide (o.steps.length ≤ 1000) && (isRefK o.k || (!o.root && decide (o.steps.length = 0))) && o.steps.all stepOk && (o.k == 2 || empT o.s) && numOk o.k o.n && plainT o.s
theorem plain_emp {s : ByteArray} (h : empT s = true) : plainT s = true := by
  have := (emp_iff s).1 h
  unfold plainT
  rw [noLow_yes fun j hj => by omega, Bool.true_and, decide_eq_true_eq]
  omega
theorem all_no {α : Type} {f : α → Bool} {l : List α} {j : Nat} (hj : j < l.length) (h : f l[j] = false) : l.all f = false := by
  rw [List.all_eq_false]
  exact ⟨l[j], List.getElem_mem _, by rw [h]; simp⟩
theorem all_yes {α : Type} {f : α → Bool} {l : List α} (h : ∀ j (hj : j < l.length), f l[j] = true) : l.all f = true := by
  rw [List.all_eq_true]
  intro x hx
  obtain ⟨j, hj, rfl⟩ := List.mem_iff_getElem.1 hx
  exact h j hj
set_option maxRecDepth 100000 in
set_option maxHeartbeats 1000000 in
theorem fopOk_out (m : PFOp) (v : Value) (w : World) (h : ¬ (1 ≤ m.k ∧ m.k ≤ 12)) :
    Calls Try.prog 29 #[.agg #[.int .i64 m.k, .int .i64 m.n, .string m.s, .bool m.root, v]] w fun e w' => e = .returned (.bool (fopOk m)) ∧ Below w.heap.size w w' := by
  have HX : Hid (fopOk m = false) := by
    show _ = _
    unfold fopOk
    by_cases h1 : 1 ≤ m.k
    · have : ¬ m.k ≤ 12 := fun h2 => h ⟨h1, h2⟩
      simp [this]
    · simp [h1]
  have HB : Hid (∀ o, Below w.heap.size w (w.alloc o)) := fun o => alloc_b w o
  obtain ⟨k, n, s, r, st⟩ := m
  simp only at *
  have h6 : ¬ k = 6 := by omega
  have h7 : ¬ k = 7 := by omega
  have h8 : ¬ k = 8 := by omega
  by_cases h1 : k < 1
  · clear h
    go_enter Try.func29, Try.ntmps29
    go_wp2
    go_ret
    exact ⟨by rw [unhide HX]; rfl, unhide HB _⟩
  · have h2 : 12 < k := by omega
    clear h
    go_enter Try.func29, Try.ntmps29
    go_wp2
    go_ret
    exact ⟨by rw [unhide HX]; rfl, unhide HB _⟩
set_option maxRecDepth 100000 in
set_option maxHeartbeats 2000000 in
theorem fopOk_long (m : PFOp) (v : Value) (bl : List Nat) (w : World) (h : ORow stepE w v m.steps bl) (hk : 1 ≤ m.k ∧ m.k ≤ 12) (hn : 1000 < m.steps.length) :
    Calls Try.prog 29 #[.agg #[.int .i64 m.k, .int .i64 m.n, .string m.s, .bool m.root, v]] w fun e w' => e = .returned (.bool (fopOk m)) ∧ Below w.heap.size w w' := by
  have HX : Hid (fopOk m = false) := by
    show _ = _
    unfold fopOk
    have : ¬ m.steps.length ≤ 1000 := by omega
    simp [this]
  have HB : Hid (∀ o, Below w.heap.size w (w.alloc o)) := fun o => alloc_b w o
  obtain ⟨a, c, rfl, -, -⟩ := h.form
  obtain ⟨k, n, s, r, st⟩ := m
  simp only at *
  have hnI : (1000 : Int) < (st.length : Int) := by omega
  clear h
  generalize st.length = L at *
  rcases (show k = 1 ∨ k = 2 ∨ k = 3 ∨ k = 4 ∨ k = 5 ∨ k = 6 ∨ k = 7 ∨ k = 8 ∨ k = 9 ∨ k = 10 ∨ k = 11 ∨ k = 12 by omega) with rfl | rfl | rfl | rfl | rfl | rfl | rfl | rfl | rfl | rfl | rfl | rfl
  all_goals
    clear hk
    go_enter Try.func29, Try.ntmps29
    go_wp2
    go_ret
    exact ⟨by rw [unhide HX]; rfl, unhide HB _⟩
set_option maxRecDepth 100000 in
set_option maxHeartbeats 2000000 in
theorem fopOk_ref (m : PFOp) (v : Value) (bl : List Nat) (w : World) (h : ORow stepE w v m.steps bl) (hk : 1 ≤ m.k ∧ m.k ≤ 12) (hn : ¬ 1000 < m.steps.length) (hr : isRefK m.k = false) (hs : m.root = true ∨ 0 < m.steps.length) :
    Calls Try.prog 29 #[.agg #[.int .i64 m.k, .int .i64 m.n, .string m.s, .bool m.root, v]] w fun e w' => e = .returned (.bool (fopOk m)) ∧ Below w.heap.size w w' := by
  have HX : Hid (fopOk m = false) := by
    show _ = _
    unfold fopOk
    rw [hr]
    rcases hs with h | h
    · simp [h]
    · have : ¬ m.steps.length = 0 := by omega
      simp [this]
  have HB : Hid (∀ o, Below w.heap.size w (w.alloc o)) := fun o => alloc_b w o
  obtain ⟨a, c, rfl, -, -⟩ := h.form
  obtain ⟨k, n, s, r, st⟩ := m
  simp only at *
  have hnI : ¬ (1000 : Int) < (st.length : Int) := by omega
  clear h
  generalize st.length = L at *
  rcases (show k = 1 ∨ k = 2 ∨ k = 3 ∨ k = 4 ∨ k = 5 ∨ k = 6 ∨ k = 7 ∨ k = 8 ∨ k = 9 ∨ k = 10 ∨ k = 11 ∨ k = 12 by omega) with rfl | rfl | rfl | rfl | rfl | rfl | rfl | rfl | rfl | rfl | rfl | rfl
  all_goals first | exact absurd hr (by decide) | skip
  all_goals
    clear hk hr
    cases r with
    | true =>
      go_enter Try.func29, Try.ntmps29
      go_wp2
      go_ret
      exact ⟨by rw [unhide HX]; rfl, unhide HB _⟩
    | false =>
      have hL : (0 : Int) < (L : Int) := by
        rcases hs with h | h
        · cases h
        · omega
      clear hs
      go_enter Try.func29, Try.ntmps29
      go_wp2
      go_ret
      exact ⟨by rw [unhide HX]; rfl, unhide HB _⟩
end Go.Proofs.Ytiolpmhodbefoaa
