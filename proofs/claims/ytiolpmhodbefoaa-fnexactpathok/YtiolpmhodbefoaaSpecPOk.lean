import Derived.Test.YtiolpmhodbefoaaCondP
import Derived.Test.YtiolpmhodbefoaaEqSeg
namespace Go.Proofs.Ytiolpmhodbefoaa
open Go.RowKit

def rangeI (n : Int) : Bool := decide (-1000000000 < n) && decide (n < 1000000000)
def noLow (s : ByteArray) : Bool := s.data.toList.all fun c => decide (32 ≤ c.toNat)
def plainT (s : ByteArray) : Bool := noLow s && decide (s.size ≤ 1000)
def empT (s : ByteArray) : Bool := s.toList.isEmpty
def stepOk (p : PStep) : Bool := if p.byI = true then empT p.name && rangeI p.idx else (p.idx == 0) && plainT p.name
theorem range_walk (n : Int) (w : World) : Calls Try.prog 28 #[.int .i64 n] w fun e w' => e = .returned (.bool (rangeI n)) ∧ w = w' := by
  unfold rangeI
  by_cases h1 : -1000000000 < n
  · by_cases h2 : n < 1000000000
    · have t1 : decide (-1000000000 < n) = true := decide_eq_true h1
      have t2 : decide (n < 1000000000) = true := decide_eq_true h2
      rw [t1, t2]
      go_enter Try.func28, Try.ntmps28
      go_wp2
      go_ret
      exact ⟨rfl, rfl⟩
    · have t1 : decide (-1000000000 < n) = true := decide_eq_true h1
      have t2 : decide (n < 1000000000) = false := decide_eq_false h2
      rw [t1, t2]
      go_enter Try.func28, Try.ntmps28
      go_wp2
      go_ret
      exact ⟨rfl, rfl⟩
  · have t1 : decide (-1000000000 < n) = false := decide_eq_false h1
    rw [t1]
    go_enter Try.func28, Try.ntmps28
    go_wp2
    go_ret
    exact ⟨rfl, rfl⟩
theorem noLow_no {s : ByteArray} {j : Nat} (hj : j < s.size) (h : s[j].toNat < 32) : noLow s = false := by
  unfold noLow
  rw [List.all_eq_false]
  refine ⟨s[j], ?_, by simp; omega⟩
  rw [show s[j] = s.data[j] from rfl, Array.mem_toList_iff]
  exact Array.getElem_mem _
theorem noLow_yes {s : ByteArray} (h : ∀ j (hj : j < s.size), 32 ≤ s[j].toNat) : noLow s = true := by
  unfold noLow
  rw [List.all_eq_true]
  intro c hc
  obtain ⟨j, hj, rfl⟩ := List.mem_iff_getElem.1 hc
  have := h j (by simpa using hj)
  exact decide_eq_true this
set_option maxRecDepth 100000 in
set_option maxHeartbeats 1000000 in
theorem plain_walk (s : ByteArray) (w : World) (hs : s.size ≤ 1048576) : Calls Try.prog 27 #[.string s] w fun e w' => e = .returned (.bool (plainT s)) ∧ w = w' := by
  go_enter Try.func27, Try.ntmps27
  go_wp2
  go_loopw [3] (fun iv wr => ∃ k : Nat, k ≤ s.size ∧ iv = .int .i64 (k : Int) ∧ w = wr ∧ Hid (∀ j (hj : j < s.size), j < k → 32 ≤ s[j].toNat)) (fun iv _ => s.size - (intOf iv).toNat)
  case atStart => exact ⟨0, Nat.zero_le _, rfl, rfl, fun j _ hj => by omega⟩
  case round =>
    obtain ⟨k, hk, rfl, rfl, hd⟩ := hrel
    by_cases hlt : k < s.size
    · have hltI : (k : Int) < (s.size : Int) := by omega
      by_cases hc : s[k].toNat < 32
      · have hcI : ((s[k].toNat : Nat) : Int) < 32 := by omega
        have HQ : Hid (plainT s = false) := by show plainT s = false; unfold plainT; rw [noLow_no hlt hc]; rfl
        clear hd
        go_wp2
        go_ret
        exact ⟨by rw [unhide HQ]; rfl, rfl⟩
      · have hcI : ¬ ((s[k].toNat : Nat) : Int) < 32 := by omega
        have HD : Hid (∀ j (hj : j < s.size), j < k + 1 → 32 ≤ s[j].toNat) := fun j hj h => by
          by_cases e : j = k
          · subst e; omega
          · exact unhide hd j hj (by omega)
        clear hd
        go_wp2
        go_roundw
        case rel => exact ⟨k + 1, by omega, by go_num, trivial, HD⟩
        case measure => simp [intOf]; omega
    · have HQ : Hid (plainT s = decide ((s.size : Int) ≤ 1000)) := by
        show plainT s = _
        unfold plainT
        rw [noLow_yes fun j hj => unhide hd j hj (by omega), Bool.true_and]
        congr 1
        simp only [eq_iff_iff]
        omega
      clear hd
      go_wp2
      go_ret
      exact ⟨by rw [unhide HQ]; rfl, rfl⟩
theorem emp_iff (s : ByteArray) : empT s = true ↔ s.size = 0 := by
  unfold empT
  rw [ByteArray.toList_eq, List.isEmpty_iff, List.eq_nil_iff_length_eq_zero]
  simp
set_option maxRecDepth 100000 in
set_option maxHeartbeats 1000000 in
theorem stepOk_walk (m : PStep) (w : World) (hs : m.name.size ≤ 1048576) : Calls Try.prog 48 #[.agg #[.bool m.byI, .string m.name, .int .i64 m.idx]] w fun e w' => e = .returned (.bool (stepOk m)) ∧ Below w.heap.size w w' := by
  have HR : Hid (∀ w, Calls Try.prog 28 #[.int .i64 m.idx] w fun e w' => e = .returned (.bool (rangeI m.idx)) ∧ w = w') := fun w => range_walk _ w
  have HP : Hid (∀ w, Calls Try.prog 27 #[.string m.name] w fun e w' => e = .returned (.bool (plainT m.name)) ∧ w = w') := fun w => plain_walk _ w hs
  have HE : Hid (stepOk m = if m.byI = true then empT m.name && rangeI m.idx else (m.idx == 0) && plainT m.name) := rfl
  have HB : Hid (∀ o, Below w.heap.size w (w.alloc o)) := fun o => alloc_b w o
  generalize rangeI m.idx = R at *
  generalize plainT m.name = Q at *
  obtain ⟨b, s, n⟩ := m
  simp only at *
  cases b with
  | true =>
    cases he : s.toList.isEmpty with
    | true =>
      have HX : Hid (stepOk ⟨true, s, n⟩ = R) := by show _ = _; rw [unhide HE]; unfold empT; rw [he]; simp
      clear HE HP
      go_enter Try.func48, Try.ntmps48
      go_wp2_with fail
      refine (unhide HR _).mono ?_
      rintro e w1 ⟨rfl, rfl⟩
      go_wp2
      go_ret
      exact ⟨by rw [unhide HX]; rfl, unhide HB _⟩
    | false =>
      have HX : Hid (stepOk ⟨true, s, n⟩ = false) := by show _ = _; rw [unhide HE]; unfold empT; rw [he]; simp
      clear HE HP HR
      go_enter Try.func48, Try.ntmps48
      go_wp2
      go_ret
      exact ⟨by rw [unhide HX]; rfl, unhide HB _⟩
  | false =>
    by_cases hn : n = 0
    · subst hn
      have HX : Hid (stepOk ⟨false, s, 0⟩ = Q) := by show _ = _; rw [unhide HE]; simp
      clear HE HR
      go_enter Try.func48, Try.ntmps48
      go_wp2_with fail
      refine (unhide HP _).mono ?_
      rintro e w1 ⟨rfl, rfl⟩
      go_wp2
      go_ret
      exact ⟨by rw [unhide HX]; rfl, unhide HB _⟩
    · have HX : Hid (stepOk ⟨false, s, n⟩ = false) := by show _ = _; rw [unhide HE]; simp [hn]
      clear HE HR HP
      go_enter Try.func48, Try.ntmps48
      go_wp2
      go_ret
      exact ⟨by rw [unhide HX]; rfl, unhide HB _⟩
end Go.Proofs.Ytiolpmhodbefoaa
