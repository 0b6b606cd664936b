import Derived.Test.YtiolpmhodbefoaaSelP
import Derived.Laws.EntriesVeiled
import Derived.Deep.RegionHeld
import Derived.Deep.RegionLaw
namespace Go.Proofs.Ytiolpmhodbefoaa
open Go.RowKit

theorem goodInt_walk (n : Int) (w : World) : Calls Try.prog 67 #[.int .i64 n] w fun e w' => e = .returned (.bool (rangeI n)) ∧ w = w' := by
  unfold rangeI
  by_cases h1 : -1000000000 < n
  · by_cases h2 : n < 1000000000
    · have t1 : decide (-1000000000 < n) = true := decide_eq_true h1
      have t2 : decide (n < 1000000000) = true := decide_eq_true h2
      rw [t1, t2]
      go_enter Try.func67, Try.ntmps67
      go_wp2
      go_ret
      exact ⟨rfl, rfl⟩
    · have t1 : decide (-1000000000 < n) = true := decide_eq_true h1
      have t2 : decide (n < 1000000000) = false := decide_eq_false h2
      rw [t1, t2]
      go_enter Try.func67, Try.ntmps67
      go_wp2
      go_ret
      exact ⟨rfl, rfl⟩
  · have t1 : decide (-1000000000 < n) = false := decide_eq_false h1
    rw [t1]
    go_enter Try.func67, Try.ntmps67
    go_wp2
    go_ret
    exact ⟨rfl, rfl⟩
set_option maxRecDepth 100000 in
set_option maxHeartbeats 1000000 in
theorem goodText_walk (s : ByteArray) (w : World) (hs : s.size ≤ 1048576) : Calls Try.prog 66 #[.string s] w fun e w' => e = .returned (.bool (plainT s)) ∧ w = w' := by
  by_cases hl : (1000 : Int) < (s.size : Int)
  · have HQ : Hid (plainT s = false) := by
      show plainT s = false
      unfold plainT
      rw [decide_eq_false (show ¬ s.size ≤ 1000 by omega), Bool.and_false]
    go_enter Try.func66, Try.ntmps66
    go_wp2
    go_ret
    exact ⟨by rw [unhide HQ]; rfl, rfl⟩
  · have HL : Hid (s.size ≤ 1000) := by show _ ≤ _; omega
    go_enter Try.func66, Try.ntmps66
    go_wp2
    go_loopw [9] (fun iv wr => ∃ k : Nat, k ≤ s.size ∧ iv = .int .i64 (k : Int) ∧ w = wr ∧ Hid (∀ j (hj : j < s.size), j < k → 32 ≤ s[j].toNat)) (fun iv _ => s.size - (intOf iv).toNat)
    case atStart => exact ⟨0, Nat.zero_le _, rfl, rfl, fun j _ hj => by omega⟩
    case round =>
      obtain ⟨k, hk, rfl, rfl, hd⟩ := hrel
      by_cases hlt : k < s.size
      · have hltI : (k : Int) < (s.size : Int) := by omega
        by_cases hc : s[k].toNat < 32
        · have hcI : ((s[k].toNat : Nat) : Int) < 32 := by omega
          have HQ : Hid (plainT s = false) := by show plainT s = false; unfold plainT; rw [noLow_no hlt hc]; rfl
          clear hd
          go_wp2
          go_ret
          exact ⟨by rw [unhide HQ]; rfl, rfl⟩
        · have hcI : ¬ ((s[k].toNat : Nat) : Int) < 32 := by omega
          have HD : Hid (∀ j (hj : j < s.size), j < k + 1 → 32 ≤ s[j].toNat) := fun j hj h => by
            by_cases e : j = k
            · subst e; omega
            · exact unhide hd j hj (by omega)
          clear hd
          go_wp2
          go_roundw
          case rel => exact ⟨k + 1, by omega, by go_num, trivial, HD⟩
          case measure => simp [intOf]; omega
      · have HQ : Hid (plainT s = true) := by
          show plainT s = _
          unfold plainT
          rw [noLow_yes fun j hj => unhide hd j hj (by omega), decide_eq_true (unhide HL)]
          rfl
        clear hd
        go_wp2
        go_ret
        exact ⟨by rw [unhide HQ]; rfl, rfl⟩
theorem partsTaken_walk (k : Int) (w : World) : Calls Try.prog 68 #[.int .i64 k] w fun e w' => e = .returned (.int .i64 (parts k : Int)) ∧ w = w' := by
  unfold parts
  by_cases h9 : k = 9
  · subst h9
    go_enter Try.func68, Try.ntmps68
    go_wp2
    go_ret
    exact ⟨rfl, rfl⟩
  by_cases h10 : k = 10
  · subst h10
    go_enter Try.func68, Try.ntmps68
    go_wp2
    go_ret
    exact ⟨rfl, rfl⟩
  by_cases h11 : k = 11
  · subst h11
    go_enter Try.func68, Try.ntmps68
    go_wp2
    go_ret
    exact ⟨rfl, rfl⟩
  rw [if_neg (by omega)]
  by_cases h12 : k = 12
  · subst h12
    rw [if_pos rfl]
    go_enter Try.func68, Try.ntmps68
    go_wp2
    go_ret
    exact ⟨rfl, rfl⟩
  · rw [if_neg h12]
    go_enter Try.func68, Try.ntmps68
    go_wp2
    go_ret
    exact ⟨rfl, rfl⟩
theorem isRef_walk (k : Int) (w : World) : Calls Try.prog 82 #[.int .i64 k] w fun e w' => e = .returned (.bool (isRefK k)) ∧ w = w' := by
  by_cases h6 : k = 6
  · subst h6
    go_enter Try.func82, Try.ntmps82
    go_wp2
    go_ret
    exact ⟨rfl, rfl⟩
  by_cases h7 : k = 7
  · subst h7
    go_enter Try.func82, Try.ntmps82
    go_wp2
    go_ret
    exact ⟨rfl, rfl⟩
  by_cases h8 : k = 8
  · subst h8
    go_enter Try.func82, Try.ntmps82
    go_wp2
    go_ret
    exact ⟨rfl, rfl⟩
  go_enter Try.func82, Try.ntmps82
  go_wp2
  go_ret
  exact ⟨rfl, rfl⟩
set_option maxRecDepth 100000 in
set_option maxHeartbeats 1000000 in
theorem badStep_walk (m : PStep) (w : World) (hs : m.name.size ≤ 1048576) : Calls Try.prog 84 #[.agg #[.bool m.byI, .string m.name, .int .i64 m.idx]] w fun e w' => e = .returned (.bool (!stepOk m)) ∧ Below w.heap.size w w' := by
  have HR : Hid (∀ w, Calls Try.prog 67 #[.int .i64 m.idx] w fun e w' => e = .returned (.bool (rangeI m.idx)) ∧ w = w') := fun w => goodInt_walk _ w
  have HP : Hid (∀ w, Calls Try.prog 66 #[.string m.name] w fun e w' => e = .returned (.bool (plainT m.name)) ∧ w = w') := fun w => goodText_walk _ w hs
  have HE : Hid (stepOk m = if m.byI = true then empT m.name && rangeI m.idx else (m.idx == 0) && plainT m.name) := rfl
  have HB : Hid (∀ o, Below w.heap.size w (w.alloc o)) := fun o => alloc_b w o
  generalize rangeI m.idx = R at *
  generalize plainT m.name = Q at *
  obtain ⟨b, s, n⟩ := m
  simp only at *
  cases b with
  | true =>
    cases he : s.toList.isEmpty with
    | true =>
      have HX : Hid ((!stepOk ⟨true, s, n⟩) = !R) := by show _ = _; rw [unhide HE]; unfold empT; rw [he]; simp
      clear HE HP
      go_enter Try.func84, Try.ntmps84
      go_wp2_with fail
      refine (unhide HR _).mono ?_
      rintro e w1 ⟨rfl, rfl⟩
      go_wp2
      go_ret
      exact ⟨by rw [unhide HX]; rfl, unhide HB _⟩
    | false =>
      have HX : Hid ((!stepOk ⟨true, s, n⟩) = true) := by show _ = _; rw [unhide HE]; unfold empT; rw [he]; simp
      clear HE HP HR
      go_enter Try.func84, Try.ntmps84
      go_wp2
      go_ret
      exact ⟨by rw [unhide HX]; rfl, unhide HB _⟩
  | false =>
    by_cases hn : n = 0
    · subst hn
      have HX : Hid ((!stepOk ⟨false, s, 0⟩) = !Q) := by show _ = _; rw [unhide HE]; simp
      clear HE HR
      go_enter Try.func84, Try.ntmps84
      go_wp2_with fail
      refine (unhide HP _).mono ?_
      rintro e w1 ⟨rfl, rfl⟩
      go_wp2
      go_ret
      exact ⟨by rw [unhide HX]; rfl, unhide HB _⟩
    · have HX : Hid ((!stepOk ⟨false, s, n⟩) = true) := by show _ = _; rw [unhide HE]; simp [hn]
      clear HE HR HP
      go_enter Try.func84, Try.ntmps84
      go_wp2
      go_ret
      exact ⟨by rw [unhide HX]; rfl, unhide HB _⟩
/-- The table of comparisons: six of them. -/
theorem comparisons_walk (w : World) : Calls Try.prog 95 #[] w fun e w' => ∃ g, e = .returned (.slice (some ⟨g, 0, none⟩) 6 6) ∧ Below w.heap.size w w' := by
  have HB : Hid (∀ o, Below w.heap.size w (w.alloc o)) := fun o => alloc_b w o
  go_enter Try.func95, Try.ntmps95
  go_wp2
  go_ret
  exact ⟨_, rfl, unhide HB _⟩
end Go.Proofs.Ytiolpmhodbefoaa
