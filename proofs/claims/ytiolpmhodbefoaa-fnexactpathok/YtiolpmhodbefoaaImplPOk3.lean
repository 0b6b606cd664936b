import Derived.Test.YtiolpmhodbefoaaSelP
import Derived.Test.YtiolpmhodbefoaaImplPOk1
namespace Go.Proofs.Ytiolpmhodbefoaa
open Go.RowKit

set_option maxRecDepth 100000 in
set_option maxHeartbeats 40000000 in
theorem goodSel_walk (m : PSel) (v : Value) (bl : List Nat) (w : World) (h : ORow fopE w v m.cond bl) (hs : szSel m ≤ 1048576) :
    Calls Try.prog 50 #[.agg #[.int .i64 m.k, .string m.name, .bool m.hasA, .bool m.hasB, .bool m.hasC, .int .i64 m.a, .int .i64 m.b, .int .i64 m.c, v]] w fun e w' => e = .returned (.bool (goodS m)) ∧ Below w.heap.size w w' := by
  have HO := hide h
  have HZ := hide hs
  have hnz : m.name.size ≤ 1048576 := by unfold szSel at hs; omega
  have hcz : m.cond.length ≤ 1048576 := by unfold szSel szFops at hs; omega
  obtain ⟨K, name, ha, hb, hc, a, b, c, cond⟩ := m
  simp only at *
  have HP : Hid (∀ w, Calls Try.prog 66 #[.string name] w fun e w' => e = .returned (.bool (plainT name)) ∧ w = w') := fun w => goodText_walk _ w hnz
  have HRa : Hid (∀ w, Calls Try.prog 67 #[.int .i64 a] w fun e w' => e = .returned (.bool (rangeI a)) ∧ w = w') := fun w => goodInt_walk _ w
  have HRb : Hid (∀ w, Calls Try.prog 67 #[.int .i64 b] w fun e w' => e = .returned (.bool (rangeI b)) ∧ w = w') := fun w => goodInt_walk _ w
  have HRc : Hid (∀ w, Calls Try.prog 67 #[.int .i64 c] w fun e w' => e = .returned (.bool (rangeI c)) ∧ w = w') := fun w => goodInt_walk _ w
  have HB : Hid (∀ o, Below w.heap.size w (w.alloc o)) := fun o => alloc_b w o
  obtain ⟨ad, cp, rfl, -, hxa⟩ := h.form
  have HXA := hide hxa
  have hczI : (cond.length : Int) ≤ 1048576 := by omega
  clear h hs hnz hcz hxa
  have HA : Hid (goodS ⟨K, name, ha, hb, hc, a, b, c, cond⟩ = (decide (1 ≤ K) && decide (K ≤ 5) && plainT name && rangeI a && rangeI b && rangeI c && selB ⟨K, name, ha, hb, hc, a, b, c, cond⟩)) := rfl
  generalize goodS ⟨K, name, ha, hb, hc, a, b, c, cond⟩ = SO at *
  by_cases k1' : K < 1
  · have k1 : ¬ 1 ≤ K := by omega
    have HV : Hid (SO = false) := by show _ = _; rw [unhide HA]; simp [k1]
    clear HA HO HXA HZ
    go_enter Try.func50, Try.ntmps50; simp only [List.append_eq, List.cons_append, List.nil_append]
    go_wp2
    go_ret
    exact ⟨by rw [unhide HV]; rfl, unhide HB _⟩
  by_cases k5' : 5 < K
  · have k5 : ¬ K ≤ 5 := by omega
    have k1 : 1 ≤ K := by omega
    have HV : Hid (SO = false) := by show _ = _; rw [unhide HA]; simp [k5]
    clear HA HO HXA HZ
    go_enter Try.func50, Try.ntmps50; simp only [List.append_eq, List.cons_append, List.nil_append]
    go_wp2
    go_ret
    exact ⟨by rw [unhide HV]; rfl, unhide HB _⟩
  have k1 : 1 ≤ K := by omega
  have k5 : K ≤ 5 := by omega
  go_enter Try.func50, Try.ntmps50; simp only [List.append_eq, List.cons_append, List.nil_append]
  go_wp2_with fail
  refine (unhide HP _).mono ?_
  rintro e w1 ⟨rfl, rfl⟩
  cases hp : plainT name with
  | false =>
    have HV : Hid (SO = false) := by show _ = _; rw [unhide HA]; simp [hp]
    clear HA HO HXA HZ
    go_wp2
    go_ret
    exact ⟨by rw [unhide HV]; rfl, unhide HB _⟩
  | true =>
    go_wp2_with fail
    refine (unhide HRa _).mono ?_
    rintro e w1 ⟨rfl, rfl⟩
    cases har : rangeI a with
    | false =>
      have HV : Hid (SO = false) := by show _ = _; rw [unhide HA]; simp [har]
      clear HA HO HXA HZ
      go_wp2
      go_ret
      exact ⟨by rw [unhide HV]; rfl, unhide HB _⟩
    | true =>
      go_wp2_with fail
      refine (unhide HRb _).mono ?_
      rintro e w1 ⟨rfl, rfl⟩
      cases hbr : rangeI b with
      | false =>
        have HV : Hid (SO = false) := by show _ = _; rw [unhide HA]; simp [hbr]
        clear HA HO HXA HZ
        go_wp2
        go_ret
        exact ⟨by rw [unhide HV]; rfl, unhide HB _⟩
      | true =>
        go_wp2_with fail
        refine (unhide HRc _).mono ?_
        rintro e w1 ⟨rfl, rfl⟩
        cases hcr : rangeI c with
        | false =>
          have HV : Hid (SO = false) := by show _ = _; rw [unhide HA]; simp [hcr]
          clear HA HO HXA HZ
          go_wp2
          go_ret
          exact ⟨by rw [unhide HV]; rfl, unhide HB _⟩
        | true =>
          have HS : Hid (SO = (selB ⟨K, name, ha, hb, hc, a, b, c, cond⟩)) := by show _ = _; rw [unhide HA, hp, har, hbr, hcr, decide_eq_true k1, decide_eq_true k5]; rfl
          clear HA HP HRa HRb HRc hp har hbr hcr
          rcases (show K = 1 ∨ K = 2 ∨ K = 3 ∨ K = 4 ∨ K = 5 by omega) with rfl | rfl | rfl | rfl | rfl
          · clear k1 k5 k1' k5'
            cases ha with
            | true =>
              have HV : Hid (SO = false) := by show _ = _; rw [unhide HS]; simp [selB]
              clear HS
              go_wp2
              go_ret
              exact ⟨by rw [unhide HV]; rfl, unhide HB _⟩
            | false =>
              cases hb with
              | true =>
                have HV : Hid (SO = false) := by show _ = _; rw [unhide HS]; simp [selB]
                clear HS
                go_wp2
                go_ret
                exact ⟨by rw [unhide HV]; rfl, unhide HB _⟩
              | false =>
                cases hc with
                | true =>
                  have HV : Hid (SO = false) := by show _ = _; rw [unhide HS]; simp [selB]
                  clear HS
                  go_wp2
                  go_ret
                  exact ⟨by rw [unhide HV]; rfl, unhide HB _⟩
                | false =>
                  by_cases na : a = 0
                  · subst na
                    by_cases nb : b = 0
                    · subst nb
                      by_cases nc : c = 0
                      · subst nc
                        have HV : Hid (SO = decide ((cond.length : Int) = 0)) := by show _ = _; rw [unhide HS]; simp [selB]
                        clear HS HO HXA HZ
                        go_wp2
                        go_ret
                        exact ⟨by rw [unhide HV]; rfl, unhide HB _⟩
                      · skip
                        have nc1 : (c != 0) = true := by simp [nc]
                        have nc2 : (c == 0) = false := by simp [nc]
                        have HV : Hid (SO = false) := by show _ = _; rw [unhide HS]; simp [selB, nc]
                        clear HS
                        go_wp2
                        go_ret
                        exact ⟨by rw [unhide HV]; rfl, unhide HB _⟩
                    · skip
                      have nb1 : (b != 0) = true := by simp [nb]
                      have nb2 : (b == 0) = false := by simp [nb]
                      have HV : Hid (SO = false) := by show _ = _; rw [unhide HS]; simp [selB, nb]
                      clear HS
                      go_wp2
                      go_ret
                      exact ⟨by rw [unhide HV]; rfl, unhide HB _⟩
                  · skip
                    have na1 : (a != 0) = true := by simp [na]
                    have na2 : (a == 0) = false := by simp [na]
                    have HV : Hid (SO = false) := by show _ = _; rw [unhide HS]; simp [selB, na]
                    clear HS
                    go_wp2
                    go_ret
                    exact ⟨by rw [unhide HV]; rfl, unhide HB _⟩
          · clear k1 k5 k1' k5'
            cases he : name.toList.isEmpty with
            | false =>
              have HV : Hid (SO = false) := by show _ = _; rw [unhide HS]; simp [selB, empT, he]
              clear HS
              go_wp2
              go_ret
              exact ⟨by rw [unhide HV]; rfl, unhide HB _⟩
            | true =>
              cases ha with
              | true =>
                have HV : Hid (SO = false) := by show _ = _; rw [unhide HS]; simp [selB, empT, he]
                clear HS
                go_wp2
                go_ret
                exact ⟨by rw [unhide HV]; rfl, unhide HB _⟩
              | false =>
                cases hb with
                | true =>
                  have HV : Hid (SO = false) := by show _ = _; rw [unhide HS]; simp [selB, empT, he]
                  clear HS
                  go_wp2
                  go_ret
                  exact ⟨by rw [unhide HV]; rfl, unhide HB _⟩
                | false =>
                  cases hc with
                  | true =>
                    have HV : Hid (SO = false) := by show _ = _; rw [unhide HS]; simp [selB, empT, he]
                    clear HS
                    go_wp2
                    go_ret
                    exact ⟨by rw [unhide HV]; rfl, unhide HB _⟩
                  | false =>
                    by_cases na : a = 0
                    · subst na
                      by_cases nb : b = 0
                      · subst nb
                        by_cases nc : c = 0
                        · subst nc
                          have HV : Hid (SO = decide ((cond.length : Int) = 0)) := by show _ = _; rw [unhide HS]; simp [selB, empT, he]
                          clear HS HO HXA HZ
                          go_wp2
                          go_ret
                          exact ⟨by rw [unhide HV]; rfl, unhide HB _⟩
                        · skip
                          have nc1 : (c != 0) = true := by simp [nc]
                          have nc2 : (c == 0) = false := by simp [nc]
                          have HV : Hid (SO = false) := by show _ = _; rw [unhide HS]; simp [selB, empT, he, nc]
                          clear HS
                          go_wp2
                          go_ret
                          exact ⟨by rw [unhide HV]; rfl, unhide HB _⟩
                      · skip
                        have nb1 : (b != 0) = true := by simp [nb]
                        have nb2 : (b == 0) = false := by simp [nb]
                        have HV : Hid (SO = false) := by show _ = _; rw [unhide HS]; simp [selB, empT, he, nb]
                        clear HS
                        go_wp2
                        go_ret
                        exact ⟨by rw [unhide HV]; rfl, unhide HB _⟩
                    · skip
                      have na1 : (a != 0) = true := by simp [na]
                      have na2 : (a == 0) = false := by simp [na]
                      have HV : Hid (SO = false) := by show _ = _; rw [unhide HS]; simp [selB, empT, he, na]
                      clear HS
                      go_wp2
                      go_ret
                      exact ⟨by rw [unhide HV]; rfl, unhide HB _⟩
          · clear k1 k5 k1' k5'
            cases he : name.toList.isEmpty with
            | false =>
              have HV : Hid (SO = false) := by show _ = _; rw [unhide HS]; simp [selB, empT, he]
              clear HS
              go_wp2
              go_ret
              exact ⟨by rw [unhide HV]; rfl, unhide HB _⟩
            | true =>
              cases ha with
              | true =>
                have HV : Hid (SO = false) := by show _ = _; rw [unhide HS]; simp [selB, empT, he]
                clear HS
                go_wp2
                go_ret
                exact ⟨by rw [unhide HV]; rfl, unhide HB _⟩
              | false =>
                cases hb with
                | true =>
                  have HV : Hid (SO = false) := by show _ = _; rw [unhide HS]; simp [selB, empT, he]
                  clear HS
                  go_wp2
                  go_ret
                  exact ⟨by rw [unhide HV]; rfl, unhide HB _⟩
                | false =>
                  cases hc with
                  | true =>
                    have HV : Hid (SO = false) := by show _ = _; rw [unhide HS]; simp [selB, empT, he]
                    clear HS
                    go_wp2
                    go_ret
                    exact ⟨by rw [unhide HV]; rfl, unhide HB _⟩
                  | false =>
                    by_cases nb : b = 0
                    · subst nb
                      by_cases nc : c = 0
                      · subst nc
                        have HV : Hid (SO = decide ((cond.length : Int) = 0)) := by show _ = _; rw [unhide HS]; simp [selB, empT, he]
                        clear HS HO HXA HZ
                        go_wp2
                        go_ret
                        exact ⟨by rw [unhide HV]; rfl, unhide HB _⟩
                      · skip
                        have nc1 : (c != 0) = true := by simp [nc]
                        have nc2 : (c == 0) = false := by simp [nc]
                        have HV : Hid (SO = false) := by show _ = _; rw [unhide HS]; simp [selB, empT, he, nc]
                        clear HS
                        go_wp2
                        go_ret
                        exact ⟨by rw [unhide HV]; rfl, unhide HB _⟩
                    · skip
                      have nb1 : (b != 0) = true := by simp [nb]
                      have nb2 : (b == 0) = false := by simp [nb]
                      have HV : Hid (SO = false) := by show _ = _; rw [unhide HS]; simp [selB, empT, he, nb]
                      clear HS
                      go_wp2
                      go_ret
                      exact ⟨by rw [unhide HV]; rfl, unhide HB _⟩
          · clear k1 k5 k1' k5'
            cases he : name.toList.isEmpty with
            | false =>
              have HV : Hid (SO = false) := by show _ = _; rw [unhide HS]; simp [selB, empT, he]
              clear HS
              go_wp2
              go_ret
              exact ⟨by rw [unhide HV]; rfl, unhide HB _⟩
            | true =>
              cases ha with
              | true =>
                cases hb with
                | true =>
                  cases hc with
                  | true =>
                    have HV : Hid (SO = decide ((cond.length : Int) = 0)) := by show _ = _; rw [unhide HS]; simp [selB, empT, he]
                    clear HS HO HXA HZ
                    go_wp2
                    go_ret
                    exact ⟨by rw [unhide HV]; rfl, unhide HB _⟩
                  | false =>
                    by_cases nc : c = 0
                    · subst nc
                      have HV : Hid (SO = decide ((cond.length : Int) = 0)) := by show _ = _; rw [unhide HS]; simp [selB, empT, he]
                      clear HS HO HXA HZ
                      go_wp2
                      go_ret
                      exact ⟨by rw [unhide HV]; rfl, unhide HB _⟩
                    · skip
                      have nc1 : (c != 0) = true := by simp [nc]
                      have nc2 : (c == 0) = false := by simp [nc]
                      have HV : Hid (SO = false) := by show _ = _; rw [unhide HS]; simp [selB, empT, he, nc]
                      clear HS
                      go_wp2
                      go_ret
                      exact ⟨by rw [unhide HV]; rfl, unhide HB _⟩
                | false =>
                  by_cases nb : b = 0
                  · subst nb
                    cases hc with
                    | true =>
                      have HV : Hid (SO = decide ((cond.length : Int) = 0)) := by show _ = _; rw [unhide HS]; simp [selB, empT, he]
                      clear HS HO HXA HZ
                      go_wp2
                      go_ret
                      exact ⟨by rw [unhide HV]; rfl, unhide HB _⟩
                    | false =>
                      by_cases nc : c = 0
                      · subst nc
                        have HV : Hid (SO = decide ((cond.length : Int) = 0)) := by show _ = _; rw [unhide HS]; simp [selB, empT, he]
                        clear HS HO HXA HZ
                        go_wp2
                        go_ret
                        exact ⟨by rw [unhide HV]; rfl, unhide HB _⟩
                      · skip
                        have nc1 : (c != 0) = true := by simp [nc]
                        have nc2 : (c == 0) = false := by simp [nc]
                        have HV : Hid (SO = false) := by show _ = _; rw [unhide HS]; simp [selB, empT, he, nc]
                        clear HS
                        go_wp2
                        go_ret
                        exact ⟨by rw [unhide HV]; rfl, unhide HB _⟩
                  · skip
                    have nb1 : (b != 0) = true := by simp [nb]
                    have nb2 : (b == 0) = false := by simp [nb]
                    have HV : Hid (SO = false) := by show _ = _; rw [unhide HS]; simp [selB, empT, he, nb]
                    clear HS
                    go_wp2
                    go_ret
                    exact ⟨by rw [unhide HV]; rfl, unhide HB _⟩
              | false =>
                by_cases na : a = 0
                · subst na
                  cases hb with
                  | true =>
                    cases hc with
                    | true =>
                      have HV : Hid (SO = decide ((cond.length : Int) = 0)) := by show _ = _; rw [unhide HS]; simp [selB, empT, he]
                      clear HS HO HXA HZ
                      go_wp2
                      go_ret
                      exact ⟨by rw [unhide HV]; rfl, unhide HB _⟩
                    | false =>
                      by_cases nc : c = 0
                      · subst nc
                        have HV : Hid (SO = decide ((cond.length : Int) = 0)) := by show _ = _; rw [unhide HS]; simp [selB, empT, he]
                        clear HS HO HXA HZ
                        go_wp2
                        go_ret
                        exact ⟨by rw [unhide HV]; rfl, unhide HB _⟩
                      · skip
                        have nc1 : (c != 0) = true := by simp [nc]
                        have nc2 : (c == 0) = false := by simp [nc]
                        have HV : Hid (SO = false) := by show _ = _; rw [unhide HS]; simp [selB, empT, he, nc]
                        clear HS
                        go_wp2
                        go_ret
                        exact ⟨by rw [unhide HV]; rfl, unhide HB _⟩
                  | false =>
                    by_cases nb : b = 0
                    · subst nb
                      cases hc with
                      | true =>
                        have HV : Hid (SO = decide ((cond.length : Int) = 0)) := by show _ = _; rw [unhide HS]; simp [selB, empT, he]
                        clear HS HO HXA HZ
                        go_wp2
                        go_ret
                        exact ⟨by rw [unhide HV]; rfl, unhide HB _⟩
                      | false =>
                        by_cases nc : c = 0
                        · subst nc
                          have HV : Hid (SO = decide ((cond.length : Int) = 0)) := by show _ = _; rw [unhide HS]; simp [selB, empT, he]
                          clear HS HO HXA HZ
                          go_wp2
                          go_ret
                          exact ⟨by rw [unhide HV]; rfl, unhide HB _⟩
                        · skip
                          have nc1 : (c != 0) = true := by simp [nc]
                          have nc2 : (c == 0) = false := by simp [nc]
                          have HV : Hid (SO = false) := by show _ = _; rw [unhide HS]; simp [selB, empT, he, nc]
                          clear HS
                          go_wp2
                          go_ret
                          exact ⟨by rw [unhide HV]; rfl, unhide HB _⟩
                    · skip
                      have nb1 : (b != 0) = true := by simp [nb]
                      have nb2 : (b == 0) = false := by simp [nb]
                      have HV : Hid (SO = false) := by show _ = _; rw [unhide HS]; simp [selB, empT, he, nb]
                      clear HS
                      go_wp2
                      go_ret
                      exact ⟨by rw [unhide HV]; rfl, unhide HB _⟩
                · skip
                  have na1 : (a != 0) = true := by simp [na]
                  have na2 : (a == 0) = false := by simp [na]
                  have HV : Hid (SO = false) := by show _ = _; rw [unhide HS]; simp [selB, empT, he, na]
                  clear HS
                  go_wp2
                  go_ret
                  exact ⟨by rw [unhide HV]; rfl, unhide HB _⟩
          · clear k1 k5 k1' k5'
            cases he : name.toList.isEmpty with
            | false =>
              have HV : Hid (SO = false) := by show _ = _; rw [unhide HS]; simp [selB, empT, he]
              clear HS
              go_wp2
              go_ret
              exact ⟨by rw [unhide HV]; rfl, unhide HB _⟩
            | true =>
              cases ha with
              | true =>
                have HV : Hid (SO = false) := by show _ = _; rw [unhide HS]; simp [selB, empT, he]
                clear HS
                go_wp2
                go_ret
                exact ⟨by rw [unhide HV]; rfl, unhide HB _⟩
              | false =>
                cases hb with
                | true =>
                  have HV : Hid (SO = false) := by show _ = _; rw [unhide HS]; simp [selB, empT, he]
                  clear HS
                  go_wp2
                  go_ret
                  exact ⟨by rw [unhide HV]; rfl, unhide HB _⟩
                | false =>
                  cases hc with
                  | true =>
                    have HV : Hid (SO = false) := by show _ = _; rw [unhide HS]; simp [selB, empT, he]
                    clear HS
                    go_wp2
                    go_ret
                    exact ⟨by rw [unhide HV]; rfl, unhide HB _⟩
                  | false =>
                    by_cases na : a = 0
                    · subst na
                      by_cases nb : b = 0
                      · subst nb
                        by_cases nc : c = 0
                        · subst nc
                          have HV : Hid (SO = true) := by show _ = _; rw [unhide HS]; simp [selB, empT, he]
                          clear HS HO HXA HZ
                          go_wp2
                          go_ret
                          exact ⟨by rw [unhide HV]; rfl, unhide HB _⟩
                        · skip
                          have nc1 : (c != 0) = true := by simp [nc]
                          have nc2 : (c == 0) = false := by simp [nc]
                          have HV : Hid (SO = false) := by show _ = _; rw [unhide HS]; simp [selB, empT, he, nc]
                          clear HS
                          go_wp2
                          go_ret
                          exact ⟨by rw [unhide HV]; rfl, unhide HB _⟩
                      · skip
                        have nb1 : (b != 0) = true := by simp [nb]
                        have nb2 : (b == 0) = false := by simp [nb]
                        have HV : Hid (SO = false) := by show _ = _; rw [unhide HS]; simp [selB, empT, he, nb]
                        clear HS
                        go_wp2
                        go_ret
                        exact ⟨by rw [unhide HV]; rfl, unhide HB _⟩
                    · skip
                      have na1 : (a != 0) = true := by simp [na]
                      have na2 : (a == 0) = false := by simp [na]
                      have HV : Hid (SO = false) := by show _ = _; rw [unhide HS]; simp [selB, empT, he, na]
                      clear HS
                      go_wp2
                      go_ret
                      exact ⟨by rw [unhide HV]; rfl, unhide HB _⟩
end Go.Proofs.Ytiolpmhodbefoaa
