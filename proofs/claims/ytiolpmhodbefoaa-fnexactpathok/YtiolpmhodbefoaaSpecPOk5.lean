import Derived.Test.YtiolpmhodbefoaaSelP
import Derived.Test.YtiolpmhodbefoaaSpecPOk4
namespace Go.Proofs.Ytiolpmhodbefoaa
open Go.RowKit

set_option maxRecDepth 100000 in
set_option maxHeartbeats 40000000 in
theorem selOk_walk (m : PSel) (v : Value) (bl : List Nat) (w : World) (h : ORow fopE w v m.cond bl) (hs : szSel m ≤ 1048576) :
    Calls Try.prog 15 #[.agg #[.int .i64 m.k, .string m.name, .bool m.hasA, .bool m.hasB, .bool m.hasC, .int .i64 m.a, .int .i64 m.b, .int .i64 m.c, v]] w fun e w' => e = .returned (.bool (selOk m)) ∧ Below w.heap.size w w' := by
  have HO := hide h
  have HZ := hide hs
  have hnz : m.name.size ≤ 1048576 := by unfold szSel at hs; omega
  have hcz : m.cond.length ≤ 1048576 := by unfold szSel szFops at hs; omega
  obtain ⟨K, name, ha, hb, hc, a, b, c, cond⟩ := m
  simp only at *
  have HP : Hid (∀ w, Calls Try.prog 27 #[.string name] w fun e w' => e = .returned (.bool (plainT name)) ∧ w = w') := fun w => plain_walk _ w hnz
  have HRa : Hid (∀ w, Calls Try.prog 28 #[.int .i64 a] w fun e w' => e = .returned (.bool (rangeI a)) ∧ w = w') := fun w => range_walk _ w
  have HRb : Hid (∀ w, Calls Try.prog 28 #[.int .i64 b] w fun e w' => e = .returned (.bool (rangeI b)) ∧ w = w') := fun w => range_walk _ w
  have HRc : Hid (∀ w, Calls Try.prog 28 #[.int .i64 c] w fun e w' => e = .returned (.bool (rangeI c)) ∧ w = w') := fun w => range_walk _ w
  have HB : Hid (∀ o, Below w.heap.size w (w.alloc o)) := fun o => alloc_b w o
  obtain ⟨ad, cp, rfl, -, hxa⟩ := h.form
  have HXA := hide hxa
  have hczI : (cond.length : Int) ≤ 1048576 := by omega
  clear h hs hnz hcz hxa
  have HA : Hid (selOk ⟨K, name, ha, hb, hc, a, b, c, cond⟩ = (decide (1 ≤ K) && decide (K ≤ 5) && plainT name && rangeI a && rangeI b && rangeI c && selB ⟨K, name, ha, hb, hc, a, b, c, cond⟩ && (K != 5 || condOk cond))) := rfl
  generalize selOk ⟨K, name, ha, hb, hc, a, b, c, cond⟩ = SO at *
  by_cases k1' : K < 1
  · have k1 : ¬ 1 ≤ K := by omega
    have HV : Hid (SO = false) := by show _ = _; rw [unhide HA]; simp [k1]
    clear HA HO HXA HZ
    go_enter Try.func15, Try.ntmps15
    go_wp2
    go_ret
    exact ⟨by rw [unhide HV]; rfl, unhide HB _⟩
  by_cases k5' : 5 < K
  · have k5 : ¬ K ≤ 5 := by omega
    have k1 : 1 ≤ K := by omega
    have HV : Hid (SO = false) := by show _ = _; rw [unhide HA]; simp [k5]
    clear HA HO HXA HZ
    go_enter Try.func15, Try.ntmps15
    go_wp2
    go_ret
    exact ⟨by rw [unhide HV]; rfl, unhide HB _⟩
  have k1 : 1 ≤ K := by omega
  have k5 : K ≤ 5 := by omega
  go_enter Try.func15, Try.ntmps15
  go_wp2_with fail
  refine (unhide HP _).mono ?_
  rintro e w1 ⟨rfl, rfl⟩
  cases hp : plainT name with
  | false =>
    have HV : Hid (SO = false) := by show _ = _; rw [unhide HA]; simp [hp]
    clear HA HO HXA HZ
    go_wp2
    go_ret
    exact ⟨by rw [unhide HV]; rfl, unhide HB _⟩
  | true =>
    go_wp2_with fail
    refine (unhide HRa _).mono ?_
    rintro e w1 ⟨rfl, rfl⟩
    cases har : rangeI a with
    | false =>
      have HV : Hid (SO = false) := by show _ = _; rw [unhide HA]; simp [har]
      clear HA HO HXA HZ
      go_wp2
      go_ret
      exact ⟨by rw [unhide HV]; rfl, unhide HB _⟩
    | true =>
      go_wp2_with fail
      refine (unhide HRb _).mono ?_
      rintro e w1 ⟨rfl, rfl⟩
      cases hbr : rangeI b with
      | false =>
        have HV : Hid (SO = false) := by show _ = _; rw [unhide HA]; simp [hbr]
        clear HA HO HXA HZ
        go_wp2
        go_ret
        exact ⟨by rw [unhide HV]; rfl, unhide HB _⟩
      | true =>
        go_wp2_with fail
        refine (unhide HRc _).mono ?_
        rintro e w1 ⟨rfl, rfl⟩
        cases hcr : rangeI c with
        | false =>
          have HV : Hid (SO = false) := by show _ = _; rw [unhide HA]; simp [hcr]
          clear HA HO HXA HZ
          go_wp2
          go_ret
          exact ⟨by rw [unhide HV]; rfl, unhide HB _⟩
        | true =>
          have HS : Hid (SO = (selB ⟨K, name, ha, hb, hc, a, b, c, cond⟩ && (K != 5 || condOk cond))) := by show _ = _; rw [unhide HA, hp, har, hbr, hcr, decide_eq_true k1, decide_eq_true k5]; rfl
          clear HA HP HRa HRb HRc hp har hbr hcr
          rcases (show K = 1 ∨ K = 2 ∨ K = 3 ∨ K = 4 ∨ K = 5 by omega) with rfl | rfl | rfl | rfl | rfl
          · clear k1 k5 k1' k5'
            cases ha with
            | true =>
              have HV : Hid (SO = false) := by show _ = _; rw [unhide HS]; simp [selB]
              clear HS
              go_wp2
              go_ret
              exact ⟨by rw [unhide HV]; rfl, unhide HB _⟩
            | false =>
              cases hb with
              | true =>
                have HV : Hid (SO = false) := by show _ = _; rw [unhide HS]; simp [selB]
                clear HS
                go_wp2
                go_ret
                exact ⟨by rw [unhide HV]; rfl, unhide HB _⟩
              | false =>
                cases hc with
                | true =>
                  have HV : Hid (SO = false) := by show _ = _; rw [unhide HS]; simp [selB]
                  clear HS
                  go_wp2
                  go_ret
                  exact ⟨by rw [unhide HV]; rfl, unhide HB _⟩
                | false =>
                  by_cases nb : b = 0
                  · subst nb
                    by_cases nc : c = 0
                    · subst nc
                      by_cases na : a = 0
                      · subst na
                        have HV : Hid (SO = decide ((cond.length : Int) = 0)) := by show _ = _; rw [unhide HS]; simp [selB]
                        clear HS HO HXA HZ
                        go_wp2
                        go_ret
                        exact ⟨by rw [unhide HV]; rfl, unhide HB _⟩
                      · skip
                        have na1 : (a != 0) = true := by simp [na]
                        have na2 : (a == 0) = false := by simp [na]
                        have HV : Hid (SO = false) := by show _ = _; rw [unhide HS]; simp [selB, na]
                        clear HS
                        go_wp2
                        go_ret
                        exact ⟨by rw [unhide HV]; rfl, unhide HB _⟩
                    · skip
                      have nc1 : (c != 0) = true := by simp [nc]
                      have nc2 : (c == 0) = false := by simp [nc]
                      have HV : Hid (SO = false) := by show _ = _; rw [unhide HS]; simp [selB, nc]
                      clear HS
                      go_wp2
                      go_ret
                      exact ⟨by rw [unhide HV]; rfl, unhide HB _⟩
                  · skip
                    have nb1 : (b != 0) = true := by simp [nb]
                    have nb2 : (b == 0) = false := by simp [nb]
                    have HV : Hid (SO = false) := by show _ = _; rw [unhide HS]; simp [selB, nb]
                    clear HS
                    go_wp2
                    go_ret
                    exact ⟨by rw [unhide HV]; rfl, unhide HB _⟩
          · clear k1 k5 k1' k5'
            cases he : name.toList.isEmpty with
            | false =>
              have HV : Hid (SO = false) := by show _ = _; rw [unhide HS]; simp [selB, empT, he]
              clear HS
              go_wp2
              go_ret
              exact ⟨by rw [unhide HV]; rfl, unhide HB _⟩
            | true =>
              cases ha with
              | true =>
                have HV : Hid (SO = false) := by show _ = _; rw [unhide HS]; simp [selB, empT, he]
                clear HS
                go_wp2
                go_ret
                exact ⟨by rw [unhide HV]; rfl, unhide HB _⟩
              | false =>
                cases hb with
                | true =>
                  have HV : Hid (SO = false) := by show _ = _; rw [unhide HS]; simp [selB, empT, he]
                  clear HS
                  go_wp2
                  go_ret
                  exact ⟨by rw [unhide HV]; rfl, unhide HB _⟩
                | false =>
                  cases hc with
                  | true =>
                    have HV : Hid (SO = false) := by show _ = _; rw [unhide HS]; simp [selB, empT, he]
                    clear HS
                    go_wp2
                    go_ret
                    exact ⟨by rw [unhide HV]; rfl, unhide HB _⟩
                  | false =>
                    by_cases nb : b = 0
                    · subst nb
                      by_cases nc : c = 0
                      · subst nc
                        by_cases na : a = 0
                        · subst na
                          have HV : Hid (SO = decide ((cond.length : Int) = 0)) := by show _ = _; rw [unhide HS]; simp [selB, empT, he]
                          clear HS HO HXA HZ
                          go_wp2
                          go_ret
                          exact ⟨by rw [unhide HV]; rfl, unhide HB _⟩
                        · skip
                          have na1 : (a != 0) = true := by simp [na]
                          have na2 : (a == 0) = false := by simp [na]
                          have HV : Hid (SO = false) := by show _ = _; rw [unhide HS]; simp [selB, empT, he, na]
                          clear HS
                          go_wp2
                          go_ret
                          exact ⟨by rw [unhide HV]; rfl, unhide HB _⟩
                      · skip
                        have nc1 : (c != 0) = true := by simp [nc]
                        have nc2 : (c == 0) = false := by simp [nc]
                        have HV : Hid (SO = false) := by show _ = _; rw [unhide HS]; simp [selB, empT, he, nc]
                        clear HS
                        go_wp2
                        go_ret
                        exact ⟨by rw [unhide HV]; rfl, unhide HB _⟩
                    · skip
                      have nb1 : (b != 0) = true := by simp [nb]
                      have nb2 : (b == 0) = false := by simp [nb]
                      have HV : Hid (SO = false) := by show _ = _; rw [unhide HS]; simp [selB, empT, he, nb]
                      clear HS
                      go_wp2
                      go_ret
                      exact ⟨by rw [unhide HV]; rfl, unhide HB _⟩
          · clear k1 k5 k1' k5'
            cases he : name.toList.isEmpty with
            | false =>
              have HV : Hid (SO = false) := by show _ = _; rw [unhide HS]; simp [selB, empT, he]
              clear HS
              go_wp2
              go_ret
              exact ⟨by rw [unhide HV]; rfl, unhide HB _⟩
            | true =>
              cases ha with
              | true =>
                have HV : Hid (SO = false) := by show _ = _; rw [unhide HS]; simp [selB, empT, he]
                clear HS
                go_wp2
                go_ret
                exact ⟨by rw [unhide HV]; rfl, unhide HB _⟩
              | false =>
                cases hb with
                | true =>
                  have HV : Hid (SO = false) := by show _ = _; rw [unhide HS]; simp [selB, empT, he]
                  clear HS
                  go_wp2
                  go_ret
                  exact ⟨by rw [unhide HV]; rfl, unhide HB _⟩
                | false =>
                  cases hc with
                  | true =>
                    have HV : Hid (SO = false) := by show _ = _; rw [unhide HS]; simp [selB, empT, he]
                    clear HS
                    go_wp2
                    go_ret
                    exact ⟨by rw [unhide HV]; rfl, unhide HB _⟩
                  | false =>
                    by_cases nb : b = 0
                    · subst nb
                      by_cases nc : c = 0
                      · subst nc
                        have HV : Hid (SO = decide ((cond.length : Int) = 0)) := by show _ = _; rw [unhide HS]; simp [selB, empT, he]
                        clear HS HO HXA HZ
                        go_wp2
                        go_ret
                        exact ⟨by rw [unhide HV]; rfl, unhide HB _⟩
                      · skip
                        have nc1 : (c != 0) = true := by simp [nc]
                        have nc2 : (c == 0) = false := by simp [nc]
                        have HV : Hid (SO = false) := by show _ = _; rw [unhide HS]; simp [selB, empT, he, nc]
                        clear HS
                        go_wp2
                        go_ret
                        exact ⟨by rw [unhide HV]; rfl, unhide HB _⟩
                    · skip
                      have nb1 : (b != 0) = true := by simp [nb]
                      have nb2 : (b == 0) = false := by simp [nb]
                      have HV : Hid (SO = false) := by show _ = _; rw [unhide HS]; simp [selB, empT, he, nb]
                      clear HS
                      go_wp2
                      go_ret
                      exact ⟨by rw [unhide HV]; rfl, unhide HB _⟩
          · clear k1 k5 k1' k5'
            cases he : name.toList.isEmpty with
            | false =>
              have HV : Hid (SO = false) := by show _ = _; rw [unhide HS]; simp [selB, empT, he]
              clear HS
              go_wp2
              go_ret
              exact ⟨by rw [unhide HV]; rfl, unhide HB _⟩
            | true =>
              cases ha with
              | true =>
                cases hb with
                | true =>
                  cases hc with
                  | true =>
                    have HV : Hid (SO = decide ((cond.length : Int) = 0)) := by show _ = _; rw [unhide HS]; simp [selB, empT, he]
                    clear HS HO HXA HZ
                    go_wp2
                    go_ret
                    exact ⟨by rw [unhide HV]; rfl, unhide HB _⟩
                  | false =>
                    by_cases nc : c = 0
                    · subst nc
                      have HV : Hid (SO = decide ((cond.length : Int) = 0)) := by show _ = _; rw [unhide HS]; simp [selB, empT, he]
                      clear HS HO HXA HZ
                      go_wp2
                      go_ret
                      exact ⟨by rw [unhide HV]; rfl, unhide HB _⟩
                    · skip
                      have nc1 : (c != 0) = true := by simp [nc]
                      have nc2 : (c == 0) = false := by simp [nc]
                      have HV : Hid (SO = false) := by show _ = _; rw [unhide HS]; simp [selB, empT, he, nc]
                      clear HS
                      go_wp2
                      go_ret
                      exact ⟨by rw [unhide HV]; rfl, unhide HB _⟩
                | false =>
                  by_cases nb : b = 0
                  · subst nb
                    cases hc with
                    | true =>
                      have HV : Hid (SO = decide ((cond.length : Int) = 0)) := by show _ = _; rw [unhide HS]; simp [selB, empT, he]
                      clear HS HO HXA HZ
                      go_wp2
                      go_ret
                      exact ⟨by rw [unhide HV]; rfl, unhide HB _⟩
                    | false =>
                      by_cases nc : c = 0
                      · subst nc
                        have HV : Hid (SO = decide ((cond.length : Int) = 0)) := by show _ = _; rw [unhide HS]; simp [selB, empT, he]
                        clear HS HO HXA HZ
                        go_wp2
                        go_ret
                        exact ⟨by rw [unhide HV]; rfl, unhide HB _⟩
                      · skip
                        have nc1 : (c != 0) = true := by simp [nc]
                        have nc2 : (c == 0) = false := by simp [nc]
                        have HV : Hid (SO = false) := by show _ = _; rw [unhide HS]; simp [selB, empT, he, nc]
                        clear HS
                        go_wp2
                        go_ret
                        exact ⟨by rw [unhide HV]; rfl, unhide HB _⟩
                  · skip
                    have nb1 : (b != 0) = true := by simp [nb]
                    have nb2 : (b == 0) = false := by simp [nb]
                    have HV : Hid (SO = false) := by show _ = _; rw [unhide HS]; simp [selB, empT, he, nb]
                    clear HS
                    go_wp2
                    go_ret
                    exact ⟨by rw [unhide HV]; rfl, unhide HB _⟩
              | false =>
                by_cases na : a = 0
                · subst na
                  cases hb with
                  | true =>
                    cases hc with
                    | true =>
                      have HV : Hid (SO = decide ((cond.length : Int) = 0)) := by show _ = _; rw [unhide HS]; simp [selB, empT, he]
                      clear HS HO HXA HZ
                      go_wp2
                      go_ret
                      exact ⟨by rw [unhide HV]; rfl, unhide HB _⟩
                    | false =>
                      by_cases nc : c = 0
                      · subst nc
                        have HV : Hid (SO = decide ((cond.length : Int) = 0)) := by show _ = _; rw [unhide HS]; simp [selB, empT, he]
                        clear HS HO HXA HZ
                        go_wp2
                        go_ret
                        exact ⟨by rw [unhide HV]; rfl, unhide HB _⟩
                      · skip
                        have nc1 : (c != 0) = true := by simp [nc]
                        have nc2 : (c == 0) = false := by simp [nc]
                        have HV : Hid (SO = false) := by show _ = _; rw [unhide HS]; simp [selB, empT, he, nc]
                        clear HS
                        go_wp2
                        go_ret
                        exact ⟨by rw [unhide HV]; rfl, unhide HB _⟩
                  | false =>
                    by_cases nb : b = 0
                    · subst nb
                      cases hc with
                      | true =>
                        have HV : Hid (SO = decide ((cond.length : Int) = 0)) := by show _ = _; rw [unhide HS]; simp [selB, empT, he]
                        clear HS HO HXA HZ
                        go_wp2
                        go_ret
                        exact ⟨by rw [unhide HV]; rfl, unhide HB _⟩
                      | false =>
                        by_cases nc : c = 0
                        · subst nc
                          have HV : Hid (SO = decide ((cond.length : Int) = 0)) := by show _ = _; rw [unhide HS]; simp [selB, empT, he]
                          clear HS HO HXA HZ
                          go_wp2
                          go_ret
                          exact ⟨by rw [unhide HV]; rfl, unhide HB _⟩
                        · skip
                          have nc1 : (c != 0) = true := by simp [nc]
                          have nc2 : (c == 0) = false := by simp [nc]
                          have HV : Hid (SO = false) := by show _ = _; rw [unhide HS]; simp [selB, empT, he, nc]
                          clear HS
                          go_wp2
                          go_ret
                          exact ⟨by rw [unhide HV]; rfl, unhide HB _⟩
                    · skip
                      have nb1 : (b != 0) = true := by simp [nb]
                      have nb2 : (b == 0) = false := by simp [nb]
                      have HV : Hid (SO = false) := by show _ = _; rw [unhide HS]; simp [selB, empT, he, nb]
                      clear HS
                      go_wp2
                      go_ret
                      exact ⟨by rw [unhide HV]; rfl, unhide HB _⟩
                · skip
                  have na1 : (a != 0) = true := by simp [na]
                  have na2 : (a == 0) = false := by simp [na]
                  have HV : Hid (SO = false) := by show _ = _; rw [unhide HS]; simp [selB, empT, he, na]
                  clear HS
                  go_wp2
                  go_ret
                  exact ⟨by rw [unhide HV]; rfl, unhide HB _⟩
          · clear k1 k5 k1' k5'
            cases he : name.toList.isEmpty with
            | false =>
              have HV : Hid (SO = false) := by show _ = _; rw [unhide HS]; simp [selB, empT, he]
              clear HS
              go_wp2
              go_ret
              exact ⟨by rw [unhide HV]; rfl, unhide HB _⟩
            | true =>
              cases ha with
              | true =>
                have HV : Hid (SO = false) := by show _ = _; rw [unhide HS]; simp [selB, empT, he]
                clear HS
                go_wp2
                go_ret
                exact ⟨by rw [unhide HV]; rfl, unhide HB _⟩
              | false =>
                cases hb with
                | true =>
                  have HV : Hid (SO = false) := by show _ = _; rw [unhide HS]; simp [selB, empT, he]
                  clear HS
                  go_wp2
                  go_ret
                  exact ⟨by rw [unhide HV]; rfl, unhide HB _⟩
                | false =>
                  cases hc with
                  | true =>
                    have HV : Hid (SO = false) := by show _ = _; rw [unhide HS]; simp [selB, empT, he]
                    clear HS
                    go_wp2
                    go_ret
                    exact ⟨by rw [unhide HV]; rfl, unhide HB _⟩
                  | false =>
                    by_cases nb : b = 0
                    · subst nb
                      by_cases nc : c = 0
                      · subst nc
                        by_cases na : a = 0
                        · subst na
                          have HV : Hid (SO = condOk cond) := by show _ = _; rw [unhide HS]; simp [selB, empT, he]
                          clear HS
                          obtain ⟨BX, hBX⟩ : ∃ BX : World → Prop, BX = fun wr => wr.heap[w.heap.size]? = some (Obj.cells #[.int .i64 5, .string name, .bool false, .bool false, .bool false, .int .i64 0, .int .i64 0, .int .i64 0, .slice ad cond.length cp] 43 (0, 0)) := ⟨_, rfl⟩
                          have HX0 : Hid (BX (w.alloc (Obj.cells #[.int .i64 5, .string name, .bool false, .bool false, .bool false, .int .i64 0, .int .i64 0, .int .i64 0, .slice ad cond.length cp] 43 (0, 0)))) := by rw [hBX]; exact heap_alloc_new w _
                          have HXN : Hid (∀ wr w', BX wr → Below wr.heap.size wr w' → BX w') := by rw [hBX]; exact fun wr w' h hb => (hb.block _ (Array.getElem?_eq_some_iff.1 h).1).trans h
                          have HBX : Hid (∀ wr, BX wr → wr.cell? ⟨w.heap.size, 8, none⟩ = some (.slice ad cond.length cp)) := by rw [hBX]; exact fun wr h => Lib.cell_of_heap h 8
                          have HB0 : Hid (Below w.heap.size w (w.alloc (Obj.cells #[.int .i64 5, .string name, .bool false, .bool false, .bool false, .int .i64 0, .int .i64 0, .int .i64 0, .slice ad cond.length cp] 43 (0, 0)))) := alloc_b w _
                          clear hBX
                          by_cases n1 : (cond.length : Int) < 1
                          · have HV2 : Hid (condOk cond = false) := by
                              show _ = _
                              rw [← condOk_start, decide_eq_false (show ¬ 1 ≤ cond.length by omega)]; rfl
                            clear HX0 HXN HBX HO HXA HZ
                            go_wp2
                            go_ret
                            exact ⟨by rw [unhide HV, unhide HV2]; rfl, unhide HB _⟩
                          by_cases n2 : (1000 : Int) < (cond.length : Int)
                          · have HV2 : Hid (condOk cond = false) := by
                              show _ = _
                              unfold condOk
                              rw [decide_eq_false (show ¬ cond.length ≤ 1000 by omega)]; rfl
                            clear HX0 HXN HBX HO HXA HZ
                            go_wp2
                            go_ret
                            exact ⟨by rw [unhide HV, unhide HV2]; rfl, unhide HB _⟩
                          have HNO : Hid (∀ j (hj : j < cond.length), fopOk cond[j] = false → condOk cond = false) := fun j hj e => by unfold condOk; rw [all_no hj e]; simp
                          have HYES : Hid ((∀ j (hj : j < cond.length), fopOk cond[j] = true) → condOk cond = decide (startI cond.length (cond.map (·.k)).reverse true = 0)) := fun e => by
                            rw [← condOk_start, all_yes e, decide_eq_true (show 1 ≤ cond.length by omega), decide_eq_true (show cond.length ≤ 1000 by omega)]
                            simp only [Bool.true_and]
                            rw [Bool.eq_iff_iff]; simp
                          obtain ⟨g, rfl⟩ : ∃ g : Nat, ad = some ⟨g, 0, none⟩ := unhide HXA (by omega)
                          have HROW : Hid (∀ (wr : World) (j : Nat) (hj : j < cond.length), Below w.heap.size w wr → ∃ q, wr.cell? ⟨g, j * 5, none⟩ = some (.int .i64 cond[j].k) ∧ wr.cell? ⟨g, j * 5 + 1, none⟩ = some (.int .i64 cond[j].n) ∧ wr.cell? ⟨g, j * 5 + 2, none⟩ = some (.string cond[j].s) ∧ wr.cell? ⟨g, j * 5 + 3, none⟩ = some (.bool cond[j].root) ∧ wr.cell? ⟨g, j * 5 + 4, none⟩ = some q ∧
                              Calls Try.prog 29 #[.agg #[.int .i64 cond[j].k, .int .i64 cond[j].n, .string cond[j].s, .bool cond[j].root, q]] wr fun e w' => e = .returned (.bool (fopOk cond[j])) ∧ Below wr.heap.size wr w') := by
                            intro wr j hj hb
                            obtain ⟨vs, ib, hE, hc, -, -, -⟩ := ((unhide HO).below hb).at (List.getElem?_eq_getElem hj)
                            obtain ⟨q, rfl, hst⟩ := hE
                            have hz := sz_fop (Nat.le_trans (Nat.le_add_left _ name.size) (unhide HZ)) (List.getElem_mem hj)
                            exact ⟨q, (hc 0 _ rfl).1, (hc 1 _ rfl).1, (hc 2 _ rfl).1, (hc 3 _ rfl).1, (hc 4 _ rfl).1, fopOk_walk _ q ib wr hst hz.1 hz.2⟩
                          have HST : Hid (∀ wr, Below w.heap.size w wr → Calls Try.prog 30 #[.slice (some ⟨g, 0, none⟩) cond.length cp, .int .i64 ((cond.length : Int) - 1), .bool true] wr fun e w' => e = .returned (.int .i64 (startI cond.length (cond.map (·.k)).reverse true)) ∧ wr = w') := fun wr hb => by
                            have := start_walk _ cond bl (by omega) cond.length cond.length true wr (Nat.le_refl _) (Nat.le_refl _) ((unhide HO).below hb)
                            rwa [List.take_of_length_le (by simp)] at this
                          clear HO HXA HZ
                          generalize condOk cond = CO at *
                          generalize startI cond.length (cond.map (·.k)).reverse true = SI at *
                          go_wp2
                          go_loopw [4] (fun iv wr => ∃ j : Nat, j ≤ cond.length ∧ iv = .int .i64 (j : Int) ∧ Below w.heap.size w wr ∧ BX wr ∧ Hid (∀ i (hi : i < cond.length), i < j → fopOk cond[i] = true)) (fun iv _ => cond.length - (intOf iv).toNat)
                          case atStart => exact ⟨0, Nat.zero_le _, rfl, unhide HB0, unhide HX0, fun i _ hi => by omega⟩
                          case round =>
                            obtain ⟨j, hj, rfl, hb, hbx, hd⟩ := hrel
                            have c8 := unhide HBX _ hbx
                            by_cases hlt : j < cond.length
                            · have hltI : (j : Int) < (cond.length : Int) := by omega
                              obtain ⟨q, d0, d1, d2, d3, d4, hcall⟩ := unhide HROW _ j hlt hb
                              have HC := hide hcall
                              have HBW := hide hb
                              have HBXW := hide hbx
                              have HJY : Hid (fopOk cond[j] = true → ∀ i (hi : i < cond.length), i < j + 1 → fopOk cond[i] = true) := fun e i hi h => by
                                by_cases ei : i = j
                                · subst ei; exact e
                                · exact unhide hd i hi (by omega)
                              have HJN : Hid (fopOk cond[j] = false → CO = false) := unhide HNO j hlt
                              clear hcall hb hbx hd HNO HROW HYES HST
                              generalize cond[j] = P at *
                              go_wp2_with fail
                              refine (unhide HC).mono ?_
                              rintro e w1 ⟨rfl, b1⟩
                              have HB2 := hide (below_next (unhide HBW) b1)
                              have HX2 := hide (unhide HXN _ _ (unhide HBXW) b1)
                              clear HC b1 d0 d1 d2 d3 d4 c8 HBW HBXW
                              cases hst : fopOk P with
                              | true =>
                                have HD := hide (unhide HJY hst)
                                clear hst HJY HJN
                                go_wp2
                                go_roundw
                                case rel => exact ⟨j + 1, by omega, by go_num, unhide HB2, unhide HX2, HD⟩
                                case measure => simp [intOf]; omega
                              | false =>
                                have HQ := hide (unhide HJN hst)
                                clear hst HJY HJN
                                go_wp2
                                go_ret
                                exact ⟨by rw [unhide HV, unhide HQ]; rfl, unhide HB2⟩
                            · have HQ := hide (unhide HYES fun i hi => unhide hd i hi (by omega))
                              have HC := hide (unhide HST _ hb)
                              have HBW := hide hb
                              clear hb hbx hd HNO HROW HYES HXN HBX HST
                              go_wp2_with fail
                              refine (unhide HC).mono ?_
                              rintro e w1 ⟨rfl, rfl⟩
                              clear HC
                              go_wp2
                              go_ret
                              exact ⟨by rw [unhide HV, unhide HQ]; rfl, unhide HBW⟩
                        · skip
                          have na1 : (a != 0) = true := by simp [na]
                          have na2 : (a == 0) = false := by simp [na]
                          have HV : Hid (SO = false) := by show _ = _; rw [unhide HS]; simp [selB, empT, he, na]
                          clear HS
                          go_wp2
                          go_ret
                          exact ⟨by rw [unhide HV]; rfl, unhide HB _⟩
                      · skip
                        have nc1 : (c != 0) = true := by simp [nc]
                        have nc2 : (c == 0) = false := by simp [nc]
                        have HV : Hid (SO = false) := by show _ = _; rw [unhide HS]; simp [selB, empT, he, nc]
                        clear HS
                        go_wp2
                        go_ret
                        exact ⟨by rw [unhide HV]; rfl, unhide HB _⟩
                    · skip
                      have nb1 : (b != 0) = true := by simp [nb]
                      have nb2 : (b == 0) = false := by simp [nb]
                      have HV : Hid (SO = false) := by show _ = _; rw [unhide HS]; simp [selB, empT, he, nb]
                      clear HS
                      go_wp2
                      go_ret
                      exact ⟨by rw [unhide HV]; rfl, unhide HB _⟩
end Go.Proofs.Ytiolpmhodbefoaa
