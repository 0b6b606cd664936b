import Derived.Test.YtiolpmhodbefoaaImplPOk1
import Derived.Deep.RegionHeld3
namespace Go.Proofs.Ytiolpmhodbefoaa
open Go.RowKit

set_option maxRecDepth 100000 in
set_option maxHeartbeats 1600000 in
theorem indexStep_walk (v : Value) (st : List PStep) (bl : List Nat) (w : World) (h : ORow stepE w v st bl) (hl : st.length ≤ 1000) (hns : ∀ p ∈ st, p.name.size ≤ 1048576) :
    Calls Try.prog 96 #[v, .func (Fn.func 84) #[] #[]] w fun e w' => ∃ i, e = .returned (.int .i64 i) ∧ decide (0 ≤ i) = (!st.all stepOk) ∧ Below w.heap.size w w' := by
  obtain ⟨a, c, rfl, -, hxa⟩ := h.form
  have HROW : Hid (∀ (wr : World) (j : Nat) (hj : j < st.length), Below w.heap.size w wr → ∃ g, a = some ⟨g, 0, none⟩ ∧ wr.cell? ⟨g, j * 3, none⟩ = some (.bool st[j].byI) ∧ wr.cell? ⟨g, j * 3 + 1, none⟩ = some (.string st[j].name) ∧ wr.cell? ⟨g, j * 3 + 2, none⟩ = some (.int .i64 st[j].idx) ∧
      Calls Try.prog 84 #[.agg #[.bool st[j].byI, .string st[j].name, .int .i64 st[j].idx]] wr fun e w' => e = .returned (.bool (!stepOk st[j])) ∧ Below wr.heap.size wr w') := by
    intro wr j hj hb
    obtain ⟨g, rfl⟩ := hxa (by omega)
    obtain ⟨vs, ib, hE, hc, -, -, -⟩ := (h.below hb).at (List.getElem?_eq_getElem hj)
    obtain ⟨rfl, -⟩ := hE
    exact ⟨g, rfl, (hc 0 _ rfl).1, (hc 1 _ rfl).1, (hc 2 _ rfl).1, badStep_walk _ wr (hns _ (List.getElem_mem hj))⟩
  have HNO : Hid (∀ j (hj : j < st.length), stepOk st[j] = false → (!st.all stepOk) = true) := fun j hj e => by rw [all_no hj e]; rfl
  have HYES : Hid ((∀ j (hj : j < st.length), stepOk st[j] = true) → (!st.all stepOk) = false) := fun e => by rw [all_yes e]; rfl
  have hlI : (st.length : Int) ≤ 1000 := by omega
  clear h hxa hns hl
  generalize (!st.all stepOk) = FO at *
  go_enter Try.func96, Try.ntmps96
  go_wp2_with fail
  go_loopw [8] (fun iv wr => ∃ j : Nat, j ≤ st.length ∧ iv = .int .i64 (j : Int) ∧ Below w.heap.size w wr ∧ Hid (∀ i (hi : i < st.length), i < j → stepOk st[i] = true)) (fun i _ => st.length - (intOf i).toNat)
  case atStart => exact ⟨0, by omega, rfl, Below.refl _ _, fun i _ hi => by omega⟩
  case round =>
    obtain ⟨j, hj, rfl, hb, hd⟩ := hrel
    by_cases hlt : j < st.length
    · have hltI : (j : Int) < (st.length : Int) := by omega
      obtain ⟨g, rfl, d0, d1, d2, hcall⟩ := unhide HROW _ j hlt hb
      have HC := hide hcall
      have HBW := hide hb
      have HJY : Hid (stepOk st[j] = true → ∀ i (hi : i < st.length), i < j + 1 → stepOk st[i] = true) := fun e i hi h => by
        by_cases ei : i = j
        · subst ei; exact e
        · exact unhide hd i hi (by omega)
      have HJN : Hid (stepOk st[j] = false → FO = true) := unhide HNO j hlt
      clear hcall hb hd HNO HROW HYES
      generalize st[j] = P at *
      go_wp2_with fail
      refine (unhide HC).mono ?_
      rintro e w1 ⟨rfl, b1⟩
      have HB2 := hide (below_next (unhide HBW) b1)
      clear HC b1 d0 d1 d2 HBW
      cases hst : stepOk P with
      | true =>
        have HD := hide (unhide HJY hst)
        clear hst HJY HJN
        go_wp2
        go_roundw
        case rel => exact ⟨j + 1, by omega, by go_num, unhide HB2, HD⟩
        case measure => simp [intOf]; omega
      | false =>
        have HQ := hide (unhide HJN hst)
        clear hst HJY HJN
        go_wp2
        go_ret
        exact ⟨_, rfl, by rw [unhide HQ]; exact decide_eq_true (by omega), unhide HB2⟩
    · have HQ := hide (unhide HYES fun i hi => unhide hd i hi (by omega))
      have HBW := hide hb
      clear hb hd HNO HROW HYES
      go_wp2
      go_ret
      exact ⟨_, rfl, by rw [unhide HQ]; rfl, unhide HBW⟩
theorem containsStep_walk (v : Value) (st : List PStep) (bl : List Nat) (w : World) (h : ORow stepE w v st bl) (hl : st.length ≤ 1000) (hns : ∀ p ∈ st, p.name.size ≤ 1048576) :
    Calls Try.prog 83 #[v, .func (Fn.func 84) #[] #[]] w fun e w' => e = .returned (.bool (!st.all stepOk)) ∧ Below w.heap.size w w' := by
  have HC := hide (indexStep_walk v st bl w h hl hns)
  obtain ⟨a, c, rfl, -, -⟩ := h.form
  clear h hns
  generalize (!st.all stepOk) = FO at *
  go_enter Try.func83, Try.ntmps83
  go_wp2_with fail
  refine (unhide HC).mono ?_
  rintro e w1 ⟨i, rfl, hi, b1⟩
  have HI := hide hi
  have HB := hide b1
  clear hi b1 HC
  go_wp2
  go_ret
  exact ⟨by rw [← unhide HI]; rfl, unhide HB⟩
set_option maxRecDepth 100000 in
set_option maxHeartbeats 1600000 in
theorem goodNumber_walk (m : PFOp) (v : Value) (w : World) :
    Calls Try.prog 81 #[.agg #[.int .i64 m.k, .int .i64 m.n, .string m.s, .bool m.root, v]] w fun e w' => e = .returned (.bool (numOk m.k m.n)) ∧ Below w.heap.size w w' := by
  obtain ⟨k, n, s, r, st⟩ := m
  simp only at *
  have HB : Hid (∀ o, Below w.heap.size w (w.alloc o)) := fun o => alloc_b w o
  have HR : Hid (∀ w, Calls Try.prog 67 #[.int .i64 n] w fun e w' => e = .returned (.bool (rangeI n)) ∧ w = w') := fun w => goodInt_walk _ w
  by_cases h1 : k = 1
  · subst h1
    have HV : Hid (numOk 1 n = rangeI n) := rfl
    go_enter Try.func81, Try.ntmps81
    go_wp2_with fail
    refine (unhide HR _).mono ?_
    rintro e w1 ⟨rfl, rfl⟩
    go_wp2
    go_ret
    exact ⟨by rw [unhide HV]; rfl, unhide HB _⟩
  by_cases h9 : k = 9
  · subst h9
    clear HR h1
    obtain ⟨w0, hw0⟩ : ∃ w0, w0 = w.alloc (Obj.cells #[.int .i64 9, .int .i64 n, .string s, .bool r, v] 65 (0, 0)) := ⟨_, rfl⟩
    have HB0 : Hid (Below w.heap.size w w0) := by rw [hw0]; exact unhide HB _
    have HC : Hid (∀ w1, Below w0.heap.size w0 w1 → w1.cell? ⟨w.heap.size, 1, none⟩ = some (.int .i64 n)) := fun w1 hb => by
      have h0 : w0.heap[w.heap.size]? = some (Obj.cells #[.int .i64 9, .int .i64 n, .string s, .bool r, v] 65 (0, 0)) := by rw [hw0]; exact heap_alloc_new w _
      exact Lib.cell_of_heap ((hb.block _ (Array.getElem?_eq_some_iff.1 h0).1).trans h0) 1
    have HT := hide (comparisons_walk w0.drew)
    have HC0 := hide (unhide HC w0.drew (Below.refl _ _).drew)
    by_cases a1 : 1 ≤ n
    · have HV : Hid (numOk 9 n = decide (n ≤ 6)) := by show _ = _; simp [numOk, a1]
      go_enter Try.func81, Try.ntmps81
      go_wp2_with fail
      rw [← hw0]
      clear hw0
      go_region_held3 (fun w' => w'.cell? ⟨w.heap.size, 1, none⟩ = some (.int .i64 n)) (first | exact unhide S3 | exact unhide HC0) (first | (go_simp; refine (unhide HT).mono ?_; rintro e w3 ⟨g3, rfl, b3⟩; have HB3 := hide (below_next (unhide HB0).drew b3); have S3 := hide (unhide HC w3 ((Below.refl _ _).drew.trans b3)); clear b3 HT))
      all_goals
        go_wp2
        go_ret
        exact ⟨by rw [unhide HV]; rfl, unhide HB3⟩
    · have HV : Hid (numOk 9 n = false) := by show _ = _; simp [numOk, a1]
      have a1d : (1 ≤ n) = False := eq_false a1
      clear a1
      go_enter Try.func81, Try.ntmps81
      go_wp2_with fail
      clear hw0 HT
      go_quiet (fail)
      go_wp2
      go_ret
      exact ⟨by rw [unhide HV]; rfl, below_next (unhide HB _) ⟨rfl, rfl, rfl, Nat.le_refl _, fun _ _ => rfl⟩⟩
  · have HV : Hid (numOk k n = (n == 0)) := by show _ = _; simp [numOk, h1, h9]
    clear HR
    go_enter Try.func81, Try.ntmps81
    go_wp2
    go_ret
    exact ⟨by rw [unhide HV]; rfl, unhide HB _⟩
set_option maxRecDepth 100000 in
set_option maxHeartbeats 8000000 in
theorem goodFOp_walk (m : PFOp) (v : Value) (bl : List Nat) (w : World) (h : ORow stepE w v m.steps bl) (hs : m.s.size ≤ 1048576) (hns : ∀ p ∈ m.steps, p.name.size ≤ 1048576) (hsl : m.steps.length ≤ 1048576) :
    Calls Try.prog 69 #[.agg #[.int .i64 m.k, .int .i64 m.n, .string m.s, .bool m.root, v]] w fun e w' => e = .returned (.bool (fopOk m)) ∧ Below w.heap.size w w' := by
  have HE : Hid (fopOk m = (decide (1 ≤ m.k) && decide (m.k ≤ 12) && decide (m.steps.length ≤ 1000) && (isRefK m.k || (!m.root && decide (m.steps.length = 0))) && m.steps.all stepOk && (m.k == 2 || empT m.s) && numOk m.k m.n && plainT m.s)) := rfl
  have HN := hide (fun w => goodNumber_walk m v w)
  obtain ⟨k, n, s, r, st⟩ := m
  simp only at *
  have HP : Hid (∀ w, Calls Try.prog 66 #[.string s] w fun e w' => e = .returned (.bool (plainT s)) ∧ w = w') := fun w => goodText_walk _ w hs
  have HRF : Hid (∀ w, Calls Try.prog 82 #[.int .i64 k] w fun e w' => e = .returned (.bool (isRefK k)) ∧ w = w') := fun w => isRef_walk _ w
  have HB : Hid (∀ o, Below w.heap.size w (w.alloc o)) := fun o => alloc_b w o
  have HCF0 : Hid (∀ w1, Below w.heap.size w w1 → st.length ≤ 1000 → Calls Try.prog 83 #[v, .func (Fn.func 84) #[] #[]] w1 fun e w' => e = .returned (.bool (!st.all stepOk)) ∧ Below w1.heap.size w1 w') := fun w1 b hl => containsStep_walk v st bl w1 (h.below b) hl hns
  obtain ⟨a, c, rfl, -, -⟩ := h.form
  clear h hs hns
  have hslI : (st.length : Int) ≤ 1048576 := by omega
  generalize fopOk ⟨k, n, s, r, st⟩ = FO at *
  generalize hNK : numOk k n = NK at *
  clear hNK
  generalize plainT s = PS at *
  by_cases k1 : 1 ≤ k
  · by_cases k12 : k ≤ 12
    · obtain ⟨w0, hw0⟩ : ∃ w0, w0 = w.alloc (Obj.cells #[.int .i64 k, .int .i64 n, .string s, .bool r, .slice a st.length c] 65 (0, 0)) := ⟨_, rfl⟩
      have HB0 : Hid (Below w.heap.size w w0) := by rw [hw0]; exact unhide HB _
      have HC : Hid (∀ w1, Below w0.heap.size w0 w1 → w1.cell? ⟨w.heap.size, 0, none⟩ = some (.int .i64 k) ∧ w1.cell? ⟨w.heap.size, 2, none⟩ = some (.string s) ∧ w1.cell? ⟨w.heap.size, 3, none⟩ = some (.bool r) ∧ w1.cell? ⟨w.heap.size, 4, none⟩ = some (.slice a st.length c)) := fun w1 hb => by
        have h0 : w0.heap[w.heap.size]? = some (Obj.cells #[.int .i64 k, .int .i64 n, .string s, .bool r, .slice a st.length c] 65 (0, 0)) := by rw [hw0]; exact heap_alloc_new w _
        have h1 := (hb.block _ (Array.getElem?_eq_some_iff.1 h0).1).trans h0
        exact ⟨Lib.cell_of_heap h1 0, Lib.cell_of_heap h1 2, Lib.cell_of_heap h1 3, Lib.cell_of_heap h1 4⟩
      go_enter Try.func69, Try.ntmps69
      go_wp2_with fail
      rw [← hw0]
      refine (unhide HN _).mono ?_
      rintro e w1 ⟨rfl, b1⟩
      obtain ⟨c0, c2, c3, c4⟩ := unhide HC _ b1
      have HB1 := hide (below_next (unhide HB0) b1)
      have HCF := hide (unhide HCF0 w1 (unhide HB1))
      clear b1 HC HCF0 HB0 hw0 HN HB
      cases NK with
      | false =>
        have HV : Hid (FO = false) := by show _ = _; rw [unhide HE]; simp []
        clear HE
        go_wp2
        go_ret
        exact ⟨by rw [unhide HV]; rfl, unhide HB1⟩
      | true =>
        go_wp2_with fail
        refine (unhide HP _).mono ?_
        rintro e w2 ⟨rfl, rfl⟩
        clear HP
        cases PS with
        | false =>
          have HV : Hid (FO = false) := by show _ = _; rw [unhide HE]; simp []
          clear HE
          go_wp2
          go_ret
          exact ⟨by rw [unhide HV]; rfl, unhide HB1⟩
        | true =>
          by_cases h2 : k = 2
          · subst h2
            have hr : isRefK 2 = false := rfl
            rw [hr] at HRF
            go_wp2_with fail
            refine (unhide HRF _).mono ?_
            rintro e w2 ⟨rfl, rfl⟩
            clear HRF
            cases r with
            | true =>
              have HV : Hid (FO = false) := by show _ = _; rw [unhide HE]; simp [hr]
              clear HE
              go_wp2
              go_ret
              exact ⟨by rw [unhide HV]; rfl, unhide HB1⟩
            | false =>
              by_cases hl0 : (st.length : Int) = 0
              · have hl0' : st.length = 0 := by omega
                have hlen : st.length ≤ 1000 := by omega
                have hlen2 : (st.length : Int) ≤ 1000 := by omega
                have HV : Hid (FO = (st.all stepOk)) := by show _ = _; rw [unhide HE]; simp [hl0']
                clear HE hl0'
                go_wp2_with fail
                refine (unhide HCF hlen).mono ?_
                rintro e w2 ⟨rfl, b2⟩
                have HB2 := hide (below_next (unhide HB1) b2)
                clear b2 HCF
                go_wp2
                go_ret
                exact ⟨by rw [unhide HV]; simp, unhide HB2⟩
              · have hl0' : ¬ st.length = 0 := by omega
                have hl1 : ((st.length : Int) == 0) = false := by simpa using hl0'
                have HV : Hid (FO = false) := by show _ = _; rw [unhide HE]; simp [hr, hl0']
                clear HE
                go_wp2
                go_ret
                exact ⟨by rw [unhide HV]; rfl, unhide HB1⟩
          · have h2b : (k == 2) = false := by simpa using h2
            cases he : s.toList.isEmpty with
            | false =>
              have HV : Hid (FO = false) := by show _ = _; rw [unhide HE]; simp [empT, he, h2]
              clear HE
              go_wp2
              go_ret
              exact ⟨by rw [unhide HV]; rfl, unhide HB1⟩
            | true =>
              go_wp2_with fail
              refine (unhide HRF _).mono ?_
              rintro e w2 ⟨rfl, rfl⟩
              clear HRF
              cases hr : isRefK k with
              | true =>
                by_cases hlen2 : (st.length : Int) ≤ 1000
                · have hlen : st.length ≤ 1000 := by omega
                  have HV : Hid (FO = (st.all stepOk)) := by show _ = _; rw [unhide HE]; simp [k1, k12, hr, empT, he, hlen]
                  clear HE
                  go_wp2_with fail
                  refine (unhide HCF hlen).mono ?_
                  rintro e w2 ⟨rfl, b2⟩
                  have HB2 := hide (below_next (unhide HB1) b2)
                  clear b2 HCF
                  go_wp2
                  go_ret
                  exact ⟨by rw [unhide HV]; simp, unhide HB2⟩
                · have hlen : ¬ st.length ≤ 1000 := by omega
                  have HV : Hid (FO = false) := by show _ = _; rw [unhide HE]; simp [hlen]
                  clear HE
                  go_wp2
                  go_ret
                  exact ⟨by rw [unhide HV]; rfl, unhide HB1⟩
              | false =>
                cases r with
                | true =>
                  have HV : Hid (FO = false) := by show _ = _; rw [unhide HE]; simp [hr]
                  clear HE
                  go_wp2
                  go_ret
                  exact ⟨by rw [unhide HV]; rfl, unhide HB1⟩
                | false =>
                  by_cases hl0 : (st.length : Int) = 0
                  · have hl0' : st.length = 0 := by omega
                    have hlen : st.length ≤ 1000 := by omega
                    have hlen2 : (st.length : Int) ≤ 1000 := by omega
                    have HV : Hid (FO = (st.all stepOk)) := by show _ = _; rw [unhide HE]; simp [k1, k12, hr, empT, he, hl0']
                    clear HE hl0'
                    go_wp2_with fail
                    refine (unhide HCF hlen).mono ?_
                    rintro e w2 ⟨rfl, b2⟩
                    have HB2 := hide (below_next (unhide HB1) b2)
                    clear b2 HCF
                    go_wp2
                    go_ret
                    exact ⟨by rw [unhide HV]; simp, unhide HB2⟩
                  · have hl0' : ¬ st.length = 0 := by omega
                    have hl1 : ((st.length : Int) == 0) = false := by simpa using hl0'
                    have HV : Hid (FO = false) := by show _ = _; rw [unhide HE]; simp [hr, hl0']
                    clear HE
                    go_wp2
                    go_ret
                    exact ⟨by rw [unhide HV]; rfl, unhide HB1⟩
    · have HV : Hid (FO = false) := by show _ = _; rw [unhide HE]; simp [k12]
      clear HE HN HP HRF HCF0
      go_enter Try.func69, Try.ntmps69
      go_wp2
      go_ret
      exact ⟨by rw [unhide HV]; rfl, unhide HB _⟩
  · have HV : Hid (FO = false) := by show _ = _; rw [unhide HE]; simp [k1]
    clear HE HN HP HRF HCF0
    go_enter Try.func69, Try.ntmps69
    go_wp2
    go_ret
    exact ⟨by rw [unhide HV]; rfl, unhide HB _⟩
end Go.Proofs.Ytiolpmhodbefoaa
