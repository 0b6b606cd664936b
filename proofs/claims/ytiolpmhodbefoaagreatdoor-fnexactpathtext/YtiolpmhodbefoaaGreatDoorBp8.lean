import Derived.Deep.RegionHeld3
import Derived.Test.YtiolpmhodbefoaaGreatDoorBp7
import Derived.Test.YtiolpmhodbefoaaGreatDoorBp3
import Derived.Test.YtiolpmhodbefoaaGreatDoorBp6
import Derived.Laws.AppendOwnNone
import Derived.Lib.SliceRun
import Derived.Deep.CutRange
namespace Go.Proofs.YtiolpmhodbefoaaGreatDoor
open Go.RowKit

set_option maxRecDepth 100000 in
set_option maxHeartbeats 1600000 in
theorem indexStep_walk (v : Value) (st : List PStep) (bl : List Nat) (w : World) (h : ORow stepE w v st bl) (hl : st.length ≤ 1000) (hns : ∀ p ∈ st, p.name.size ≤ 1048576) :
    Calls Tryz.prog 135 #[v, .func (Fn.func 114) #[] #[]] w fun e w' => ∃ i, e = .returned (.int .i64 i) ∧ decide (0 ≤ i) = (!st.all stepOk) ∧ Below w.heap.size w w' := by
  obtain ⟨a, c, rfl, -, hxa⟩ := h.form
  have HROW : Hid (∀ (wr : World) (j : Nat) (hj : j < st.length), Below w.heap.size w wr → ∃ g, a = some ⟨g, 0, none⟩ ∧ wr.cell? ⟨g, j * 3, none⟩ = some (.bool st[j].byI) ∧ wr.cell? ⟨g, j * 3 + 1, none⟩ = some (.string st[j].name) ∧ wr.cell? ⟨g, j * 3 + 2, none⟩ = some (.int .i64 st[j].idx) ∧
      Calls Tryz.prog 114 #[.agg #[.bool st[j].byI, .string st[j].name, .int .i64 st[j].idx]] wr fun e w' => e = .returned (.bool (!stepOk st[j])) ∧ Below wr.heap.size wr w') := by
    intro wr j hj hb
    obtain ⟨g, rfl⟩ := hxa (by omega)
    obtain ⟨vs, ib, hE, hc, -, -, -⟩ := (h.below hb).at (List.getElem?_eq_getElem hj)
    obtain ⟨rfl, -⟩ := hE
    exact ⟨g, rfl, (hc 0 _ rfl).1, (hc 1 _ rfl).1, (hc 2 _ rfl).1, badStep_walk _ wr (hns _ (List.getElem_mem hj))⟩
  have HNO : Hid (∀ j (hj : j < st.length), stepOk st[j] = false → (!st.all stepOk) = true) := fun j hj e => by rw [all_no hj e]; rfl
  have HYES : Hid ((∀ j (hj : j < st.length), stepOk st[j] = true) → (!st.all stepOk) = false) := fun e => by rw [all_yes e]; rfl
  have hlI : (st.length : Int) ≤ 1000 := by omega
  clear h hxa hns hl
  generalize (!st.all stepOk) = FO at *
  go_enter Tryz.func135, Tryz.ntmps135
  go_wp2_with fail
  go_loopw [8] (fun iv wr => ∃ j : Nat, j ≤ st.length ∧ iv = .int .i64 (j : Int) ∧ Below w.heap.size w wr ∧ Hid (∀ i (hi : i < st.length), i < j → stepOk st[i] = true)) (fun i _ => st.length - (intOf i).toNat)
  case atStart => exact ⟨0, by omega, rfl, Below.refl _ _, fun i _ hi => by omega⟩
  case round =>
    obtain ⟨j, hj, rfl, hb, hd⟩ := hrel
    by_cases hlt : j < st.length
    · have hltI : (j : Int) < (st.length : Int) := by omega
      obtain ⟨g, rfl, d0, d1, d2, hcall⟩ := unhide HROW _ j hlt hb
      have HC := hide hcall
      have HBW := hide hb
      have HJY : Hid (stepOk st[j] = true → ∀ i (hi : i < st.length), i < j + 1 → stepOk st[i] = true) := fun e i hi h => by
        by_cases ei : i = j
        · subst ei; exact e
        · exact unhide hd i hi (by omega)
      have HJN : Hid (stepOk st[j] = false → FO = true) := unhide HNO j hlt
      clear hcall hb hd HNO HROW HYES
      generalize st[j] = P at *
      go_wp2_with fail
      refine (unhide HC).mono ?_
      rintro e w1 ⟨rfl, b1⟩
      have HB2 := hide (below_next (unhide HBW) b1)
      clear HC b1 d0 d1 d2 HBW
      cases hst : stepOk P with
      | true =>
        have HD := hide (unhide HJY hst)
        clear hst HJY HJN
        go_wp2
        go_roundw
        case rel => exact ⟨j + 1, by omega, by go_num, unhide HB2, HD⟩
        case measure => simp [intOf]; omega
      | false =>
        have HQ := hide (unhide HJN hst)
        clear hst HJY HJN
        go_wp2
        go_ret
        exact ⟨_, rfl, by rw [unhide HQ]; exact decide_eq_true (by omega), unhide HB2⟩
    · have HQ := hide (unhide HYES fun i hi => unhide hd i hi (by omega))
      have HBW := hide hb
      clear hb hd HNO HROW HYES
      go_wp2
      go_ret
      exact ⟨_, rfl, by rw [unhide HQ]; rfl, unhide HBW⟩
theorem containsStep_walk (v : Value) (st : List PStep) (bl : List Nat) (w : World) (h : ORow stepE w v st bl) (hl : st.length ≤ 1000) (hns : ∀ p ∈ st, p.name.size ≤ 1048576) :
    Calls Tryz.prog 113 #[v, .func (Fn.func 114) #[] #[]] w fun e w' => e = .returned (.bool (!st.all stepOk)) ∧ Below w.heap.size w w' := by
  have HC := hide (indexStep_walk v st bl w h hl hns)
  obtain ⟨a, c, rfl, -, -⟩ := h.form
  clear h hns
  generalize (!st.all stepOk) = FO at *
  go_enter Tryz.func113, Tryz.ntmps113
  go_wp2_with fail
  refine (unhide HC).mono ?_
  rintro e w1 ⟨i, rfl, hi, b1⟩
  have HI := hide hi
  have HB := hide b1
  clear hi b1 HC
  go_wp2
  go_ret
  exact ⟨by rw [← unhide HI]; rfl, unhide HB⟩
set_option maxRecDepth 100000 in
set_option maxHeartbeats 1600000 in
theorem goodNumber_walk (m : PFOp) (v : Value) (w : World) :
    Calls Tryz.prog 111 #[.agg #[.int .i64 m.k, .int .i64 m.n, .string m.s, .bool m.root, v]] w fun e w' => e = .returned (.bool (numOk m.k m.n)) ∧ Below w.heap.size w w' := by
  obtain ⟨k, n, s, r, st⟩ := m
  simp only at *
  have HB : Hid (∀ o, Below w.heap.size w (w.alloc o)) := fun o => alloc_b w o
  have HR : Hid (∀ w, Calls Tryz.prog 89 #[.int .i64 n] w fun e w' => e = .returned (.bool (rangeI n)) ∧ w = w') := fun w => goodInt_walk _ w
  by_cases h1 : k = 1
  · subst h1
    have HV : Hid (numOk 1 n = rangeI n) := rfl
    go_enter Tryz.func111, Tryz.ntmps111
    go_wp2_with fail
    refine (unhide HR _).mono ?_
    rintro e w1 ⟨rfl, rfl⟩
    go_wp2
    go_ret
    exact ⟨by rw [unhide HV]; rfl, unhide HB _⟩
  by_cases h9 : k = 9
  · subst h9
    clear HR h1
    obtain ⟨w0, hw0⟩ : ∃ w0, w0 = w.alloc (Obj.cells #[.int .i64 9, .int .i64 n, .string s, .bool r, v] 68 (0, 0)) := ⟨_, rfl⟩
    have HB0 : Hid (Below w.heap.size w w0) := by rw [hw0]; exact unhide HB _
    have HC : Hid (∀ w1, Below w0.heap.size w0 w1 → w1.cell? ⟨w.heap.size, 1, none⟩ = some (.int .i64 n)) := fun w1 hb => by
      have h0 : w0.heap[w.heap.size]? = some (Obj.cells #[.int .i64 9, .int .i64 n, .string s, .bool r, v] 68 (0, 0)) := by rw [hw0]; exact heap_alloc_new w _
      exact Lib.cell_of_heap ((hb.block _ (Array.getElem?_eq_some_iff.1 h0).1).trans h0) 1
    have HT := hide (comparisons_walk w0.drew)
    have HC0 := hide (unhide HC w0.drew (Below.refl _ _).drew)
    by_cases a1 : 1 ≤ n
    · have HV : Hid (numOk 9 n = decide (n ≤ 6)) := by show _ = _; simp [numOk, a1]
      go_enter Tryz.func111, Tryz.ntmps111
      go_wp2_with fail
      rw [← hw0]
      clear hw0
      go_region_held3 (fun w' => w'.cell? ⟨w.heap.size, 1, none⟩ = some (.int .i64 n)) (first | exact unhide S3 | exact unhide HC0) (first | (go_simp; refine (unhide HT).mono ?_; rintro e w3 ⟨g3, rfl, b3⟩; have HB3 := hide (below_next (unhide HB0).drew b3); have S3 := hide (unhide HC w3 ((Below.refl _ _).drew.trans b3)); clear b3 HT))
      all_goals
        go_wp2
        go_ret
        exact ⟨by rw [unhide HV]; rfl, unhide HB3⟩
    · have HV : Hid (numOk 9 n = false) := by show _ = _; simp [numOk, a1]
      have a1d : (1 ≤ n) = False := eq_false a1
      clear a1
      go_enter Tryz.func111, Tryz.ntmps111
      go_wp2_with fail
      clear hw0 HT
      go_quiet (fail)
      go_wp2
      go_ret
      exact ⟨by rw [unhide HV]; rfl, below_next (unhide HB _) ⟨rfl, rfl, rfl, Nat.le_refl _, fun _ _ => rfl⟩⟩
  · have HV : Hid (numOk k n = (n == 0)) := by show _ = _; simp [numOk, h1, h9]
    clear HR
    go_enter Tryz.func111, Tryz.ntmps111
    go_wp2
    go_ret
    exact ⟨by rw [unhide HV]; rfl, unhide HB _⟩
set_option maxRecDepth 100000 in
set_option maxHeartbeats 8000000 in
theorem goodFOp_walk (m : PFOp) (v : Value) (bl : List Nat) (w : World) (h : ORow stepE w v m.steps bl) (hs : m.s.size ≤ 1048576) (hns : ∀ p ∈ m.steps, p.name.size ≤ 1048576) (hsl : m.steps.length ≤ 1048576) :
    Calls Tryz.prog 91 #[.agg #[.int .i64 m.k, .int .i64 m.n, .string m.s, .bool m.root, v]] w fun e w' => e = .returned (.bool (fopOk m)) ∧ Below w.heap.size w w' := by
  have HE : Hid (fopOk m = (decide (1 ≤ m.k) && decide (m.k ≤ 12) && decide (m.steps.length ≤ 1000) && (isRefK m.k || (!m.root && decide (m.steps.length = 0))) && m.steps.all stepOk && (m.k == 2 || empT m.s) && numOk m.k m.n && plainT m.s)) := rfl
  have HN := hide (fun w => goodNumber_walk m v w)
  obtain ⟨k, n, s, r, st⟩ := m
  simp only at *
  have HP : Hid (∀ w, Calls Tryz.prog 88 #[.string s] w fun e w' => e = .returned (.bool (plainT s)) ∧ w = w') := fun w => goodText_walk _ w hs
  have HRF : Hid (∀ w, Calls Tryz.prog 112 #[.int .i64 k] w fun e w' => e = .returned (.bool (isRefK k)) ∧ w = w') := fun w => isRef_walk _ w
  have HB : Hid (∀ o, Below w.heap.size w (w.alloc o)) := fun o => alloc_b w o
  have HCF0 : Hid (∀ w1, Below w.heap.size w w1 → st.length ≤ 1000 → Calls Tryz.prog 113 #[v, .func (Fn.func 114) #[] #[]] w1 fun e w' => e = .returned (.bool (!st.all stepOk)) ∧ Below w1.heap.size w1 w') := fun w1 b hl => containsStep_walk v st bl w1 (h.below b) hl hns
  obtain ⟨a, c, rfl, -, -⟩ := h.form
  clear h hs hns
  have hslI : (st.length : Int) ≤ 1048576 := by omega
  generalize fopOk ⟨k, n, s, r, st⟩ = FO at *
  generalize hNK : numOk k n = NK at *
  clear hNK
  generalize plainT s = PS at *
  by_cases k1 : 1 ≤ k
  · by_cases k12 : k ≤ 12
    · obtain ⟨w0, hw0⟩ : ∃ w0, w0 = w.alloc (Obj.cells #[.int .i64 k, .int .i64 n, .string s, .bool r, .slice a st.length c] 68 (0, 0)) := ⟨_, rfl⟩
      have HB0 : Hid (Below w.heap.size w w0) := by rw [hw0]; exact unhide HB _
      have HC : Hid (∀ w1, Below w0.heap.size w0 w1 → w1.cell? ⟨w.heap.size, 0, none⟩ = some (.int .i64 k) ∧ w1.cell? ⟨w.heap.size, 2, none⟩ = some (.string s) ∧ w1.cell? ⟨w.heap.size, 3, none⟩ = some (.bool r) ∧ w1.cell? ⟨w.heap.size, 4, none⟩ = some (.slice a st.length c)) := fun w1 hb => by
        have h0 : w0.heap[w.heap.size]? = some (Obj.cells #[.int .i64 k, .int .i64 n, .string s, .bool r, .slice a st.length c] 68 (0, 0)) := by rw [hw0]; exact heap_alloc_new w _
        have h1 := (hb.block _ (Array.getElem?_eq_some_iff.1 h0).1).trans h0
        exact ⟨Lib.cell_of_heap h1 0, Lib.cell_of_heap h1 2, Lib.cell_of_heap h1 3, Lib.cell_of_heap h1 4⟩
      go_enter Tryz.func91, Tryz.ntmps91
      go_wp2_with fail
      rw [← hw0]
      refine (unhide HN _).mono ?_
      rintro e w1 ⟨rfl, b1⟩
      obtain ⟨c0, c2, c3, c4⟩ := unhide HC _ b1
      have HB1 := hide (below_next (unhide HB0) b1)
      have HCF := hide (unhide HCF0 w1 (unhide HB1))
      clear b1 HC HCF0 HB0 hw0 HN HB
      cases NK with
      | false =>
        have HV : Hid (FO = false) := by show _ = _; rw [unhide HE]; simp []
        clear HE
        go_wp2
        go_ret
        exact ⟨by rw [unhide HV]; rfl, unhide HB1⟩
      | true =>
        go_wp2_with fail
        refine (unhide HP _).mono ?_
        rintro e w2 ⟨rfl, rfl⟩
        clear HP
        cases PS with
        | false =>
          have HV : Hid (FO = false) := by show _ = _; rw [unhide HE]; simp []
          clear HE
          go_wp2
          go_ret
          exact ⟨by rw [unhide HV]; rfl, unhide HB1⟩
        | true =>
          by_cases h2 : k = 2
          · subst h2
            have hr : isRefK 2 = false := rfl
            rw [hr] at HRF
            go_wp2_with fail
            refine (unhide HRF _).mono ?_
            rintro e w2 ⟨rfl, rfl⟩
            clear HRF
            cases r with
            | true =>
              have HV : Hid (FO = false) := by show _ = _; rw [unhide HE]; simp [hr]
              clear HE
              go_wp2
              go_ret
              exact ⟨by rw [unhide HV]; rfl, unhide HB1⟩
            | false =>
              by_cases hl0 : (st.length : Int) = 0
              · have hl0' : st.length = 0 := by omega
                have hlen : st.length ≤ 1000 := by omega
                have hlen2 : (st.length : Int) ≤ 1000 := by omega
                have HV : Hid (FO = (st.all stepOk)) := by show _ = _; rw [unhide HE]; simp [hl0']
                clear HE hl0'
                go_wp2_with fail
                refine (unhide HCF hlen).mono ?_
                rintro e w2 ⟨rfl, b2⟩
                have HB2 := hide (below_next (unhide HB1) b2)
                clear b2 HCF
                go_wp2
                go_ret
                exact ⟨by rw [unhide HV]; simp, unhide HB2⟩
              · have hl0' : ¬ st.length = 0 := by omega
                have hl1 : ((st.length : Int) == 0) = false := by simpa using hl0'
                have HV : Hid (FO = false) := by show _ = _; rw [unhide HE]; simp [hr, hl0']
                clear HE
                go_wp2
                go_ret
                exact ⟨by rw [unhide HV]; rfl, unhide HB1⟩
          · have h2b : (k == 2) = false := by simpa using h2
            cases he : s.toList.isEmpty with
            | false =>
              have HV : Hid (FO = false) := by show _ = _; rw [unhide HE]; simp [empT, he, h2]
              clear HE
              go_wp2
              go_ret
              exact ⟨by rw [unhide HV]; rfl, unhide HB1⟩
            | true =>
              go_wp2_with fail
              refine (unhide HRF _).mono ?_
              rintro e w2 ⟨rfl, rfl⟩
              clear HRF
              cases hr : isRefK k with
              | true =>
                by_cases hlen2 : (st.length : Int) ≤ 1000
                · have hlen : st.length ≤ 1000 := by omega
                  have HV : Hid (FO = (st.all stepOk)) := by show _ = _; rw [unhide HE]; simp [k1, k12, hr, empT, he, hlen]
                  clear HE
                  go_wp2_with fail
                  refine (unhide HCF hlen).mono ?_
                  rintro e w2 ⟨rfl, b2⟩
                  have HB2 := hide (below_next (unhide HB1) b2)
                  clear b2 HCF
                  go_wp2
                  go_ret
                  exact ⟨by rw [unhide HV]; simp, unhide HB2⟩
                · have hlen : ¬ st.length ≤ 1000 := by omega
                  have HV : Hid (FO = false) := by show _ = _; rw [unhide HE]; simp [hlen]
                  clear HE
                  go_wp2
                  go_ret
                  exact ⟨by rw [unhide HV]; rfl, unhide HB1⟩
              | false =>
                cases r with
                | true =>
                  have HV : Hid (FO = false) := by show _ = _; rw [unhide HE]; simp [hr]
                  clear HE
                  go_wp2
                  go_ret
                  exact ⟨by rw [unhide HV]; rfl, unhide HB1⟩
                | false =>
                  by_cases hl0 : (st.length : Int) = 0
                  · have hl0' : st.length = 0 := by omega
                    have hlen : st.length ≤ 1000 := by omega
                    have hlen2 : (st.length : Int) ≤ 1000 := by omega
                    have HV : Hid (FO = (st.all stepOk)) := by show _ = _; rw [unhide HE]; simp [k1, k12, hr, empT, he, hl0']
                    clear HE hl0'
                    go_wp2_with fail
                    refine (unhide HCF hlen).mono ?_
                    rintro e w2 ⟨rfl, b2⟩
                    have HB2 := hide (below_next (unhide HB1) b2)
                    clear b2 HCF
                    go_wp2
                    go_ret
                    exact ⟨by rw [unhide HV]; simp, unhide HB2⟩
                  · have hl0' : ¬ st.length = 0 := by omega
                    have hl1 : ((st.length : Int) == 0) = false := by simpa using hl0'
                    have HV : Hid (FO = false) := by show _ = _; rw [unhide HE]; simp [hr, hl0']
                    clear HE
                    go_wp2
                    go_ret
                    exact ⟨by rw [unhide HV]; rfl, unhide HB1⟩
    · have HV : Hid (FO = false) := by show _ = _; rw [unhide HE]; simp [k12]
      clear HE HN HP HRF HCF0
      go_enter Tryz.func91, Tryz.ntmps91
      go_wp2
      go_ret
      exact ⟨by rw [unhide HV]; rfl, unhide HB _⟩
  · have HV : Hid (FO = false) := by show _ = _; rw [unhide HE]; simp [k1]
    clear HE HN HP HRF HCF0
    go_enter Tryz.func91, Tryz.ntmps91
    go_wp2
    go_ret
    exact ⟨by rw [unhide HV]; rfl, unhide HB _⟩
end Go.Proofs.YtiolpmhodbefoaaGreatDoor


namespace Go.Proofs.YtiolpmhodbefoaaGreatDoor
open Go.RowKit

/-- A condition in memory, of at most so many levels. -/
def condK : Nat → KE CT
  | 0 => { T := 91, wd := 1, pos := by decide, R := fun _ _ _ _ => False, len := fun h => h.elim, move := fun h _ => h }
  | n + 1 => {
    T := 91, wd := 1, pos := by decide
    R := fun w S vs c => ∃ (b : Nat) (st pa : Value) (bl : List Nat), vs = [.pointer (some ⟨b, 0, none⟩)] ∧ S b ∧ w.heap[b]? = some (.cells #[.int .i64 c.op.k, .int .i64 c.op.n, .string c.op.s, .bool c.op.root, st, pa] 150 (0, 0)) ∧
      ORow stepE w st c.op.steps bl ∧ (∀ x ∈ bl, S x) ∧ LRow (condK n) w S pa c.ps
    len := fun h => by obtain ⟨b, st, pa, bl, rfl, -⟩ := h; rfl
    move := fun h hm => by
      obtain ⟨b, st, pa, bl, rfl, hS, hb, ho, hbl, hp⟩ := h
      obtain ⟨hS', hb'⟩ := hm b hS (Array.getElem?_eq_some_iff.1 hb).1
      exact ⟨b, st, pa, bl, rfl, hS', hb'.trans hb, ho.keep fun x hx => (hm x (hbl x hx) (ho.lt x hx)).2, fun x hx => (hm x (hbl x hx) (ho.lt x hx)).1, hp.move hm⟩ }
theorem condK_T (n : Nat) : (condK n).T = 91 := by cases n <;> rfl
theorem condK_wd (n : Nat) : (condK n).wd = 1 := by cases n <;> rfl
theorem condK_up : ∀ (n : Nat) {w : World} {S : Nat → Prop} {vs : List Value} {c : CT}, (condK n).R w S vs c → (condK (n + 1)).R w S vs c
  | 0, _, _, _, _, h => h.elim
  | n + 1, _, _, _, _, h => by
    obtain ⟨b, st, pa, bl, h1, h2, h3, h4, h5, h6⟩ := h
    exact ⟨b, st, pa, bl, h1, h2, h3, h4, h5, h6.imp (by rw [condK_wd, condK_wd]) (condK_up n)⟩
theorem condK_cells {n : Nat} {w : World} {S : Nat → Prop} {vs : List Value} {c : CT} (h : (condK n).R w S vs c) : ∃ (b : Nat) (st pa : Value), vs = [.pointer (some ⟨b, 0, none⟩)] ∧ S b ∧ w.heap[b]? = some (.cells #[.int .i64 c.op.k, .int .i64 c.op.n, .string c.op.s, .bool c.op.root, st, pa] 150 (0, 0)) ∧ (∃ m, m < n ∧ LRow (condK m) w S pa c.ps) := by
  cases n with
  | zero => exact h.elim
  | succ n =>
    obtain ⟨b, st, pa, bl, h1, h2, h3, h4, h5, h6⟩ := h
    exact ⟨b, st, pa, h1, h2, h3, n, by omega, h6⟩
end Go.Proofs.YtiolpmhodbefoaaGreatDoor


namespace Go.Proofs.YtiolpmhodbefoaaGreatDoor
open Go.RowKit

set_option maxRecDepth 100000 in
set_option maxHeartbeats 1600000 in
theorem isTruth_cell (b : Nat) (k : Int) (w : World) (h : w.cell? ⟨b, 0, none⟩ = some (.int .i64 k)) : Calls Tryz.prog 94 #[.pointer (some ⟨b, 0, none⟩)] w fun e w' => e = .returned (.bool (isTru k)) ∧ w = w' := by
  by_cases h8 : k = 8
  · subst h8
    go_enter Tryz.func94, Tryz.ntmps94
    go_wp2
    go_ret
    exact ⟨rfl, rfl⟩
  by_cases h9 : k = 9
  · subst h9
    go_enter Tryz.func94, Tryz.ntmps94
    go_wp2
    go_ret
    exact ⟨rfl, rfl⟩
  by_cases h10 : k = 10
  · subst h10
    go_enter Tryz.func94, Tryz.ntmps94
    go_wp2
    go_ret
    exact ⟨rfl, rfl⟩
  by_cases h11 : k = 11
  · subst h11
    go_enter Tryz.func94, Tryz.ntmps94
    go_wp2
    go_ret
    exact ⟨rfl, rfl⟩
  by_cases h12 : k = 12
  · subst h12
    go_enter Tryz.func94, Tryz.ntmps94
    go_wp2
    go_ret
    exact ⟨rfl, rfl⟩
  · have HV : Hid (isTru k = false) := by show _ = _; simp [isTru, h8, h9, h10, h11, h12]
    go_enter Tryz.func94, Tryz.ntmps94
    go_wp2
    go_ret
    exact ⟨by rw [unhide HV]; rfl, rfl⟩
theorem isTruth_walk {n : Nat} {S : Nat → Prop} (v : Value) (c : CT) (w : World) (h : (condK n).R w S [v] c) : Calls Tryz.prog 94 #[v] w fun e w' => e = .returned (.bool c.tru) ∧ w = w' := by
  obtain ⟨b, st, pa, e, -, hb, -⟩ := condK_cells h
  injection e with e
  subst e
  exact isTruth_cell b _ w (Lib.cell_of_heap hb 0)
theorem Mv.drewN {S : Nat → Prop} (w : World) (d : Nat) : Mv S S w (w.drewN d) := fun _ hb _ => ⟨hb, rfl⟩
set_option maxRecDepth 100000 in
set_option maxHeartbeats 1600000 in
theorem partsFit_walk {n : Nat} {S : Nat → Prop} (b : Nat) (k : Int) (c1 c2 c3 c4 pa : Value) (ps : List CT) (w : World) (hb : w.heap[b]? = some (.cells #[.int .i64 k, c1, c2, c3, c4, pa] 150 (0, 0))) (h : LRow (condK n) w S pa ps) (hl : ps.length ≤ 2) :
    Calls Tryz.prog 93 #[.pointer (some ⟨b, 0, none⟩)] w fun e w' => e = .returned (.bool (ps.all fun c => c.tru != (k == 9))) ∧ ∃ d, w' = w.drewN d := by
  obtain ⟨a, cap, rfl, hxa⟩ := h.form
  have HC : Hid (∀ d, (w.drewN d).cell? ⟨b, 0, none⟩ = some (.int .i64 k) ∧ (w.drewN d).cell? ⟨b, 5, none⟩ = some (.slice a ps.length cap)) := fun d =>
    have hd : (w.drewN d).heap[b]? = some (.cells #[.int .i64 k, c1, c2, c3, c4, .slice a ps.length cap] 150 (0, 0)) := hb
    ⟨Lib.cell_of_heap hd 0, Lib.cell_of_heap hd 5⟩
  have HROW : Hid (∀ d j (hj : j < ps.length), ∃ g v, a = some ⟨g, 0, none⟩ ∧ (w.drewN d).cell? ⟨g, j, none⟩ = some v ∧ ∀ d', Calls Tryz.prog 94 #[v] ((w.drewN d).drewN d') fun e w' => e = .returned (.bool ps[j].tru) ∧ w' = (w.drewN d).drewN d') := fun d j hj => by
    obtain ⟨g, rfl⟩ := hxa (by omega)
    obtain ⟨vs, hR, hc⟩ := h.at (List.getElem?_eq_getElem hj)
    have hlen := (condK n).len hR
    rw [condK_wd] at hlen
    obtain ⟨v, rfl⟩ : ∃ v, vs = [v] := by
      match vs, hlen with
      | [v], _ => exact ⟨v, rfl⟩
    have hc0 := hc 0 v rfl
    rw [condK_wd] at hc0
    refine ⟨g, v, rfl, ?_, fun d' => ?_⟩
    · have : j * 1 + 0 = j := by omega
      rw [this] at hc0
      exact hc0
    · exact (isTruth_walk v _ ((w.drewN d).drewN d') ((condK n).move ((condK n).move hR (Mv.drewN w d)) (Mv.drewN _ d'))).mono fun e w' h => ⟨h.1, h.2.symm⟩
  have HNO : Hid (∀ j (hj : j < ps.length), (ps[j].tru != (k == 9)) = false → (ps.all fun c => c.tru != (k == 9)) = false) := fun j hj e => all_no hj e
  have HYES : Hid ((∀ j (hj : j < ps.length), (ps[j].tru != (k == 9)) = true) → (ps.all fun c => c.tru != (k == 9)) = true) := fun e => all_yes e
  have hlI : (ps.length : Int) ≤ 2 := by omega
  clear h hxa hb hl
  generalize (ps.all fun c => c.tru != (k == 9)) = FO at *
  obtain ⟨x0, x5⟩ := unhide HC 0
  rw [show w.drewN 0 = w from rfl] at x0 x5
  generalize hK9 : (k == 9) = K9 at *
  go_enter Tryz.func93, Tryz.ntmps93
  go_wp2_with fail
  go_loopw [10] (fun iv wr => ∃ j : Nat, j ≤ ps.length ∧ iv = .int .i64 (j : Int) ∧ Hid (∃ d, wr = w.drewN d) ∧ Hid (∀ i (hi : i < ps.length), i < j → (ps[i].tru != K9) = true)) (fun i _ => ps.length - (intOf i).toNat)
  case atStart => exact ⟨0, by omega, rfl, ⟨0, rfl⟩, fun i _ hi => by omega⟩
  case round =>
    obtain ⟨j, hj, rfl, hd0, hd⟩ := hrel
    obtain ⟨d, hwr⟩ := unhide hd0
    clear hd0
    have HWR : Hid (∀ d', ∃ d'', wr.drewN d' = w.drewN d'') := fun d' => ⟨d + d', by rw [hwr, World.drewN_drewN]⟩
    have HWR0 : Hid (∃ d'', wr = w.drewN d'') := ⟨d, hwr⟩
    by_cases hlt : j < ps.length
    · have hltI : (j : Int) < (ps.length : Int) := by omega
      obtain ⟨g, v, rfl, cv, hcall⟩ := unhide HROW d j hlt
      obtain ⟨y0, y5⟩ := unhide HC d
      rw [← hwr] at cv hcall y0 y5
      clear hwr
      have HJY : Hid ((ps[j].tru != K9) = true → ∀ i (hi : i < ps.length), i < j + 1 → (ps[i].tru != K9) = true) := fun e i hi h => by
        by_cases ei : i = j
        · subst ei; exact e
        · exact unhide hd i hi (by omega)
      have HJN : Hid ((ps[j].tru != K9) = false → FO = false) := unhide HNO j hlt
      have HCL := hide hcall
      clear hcall hd HNO HROW HYES HC x0 x5
      generalize ps[j].tru = P at *
      cases hx : (P == K9) with
      | true =>
        have HQ := hide (unhide HJN (by unfold bne; rw [hx]; rfl))
        clear HJY HJN
        go_wp2_with fail
        go_quiet ((go_at_call 94; exact Calls.quiet_of_same (unhide HCL _)))
        go_wp2
        go_ret
        exact ⟨by rw [unhide HQ]; rfl, unhide HWR _⟩
      | false =>
        have HD := hide (unhide HJY (by unfold bne; rw [hx]; rfl))
        clear HJY HJN
        go_wp2_with fail
        go_quiet ((go_at_call 94; exact Calls.quiet_of_same (unhide HCL _)))
        go_wp2
        go_roundw
        case rel => exact ⟨j + 1, by omega, by go_num, unhide HWR _, HD⟩
        case measure => simp [intOf]; omega
    · have HQ := hide (unhide HYES fun i hi => unhide hd i hi (by omega))
      clear hd HNO HROW HYES hwr
      go_wp2
      go_ret
      exact ⟨by rw [unhide HQ]; rfl, unhide HWR0⟩
end Go.Proofs.YtiolpmhodbefoaaGreatDoor


namespace Go.Proofs.YtiolpmhodbefoaaGreatDoor
open Go.RowKit Go.Lib

theorem infoCondP : (Tryz.prog.info? 91).map (fun i => (i.zero, i.size, i.bytes)) = some (some (.pointer none), 1, 8) := by kernel_rfl
/-- slices.Clone of a row of conditions: nil stays nil, else the values in a row of its own. -/
theorem cloneC_nil (w : World) : Calls Tryz.prog 92 #[.slice none 0 0] w fun e w' => e = .returned (.slice none 0 0) ∧ w = w' := by
  have q : ∀ (w : World) (a : Option Addr) (n c n' c' : Nat), (binOp .eql 146 (.slice a n c) (.slice none n' c')).run Tryz.prog w = .ok (.bool a.isNone) w := fun w a n c n' c' => Lib.run_eql_slice_nil w _ _ a n c n' c' Tryz.underlying146
  go_enter Tryz.func92, Tryz.ntmps92
  go_wp2
  go_ret
  exact ⟨rfl, rfl⟩
set_option maxHeartbeats 4000000 in
set_option maxRecDepth 100000 in
theorem cloneC_walk (a : Addr) (cap : Nat) (us : List Value) (w : World) (hc : ∀ (j : Nat) (u : Value), us[j]? = some u → w.cell? (a.add j) = some u) (h1 : ∀ u ∈ us, u.oneCell' = true) (hl : us.length ≤ 1000000) :
    Calls Tryz.prog 92 #[.slice (some a) us.length cap] w fun e w' => ∃ r, e = .returned r ∧ w'.ownsRow w.heap.size 91 1 r us.length us ∧ Below w.heap.size w w' := by
  have HV := hide hc
  have H1 := hide h1
  clear hc h1
  have q : ∀ (w : World) (a : Option Addr) (n c n' c' : Nat), (binOp .eql 146 (.slice a n c) (.slice none n' c')).run Tryz.prog w = .ok (.bool a.isNone) w := fun w a n c n' c' => Lib.run_eql_slice_nil w _ _ a n c n' c' Tryz.underlying146
  have HA : Hid (Below w.heap.size w (w.alloc (.cells #[] 91))) := (Below.refl _ _).alloc (Nat.le_refl _) _
  have HO : Hid ((w.alloc (.cells #[] 91)).ownsRow w.heap.size 91 1 (.slice (some ⟨w.heap.size, 0, none⟩) 0 0) 0 []) := World.ownsRow_made w #[] 0 (Nat.le_refl _) (Nat.zero_le _) rfl
  have HZ : Hid (w.heap.size ≤ (w.alloc (.cells #[] 91)).heap.size) := by show _ ≤ _; simp
  have HV2 : Hid (∀ (j : Nat) (u : Value), us[j]? = some u → (w.alloc (.cells #[] 91)).cell? (a.add j) = some u) := fun j u hu => by
    have h0 := unhide HV j u hu
    exact ((unhide HA).cell (World.block_lt_of_cell? _ _ h0)).trans h0
  obtain ⟨i0, hi, hz0, hz1, hz2⟩ := info_parts infoCondP
  go_enter Tryz.func92, Tryz.ntmps92
  go_wp2_with (at_builtin; refine wpList_append_own _ rfl (.tmp 5) (.tmp 6) 146 rfl w.heap.size 91 i0 (.pointer none) 1 8 Tryz.underlying146 hi hz0 hz1 hz2 rfl (by decide) _ _ _ rfl (unhide HO) a us.length cap us rfl (by simp) (unhide HV2) (unhide H1) (by unfold maxLen; omega) (by omega) (unhide HZ) ?_)
  intro v' w1 hown hgrow _
  have HB1 := hide ((unhide HA).grown hgrow (unhide HZ) (by intro k hk; simp [Value.ownBlock] at hk; omega))
  have HO1 : Hid (w1.ownsRow w.heap.size 91 1 v' us.length us) := hide (by simpa using hown)
  clear hown hgrow
  go_wp2
  go_ret
  exact ⟨v', rfl, unhide HO1, unhide HB1⟩
end Go.Proofs.YtiolpmhodbefoaaGreatDoor


namespace Go.Proofs.YtiolpmhodbefoaaGreatDoor
open Go.RowKit

/-- What validCond answers. -/
def VCond (ops : List PFOp) (bl : List Nat) (w : World) : Ending → World → Prop := fun e w' => ∃ v, e = .returned (.tuple #[v, .bool (condR ops).isSome]) ∧ Below w.heap.size w w' ∧ (∃ p, v = .pointer p) ∧ ∀ c, condR ops = some c → ∃ n, (condK n).R w' (fun b => b ∈ bl ∨ w.heap.size ≤ b) [v] c
theorem parts_le (k : Int) : parts k ≤ 2 := by
  unfold parts
  split
  · omega
  · split <;> omega
theorem runT_none {ops : List PFOp} {j : Nat} (hj : j < ops.length) {st : List CT} (h : runT (ops.take j) [] = some st) (hs : stepT st ops[j] = none) : condR ops = none := by
  have e : ops = ops.take j ++ ([ops[j]] ++ ops.drop (j + 1)) := by
    rw [← List.append_assoc, ← List.take_succ_eq_append_getElem hj, List.take_append_drop]
  unfold condR
  split
  · rfl
  · have : runT ops [] = none := by
      rw [e, runT_app, h, Option.bind_some, runT_app, runT, hs]; rfl
    rw [this]
theorem runT_next {ops : List PFOp} {j : Nat} (hj : j < ops.length) {st st' : List CT} (h : runT (ops.take j) [] = some st) (hs : stepT st ops[j] = some st') : runT (ops.take (j + 1)) [] = some st' := by
  rw [List.take_succ_eq_append_getElem hj, runT_snoc h, hs]
theorem stepT_few {st : List CT} {o : PFOp} (h : st.length < parts o.k) : stepT st o = none := by unfold stepT; rw [if_pos h]
theorem stepT_bad {st : List CT} {o : PFOp} (h : fopOk o = false) : stepT st o = none := by unfold stepT; rw [if_pos h]; split <;> rfl
theorem stepT_fit {st : List CT} {o : PFOp} {r : Nat} (hr : st.length = r + parts o.k) (hf : fopOk o = true) : stepT st o = if ((st.drop r).all fun c => c.tru != (o.k == 9)) = true then some (st.take r ++ [.mk o (st.drop r)]) else none := by
  unfold stepT
  rw [if_neg (by omega), if_neg (by rw [hf]; simp), show st.length - parts o.k = r by omega]
theorem sz_steps {l : List PFOp} (h : szFops l ≤ 1048576) {o : PFOp} (ho : o ∈ l) : o.steps.length ≤ 1048576 := by
  have h1 := sum_mem szFop ho
  have e1 : szFop o = o.s.size + szSteps o.steps := rfl
  have e2 : szSteps o.steps = o.steps.length + (o.steps.map szStep).sum := rfl
  have e3 : szFops l = l.length + (l.map szFop).sum := rfl
  omega
theorem LRow.empty {α : Type} (e : KE α) (w : World) (S : Nat → Prop) (a : Option Addr) (cap : Nat) : LRow e w S (.slice a 0 cap) [] := ⟨a, cap, 0, [], rfl, fun h => by simp at h, ⟨rfl, fun j vs x h => by simp at h⟩, fun j vs h => by simp at h⟩
theorem lrow_own {n : Nat} {w : World} {S : Nat → Prop} {B : Nat} {rv : Value} {cls : List Value} {xs : List CT} (ho : w.ownsRow B 91 1 rv cls.length cls) (hE : Els (condK n) w S (cls.map fun u => [u]) xs) (hS : ∀ b, B ≤ b → S b) : LRow (condK n) w S rv xs := by
  have hl := hE.1
  rw [List.length_map] at hl
  rcases ho.2 with ⟨hv, h0⟩ | ⟨g, cap, cur, hv, hB, hr⟩
  · have hx : xs = [] := List.eq_nil_of_length_eq_zero (by omega)
    subst hx
    rw [hv]
    exact LRow.empty _ _ _ _ _
  · refine ⟨_, _, g, _, by rw [hv, hl], fun _ => ⟨rfl, hS g hB⟩, hE, fun j vs h1 m u hu => ?_⟩
    rw [hv] at ho
    rw [List.getElem?_map] at h1
    cases hq : cls[j]? with
    | none => rw [hq] at h1; cases h1
    | some y =>
      rw [hq] at h1
      simp at h1
      subst h1
      have hm : m = 0 := by have := (List.getElem?_eq_some_iff.1 hu).1; simp at this; exact this
      subst hm
      simp at hu
      subst hu
      have hj := (List.getElem?_eq_some_iff.1 hq).1
      rw [condK_wd, Nat.mul_one, Nat.add_zero, ho.cellAt _ (by omega)]
      exact hq
theorem own_parts {e : Ending} {w0 w' : World} {B T size n : Nat} {xs : List Value} (h : ∃ r, e = .returned r ∧ w'.ownsRow B T size r n xs ∧ Below B w0 w') : ∃ ra rn rc, e = .returned (.slice ra rn rc) ∧ w'.ownsRow B T size (.slice ra rn rc) n xs ∧ Below B w0 w' := by
  obtain ⟨r, rfl, ho, hb⟩ := h
  rcases ho.2 with ⟨rfl, -⟩ | ⟨g, cap, cur, rfl, -⟩
  · exact ⟨_, _, _, rfl, ho, hb⟩
  · exact ⟨_, _, _, rfl, ho, hb⟩
theorem litK_cells (w : World) (vs : List Value) (T : TypeId) : ∀ (j : Nat) (u : Value), vs[j]? = some u → (w.alloc (.cells vs.toArray T)).cell? ((⟨w.heap.size, 0, none⟩ : Addr).add j) = some u := by
  intro j u hu
  have h := Lib.cell_of_heap (heap_alloc_new w (.cells vs.toArray T)) j
  rw [Go.WideShapes.add_plain, Nat.zero_add, h]
  simpa using hu
/-- The uppermost conditions of the stack as values. -/
theorem drop_vals {n : Nat} {w2 : World} {S0 : Nat → Prop} {B g N cap r : Nat} {st : List CT} (h : WRow (condK n) w2 S0 B (.slice (some ⟨g, 0, none⟩) N cap) st) (hr : r ≤ st.length) :
    ∃ cls : List Value, Hid (cls.length = st.length - r ∧ Els (condK n) w2 (Hd S0 B (some g)) (cls.map fun u => [u]) (st.drop r)) ∧ Hid (∀ u ∈ cls, u.oneCell' = true) ∧ Hid (∀ (jj : Nat) (u : Value), cls[jj]? = some u → w2.drew.cell? ((⟨g, r, none⟩ : Addr).add jj) = some u) := by
  have hat := fun (jj : Nat) (c : CT) (hc : st[jj]? = some c) => h.at (j := jj) hc
  obtain ⟨vss, hE, ho⟩ := h
  have hl := hE.1
  have hwd := hE.wd
  rw [condK_wd] at hwd
  have hone : ∀ p ∈ vss, ∃ b, p = [Value.pointer (some ⟨b, 0, none⟩)] := fun p hp => by
    obtain ⟨jj, hj, rfl⟩ := List.mem_iff_getElem.1 hp
    obtain ⟨b, -, -, e, -⟩ := condK_cells (hE.2 jj _ (st[jj]'(by omega)) (List.getElem?_eq_getElem hj) (List.getElem?_eq_getElem _))
    exact ⟨b, e⟩
  have hN : N = st.length := by
    rcases ho.2 with ⟨hv, h0⟩ | ⟨g', cap', cur, hv, _⟩
    · cases hv
    · injection hv
  subst hN
  have hmap : (vss.drop r).flatten.map (fun u => [u]) = vss.drop r := by
    have : ∀ l : List (List Value), (∀ p ∈ l, ∃ b, p = [Value.pointer (some ⟨b, 0, none⟩)]) → l.flatten.map (fun u => [u]) = l := fun l => by
      induction l with
      | nil => intro _; rfl
      | cons x l ih =>
        intro hx
        obtain ⟨b, rfl⟩ := hx x List.mem_cons_self
        rw [List.flatten_cons, List.map_append, ih fun p hp => hx p (List.mem_cons_of_mem _ hp)]
        rfl
    exact this _ fun p hp => hone p (List.mem_of_mem_drop hp)
  have hwd2 : ∀ p ∈ vss.drop r, p.length = 1 := fun p hp => hwd p (List.mem_of_mem_drop hp)
  refine ⟨(vss.drop r).flatten, ⟨by rw [fl_len hwd2, List.length_drop, hl, Nat.mul_one], by rw [hmap]; exact hE.drop r⟩, ?_, ?_⟩
  · intro u hu
    obtain ⟨p, hp, hup⟩ := List.mem_flatten.1 hu
    obtain ⟨b, rfl⟩ := hone p (List.mem_of_mem_drop hp)
    simp at hup; subst hup; rfl
  · intro jj u hu
    have hj : jj < st.length - r := by
      have := (List.getElem?_eq_some_iff.1 hu).1
      rwa [fl_len hwd2, List.length_drop, hl, Nat.mul_one] at this
    have h1 : (vss.drop r)[jj]? = some (vss[r + jj]'(by omega)) := by rw [List.getElem?_drop]; exact List.getElem?_eq_getElem _
    have h2 := fl_at hwd2 h1 0 (by decide)
    rw [Nat.mul_one, Nat.add_zero, hu] at h2
    have hmul : r + jj < st.length * (condK n).wd := by rw [condK_wd]; omega
    have h3 := ho.cellAt (r + jj) hmul
    have h4 := fl_at hwd (List.getElem?_eq_getElem (l := vss) (i := r + jj) (by omega)) 0 (by decide)
    rw [Nat.mul_one, Nat.add_zero] at h4
    rw [h4, ← h2] at h3
    rw [Go.WideShapes.add_plain]
    exact h3
set_option maxRecDepth 100000 in
set_option maxHeartbeats 16000000 in
theorem validCond_walk (v : Value) (ops : List PFOp) (bl : List Nat) (w : World) (h : ORow fopE w v ops bl) (hs : szFops ops ≤ 1048576) :
    Calls Tryz.prog 67 #[v] w (VCond ops bl w) := by
  have hlt0 := h.lt
  obtain ⟨a, c, rfl, -, hxa⟩ := h.form
  have hlen : ops.length ≤ 1048576 := by unfold szFops at hs; omega
  have hlI : (ops.length : Int) ≤ 1048576 := by omega
  by_cases hbig : (1000 : Int) < (ops.length : Int)
  · have HV : Hid (condR ops = none) := by show _ = _; unfold condR; rw [if_pos (by omega)]
    clear h hxa hs hlt0
    go_enter Tryz.func67, Tryz.ntmps67
    go_wp2
    go_ret2
    exact ⟨_, by rw [unhide HV]; rfl, Below.refl _ _, ⟨_, rfl⟩, fun c hc => by rw [unhide HV] at hc; cases hc⟩
  have HS0 : Hid (∀ b, b ∈ bl → b < w.heap.size) := hlt0
  have HROW : Hid (∀ (wr : World) (j : Nat) (hj : j < ops.length), Below w.heap.size w wr → ∃ g q ib, a = some ⟨g, 0, none⟩ ∧ wr.cell? ⟨g, j * 5, none⟩ = some (.int .i64 ops[j].k) ∧ wr.cell? ⟨g, j * 5 + 1, none⟩ = some (.int .i64 ops[j].n) ∧ wr.cell? ⟨g, j * 5 + 2, none⟩ = some (.string ops[j].s) ∧ wr.cell? ⟨g, j * 5 + 3, none⟩ = some (.bool ops[j].root) ∧ wr.cell? ⟨g, j * 5 + 4, none⟩ = some q ∧
      ORow stepE wr q ops[j].steps ib ∧ (∀ b ∈ ib, b ∈ bl) ∧ (∃ x y z, q = .slice x y z) ∧ ∀ wx, Below wr.heap.size wr wx → Calls Tryz.prog 91 #[.agg #[.int .i64 ops[j].k, .int .i64 ops[j].n, .string ops[j].s, .bool ops[j].root, q]] wx fun e w' => e = .returned (.bool (fopOk ops[j])) ∧ Below wx.heap.size wx w') := by
    intro wr j hj hb
    obtain ⟨g, rfl⟩ := hxa (by omega)
    obtain ⟨vs, ib, hE, hc, hib, -, -⟩ := (h.below hb).at (List.getElem?_eq_getElem hj)
    obtain ⟨q, rfl, hst⟩ := hE
    have hz := sz_fop hs (List.getElem_mem hj)
    have hz2 := sz_steps hs (List.getElem_mem hj)
    obtain ⟨x, z, hq, -, -⟩ := hst.form
    exact ⟨g, q, ib, rfl, (hc 0 _ rfl).1, (hc 1 _ rfl).1, (hc 2 _ rfl).1, (hc 3 _ rfl).1, (hc 4 _ rfl).1, hst, hib, ⟨_, _, _, hq⟩, fun wx hx => goodFOp_walk _ q ib wx (hst.below hx) hz.1 hz.2 hz2⟩
  have HDONE : Hid (∀ st, runT (ops.take ops.length) [] = some st → condR ops = match st with | [c] => if c.tru = true then some c else none | _ => none) := fun st e => by
    rw [List.take_length] at e
    unfold condR
    rw [if_neg (by omega), e]
    match st with
    | [] => rfl
    | [_] => rfl
    | _ :: _ :: _ => rfl
  clear h hxa hs hlt0
  go_enter Tryz.func67, Tryz.ntmps67
  go_wp2_with fail
  go_loopw [4, 14] (fun sv iv wr => ∃ (j : Nat) (st : List CT), j ≤ ops.length ∧ iv = .int .i64 (j : Int) ∧ Hid (WRow (condK j) wr (· ∈ bl) w.heap.size sv st) ∧ Below w.heap.size w wr ∧ Hid (runT (ops.take j) [] = some st) ∧ st.length ≤ j) (fun _ i _ => ops.length - (intOf i).toNat)
  case atStart => exact ⟨0, [], Nat.zero_le _, rfl, WRow.nil _ _ _ _, Below.refl _ _, rfl, Nat.le_refl _⟩
  case round =>
    obtain ⟨j, st, hj, rfl, hW, hb, hrun, hstl⟩ := hrel
    by_cases hlt : j < ops.length
    · have hltI : (j : Int) < (ops.length : Int) := by omega
      have hstI : (st.length : Int) ≤ 1000 := by omega
      obtain ⟨g0, q, ib, rfl, d0, d1, d2, d3, d4, hsteps, hib, ⟨qx, qy, qz, rfl⟩, hgf⟩ := unhide HROW _ j hlt hb
      have HGF := hide hgf
      have HST := hide hsteps
      have HIB := hide hib
      have HNO : Hid (stepT st ops[j] = none → condR ops = none) := runT_none hlt (unhide hrun)
      have HYES : Hid (∀ st', stepT st ops[j] = some st' → runT (ops.take (j + 1)) [] = some st') := fun st' => runT_next hlt (unhide hrun)
      have HFEW : Hid (st.length < parts ops[j].k → stepT st ops[j] = none) := stepT_few
      have HBAD : Hid (fopOk ops[j] = false → stepT st ops[j] = none) := stepT_bad
      have HFIT : Hid (∀ r, st.length = r + parts ops[j].k → fopOk ops[j] = true → stepT st ops[j] = if ((st.drop r).all fun c => c.tru != (ops[j].k == 9)) = true then some (st.take r ++ [.mk ops[j] (st.drop r)]) else none) := fun r => stepT_fit
      have HB := hide hb
      have HPP : Hid (parts ops[j].k ≤ 2) := parts_le _
      clear hsteps hib hgf HROW HDONE hb hrun
      generalize ops[j] = o at *
      obtain ⟨k, n, s, root, steps⟩ := o
      simp only at *
      have HPT : Hid (∀ w, Calls Tryz.prog 90 #[.int .i64 k] w fun e w' => e = .returned (.int .i64 (parts k : Int)) ∧ w = w') := fun w => partsTaken_walk k w
      generalize hP : parts k = p at *
      clear hP
      have hp2 : p ≤ 2 := unhide HPP
      have hpI : (p : Int) ≤ 2 := by omega
      clear HPP
      rcases (unhide hW).form with ⟨rfl, rfl⟩ | ⟨g, cap, rfl, hnc, hcm, hBg, hgl⟩
      · skip
        have HBR : Hid (Below w.heap.size w (wr.alloc (Obj.cells #[.int .i64 k, .int .i64 n, .string s, .bool root, .slice qx qy qz] 68 (0, 0)))) := below_next (unhide HB) (alloc_b _ _)
        go_wp2_with fail
        refine (unhide HPT _).mono ?_
        rintro e w1 ⟨rfl, rfl⟩
        clear d0 d1 d2 d3 d4 HPT
        by_cases hpl : 0 < p
        · have hplI : ¬ (p : Int) ≤ 0 := by omega
          have hplJ : (0 : Int) < (p : Int) := by omega
          have hplK : -(p : Int) < 0 := by omega
          have HV := hide (unhide HNO (unhide HFEW (by simpa using hpl)))
          clear HNO HYES HFEW HBAD HFIT HGF HST hW HIB
          go_wp2
          go_ret2
          exact ⟨_, by rw [unhide HV]; rfl, unhide HBR, ⟨_, rfl⟩, fun c hc => by rw [unhide HV] at hc; cases hc⟩
        obtain rfl : p = 0 := by omega
        have HFT := hide (unhide HFIT 0 (by simp))
        clear HFIT HFEW hpl
        have HG2 := hide (unhide HGF _ (alloc_b wr (Obj.cells #[.int .i64 k, .int .i64 n, .string s, .bool root, .slice qx qy qz] 68 (0, 0))))
        clear HGF
        go_wp2_with fail
        refine (unhide HG2).mono ?_
        rintro e w2 ⟨rfl, b2⟩
        have HB2 : Hid (Below wr.heap.size wr w2) := below_next (alloc_b wr _) b2
        have HBW2 : Hid (Below w.heap.size w w2) := below_next (unhide HB) (unhide HB2)
        have HC6 : Hid (∀ w', Below w2.heap.size w2 w' → w'.cell? ⟨wr.heap.size, 0, none⟩ = some (.int .i64 k) ∧ w'.cell? ⟨wr.heap.size, 1, none⟩ = some (.int .i64 n) ∧ w'.cell? ⟨wr.heap.size, 2, none⟩ = some (.string s) ∧ w'.cell? ⟨wr.heap.size, 3, none⟩ = some (.bool root) ∧ w'.cell? ⟨wr.heap.size, 4, none⟩ = some (.slice qx qy qz)) := fun w' hb => by
          have h0 := heap_alloc_new wr (Obj.cells #[.int .i64 k, .int .i64 n, .string s, .bool root, .slice qx qy qz] 68 (0, 0))
          have h1 := (b2.block _ (Array.getElem?_eq_some_iff.1 h0).1).trans h0
          have h2 := (hb.block _ (Array.getElem?_eq_some_iff.1 h1).1).trans h1
          exact ⟨Lib.cell_of_heap h2 0, Lib.cell_of_heap h2 1, Lib.cell_of_heap h2 2, Lib.cell_of_heap h2 3, Lib.cell_of_heap h2 4⟩
        have HW2 : Hid (WRow (condK j) w2 (· ∈ bl) w.heap.size (.slice (none) 0 0) ([] : List CT)) := (unhide hW).keep (unhide HB2)
        have HST2 : Hid (ORow stepE w2 (.slice qx qy qz) steps ib) := (unhide HST).below (unhide HB2)
        clear b2 HG2 hW HST HBR

        cases hf : fopOk ⟨k, n, s, root, steps⟩ with
        | false =>
          have HV := hide (unhide HNO (unhide HBAD hf))
          have HBR := HBW2
          clear HNO HYES HBAD HFT HC6 HW2 HST2 HIB hf
          go_wp2
          go_ret2
          exact ⟨_, by rw [unhide HV]; rfl, unhide HBR, ⟨_, rfl⟩, fun c hc => by rw [unhide HV] at hc; cases hc⟩
        | true =>
          have HFT2 := hide (unhide HFT hf)
          clear HFT HBAD hf
          go_upto_region 10 with fail
          go_cut [8] from 31 to 37 (fun x wx => ∃ (b : Nat) (pa : Value), x = .pointer (some ⟨b, 0, none⟩) ∧ wx.heap[b]? = some (.cells #[.int .i64 k, .int .i64 n, .string s, .bool root, .slice qx qy qz, pa] 150 (0, 0)) ∧ w2.heap.size ≤ b ∧ LRow (condK j) wx (Hd (· ∈ bl) w.heap.size (none)) pa (([] : List CT).drop 0) ∧ Below w2.heap.size w2 wx)
          case first =>
            have SD := hide (unhide HC6 w2.drew (Below.refl _ _).drew)
            have HCL := hide (cloneC_nil w2.drew)
            clear HNO HYES HFT2
            go_region_held3 (fun w' => w'.cell? ⟨wr.heap.size, 0, none⟩ = some (.int .i64 k) ∧ w'.cell? ⟨wr.heap.size, 1, none⟩ = some (.int .i64 n) ∧ w'.cell? ⟨wr.heap.size, 2, none⟩ = some (.string s) ∧ w'.cell? ⟨wr.heap.size, 3, none⟩ = some (.bool root) ∧ w'.cell? ⟨wr.heap.size, 4, none⟩ = some (.slice qx qy qz)) (first | exact unhide SD | exact unhide HC6 _ ((alloc_b w2 _).drew)) (first | (go_simp; refine (unhide HCL).mono ?_; rintro e w3 ⟨rfl, rfl⟩; clear HCL))
            all_goals
              go_wp2
              go_meet
              case rel => exact ⟨_, _, rfl, heap_alloc_new _ _, Nat.le_refl _, LRow.empty _ _ _ _ _, (alloc_b w2 _).drew⟩
          case rest =>
            obtain ⟨b, pa, rfl, hbk, hbb, hlr, hbc⟩ := hcut
            have HBC := hide hbc
            have HPF := hide (partsFit_walk b k _ _ _ _ pa (([] : List CT).drop 0) wc hbk hlr (by simp))
            have HNODE : Hid (∀ w', Below wc.heap.size wc w' → (condK (j + 1)).R w' (Hd (· ∈ bl) w.heap.size (none)) [.pointer (some ⟨b, 0, none⟩)] (.mk ⟨k, n, s, root, steps⟩ (([] : List CT).drop 0))) := fun w' hx => by
              refine (condK (j + 1)).move (w := wc) ⟨b, _, pa, ib, rfl, .inr ⟨Nat.le_trans (unhide HBW2).size hbb, ?_⟩, hbk, (unhide HST2).below hbc, fun x hx => .inl (unhide HIB x hx), hlr⟩ (.below hx)
              intro e; cases e
            have HROWT : Hid (∀ w', Below wc.heap.size wc w' → WRow (condK (j + 1)) w' (· ∈ bl) w.heap.size (.slice (none) 0 0) ([])) := fun w' hx => by
              exact WRow.nil _ _ _ _
            have HBWC : Hid (Below w.heap.size w wc) := below_next (unhide HBW2) hbc
            have hwcz : w.heap.size ≤ wc.heap.size := (unhide HBWC).size
            have HWCZ := hide hwcz
            clear hbk hbb hlr hbc HBC HC6 HW2 HST2 HIB hwcz
            go_wp2_with fail
            refine (unhide HPF).mono ?_
            rintro e w4 ⟨rfl, d4, rfl⟩
            have HD4 : Hid (Below wc.heap.size wc (wc.drewN d4)) := ⟨rfl, rfl, rfl, Nat.le_refl _, fun _ _ => rfl⟩
            cases hall : (([] : List CT).drop 0).all (fun c => c.tru != (k == 9)) with
            | false =>
              have HV : Hid (condR ops = none) := unhide HNO (by rw [unhide HFT2, if_neg (by rw [hall]; simp)])
              have HBR : Hid (Below w.heap.size w (wc.drewN d4)) := below_next (unhide HBWC) (unhide HD4)
              clear HNO HYES HFT2 HPF HNODE HROWT hall
              go_wp2
              go_ret2
              exact ⟨_, by rw [unhide HV]; rfl, unhide HBR, ⟨_, rfl⟩, fun c hc => by rw [unhide HV] at hc; cases hc⟩
            | true =>
              have HRUN : Hid (runT (ops.take (j + 1)) [] = some ((([] : List CT).take 0) ++ [.mk ⟨k, n, s, root, steps⟩ (([] : List CT).drop 0)])) := unhide HYES _ (by rw [unhide HFT2, if_pos hall])
              have HCELL : Hid (∀ (i : Nat) (u : Value), [Value.pointer (some ⟨b, 0, none⟩)][i]? = some u → ((wc.drewN d4).alloc (.cells #[.pointer (some ⟨b, 0, none⟩)] 91)).cell? ((⟨wc.heap.size, 0, none⟩ : Addr).add i) = some u) := fun i u hu => litK_cells (wc.drewN d4) _ _ i u hu
              have HBA : Hid (Below wc.heap.size wc ((wc.drewN d4).alloc (.cells #[.pointer (some ⟨b, 0, none⟩)] 91))) := below_next (unhide HD4) (alloc_b _ _)
              clear HNO HYES HFT2 HPF hall
              go_wp2_with (at_builtin; refine wpList_append_K (condK (j + 1)) Tryz.underlying146 infoCondP rfl (by decide) rfl (.tmp 43) (.tmp 45) rfl rfl (unhide HROWT _ (unhide HBA)) (unhide HS0) (unhide HNODE _ (unhide HBA)) rfl (unhide HCELL) (fun u hu => by simp at hu; subst hu; rfl) (Nat.le_trans (unhide HWCZ) (unhide HBA).size) (by simp) ?_)
              intro v' w5 hW5 hg5 hown5
              have HW5 := hide hW5
              have HB5 : Hid (Below w.heap.size w w5) := (below_next (unhide HBWC) (unhide HBA)).grown hg5 (Nat.le_trans (unhide HWCZ) (unhide HBA).size) hown5
              clear hW5 hg5 hown5 HNODE HROWT HCELL
              go_wp2
              go_roundw
              case rel => exact ⟨j + 1, _, by omega, by go_num, HW5, unhide HB5, HRUN, by simp⟩
              case measure => simp [intOf]; omega
      · skip
        have HBR : Hid (Below w.heap.size w (wr.alloc (Obj.cells #[.int .i64 k, .int .i64 n, .string s, .bool root, .slice qx qy qz] 68 (0, 0)))) := below_next (unhide HB) (alloc_b _ _)
        go_wp2_with fail
        refine (unhide HPT _).mono ?_
        rintro e w1 ⟨rfl, rfl⟩
        clear d0 d1 d2 d3 d4 HPT
        by_cases hpl : st.length < p
        · have hplI : (st.length : Int) - (p : Int) < 0 := by omega
          have HV := hide (unhide HNO (unhide HFEW hpl))
          clear HNO HYES HFEW HBAD HFIT HGF HST hW HIB
          go_wp2
          go_ret2
          exact ⟨_, by rw [unhide HV]; rfl, unhide HBR, ⟨_, rfl⟩, fun c hc => by rw [unhide HV] at hc; cases hc⟩
        obtain ⟨r, hr⟩ : ∃ r, st.length = r + p := ⟨st.length - p, by omega⟩
        have hre : (st.length : Int) - (p : Int) = (r : Int) := by omega
        have hr0 : ¬ (r : Int) < 0 := by omega
        have hr1 : (r : Int) ≤ (st.length : Int) := by omega
        have hr2 : (0 : Int) ≤ (r : Int) := by omega
        have hnI : (st.length : Int) ≤ (cap : Int) := by omega
        have hcI : (cap : Int) ≤ 9223372036854775807 := by unfold maxLen at hcm; omega
        have HFT := hide (unhide HFIT r hr)
        have HR := hide hr
        have HGL : Hid (g < wr.heap.size) := hgl
        clear hr hgl
        clear HFIT HFEW hpl
        have HG2 := hide (unhide HGF _ (alloc_b wr (Obj.cells #[.int .i64 k, .int .i64 n, .string s, .bool root, .slice qx qy qz] 68 (0, 0))))
        clear HGF
        go_wp2_with fail
        refine (unhide HG2).mono ?_
        rintro e w2 ⟨rfl, b2⟩
        have HB2 : Hid (Below wr.heap.size wr w2) := below_next (alloc_b wr _) b2
        have HBW2 : Hid (Below w.heap.size w w2) := below_next (unhide HB) (unhide HB2)
        have HC6 : Hid (∀ w', Below w2.heap.size w2 w' → w'.cell? ⟨wr.heap.size, 0, none⟩ = some (.int .i64 k) ∧ w'.cell? ⟨wr.heap.size, 1, none⟩ = some (.int .i64 n) ∧ w'.cell? ⟨wr.heap.size, 2, none⟩ = some (.string s) ∧ w'.cell? ⟨wr.heap.size, 3, none⟩ = some (.bool root) ∧ w'.cell? ⟨wr.heap.size, 4, none⟩ = some (.slice qx qy qz)) := fun w' hb => by
          have h0 := heap_alloc_new wr (Obj.cells #[.int .i64 k, .int .i64 n, .string s, .bool root, .slice qx qy qz] 68 (0, 0))
          have h1 := (b2.block _ (Array.getElem?_eq_some_iff.1 h0).1).trans h0
          have h2 := (hb.block _ (Array.getElem?_eq_some_iff.1 h1).1).trans h1
          exact ⟨Lib.cell_of_heap h2 0, Lib.cell_of_heap h2 1, Lib.cell_of_heap h2 2, Lib.cell_of_heap h2 3, Lib.cell_of_heap h2 4⟩
        have HW2 : Hid (WRow (condK j) w2 (· ∈ bl) w.heap.size (.slice (some ⟨g, 0, none⟩) st.length cap) st) := (unhide hW).keep (unhide HB2)
        have HST2 : Hid (ORow stepE w2 (.slice qx qy qz) steps ib) := (unhide HST).below (unhide HB2)
        clear b2 HG2 hW HST HBR
        have HGL : Hid (g < w2.heap.size) := Nat.lt_of_lt_of_le (unhide HGL) (unhide HB2).size
        cases hf : fopOk ⟨k, n, s, root, steps⟩ with
        | false =>
          have HV := hide (unhide HNO (unhide HBAD hf))
          have HBR := HBW2
          clear HNO HYES HBAD HFT HC6 HW2 HST2 HIB hf
          go_wp2
          go_ret2
          exact ⟨_, by rw [unhide HV]; rfl, unhide HBR, ⟨_, rfl⟩, fun c hc => by rw [unhide HV] at hc; cases hc⟩
        | true =>
          have HFT2 := hide (unhide HFT hf)
          clear HFT HBAD hf
          go_upto_region 10 with fail
          go_cut [8] from 31 to 37 (fun x wx => ∃ (b : Nat) (pa : Value), x = .pointer (some ⟨b, 0, none⟩) ∧ wx.heap[b]? = some (.cells #[.int .i64 k, .int .i64 n, .string s, .bool root, .slice qx qy qz, pa] 150 (0, 0)) ∧ w2.heap.size ≤ b ∧ LRow (condK j) wx (Hd (· ∈ bl) w.heap.size (some g)) pa (st.drop r) ∧ Below w2.heap.size w2 wx)
          case first =>
            have SD := hide (unhide HC6 w2.drew (Below.refl _ _).drew)
            obtain ⟨cls, HCE, HCO, HCC⟩ : ∃ cls : List Value, Hid (cls.length = st.length - r ∧ Els (condK j) w2 (Hd (· ∈ bl) w.heap.size (some g)) (cls.map fun u => [u]) (st.drop r)) ∧ Hid (∀ u ∈ cls, u.oneCell' = true) ∧ Hid (∀ (jj : Nat) (u : Value), cls[jj]? = some u → w2.drew.cell? ((⟨g, r, none⟩ : Addr).add jj) = some u) := drop_vals (unhide HW2) (by have := unhide HR; omega)
            have HBD : Hid (Below w2.heap.size w2 w2.drew) := (Below.refl _ _).drew
            obtain ⟨AD, hif, HCL⟩ : ∃ AD : Addr, (if cap = r then some (⟨g, 0, none⟩ : Addr) else some ⟨g, r, none⟩) = some AD ∧ Hid (Calls Tryz.prog 92 #[.slice (some AD) (st.length - r) (cap - r)] w2.drew fun e w' => ∃ ra rn rc, e = .returned (.slice ra rn rc) ∧ w'.ownsRow w2.drew.heap.size 91 1 (.slice ra rn rc) cls.length cls ∧ Below w2.drew.heap.size w2.drew w') := by
              by_cases hrc : cap = r
              · have h0 : cls = [] := List.eq_nil_of_length_eq_zero (by have := (unhide HCE).1; omega)
                subst h0
                refine ⟨⟨g, 0, none⟩, if_pos hrc, ?_⟩
                rw [show st.length - r = 0 by omega]
                exact (cloneC_walk ⟨g, 0, none⟩ _ [] w2.drew (fun _ _ h => by simp at h) (fun _ h => by simp at h) (by simp)).mono fun e w' h => own_parts h
              · refine ⟨⟨g, r, none⟩, if_neg hrc, ?_⟩
                rw [← (unhide HCE).1]
                exact (cloneC_walk ⟨g, r, none⟩ _ cls w2.drew (unhide HCC) (unhide HCO) (by have := (unhide HCE).1; omega)).mono fun e w' h => own_parts h
            clear HNO HYES HFT2 HCC HCO
            go_region_held3 (fun w' => w'.cell? ⟨wr.heap.size, 0, none⟩ = some (.int .i64 k) ∧ w'.cell? ⟨wr.heap.size, 1, none⟩ = some (.int .i64 n) ∧ w'.cell? ⟨wr.heap.size, 2, none⟩ = some (.string s) ∧ w'.cell? ⟨wr.heap.size, 3, none⟩ = some (.bool root) ∧ w'.cell? ⟨wr.heap.size, 4, none⟩ = some (.slice qx qy qz)) (first | exact unhide SD | exact unhide S3 | exact unhide HC6 _ (below_next (unhide HB3) (alloc_b _ _))) (first | (go_simp; refine (unhide HCL).mono ?_; rintro e w3 ⟨ra, rn, rc, rfl, o3, b3⟩; have HO3 := hide o3; have HB3 := hide (below_next (unhide HBD) b3); have S3 := hide (unhide HC6 w3 (unhide HB3)); clear HCL o3 b3))
            all_goals
              go_wp2
              go_meet
              case rel => exact ⟨_, _, rfl, heap_alloc_new _ _, (unhide HB3).size, lrow_own (own_below (unhide HO3) (alloc_b _ _)) ((unhide HCE).2.move (.below (below_next (unhide HB3) (alloc_b _ _)))) (fun b hb => .inr ⟨Nat.le_trans (unhide HBW2).size hb, fun e => by injection e with e; have := unhide HGL; have hb2 : w2.heap.size ≤ b := hb; omega⟩), below_next (unhide HB3) (alloc_b _ _)⟩
          case rest =>
            obtain ⟨b, pa, rfl, hbk, hbb, hlr, hbc⟩ := hcut
            have HBC := hide hbc
            have HPF := hide (partsFit_walk b k _ _ _ _ pa (st.drop r) wc hbk hlr (by rw [List.length_drop]; have := unhide HR; omega))
            have HNODE : Hid (∀ w', Below wc.heap.size wc w' → (condK (j + 1)).R w' (Hd (· ∈ bl) w.heap.size (some g)) [.pointer (some ⟨b, 0, none⟩)] (.mk ⟨k, n, s, root, steps⟩ (st.drop r))) := fun w' hx => by
              refine (condK (j + 1)).move (w := wc) ⟨b, _, pa, ib, rfl, .inr ⟨Nat.le_trans (unhide HBW2).size hbb, ?_⟩, hbk, (unhide HST2).below hbc, fun x hx => .inl (unhide HIB x hx), hlr⟩ (.below hx)
              intro e; injection e with e; have := unhide HGL; omega
            have HROWT : Hid (∀ w', Below wc.heap.size wc w' → WRow (condK (j + 1)) w' (· ∈ bl) w.heap.size (.slice (some ⟨g, 0, none⟩) r cap) (st.take r)) := fun w' hx => by
              exact ((((unhide HW2).keep hbc).keep hx).take rfl (by have := unhide HR; omega)).imp (by rw [condK_T, condK_T]) (by rw [condK_wd, condK_wd]) (condK_up j)
            have HBWC : Hid (Below w.heap.size w wc) := below_next (unhide HBW2) hbc
            have hwcz : w.heap.size ≤ wc.heap.size := (unhide HBWC).size
            have HWCZ := hide hwcz
            clear hbk hbb hlr hbc HBC HC6 HW2 HST2 HIB hwcz
            go_wp2_with fail
            refine (unhide HPF).mono ?_
            rintro e w4 ⟨rfl, d4, rfl⟩
            have HD4 : Hid (Below wc.heap.size wc (wc.drewN d4)) := ⟨rfl, rfl, rfl, Nat.le_refl _, fun _ _ => rfl⟩
            cases hall : (st.drop r).all (fun c => c.tru != (k == 9)) with
            | false =>
              have HV : Hid (condR ops = none) := unhide HNO (by rw [unhide HFT2, if_neg (by rw [hall]; simp)])
              have HBR : Hid (Below w.heap.size w (wc.drewN d4)) := below_next (unhide HBWC) (unhide HD4)
              clear HNO HYES HFT2 HPF HNODE HROWT hall
              go_wp2
              go_ret2
              exact ⟨_, by rw [unhide HV]; rfl, unhide HBR, ⟨_, rfl⟩, fun c hc => by rw [unhide HV] at hc; cases hc⟩
            | true =>
              have HRUN : Hid (runT (ops.take (j + 1)) [] = some ((st.take r) ++ [.mk ⟨k, n, s, root, steps⟩ (st.drop r)])) := unhide HYES _ (by rw [unhide HFT2, if_pos hall])
              have HCELL : Hid (∀ (i : Nat) (u : Value), [Value.pointer (some ⟨b, 0, none⟩)][i]? = some u → ((wc.drewN d4).alloc (.cells #[.pointer (some ⟨b, 0, none⟩)] 91)).cell? ((⟨wc.heap.size, 0, none⟩ : Addr).add i) = some u) := fun i u hu => litK_cells (wc.drewN d4) _ _ i u hu
              have HBA : Hid (Below wc.heap.size wc ((wc.drewN d4).alloc (.cells #[.pointer (some ⟨b, 0, none⟩)] 91))) := below_next (unhide HD4) (alloc_b _ _)
              clear HNO HYES HFT2 HPF hall
              go_wp2_with (at_builtin; refine wpList_append_K (condK (j + 1)) Tryz.underlying146 infoCondP rfl (by decide) rfl (.tmp 43) (.tmp 45) rfl rfl (unhide HROWT _ (unhide HBA)) (unhide HS0) (unhide HNODE _ (unhide HBA)) rfl (unhide HCELL) (fun u hu => by simp at hu; subst hu; rfl) (Nat.le_trans (unhide HWCZ) (unhide HBA).size) (by simp; omega) ?_)
              intro v' w5 hW5 hg5 hown5
              have HW5 := hide hW5
              have HB5 : Hid (Below w.heap.size w w5) := (below_next (unhide HBWC) (unhide HBA)).grown hg5 (Nat.le_trans (unhide HWCZ) (unhide HBA).size) hown5
              clear hW5 hg5 hown5 HNODE HROWT HCELL
              go_wp2
              go_roundw
              case rel => exact ⟨j + 1, _, by omega, by go_num, HW5, unhide HB5, HRUN, by simp; omega⟩
              case measure => simp [intOf]; omega
    · have hjl : j = ops.length := by omega
      subst hjl
      have HD := hide (unhide HDONE st (unhide hrun))
      have HB := hide hb
      clear HROW HDONE hrun hb hj hstl
      rcases (unhide hW).form with ⟨rfl, rfl⟩ | ⟨g, cap, rfl, hnc, hcm, hBg, hgl⟩
      · have HV : Hid (condR ops = none) := unhide HD
        have HBR := HB
        clear hW HD
        go_wp2
        go_ret2
        exact ⟨_, by rw [unhide HV]; rfl, unhide HBR, ⟨_, rfl⟩, fun c hc => by rw [unhide HV] at hc; cases hc⟩
      · by_cases h1 : (st.length : Int) = 1
        · obtain ⟨cc, rfl⟩ : ∃ cc, st = [cc] := by
            match st, h1 with
            | [cc], _ => exact ⟨cc, rfl⟩
            | [], h => simp at h
            | _ :: _ :: _, h => simp at h; omega
          obtain ⟨vs, hR, hcell⟩ := (unhide hW).at (j := 0) (x := cc) rfl
          obtain ⟨b, st0, pa, rfl, -, hbk, -⟩ := condK_cells hR
          have c0 := hcell 0 _ rfl
          rw [condK_wd] at c0
          simp only [Nat.zero_mul, Nat.zero_add] at c0
          have HIT := hide (isTruth_walk _ _ wr hR)
          have HR := hide hR
          clear hR hcell hbk hW
          go_wp2_with fail
          refine (unhide HIT).mono ?_
          rintro e w1 ⟨rfl, rfl⟩
          clear HIT
          cases ht : cc.tru with
          | false =>
            have HV : Hid (condR ops = none) := by show _ = _; rw [unhide HD]; simp [ht]
            have HBR := HB
            clear HD ht
            go_wp2
            go_ret2
            exact ⟨_, by rw [unhide HV]; rfl, unhide HBR, ⟨_, rfl⟩, fun c hc => by rw [unhide HV] at hc; cases hc⟩
          | true =>
            have HV : Hid (condR ops = some cc) := by show _ = _; rw [unhide HD]; simp [ht]
            clear HD ht
            go_wp2
            go_ret2
            refine ⟨_, by rw [unhide HV]; rfl, unhide HB, ⟨_, rfl⟩, fun c hc => ?_⟩
            rw [unhide HV] at hc
            injection hc with hc
            subst hc
            exact ⟨_, (condK _).move (unhide HR) (.sub fun b hb _ => by rcases hb with hb | hb; exact .inl hb; exact .inr hb.1)⟩
        · have h1b : ((st.length : Int) != 1) = true := by simpa using h1
          have HV : Hid (condR ops = none) := by
            show _ = _
            rw [unhide HD]
            match st, h1 with
            | [], _ => rfl
            | [_], h => exact absurd rfl h
            | _ :: _ :: _, _ => rfl
          have HBR := HB
          clear HD hW
          go_wp2
          go_ret2
          exact ⟨_, by rw [unhide HV]; rfl, unhide HBR, ⟨_, rfl⟩, fun c hc => by rw [unhide HV] at hc; cases hc⟩
end Go.Proofs.YtiolpmhodbefoaaGreatDoor

