import Derived.Test.YtiolpmhodbefoaaSpecPOk2
import Derived.Deep.CutRange
namespace Go.Proofs.Ytiolpmhodbefoaa
open Go.RowKit

/-- What is left to ask behind the steps. -/
def tailOk (o : PFOp) : Bool := (o.k == 2 || empT o.s) && numOk o.k o.n && plainT o.s
theorem fop_tail {o : PFOp} (hk : 1 ≤ o.k ∧ o.k ≤ 12) (hn : ¬ 1000 < o.steps.length) (hr : isRefK o.k = true ∨ (o.root = false ∧ o.steps.length = 0)) : fopOk o = (o.steps.all stepOk && tailOk o) := by
  unfold fopOk tailOk
  have h1 : (isRefK o.k || (!o.root && decide (o.steps.length = 0))) = true := by
    rcases hr with h | ⟨h, h'⟩
    · simp [h]
    · simp [h, h']
  rw [h1, decide_eq_true hk.1, decide_eq_true hk.2, decide_eq_true (show o.steps.length ≤ 1000 by omega)]
  simp only [Bool.true_and, Bool.and_assoc]
set_option maxRecDepth 100000 in
set_option maxHeartbeats 8000000 in
theorem fopOk_main (m : PFOp) (v : Value) (bl : List Nat) (w : World) (h : ORow stepE w v m.steps bl) (hk : 1 ≤ m.k ∧ m.k ≤ 12) (hn : ¬ 1000 < m.steps.length) (hr : isRefK m.k = true ∨ (m.root = false ∧ m.steps.length = 0)) (hs : m.s.size ≤ 1048576) (hns : ∀ p ∈ m.steps, p.name.size ≤ 1048576) :
    Calls Try.prog 29 #[.agg #[.int .i64 m.k, .int .i64 m.n, .string m.s, .bool m.root, v]] w fun e w' => e = .returned (.bool (fopOk m)) ∧ Below w.heap.size w w' := by
  have HF := hide (fop_tail hk hn hr)
  have HR : Hid (∀ w, Calls Try.prog 28 #[.int .i64 m.n] w fun e w' => e = .returned (.bool (rangeI m.n)) ∧ w = w') := fun w => range_walk _ w
  have HP : Hid (∀ w, Calls Try.prog 27 #[.string m.s] w fun e w' => e = .returned (.bool (plainT m.s)) ∧ w = w') := fun w => plain_walk _ w hs
  obtain ⟨a, c, rfl, -, hxa⟩ := h.form
  have HROW : Hid (∀ (wr : World) (j : Nat) (hj : j < m.steps.length), Below w.heap.size w wr → ∃ g, a = some ⟨g, 0, none⟩ ∧ wr.cell? ⟨g, j * 3, none⟩ = some (.bool m.steps[j].byI) ∧ wr.cell? ⟨g, j * 3 + 1, none⟩ = some (.string m.steps[j].name) ∧ wr.cell? ⟨g, j * 3 + 2, none⟩ = some (.int .i64 m.steps[j].idx) ∧
      Calls Try.prog 48 #[.agg #[.bool m.steps[j].byI, .string m.steps[j].name, .int .i64 m.steps[j].idx]] wr fun e w' => e = .returned (.bool (stepOk m.steps[j])) ∧ Below wr.heap.size wr w') := by
    intro wr j hj hb
    obtain ⟨g, rfl⟩ := hxa (by omega)
    obtain ⟨vs, ib, hE, hc, _⟩ := (h.below hb).at (List.getElem?_eq_getElem hj)
    obtain ⟨rfl, _⟩ := hE
    exact ⟨g, rfl, (hc 0 _ rfl).1, (hc 1 _ rfl).1, (hc 2 _ rfl).1, stepOk_walk _ wr (hns _ (List.getElem_mem hj))⟩
  have HNO : Hid (∀ j (hj : j < m.steps.length), stepOk m.steps[j] = false → fopOk m = false) := fun j hj e => by rw [unhide HF, all_no hj e]; rfl
  have HYES : Hid ((∀ j (hj : j < m.steps.length), stepOk m.steps[j] = true) → fopOk m = tailOk m) := fun e => by rw [unhide HF, all_yes e]; rfl
  have HT : Hid (tailOk m = ((m.k == 2 || empT m.s) && numOk m.k m.n && plainT m.s)) := rfl
  have HPE : Hid (empT m.s = true → plainT m.s = true) := plain_emp
  have HB : Hid (∀ o, Below w.heap.size w (w.alloc o)) := fun o => alloc_b w o
  obtain ⟨k, n, s, r, st⟩ := m
  simp only at *
  have hnI : ¬ (1000 : Int) < (st.length : Int) := by omega
  clear h hxa HF hs hns
  generalize fopOk ⟨k, n, s, r, st⟩ = FO at *
  generalize tailOk ⟨k, n, s, r, st⟩ = TO at *
  obtain ⟨BX, hBX⟩ : ∃ BX : World → Prop, BX = fun wr => wr.heap[w.heap.size]? = some (Obj.cells #[.int .i64 k, .int .i64 n, .string s, .bool r, .slice a st.length c] 65 (0, 0)) := ⟨_, rfl⟩
  have HX0 : Hid (BX (w.alloc (Obj.cells #[.int .i64 k, .int .i64 n, .string s, .bool r, .slice a st.length c] 65 (0, 0)))) := by rw [hBX]; exact heap_alloc_new w _
  have HXN : Hid (∀ wr w', BX wr → Below wr.heap.size wr w' → BX w') := by rw [hBX]; exact fun wr w' h hb => (hb.block _ (Array.getElem?_eq_some_iff.1 h).1).trans h
  have HBX : Hid (∀ wr, BX wr → wr.cell? ⟨w.heap.size, 0, none⟩ = some (.int .i64 k) ∧ wr.cell? ⟨w.heap.size, 1, none⟩ = some (.int .i64 n) ∧ wr.cell? ⟨w.heap.size, 2, none⟩ = some (.string s) ∧ wr.cell? ⟨w.heap.size, 4, none⟩ = some (.slice a st.length c)) := by
    rw [hBX]; exact fun wr h => ⟨Lib.cell_of_heap h 0, Lib.cell_of_heap h 1, Lib.cell_of_heap h 2, Lib.cell_of_heap h 4⟩
  clear hBX
  have hk1 : ¬ k < 1 := by omega
  have hk2 : ¬ 12 < k := by omega
  have hr0 : isRefK k = true ∨ (isRefK k = false ∧ r = false ∧ ¬ (0 : Int) < (st.length : Int)) := by
    cases hq : isRefK k with
    | true => exact .inl rfl
    | false =>
      rw [hq] at hr
      rcases hr with h | ⟨h, h'⟩
      · cases h
      · exact .inr ⟨rfl, h, by omega⟩
  have HR0 := hide hr0
  clear hr hk hn hr0
  go_enter Try.func29, Try.ntmps29
  go_upto_region 1 with fail
  go_cut [3] from 5 to 17 (fun x wx => x = .bool (isRefK k) ∧ wx = w.alloc (Obj.cells #[.int .i64 k, .int .i64 n, .string s, .bool r, .slice a st.length c] 65 (0, 0)))
  case first =>
    by_cases h6 : k = 6
    · subst h6
      go_wp2
      go_meet
      case rel => exact ⟨rfl, rfl⟩
    · by_cases h7 : k = 7
      · subst h7
        go_wp2
        go_meet
        case rel => exact ⟨rfl, rfl⟩
      · by_cases h8 : k = 8
        · subst h8
          go_wp2
          go_meet
          case rel => exact ⟨rfl, rfl⟩
        · go_wp2
          go_meet
          case rel => exact ⟨rfl, rfl⟩
  case rest =>
    obtain ⟨rfl, hwc⟩ := hcut
    have HX1 : Hid (BX wc) := by rw [hwc]; exact unhide HX0
    have HB1 : Hid (Below w.heap.size w wc) := by rw [hwc]; exact unhide HB _
    obtain ⟨c0, c1, c2, c4⟩ := unhide HBX _ (unhide HX1)
    have c3 : wc.cell? ⟨w.heap.size, 3, none⟩ = some (.bool r) := by rw [hwc]; exact Lib.cell_of_heap (heap_alloc_new w _) 3
    clear hwc HX0
    rcases unhide HR0 with hq | ⟨hq, rfl, hst0⟩
    all_goals
      rw [hq]
      clear hq
      go_wp2_with fail
      clear c0 c1 c2 c3 c4
      go_loopw [4] (fun iv wr => ∃ j : Nat, j ≤ st.length ∧ iv = .int .i64 (j : Int) ∧ Below w.heap.size w wr ∧ BX wr ∧ Hid (∀ i (hi : i < st.length), i < j → stepOk st[i] = true)) (fun iv _ => st.length - (intOf iv).toNat)
      case atStart => exact ⟨0, Nat.zero_le _, rfl, unhide HB1, unhide HX1, fun i _ hi => by omega⟩
    · case round =>
        obtain ⟨j, hj, rfl, hb, hbx, hd⟩ := hrel
        obtain ⟨c0, c1, c2, c4⟩ := unhide HBX _ hbx
        by_cases hlt : j < st.length
        · have hltI : (j : Int) < (st.length : Int) := by omega
          obtain ⟨g, rfl, d0, d1, d2, hcall⟩ := unhide HROW _ j hlt hb
          have HC := hide hcall
          have HBW := hide hb
          have HBXW := hide hbx
          have HJY : Hid (stepOk st[j] = true → ∀ i (hi : i < st.length), i < j + 1 → stepOk st[i] = true) := fun e i hi h => by
            by_cases ei : i = j
            · subst ei; exact e
            · exact unhide hd i hi (by omega)
          have HJN : Hid (stepOk st[j] = false → FO = false) := unhide HNO j hlt
          clear hcall hb hbx hd HNO HROW HYES HT HPE HR HP c0 c1 c2
          generalize st[j] = P at *
          go_wp2_with fail
          refine (unhide HC).mono ?_
          rintro e w1 ⟨rfl, b1⟩
          have HB2 := hide (below_next (unhide HBW) b1)
          have HX2 := hide (unhide HXN _ _ (unhide HBXW) b1)
          clear HC b1 d0 d1 d2 c4 HBW HBXW
          cases hst : stepOk P with
          | true =>
            have HD := hide (unhide HJY hst)
            clear hst HJY HJN
            go_wp2
            go_roundw
            case rel => exact ⟨j + 1, by omega, by go_num, unhide HB2, unhide HX2, HD⟩
            case measure => simp [intOf]; omega
          | false =>
            have HQ := hide (unhide HJN hst)
            clear hst HJY HJN
            go_wp2
            go_ret
            exact ⟨by rw [unhide HQ]; rfl, unhide HB2⟩
        · have HQ := hide (unhide HYES fun i hi => unhide hd i hi (by omega))
          have HBW := hide hb
          clear hb hbx hd HNO HROW HYES HXN HBX HB1 HX1
          have HTV : Hid (FO = ((k == 2 || empT s) && numOk k n && plainT s)) := (unhide HQ).trans (unhide HT)
          clear HQ HT
          by_cases h2 : k = 2
          · subst h2
            by_cases hn0 : n = 0
            · subst hn0
              have HV : Hid (FO = plainT s) := by show _ = _; rw [unhide HTV]; simp [numOk]
              clear HTV
              go_wp2_with fail
              refine (unhide HP _).mono ?_
              rintro e w1 ⟨rfl, rfl⟩
              go_wp2
              go_ret
              exact ⟨by rw [unhide HV]; rfl, unhide HBW⟩
            · have HV : Hid (FO = false) := by show _ = _; rw [unhide HTV]; simp [numOk, hn0]
              clear HTV
              go_wp2
              go_ret
              exact ⟨by rw [unhide HV]; rfl, unhide HBW⟩
          · cases he : s.toList.isEmpty with
            | false =>
              have HV : Hid (FO = false) := by show _ = _; rw [unhide HTV]; unfold empT; rw [he]; simp [h2]
              clear HTV
              go_wp2
              go_ret
              exact ⟨by rw [unhide HV]; rfl, unhide HBW⟩
            | true =>
              have hpl : plainT s = true := unhide HPE he
              have HV0 : Hid (FO = (numOk k n && plainT s)) := by show _ = _; rw [unhide HTV]; unfold empT; rw [he]; simp
              clear HTV
              by_cases h1 : k = 1
              · subst h1
                have HV : Hid (FO = rangeI n) := by show _ = _; rw [unhide HV0, hpl]; simp [numOk]
                clear HV0 hpl
                go_wp2_with fail
                refine (unhide HR _).mono ?_
                rintro e w1 ⟨rfl, rfl⟩
                go_wp2
                go_ret
                exact ⟨by rw [unhide HV]; rfl, unhide HBW⟩
              · by_cases h9 : k = 9
                · subst h9
                  by_cases a1 : 1 ≤ n
                  · by_cases a2 : n ≤ 6
                    · have HV : Hid (FO = true) := by show _ = _; rw [unhide HV0, hpl]; simp [numOk, a1, a2]
                      clear HV0 hpl
                      go_wp2
                      go_ret
                      exact ⟨by rw [unhide HV]; rfl, unhide HBW⟩
                    · have HV : Hid (FO = false) := by show _ = _; rw [unhide HV0, hpl]; simp [numOk, a2]
                      clear HV0 hpl
                      go_wp2
                      go_ret
                      exact ⟨by rw [unhide HV]; rfl, unhide HBW⟩
                  · have HV : Hid (FO = false) := by show _ = _; rw [unhide HV0, hpl]; simp [numOk, a1]
                    clear HV0 hpl
                    go_wp2
                    go_ret
                    exact ⟨by rw [unhide HV]; rfl, unhide HBW⟩
                · by_cases hn0 : n = 0
                  · subst hn0
                    have HV : Hid (FO = plainT s) := by show _ = _; rw [unhide HV0]; simp [numOk, h1, h9]
                    clear HV0 hpl
                    go_wp2_with fail
                    refine (unhide HP _).mono ?_
                    rintro e w1 ⟨rfl, rfl⟩
                    go_wp2
                    go_ret
                    exact ⟨by rw [unhide HV]; rfl, unhide HBW⟩
                  · have HV : Hid (FO = false) := by show _ = _; rw [unhide HV0]; simp [numOk, h1, h9, hn0]
                    clear HV0 hpl
                    go_wp2
                    go_ret
                    exact ⟨by rw [unhide HV]; rfl, unhide HBW⟩
    · case round =>
        obtain ⟨j, hj, rfl, hb, hbx, hd⟩ := hrel
        obtain ⟨c0, c1, c2, c4⟩ := unhide HBX _ hbx
        have hlt : ¬ j < st.length := by omega
        have HQ := hide (unhide HYES fun i hi => unhide hd i hi (by omega))
        have HBW := hide hb
        clear hb hbx hd HNO HROW HYES HXN HBX HB1 HX1
        have HTV : Hid (FO = ((k == 2 || empT s) && numOk k n && plainT s)) := (unhide HQ).trans (unhide HT)
        clear HQ HT
        by_cases h2 : k = 2
        · subst h2
          by_cases hn0 : n = 0
          · subst hn0
            have HV : Hid (FO = plainT s) := by show _ = _; rw [unhide HTV]; simp [numOk]
            clear HTV
            go_wp2_with fail
            refine (unhide HP _).mono ?_
            rintro e w1 ⟨rfl, rfl⟩
            go_wp2
            go_ret
            exact ⟨by rw [unhide HV]; rfl, unhide HBW⟩
          · have HV : Hid (FO = false) := by show _ = _; rw [unhide HTV]; simp [numOk, hn0]
            clear HTV
            go_wp2
            go_ret
            exact ⟨by rw [unhide HV]; rfl, unhide HBW⟩
        · cases he : s.toList.isEmpty with
          | false =>
            have HV : Hid (FO = false) := by show _ = _; rw [unhide HTV]; unfold empT; rw [he]; simp [h2]
            clear HTV
            go_wp2
            go_ret
            exact ⟨by rw [unhide HV]; rfl, unhide HBW⟩
          | true =>
            have hpl : plainT s = true := unhide HPE he
            have HV0 : Hid (FO = (numOk k n && plainT s)) := by show _ = _; rw [unhide HTV]; unfold empT; rw [he]; simp
            clear HTV
            by_cases h1 : k = 1
            · subst h1
              have HV : Hid (FO = rangeI n) := by show _ = _; rw [unhide HV0, hpl]; simp [numOk]
              clear HV0 hpl
              go_wp2_with fail
              refine (unhide HR _).mono ?_
              rintro e w1 ⟨rfl, rfl⟩
              go_wp2
              go_ret
              exact ⟨by rw [unhide HV]; rfl, unhide HBW⟩
            · by_cases h9 : k = 9
              · subst h9
                by_cases a1 : 1 ≤ n
                · by_cases a2 : n ≤ 6
                  · have HV : Hid (FO = true) := by show _ = _; rw [unhide HV0, hpl]; simp [numOk, a1, a2]
                    clear HV0 hpl
                    go_wp2
                    go_ret
                    exact ⟨by rw [unhide HV]; rfl, unhide HBW⟩
                  · have HV : Hid (FO = false) := by show _ = _; rw [unhide HV0, hpl]; simp [numOk, a2]
                    clear HV0 hpl
                    go_wp2
                    go_ret
                    exact ⟨by rw [unhide HV]; rfl, unhide HBW⟩
                · have HV : Hid (FO = false) := by show _ = _; rw [unhide HV0, hpl]; simp [numOk, a1]
                  clear HV0 hpl
                  go_wp2
                  go_ret
                  exact ⟨by rw [unhide HV]; rfl, unhide HBW⟩
              · by_cases hn0 : n = 0
                · subst hn0
                  have HV : Hid (FO = plainT s) := by show _ = _; rw [unhide HV0]; simp [numOk, h1, h9]
                  clear HV0 hpl
                  go_wp2_with fail
                  refine (unhide HP _).mono ?_
                  rintro e w1 ⟨rfl, rfl⟩
                  go_wp2
                  go_ret
                  exact ⟨by rw [unhide HV]; rfl, unhide HBW⟩
                · have HV : Hid (FO = false) := by show _ = _; rw [unhide HV0]; simp [numOk, h1, h9, hn0]
                  clear HV0 hpl
                  go_wp2
                  go_ret
                  exact ⟨by rw [unhide HV]; rfl, unhide HBW⟩
theorem fopOk_walk (m : PFOp) (v : Value) (bl : List Nat) (w : World) (h : ORow stepE w v m.steps bl) (hs : m.s.size ≤ 1048576) (hns : ∀ p ∈ m.steps, p.name.size ≤ 1048576) :
    Calls Try.prog 29 #[.agg #[.int .i64 m.k, .int .i64 m.n, .string m.s, .bool m.root, v]] w fun e w' => e = .returned (.bool (fopOk m)) ∧ Below w.heap.size w w' := by
  by_cases hk : 1 ≤ m.k ∧ m.k ≤ 12
  · by_cases hn : 1000 < m.steps.length
    · exact fopOk_long m v bl w h hk hn
    · cases hr : isRefK m.k with
      | true => exact fopOk_main m v bl w h hk hn (.inl hr) hs hns
      | false =>
        by_cases hx : m.root = true ∨ 0 < m.steps.length
        · exact fopOk_ref m v bl w h hk hn hr hx
        · exact fopOk_main m v bl w h hk hn (.inr ⟨by cases hq : m.root with | false => rfl | true => exact absurd (.inl hq) hx, by have : ¬ 0 < m.steps.length := fun h => hx (.inr h); omega⟩) hs hns
  · exact fopOk_out m v w hk
end Go.Proofs.Ytiolpmhodbefoaa
