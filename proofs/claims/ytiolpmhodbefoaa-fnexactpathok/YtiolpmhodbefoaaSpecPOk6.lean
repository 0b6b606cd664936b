import Derived.Test.YtiolpmhodbefoaaSpecPOk5
namespace Go.Proofs.Ytiolpmhodbefoaa
open Go.RowKit

def segOk (g : PSeg) : Bool := decide (1 ≤ g.sels.length) && decide (g.sels.length ≤ 1000) && g.sels.all selOk
def pathOk (ms : List PSeg) : Bool := decide (ms.length ≤ 1000) && ms.all segOk
theorem sz_seg {ms : List PSeg} (h : szSegs ms ≤ 1048576) {g : PSeg} (hg : g ∈ ms) : szSels g.sels ≤ 1048576 := by
  have h1 := sum_mem szSeg hg
  have e1 : szSeg g = szSels g.sels := rfl
  have e2 : szSegs ms = ms.length + (ms.map szSeg).sum := rfl
  omega
theorem sz_sel {l : List PSel} (h : szSels l ≤ 1048576) {o : PSel} (ho : o ∈ l) : szSel o ≤ 1048576 := by
  have h1 := sum_mem szSel ho
  have e2 : szSels l = l.length + (l.map szSel).sum := rfl
  omega
set_option maxRecDepth 100000 in
set_option maxHeartbeats 8000000 in
theorem specPathOk_walk (v : Value) (ms : List PSeg) (bl : List Nat) (w : World) (h : ORow segE w v ms bl) (hs : szSegs ms ≤ 1048576) :
    Calls Try.prog 6 #[v] w fun e w' => e = .returned (.bool (pathOk ms)) ∧ Below w.heap.size w w' := by
  obtain ⟨a, c, rfl, -, hxa⟩ := h.form
  have hlen : ms.length ≤ 1048576 := by unfold szSegs at hs; omega
  have hlI : (ms.length : Int) ≤ 1048576 := by omega
  by_cases hbig : (1000 : Int) < (ms.length : Int)
  · have HV : Hid (pathOk ms = false) := by show _ = _; unfold pathOk; rw [decide_eq_false (show ¬ ms.length ≤ 1000 by omega)]; rfl
    clear h hxa hs
    go_enter Try.func6, Try.ntmps6
    go_wp2
    go_ret
    exact ⟨by rw [unhide HV]; rfl, Below.refl _ _⟩
  have HROW : Hid (∀ (wr : World) (i : Nat) (hi : i < ms.length), Below w.heap.size w wr → ∃ g sa sc, a = some ⟨g, 0, none⟩ ∧ (∀ w', Below w.heap.size w w' → w'.cell? ⟨g, i * 2 + 1, none⟩ = some (.slice sa ms[i].sels.length sc)) ∧
      ∀ (w' : World) (k : Nat) (hk : k < ms[i].sels.length), Below w.heap.size w w' → ∃ g' q, sa = some ⟨g', 0, none⟩ ∧ w'.cell? ⟨g', k * 9, none⟩ = some (.int .i64 ms[i].sels[k].k) ∧ w'.cell? ⟨g', k * 9 + 1, none⟩ = some (.string ms[i].sels[k].name) ∧ w'.cell? ⟨g', k * 9 + 2, none⟩ = some (.bool ms[i].sels[k].hasA) ∧ w'.cell? ⟨g', k * 9 + 3, none⟩ = some (.bool ms[i].sels[k].hasB) ∧ w'.cell? ⟨g', k * 9 + 4, none⟩ = some (.bool ms[i].sels[k].hasC) ∧ w'.cell? ⟨g', k * 9 + 5, none⟩ = some (.int .i64 ms[i].sels[k].a) ∧ w'.cell? ⟨g', k * 9 + 6, none⟩ = some (.int .i64 ms[i].sels[k].b) ∧ w'.cell? ⟨g', k * 9 + 7, none⟩ = some (.int .i64 ms[i].sels[k].c) ∧ w'.cell? ⟨g', k * 9 + 8, none⟩ = some q ∧
        Calls Try.prog 15 #[.agg #[.int .i64 ms[i].sels[k].k, .string ms[i].sels[k].name, .bool ms[i].sels[k].hasA, .bool ms[i].sels[k].hasB, .bool ms[i].sels[k].hasC, .int .i64 ms[i].sels[k].a, .int .i64 ms[i].sels[k].b, .int .i64 ms[i].sels[k].c, q]] w' fun e w'' => e = .returned (.bool (selOk ms[i].sels[k])) ∧ Below w'.heap.size w' w'') := by
    intro wr i hi hb
    obtain ⟨g, rfl⟩ := hxa (by omega)
    obtain ⟨vs, ib, hE, hc, -, -, -⟩ := h.at (List.getElem?_eq_getElem hi)
    obtain ⟨q, rfl, hr⟩ := hE
    obtain ⟨sa, sc, rfl, -, hsx⟩ := hr.form
    refine ⟨g, sa, sc, rfl, fun w' hb' => ?_, fun w' k hk hb' => ?_⟩
    · have h1 := (hc 1 _ rfl).1
      exact (hb'.cell (World.block_lt_of_cell? _ _ h1)).trans h1
    · obtain ⟨g', rfl⟩ := hsx (by omega)
      obtain ⟨vs2, ib2, hE2, hc2, -, -, -⟩ := (hr.below hb').at (List.getElem?_eq_getElem hk)
      obtain ⟨q2, rfl, hr2⟩ := hE2
      exact ⟨g', q2, rfl, (hc2 0 _ rfl).1, (hc2 1 _ rfl).1, (hc2 2 _ rfl).1, (hc2 3 _ rfl).1, (hc2 4 _ rfl).1, (hc2 5 _ rfl).1, (hc2 6 _ rfl).1, (hc2 7 _ rfl).1, (hc2 8 _ rfl).1, selOk_walk _ q2 ib2 w' hr2 (sz_sel (sz_seg hs (List.getElem_mem hi)) (List.getElem_mem hk))⟩
  have HNO : Hid (∀ i (hi : i < ms.length), segOk ms[i] = false → pathOk ms = false) := fun i hi e => by unfold pathOk; rw [all_no hi e, Bool.and_false]
  have HYES : Hid ((∀ i (hi : i < ms.length), segOk ms[i] = true) → pathOk ms = true) := fun e => by unfold pathOk; rw [all_yes e, decide_eq_true (by omega)]; rfl
  have HSL : Hid (∀ i (hi : i < ms.length), ms[i].sels.length ≤ 1048576) := fun i hi => by
    have := sz_seg hs (List.getElem_mem hi)
    unfold szSels at this
    omega
  clear h hxa hs
  generalize pathOk ms = PO at *
  go_enter Try.func6, Try.ntmps6
  go_wp2_with fail
  go_loopw [3] (fun iv wr => ∃ i : Nat, i ≤ ms.length ∧ iv = .int .i64 (i : Int) ∧ Below w.heap.size w wr ∧ Hid (∀ x (hx : x < ms.length), x < i → segOk ms[x] = true)) (fun i _ => ms.length - (intOf i).toNat)
  case atStart => exact ⟨0, by omega, rfl, Below.refl _ _, fun x _ hx => by omega⟩
  case round =>
    obtain ⟨i, hi, rfl, hb, hd⟩ := hrel
    by_cases hlt : i < ms.length
    · have hltI : (i : Int) < (ms.length : Int) := by omega
      obtain ⟨g, sa, sc, rfl, hc1, hin⟩ := unhide HROW _ i hlt hb
      have HC1 := hide hc1
      have HIN := hide hin
      have HJY : Hid (segOk ms[i] = true → ∀ x (hx : x < ms.length), x < i + 1 → segOk ms[x] = true) := fun e x hx h => by
        by_cases ex : x = i
        · subst ex; exact e
        · exact unhide hd x hx (by omega)
      have HJN : Hid (segOk ms[i] = false → PO = false) := unhide HNO i hlt
      have hsl := unhide HSL i hlt
      clear hc1 hin hd HNO HROW HYES HSL
      generalize ms[i] = G at *
      have hslI : (G.sels.length : Int) ≤ 1048576 := by omega
      have e1 := unhide HC1 _ hb
      have HBI := hide hb
      clear hb
      by_cases n1 : (G.sels.length : Int) < 1
      · have HQ := hide (unhide HJN (by unfold segOk; rw [decide_eq_false (show ¬ 1 ≤ G.sels.length by omega)]; rfl))
        clear HC1 HIN HJY HJN
        go_wp2
        go_ret
        exact ⟨by rw [unhide HQ]; rfl, unhide HBI⟩
      by_cases n2 : (1000 : Int) < (G.sels.length : Int)
      · have HQ := hide (unhide HJN (by unfold segOk; rw [decide_eq_false (show ¬ G.sels.length ≤ 1000 by omega), Bool.and_false]; rfl))
        clear HC1 HIN HJY HJN
        go_wp2
        go_ret
        exact ⟨by rw [unhide HQ]; rfl, unhide HBI⟩
      have HSN : Hid (∀ k (hk : k < G.sels.length), selOk G.sels[k] = false → PO = false) := fun k hk e => unhide HJN (by unfold segOk; rw [all_no hk e, Bool.and_false])
      have HSY : Hid ((∀ k (hk : k < G.sels.length), selOk G.sels[k] = true) → ∀ x (hx : x < ms.length), x < i + 1 → segOk ms[x] = true) := fun e => unhide HJY (by unfold segOk; rw [all_yes e, decide_eq_true (by omega), decide_eq_true (by omega)]; rfl)
      clear HJY HJN
      go_wp2_with fail
      go_loopw [5] (fun kv w2 => ∃ k : Nat, k ≤ G.sels.length ∧ kv = .int .i64 (k : Int) ∧ Below w.heap.size w w2 ∧ Hid (∀ x (hx : x < G.sels.length), x < k → selOk G.sels[x] = true)) (fun k _ => G.sels.length - (intOf k).toNat)
      case atStart => exact ⟨0, by omega, rfl, unhide HBI, fun x _ hx => by omega⟩
      case round =>
        obtain ⟨k, hk, rfl, hb2, hd2⟩ := hrel
        by_cases hlt2 : k < G.sels.length
        · have hlt2I : (k : Int) < (G.sels.length : Int) := by omega
          obtain ⟨g', q, rfl, d0, d1, d2, d3, d4, d5, d6, d7, d8, hcall⟩ := unhide HIN _ k hlt2 hb2
          have e2 := unhide HC1 _ hb2
          have HC := hide hcall
          have HBW := hide hb2
          have HKY : Hid (selOk G.sels[k] = true → ∀ x (hx : x < G.sels.length), x < k + 1 → selOk G.sels[x] = true) := fun e x hx h => by
            by_cases ex : x = k
            · subst ex; exact e
            · exact unhide hd2 x hx (by omega)
          have HKN : Hid (selOk G.sels[k] = false → PO = false) := unhide HSN k hlt2
          clear hcall hb2 hd2 HSN HSY HIN HC1
          generalize G.sels[k] = P at *
          go_wp2_with fail
          refine (unhide HC).mono ?_
          rintro e w1 ⟨rfl, b1⟩
          have HB2 := hide (below_next (unhide HBW) b1)
          clear HC b1 d0 d1 d2 d3 d4 d5 d6 d7 d8 e2 HBW
          cases hst : selOk P with
          | true =>
            have HD := hide (unhide HKY hst)
            clear hst HKY HKN
            go_wp2
            go_roundw
            case rel => exact ⟨k + 1, by omega, by go_num, unhide HB2, HD⟩
            case measure => simp [intOf]; omega
          | false =>
            have HQ := hide (unhide HKN hst)
            clear hst HKY HKN
            go_wp2
            go_ret
            exact ⟨by rw [unhide HQ]; rfl, unhide HB2⟩
        · have HD := hide (unhide HSY fun x hx => unhide hd2 x hx (by omega))
          have HBW := hide hb2
          clear hb2 hd2 HSN HSY HIN HC1
          go_wp2
          go_roundw
          case rel => exact ⟨i + 1, by omega, by go_num, unhide HBW, HD⟩
          case measure => simp [intOf]; omega
    · have HQ := hide (unhide HYES fun x hx => unhide hd x hx (by omega))
      have HBW := hide hb
      clear hb hd HNO HROW HYES HSL
      go_wp2
      go_ret
      exact ⟨by rw [unhide HQ]; rfl, unhide HBW⟩
end Go.Proofs.Ytiolpmhodbefoaa
