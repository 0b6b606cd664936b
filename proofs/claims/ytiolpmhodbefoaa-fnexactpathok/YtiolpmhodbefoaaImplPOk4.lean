import Derived.Test.YtiolpmhodbefoaaImplPOk2
import Derived.Test.YtiolpmhodbefoaaCondK
import Derived.Laws.AppendOwnNone
namespace Go.Proofs.Ytiolpmhodbefoaa
open Go.RowKit

set_option maxRecDepth 100000 in
set_option maxHeartbeats 1600000 in
theorem isTruth_cell (b : Nat) (k : Int) (w : World) (h : w.cell? ⟨b, 0, none⟩ = some (.int .i64 k)) : Calls Try.prog 72 #[.pointer (some ⟨b, 0, none⟩)] w fun e w' => e = .returned (.bool (isTru k)) ∧ w = w' := by
  by_cases h8 : k = 8
  · subst h8
    go_enter Try.func72, Try.ntmps72
    go_wp2
    go_ret
    exact ⟨rfl, rfl⟩
  by_cases h9 : k = 9
  · subst h9
    go_enter Try.func72, Try.ntmps72
    go_wp2
    go_ret
    exact ⟨rfl, rfl⟩
  by_cases h10 : k = 10
  · subst h10
    go_enter Try.func72, Try.ntmps72
    go_wp2
    go_ret
    exact ⟨rfl, rfl⟩
  by_cases h11 : k = 11
  · subst h11
    go_enter Try.func72, Try.ntmps72
    go_wp2
    go_ret
    exact ⟨rfl, rfl⟩
  by_cases h12 : k = 12
  · subst h12
    go_enter Try.func72, Try.ntmps72
    go_wp2
    go_ret
    exact ⟨rfl, rfl⟩
  · have HV : Hid (isTru k = false) := by show _ = _; simp [isTru, h8, h9, h10, h11, h12]
    go_enter Try.func72, Try.ntmps72
    go_wp2
    go_ret
    exact ⟨by rw [unhide HV]; rfl, rfl⟩
theorem isTruth_walk {n : Nat} {S : Nat → Prop} (v : Value) (c : CT) (w : World) (h : (condK n).R w S [v] c) : Calls Try.prog 72 #[v] w fun e w' => e = .returned (.bool c.tru) ∧ w = w' := by
  obtain ⟨b, st, pa, e, -, hb, -⟩ := condK_cells h
  injection e with e
  subst e
  exact isTruth_cell b _ w (Lib.cell_of_heap hb 0)
theorem Mv.drewN {S : Nat → Prop} (w : World) (d : Nat) : Mv S S w (w.drewN d) := fun _ hb _ => ⟨hb, rfl⟩
set_option maxRecDepth 100000 in
set_option maxHeartbeats 1600000 in
theorem partsFit_walk {n : Nat} {S : Nat → Prop} (b : Nat) (k : Int) (c1 c2 c3 c4 pa : Value) (ps : List CT) (w : World) (hb : w.heap[b]? = some (.cells #[.int .i64 k, c1, c2, c3, c4, pa] 123 (0, 0))) (h : LRow (condK n) w S pa ps) (hl : ps.length ≤ 2) :
    Calls Try.prog 71 #[.pointer (some ⟨b, 0, none⟩)] w fun e w' => e = .returned (.bool (ps.all fun c => c.tru != (k == 9))) ∧ ∃ d, w' = w.drewN d := by
  obtain ⟨a, cap, rfl, hxa⟩ := h.form
  have HC : Hid (∀ d, (w.drewN d).cell? ⟨b, 0, none⟩ = some (.int .i64 k) ∧ (w.drewN d).cell? ⟨b, 5, none⟩ = some (.slice a ps.length cap)) := fun d =>
    have hd : (w.drewN d).heap[b]? = some (.cells #[.int .i64 k, c1, c2, c3, c4, .slice a ps.length cap] 123 (0, 0)) := hb
    ⟨Lib.cell_of_heap hd 0, Lib.cell_of_heap hd 5⟩
  have HROW : Hid (∀ d j (hj : j < ps.length), ∃ g v, a = some ⟨g, 0, none⟩ ∧ (w.drewN d).cell? ⟨g, j, none⟩ = some v ∧ ∀ d', Calls Try.prog 72 #[v] ((w.drewN d).drewN d') fun e w' => e = .returned (.bool ps[j].tru) ∧ w' = (w.drewN d).drewN d') := fun d j hj => by
    obtain ⟨g, rfl⟩ := hxa (by omega)
    obtain ⟨vs, hR, hc⟩ := h.at (List.getElem?_eq_getElem hj)
    have hlen := (condK n).len hR
    rw [condK_wd] at hlen
    obtain ⟨v, rfl⟩ : ∃ v, vs = [v] := by
      match vs, hlen with
      | [v], _ => exact ⟨v, rfl⟩
    have hc0 := hc 0 v rfl
    rw [condK_wd] at hc0
    refine ⟨g, v, rfl, ?_, fun d' => ?_⟩
    · have : j * 1 + 0 = j := by omega
      rw [this] at hc0
      exact hc0
    · exact (isTruth_walk v _ ((w.drewN d).drewN d') ((condK n).move ((condK n).move hR (Mv.drewN w d)) (Mv.drewN _ d'))).mono fun e w' h => ⟨h.1, h.2.symm⟩
  have HNO : Hid (∀ j (hj : j < ps.length), (ps[j].tru != (k == 9)) = false → (ps.all fun c => c.tru != (k == 9)) = false) := fun j hj e => all_no hj e
  have HYES : Hid ((∀ j (hj : j < ps.length), (ps[j].tru != (k == 9)) = true) → (ps.all fun c => c.tru != (k == 9)) = true) := fun e => all_yes e
  have hlI : (ps.length : Int) ≤ 2 := by omega
  clear h hxa hb hl
  generalize (ps.all fun c => c.tru != (k == 9)) = FO at *
  obtain ⟨x0, x5⟩ := unhide HC 0
  rw [show w.drewN 0 = w from rfl] at x0 x5
  generalize hK9 : (k == 9) = K9 at *
  go_enter Try.func71, Try.ntmps71
  go_wp2_with fail
  go_loopw [10] (fun iv wr => ∃ j : Nat, j ≤ ps.length ∧ iv = .int .i64 (j : Int) ∧ Hid (∃ d, wr = w.drewN d) ∧ Hid (∀ i (hi : i < ps.length), i < j → (ps[i].tru != K9) = true)) (fun i _ => ps.length - (intOf i).toNat)
  case atStart => exact ⟨0, by omega, rfl, ⟨0, rfl⟩, fun i _ hi => by omega⟩
  case round =>
    obtain ⟨j, hj, rfl, hd0, hd⟩ := hrel
    obtain ⟨d, hwr⟩ := unhide hd0
    clear hd0
    have HWR : Hid (∀ d', ∃ d'', wr.drewN d' = w.drewN d'') := fun d' => ⟨d + d', by rw [hwr, World.drewN_drewN]⟩
    have HWR0 : Hid (∃ d'', wr = w.drewN d'') := ⟨d, hwr⟩
    by_cases hlt : j < ps.length
    · have hltI : (j : Int) < (ps.length : Int) := by omega
      obtain ⟨g, v, rfl, cv, hcall⟩ := unhide HROW d j hlt
      obtain ⟨y0, y5⟩ := unhide HC d
      rw [← hwr] at cv hcall y0 y5
      clear hwr
      have HJY : Hid ((ps[j].tru != K9) = true → ∀ i (hi : i < ps.length), i < j + 1 → (ps[i].tru != K9) = true) := fun e i hi h => by
        by_cases ei : i = j
        · subst ei; exact e
        · exact unhide hd i hi (by omega)
      have HJN : Hid ((ps[j].tru != K9) = false → FO = false) := unhide HNO j hlt
      have HCL := hide hcall
      clear hcall hd HNO HROW HYES HC x0 x5
      generalize ps[j].tru = P at *
      cases hx : (P == K9) with
      | true =>
        have HQ := hide (unhide HJN (by unfold bne; rw [hx]; rfl))
        clear HJY HJN
        go_wp2_with fail
        go_quiet ((go_at_call 72; exact Calls.quiet_of_same (unhide HCL _)))
        go_wp2
        go_ret
        exact ⟨by rw [unhide HQ]; rfl, unhide HWR _⟩
      | false =>
        have HD := hide (unhide HJY (by unfold bne; rw [hx]; rfl))
        clear HJY HJN
        go_wp2_with fail
        go_quiet ((go_at_call 72; exact Calls.quiet_of_same (unhide HCL _)))
        go_wp2
        go_roundw
        case rel => exact ⟨j + 1, by omega, by go_num, unhide HWR _, HD⟩
        case measure => simp [intOf]; omega
    · have HQ := hide (unhide HYES fun i hi => unhide hd i hi (by omega))
      clear hd HNO HROW HYES hwr
      go_wp2
      go_ret
      exact ⟨by rw [unhide HQ]; rfl, unhide HWR0⟩
end Go.Proofs.Ytiolpmhodbefoaa
