import Derived.BigQuiet
import Derived.Test.YtcjajchfjoffnaaGreatDoorBst22
import Derived.Test.YtcjajchfjoffnaaGreatDoorBst25
namespace Go.Proofs.YtcjajchfjoffnaaGreatDoor
open Go.RowKit

theorem lessB (a b : ByteArray) : Op.bytesLess a.toList b.toList = decide (a.data.toList < b.data.toList) := by
  rw [bytesLess_eq, ByteArray.toList_eq, ByteArray.toList_eq]
set_option maxRecDepth 100000 in
set_option maxHeartbeats 4000000 in
theorem goodTouched_walk (v : Value) (ss : List ByteArray) (bl : List Nat) (w : World) (h : OStr w v ss bl) (hML : ML w) (hp : ∀ s ∈ ss, s.size ≤ 1048576) :
    Calls Tryz.prog 85 #[v] w fun e w' => e = .returned (.bool (touchOk ss)) ∧ Below w.heap.size w w' := by
  have hln : ss.length ≤ 9223372036854775807 := by have := h.len; unfold maxLen at this; omega
  obtain ⟨xa, xc, rfl, hxf, hxa⟩ := h.form
  clear hxf
  have H := hide h
  have HXA := hide hxa
  have HML := hide hML
  clear h hxa hML
  by_cases h1 : 1000 < ss.length
  · have HZ : Hid (touchOk ss = false) := touchOk_no (by rintro ⟨h, _⟩; omega)
    have t1 : (1000 : Int) < (ss.length : Int) := by omega
    go_enter Tryz.func85, Tryz.ntmps85
    go_wp2
    go_ret
    exact ⟨by rw [unhide HZ]; rfl, Below.refl _ _⟩
  · have t1 : ¬ (1000 : Int) < (ss.length : Int) := by omega
    go_enter Tryz.func85, Tryz.ntmps85
    go_wp2
    go_loopw [10] (fun i wr => ∃ k : Nat, k ≤ ss.length ∧ i = .int .i64 k ∧ Below w.heap.size w wr ∧ (∀ j (h : j + 1 < ss.length), j + 1 < k → ss[j].data.toList < ss[j + 1].data.toList) ∧ ∀ j (h : j < ss.length), j < k → (ptoks ss[j].data.toList).isSome = true) (fun i _ => ss.length - (intOf i).toNat)
    case atStart => exact ⟨0, Nat.zero_le _, rfl, Below.refl _ _, fun j _ h => by omega, fun j _ h => by omega⟩
    case round =>
      obtain ⟨k, hk, rfl, hb, hup, hall⟩ := hrel
      have HALL := hide hall
      have HUP := hide hup
      have HBR := hide hb
      by_cases hlt : k < ss.length
      · have hltI : (k : Int) < (ss.length : Int) := by omega
        have row := (ostr_iff.1 ((unhide H).below hb)).1
        obtain ⟨gt, rfl⟩ := unhide HXA (by omega)
        have ck : ∀ j (hj : j < ss.length), wr.cell? ⟨gt, j, none⟩ = some (.string ss[j]) := fun j hj => by
          rw [row.cellAt j (by simpa using hj), List.getElem?_map, List.getElem?_eq_getElem hj]; rfl
        have HCK := hide ck
        have gl : gt < wr.heap.size := World.block_lt_of_cell? _ _ (ck k hlt)
        have ck1 := ck k hlt
        have HP : Hid (∀ wx, Below wr.heap.size wr wx → Calls Tryz.prog 127 #[.string ss[k]] wx fun e w' => e = .returned (.bool (ptoks ss[k].data.toList).isSome) ∧ Below wx.heap.size wx w') := fun wx hx => isPtr_walk ss[k] wx ((unhide HML).below (below_next (unhide HBR) hx)) (hp ss[k] (List.getElem_mem hlt))
        clear hup hall hb row ck
        cases hpk : (ptoks ss[k].data.toList).isSome with
        | false =>
          rw [hpk] at HP
          have HZ : Hid (touchOk ss = false) := touchOk_no (by rintro ⟨_, _, h⟩; rw [h k hlt] at hpk; cases hpk)
          generalize ss[k] = sk at *
          clear hpk
          go_wp2_with fail
          refine (unhide HP _ (Below.refl _ _)).mono ?_
          rintro e w2 ⟨rfl, b2⟩
          have HB2 := hide (below_next (unhide HBR) b2)
          clear b2 HP ck1
          go_wp2
          go_ret
          exact ⟨by rw [unhide HZ]; rfl, unhide HB2⟩
        | true =>
          rw [hpk] at HP
          have HALL2 : Hid (∀ j (h : j < ss.length), j < k + 1 → (ptoks ss[j].data.toList).isSome = true) := fun j h hj => by
            by_cases e : j = k
            · subst e; exact hpk
            · exact unhide HALL j h (by omega)
          clear hpk
          by_cases hk0 : k = 0
          · subst hk0
            have HUP2 : Hid (∀ j (h : j + 1 < ss.length), j + 1 < 0 + 1 → ss[j].data.toList < ss[j + 1].data.toList) := fun j _ hj => by omega
            generalize ss[0] = sk at *
            go_wp2_with fail
            refine (unhide HP _ (Below.refl _ _)).mono ?_
            rintro e w2 ⟨rfl, b2⟩
            have HB2 := hide (below_next (unhide HBR) b2)
            clear b2 HP ck1
            go_wp2
            go_roundw
            case rel => exact ⟨1, by omega, by go_num, unhide HB2, unhide HUP2, unhide HALL2⟩
            case measure => simp [intOf]; omega
          · have hk0I : (0 : Int) < (k : Int) := by omega
            have ckp : wr.cell? ⟨gt, k - 1, none⟩ = some (.string ss[k - 1]) := unhide HCK (k - 1) (by omega)
            have hls := lessB ss[k - 1] ss[k]
            have hkI : ((k - 1 : Nat) : Int) = (k : Int) - 1 := by omega
            have hkl : k - 1 < ss.length := by omega
            by_cases hlo : ss[k - 1].data.toList < ss[k].data.toList
            · rw [decide_eq_true hlo] at hls
              have HUP2 : Hid (∀ j (h : j + 1 < ss.length), j + 1 < k + 1 → ss[j].data.toList < ss[j + 1].data.toList) := fun j h hj => by
                by_cases e : j + 1 = k
                · subst e; exact hlo
                · exact unhide HUP j h (by omega)
              clear hlo
              generalize ss[k] = sk at *
              generalize ss[k - 1] = sp at *
              go_wp2_with fail
              refine (unhide HP _ (Below.refl _ _)).mono ?_
              rintro e w2 ⟨rfl, b2⟩
              have HB2 := hide (below_next (unhide HBR) b2)
              have ckp2 := (b2.cell (p := ⟨gt, k - 1, none⟩) gl).trans ckp
              clear b2 HP ck1 ckp
              go_wp2
              go_roundw
              case rel => exact ⟨k + 1, by omega, by go_num, unhide HB2, unhide HUP2, unhide HALL2⟩
              case measure => simp [intOf]; omega
            · rw [decide_eq_false hlo] at hls
              have HZ : Hid (touchOk ss = false) := touchOk_no (by
                rintro ⟨_, h, _⟩
                have := h (k - 1) (by omega)
                simp only [show k - 1 + 1 = k by omega] at this
                exact hlo this)
              clear hlo
              generalize ss[k] = sk at *
              generalize ss[k - 1] = sp at *
              go_wp2_with fail
              refine (unhide HP _ (Below.refl _ _)).mono ?_
              rintro e w2 ⟨rfl, b2⟩
              have HB2 := hide (below_next (unhide HBR) b2)
              have ckp2 := (b2.cell (p := ⟨gt, k - 1, none⟩) gl).trans ckp
              clear b2 HP ck1 ckp
              go_wp2
              go_ret
              exact ⟨by rw [unhide HZ]; rfl, unhide HB2⟩
      · have HZ : Hid (touchOk ss = true) := touchOk_iff.2 ⟨by omega, fun j h => hup j h (by omega), fun j h => hall j h (by omega)⟩
        clear hup hall hb
        go_wp2
        go_ret
        exact ⟨by rw [unhide HZ]; rfl, unhide HBR⟩
set_option maxRecDepth 100000 in
set_option maxHeartbeats 2000000 in
theorem mayFollow0_walk (no : Int) (w : World) :
    Calls Tryz.prog 84 #[.pointer none, .int .i64 no] w fun e w' => e = .returned (.bool (decide (0 ≤ no) && decide (no ≤ 1000000))) ∧ Below w.heap.size w w' := by
  by_cases h0 : 0 ≤ no
  · have t0 : decide (0 ≤ no) = true := decide_eq_true h0
    go_enter Tryz.func84, Tryz.ntmps84
    go_wp2
    go_ret
    exact ⟨by simp [h0], Below.refl _ _⟩
  · have t0 : decide (0 ≤ no) = false := decide_eq_false h0
    go_enter Tryz.func84, Tryz.ntmps84
    go_wp2
    go_ret
    exact ⟨by simp, Below.refl _ _⟩
set_option maxRecDepth 100000 in
set_option maxHeartbeats 2000000 in
theorem mayFollow1_walk (b : Nat) (n no : Int) (w : World) (hc : w.cell? ⟨b, 0, none⟩ = some (.int .i64 n)) (h0 : 0 ≤ n) (h1 : n ≤ 2000000) :
    Calls Tryz.prog 84 #[.pointer (some ⟨b, 0, none⟩), .int .i64 no] w fun e w' => e = .returned (.bool (no == n + 1)) ∧ Below w.heap.size w w' := by
  go_enter Tryz.func84, Tryz.ntmps84
  go_wp2
  go_ret
  exact ⟨rfl, Below.refl _ _⟩
end Go.Proofs.YtcjajchfjoffnaaGreatDoor
