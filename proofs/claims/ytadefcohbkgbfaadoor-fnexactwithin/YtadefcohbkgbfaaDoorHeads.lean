import Derived.Test.YtadefcohbkgbfaaDoorTokRow
import Derived.Test.YtadefcohbkgbfaaDoorStrEq
namespace Go.Proofs.YtadefcohbkgbfaaDoor
open Go.RowKit

def pre (ts us : List (List UInt8)) : Bool := decide (ts.length ≤ us.length ∧ ∀ j, j < ts.length → ts.getD j [] = us.getD j [])

theorem ss_getD {ts : List (List UInt8)} {j : Nat} (h : j < ts.length) : (ts.map baT).getD j ByteArray.empty = baT (ts.getD j []) := by simp [h]
theorem baT_inj {a b : List UInt8} (h : baT a = baT b) : a = b := by
  have : (baT a).data.toList = (baT b).data.toList := by rw [h]
  simpa [baT] using this

set_option maxHeartbeats 400000 in
theorem heads_walk {B1 B2 : Nat} (v u : Value) (ts us : List (List UInt8)) (w : World) (h : OT w B1 v ts) (k : OT w B2 u us) (hl : ts.length ≤ 1048577) (hl2 : us.length ≤ 1048577) :
    Calls Tryd.prog 26 #[v, u] w fun e w' => e = .returned (.bool (pre ts us)) ∧ ∃ n, w' = w.drewN n := by
  obtain ⟨a, g, cap, rfl, hs, _⟩ := h.shape
  obtain ⟨a', g', cap', rfl, hs', _⟩ := k.shape
  have hax := hs.ad
  have hay := hs'.ad
  have HX := hide hs.cell
  have HY := hide hs'.cell
  rw [List.length_map] at hax hay
  simp only [List.length_map] at HX HY
  clear h k hs hs'
  by_cases hle : ts.length ≤ us.length
  · have hle' : ¬ (us.length : Int) < (ts.length : Int) := by omega
    go_enter Tryd.func26, Tryd.ntmps26
    go_wp2
    go_loopw [5] (fun i wr => ∃ m : Nat, m ≤ ts.length ∧ i = .int .i64 m ∧ (∀ j, j < m → ts.getD j [] = us.getD j []) ∧ ∃ n, wr = w.drewN n) (fun i _ => ts.length - (intOf i).toNat)
    case atStart => exact ⟨0, Nat.zero_le _, rfl, fun j hj => by omega, 0, rfl⟩
    case round =>
      obtain ⟨m, hm, rfl, hsame, n, rfl⟩ := hrel
      have HS := hide hsame
      clear hsame
      by_cases hlt : m < ts.length
      · have hlt2 : m < us.length := by omega
        have hcx := unhide HX m hlt
        have hcy := unhide HY m hlt2
        obtain rfl := hax (by omega)
        obtain rfl := hay (by omega)
        rw [ss_getD hlt] at hcx
        rw [ss_getD hlt2] at hcy
        have HP : Hid (ts.getD m [] ≠ us.getD m [] → pre ts us = false) := fun h => by
          unfold pre; rw [decide_eq_false_iff_not]; rintro ⟨_, hh⟩; exact h (hh m hlt)
        have HN : Hid (ts.getD m [] = us.getD m [] → ∀ j, j < m + 1 → ts.getD j [] = us.getD j []) := fun h j hj => by
          by_cases e : j = m
          · subst e; exact h
          · exact unhide HS j (by omega)
        clear hax hay HS
        generalize ts.getD m [] = p at *
        generalize us.getD m [] = q at *
        have hltI : (m : Int) < (ts.length : Int) := by omega
        have hltJ : (m : Int) < (us.length : Int) := by omega
        rw [Nat.zero_add] at hcx hcy
        by_cases hpq : p = q
        · subst hpq
          have HN' := hide (unhide HN rfl)
          go_wp2
          go_quiet (fail)
          go_wp2
          go_roundw
          case rel => exact ⟨m + 1, by omega, by go_num, unhide HN', _, by first | rfl | (simp [World.drewN_drewN])⟩
          case measure => simp [intOf]; omega
        · have HP' := hide (unhide HP hpq)
          have hne : ((baT p).toList == (baT q).toList) = false := by
            rw [beq_eq_false_iff_ne, Lib.toList_data, Lib.toList_data]; intro e; exact hpq (by simpa [baT] using e)
          go_wp2
          go_quiet (fail)
          go_wp2
          go_ret
          exact ⟨by rw [unhide HP']; rfl, _, World.drewN_drewN ..⟩
      · have HP : Hid (pre ts us = true) := by
          show _ = _; unfold pre; rw [decide_eq_true_iff]; exact ⟨hle, fun j hj => unhide HS j (by omega)⟩
        clear hax hay
        go_wp2
        go_ret
        exact ⟨by rw [unhide HP]; rfl, _, rfl⟩
  · have HP : Hid (pre ts us = false) := by
      show _ = _; unfold pre; rw [decide_eq_false_iff_not]; rintro ⟨h1, _⟩; exact hle h1
    have hle' : (us.length : Int) < (ts.length : Int) := by omega
    go_enter Tryd.func26, Tryd.ntmps26
    go_wp2
    go_ret
    exact ⟨by rw [unhide HP]; rfl, 0, rfl⟩
end Go.Proofs.YtadefcohbkgbfaaDoor
