import Derived.Test.YtcffdclgddmigaaDoorClashI2
import Derived.Test.YtcffdclgddmigaaDoorWithin
namespace Go.Proofs.YtcffdclgddmigaaDoor
open Go.RowKit

set_option maxHeartbeats 2000000 in
set_option maxRecDepth 100000 in
theorem specClash_walk (xa ya : Option Addr) (xb xo xc yb yo yc : Nat) (a b : List ByteArray) (w : World) (h : SS w xa xb xo a) (k : SS w ya yb yo b) (ha : a.length + tot a ≤ 1048576) (hb : b.length + tot b ≤ 1048576) :
    Calls Tryd.prog 5 #[.slice xa a.length xc, .slice ya b.length yc] w fun e w' => e = .returned (.bool (clashB a b)) ∧ Below w.heap.size w w' := by
  by_cases hla : a.length ≤ 1000
  · by_cases hlb : b.length ≤ 1000
    · have HR : Hid (clashB a b = clash (a.map (·.data.toList)) (b.map (·.data.toList))) := by show _ = _; unfold clashB; rw [if_pos ⟨hla, hlb⟩]
      have HH := hide h
      have HK := hide k
      have a1 := h.ad
      have a2 := k.ad
      have HA := hide ha
      have HB := hide hb
      clear h k ha hb
      go_enter Tryd.func5, Tryd.ntmps5
      go_wp2
      go_loopw [5] (fun i wr => ∃ n : Nat, n ≤ a.length ∧ i = .int .i64 n ∧ (∀ j, j < n → ∀ m, m < b.length → meet (a.getD j ByteArray.empty).data.toList (b.getD m ByteArray.empty).data.toList = false) ∧ Below w.heap.size w wr) (fun i _ => a.length - (intOf i).toNat)
      case atStart => exact ⟨0, Nat.zero_le _, rfl, fun j hj => by omega, Below.refl _ _⟩
      case round =>
        obtain ⟨n, hn, rfl, hno, B⟩ := hrel
        have HN := hide hno
        clear hno
        by_cases hlt : n < a.length
        · obtain rfl := a1 (by omega)
          have hltI : (n : Int) < (a.length : Int) := by omega
          have hz1 : (a.getD n ByteArray.empty).size ≤ 1048576 := by have := tot_ge hlt; have := unhide HA; omega
          clear a1
          have HX : Hid (∀ m, m < b.length → meet (a.getD n ByteArray.empty).data.toList (b.getD m ByteArray.empty).data.toList = true → clash (a.map (·.data.toList)) (b.map (·.data.toList)) = true) := fun m hm e => by
            unfold clash
            rw [List.any_map, List.any_eq_true]
            refine ⟨a.getD n ByteArray.empty, by simp [List.getD, hlt], ?_⟩
            simp only [Function.comp_apply]
            rw [List.any_map, List.any_eq_true]
            exact ⟨b.getD m ByteArray.empty, by simp [List.getD, hm], e⟩
          have CX : Hid (∀ X : World, Below w.heap.size w X → X.cell? ⟨xb, xo + n, none⟩ = some (.string (a.getD n ByteArray.empty))) := fun X hX => ((unhide HH).below hX).cell n hlt
          generalize hp : a.getD n ByteArray.empty = p at *
          have HP := hide hp
          clear hp
          have HB0 := hide B
          clear B
          go_wp2
          go_loopw [6] (fun i wr => ∃ m : Nat, m ≤ b.length ∧ i = .int .i64 m ∧ (∀ j, j < m → meet p.data.toList (b.getD j ByteArray.empty).data.toList = false) ∧ Below w.heap.size w wr) (fun i _ => b.length - (intOf i).toNat)
          case atStart => exact ⟨0, Nat.zero_le _, rfl, fun j hj => by omega, unhide HB0⟩
          case round =>
            obtain ⟨m, hm, rfl, hno2, B⟩ := hrel
            have HM := hide hno2
            clear hno2 HB0
            by_cases hlt2 : m < b.length
            · obtain rfl := a2 (by omega)
              have hltJ : (m : Int) < (b.length : Int) := by omega
              have hz2 : (b.getD m ByteArray.empty).size ≤ 1048576 := by have := tot_ge hlt2; have := unhide HB; omega
              have c1 := unhide CX _ B.drew
              have c2 := ((unhide HK).below B.drew).cell m hlt2
              have HX' := hide (unhide HX m hlt2)
              have HM' : Hid (meet p.data.toList (b.getD m ByteArray.empty).data.toList = false → ∀ j, j < m + 1 → meet p.data.toList (b.getD j ByteArray.empty).data.toList = false) := fun e j hj => by
                by_cases ej : j = m
                · subst ej; exact e
                · exact unhide HM j (by omega)
              clear a2 HM HX HN HH HK CX
              generalize b.getD m ByteArray.empty = q at *
              have HW : Hid (∀ w, Calls Tryd.prog 9 #[.string p, .string q] w fun e w' => e = .returned (.int .i64 (wSpec (ptoks p.data.toList) (ptoks q.data.toList))) ∧ Below w.heap.size w w') := fun w => specWithin_walk p q w hz1 hz2
              have hmw := meet_w p.data.toList q.data.toList
              generalize wSpec (ptoks p.data.toList) (ptoks q.data.toList) = z at *
              have HMW := hide hmw
              clear hmw
              have HB1 := hide B
              clear B
              by_cases hz : 0 < z
              · have HZ := hide (unhide HX' (by rw [unhide HMW]; exact decide_eq_true hz))
                clear HX' HM' HMW
                go_wp2_with fail
                go_region_law (go_simp; refine (unhide HW _).mono ?_; rintro e w2 ⟨rfl, b2⟩; have B2 := below_next ((unhide HB1).drew) b2)
                all_goals
                  clear b2 HW HB1 c1 c2
                  go_wp2
                  go_ret
                  exact ⟨by rw [unhide HR, unhide HZ]; rfl, B2⟩
              · have HZ := hide (unhide HM' (by rw [unhide HMW]; exact decide_eq_false hz))
                clear HX' HM' HMW
                go_wp2_with fail
                go_region_law (go_simp; refine (unhide HW _).mono ?_; rintro e w2 ⟨rfl, b2⟩; have B2 := below_next ((unhide HB1).drew) b2)
                all_goals
                  clear b2 HW HB1 c1 c2
                  go_wp2
                  go_roundw
                all_goals first
                  | exact ⟨m + 1, by omega, by go_num, unhide HZ, B2⟩
                  | (simp [intOf]; omega)
            · have HM' : Hid (∀ j, j < n + 1 → ∀ m, m < b.length → meet (a.getD j ByteArray.empty).data.toList (b.getD m ByteArray.empty).data.toList = false) := fun j hj m' hm' => by
                by_cases ej : j = n
                · subst ej; rw [unhide HP]; exact unhide HM m' (by omega)
                · exact unhide HN j (by omega) m' hm'
              clear a2 HM HX HN HH HK CX
              go_wp2
              go_roundw
              case rel => exact ⟨n + 1, by omega, by go_num, unhide HM', B⟩
              case measure => simp [intOf]; omega
        · have HZ : Hid (clash (a.map (·.data.toList)) (b.map (·.data.toList)) = false) := by
            show _ = _
            unfold clash
            rw [List.any_map, List.any_eq_false]
            intro x hx
            rw [Bool.not_eq_true]
            simp only [Function.comp_apply]
            rw [List.any_map, List.any_eq_false]
            intro y hy
            obtain ⟨j, hj, rfl⟩ := List.getElem_of_mem hx
            obtain ⟨m, hm, rfl⟩ := List.getElem_of_mem hy
            have := unhide HN j (by omega) m hm
            rw [Bool.not_eq_true]
            simpa [List.getD, hj, hm] using this
          clear a1 a2 HN HH HK
          go_wp2
          go_ret
          exact ⟨by rw [unhide HR, unhide HZ]; rfl, B⟩
    · have HR : Hid (clashB a b = false) := by show _ = _; unfold clashB; rw [if_neg (fun e => hlb e.2)]
      have t1 : ¬ (1000 : Int) < (a.length : Int) := by omega
      have t2 : (1000 : Int) < (b.length : Int) := by omega
      clear h k
      go_enter Tryd.func5, Tryd.ntmps5
      go_wp2
      go_ret
      exact ⟨by rw [unhide HR]; rfl, Below.refl _ _⟩
  · have HR : Hid (clashB a b = false) := by show _ = _; unfold clashB; rw [if_neg (fun e => hla e.1)]
    have t1 : (1000 : Int) < (a.length : Int) := by omega
    clear h k
    go_enter Tryd.func5, Tryd.ntmps5
    go_wp2
    go_ret
    exact ⟨by rw [unhide HR]; rfl, Below.refl _ _⟩
end Go.Proofs.YtcffdclgddmigaaDoor
