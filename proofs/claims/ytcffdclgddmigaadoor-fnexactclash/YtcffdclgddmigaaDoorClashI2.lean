import Derived.Test.YtcffdclgddmigaaDoorClashI
import Derived.Test.YtcffdclgddmigaaDoorPtrTokensLaw
namespace Go.Proofs.YtcffdclgddmigaaDoor
open Go.RowKit

def clashP (xs ys : List (List UInt8)) : Bool := xs.any fun x => ys.any fun y => leads x y
theorem clashP_only (a b : List ByteArray) : clashP (onlyP a) (onlyP b) = clash (a.map (·.data.toList)) (b.map (·.data.toList)) := by
  unfold clashP clash onlyP
  rw [List.any_map, List.any_filter, List.any_map]
  congr 1
  funext x
  simp only [Function.comp_apply]
  rw [List.any_map, List.any_filter, List.any_map]
  cases hx : (ptoks x.data.toList).isSome with
  | false =>
    have h : ∀ y, meet x.data.toList y = false := fun y => by unfold meet; rw [hx]; rfl
    simp [Function.comp_def, h]
  | true =>
    rw [Bool.true_and]
    congr 1
    funext y
    simp [meet, leads, hx]
def clashB (a b : List ByteArray) : Bool := if a.length ≤ 1000 ∧ b.length ≤ 1000 then clash (a.map (·.data.toList)) (b.map (·.data.toList)) else false

theorem getD_mem {l : List (List UInt8)} {k : Nat} (h : k < l.length) : l.getD k [] ∈ l := by simp [List.getD, h]

set_option maxHeartbeats 2000000 in
set_option maxRecDepth 100000 in
theorem implClash_walk (xa ya : Option Addr) (xb xo xc yb yo yc : Nat) (a b : List ByteArray) (w : World) (hML : ML w) (h : SS w xa xb xo a) (k : SS w ya yb yo b) (ha : a.length + tot a ≤ 1048576) (hb : b.length + tot b ≤ 1048576) :
    Calls Tryd.prog 7 #[.slice xa a.length xc, .slice ya b.length yc] w fun e w' => e = .returned (.bool (clashB a b)) ∧ Below w.heap.size w w' := by
  by_cases hla : a.length ≤ 1000
  · by_cases hlb : b.length ≤ 1000
    · have HR : Hid (clashB a b = clashP (onlyP a) (onlyP b)) := by show _ = _; rw [clashP_only]; unfold clashB; rw [if_pos ⟨hla, hlb⟩]
      have H1 := hide (only_walk xa xb xo xc a w hML h ha)
      have H2 : Hid (∀ w', Below w.heap.size w w' → Calls Tryd.prog 10 #[.slice ya b.length yc] w' fun e w2 => ∃ v, e = .returned v ∧ OT w2 w'.heap.size v (onlyP b) ∧ Below w'.heap.size w' w2) := fun w' h' => only_walk ya yb yo yc b w' (hML.below h') (k.below h') hb
      have hl1 := onlyP_len a
      have hl2 := onlyP_len b
      clear h k hML
      generalize onlyP a = ts at *
      generalize onlyP b = us at *
      go_enter Tryd.func7, Tryd.ntmps7
      go_wp2_with fail
      refine (unhide H1).mono ?_
      rintro e w1 ⟨v1, rfl, o1, b1⟩
      have H2' := hide (unhide H2 w1 b1)
      clear H1 H2
      go_wp2_with fail
      refine (unhide H2').mono ?_
      rintro e w2 ⟨v2, rfl, o2, b2⟩
      have o1' := own_below o1 b2
      have B2 := below_next b1 b2
      clear H2' o1 b1 b2
      obtain ⟨x1, g1, c1, rfl, s1, _⟩ := OT.shape o1'
      obtain ⟨x2, g2, c2, rfl, s2, _⟩ := OT.shape o2
      have a1 := s1.ad
      have a2 := s2.ad
      have C1 := hide s1.cell
      have C2 := hide s2.cell
      simp only [List.length_map] at a1 a2 C1 C2
      clear s1 s2 o1' o2
      go_wp2
      go_loopw [25] (fun i wr => ∃ n : Nat, n ≤ ts.length ∧ i = .int .i64 n ∧ (∀ j, j < n → ∀ m, m < us.length → leads (ts.getD j []) (us.getD m []) = false) ∧ w2 = wr) (fun i _ => ts.length - (intOf i).toNat)
      case atStart => exact ⟨0, Nat.zero_le _, rfl, fun j hj => by omega, rfl⟩
      case round =>
        obtain ⟨n, hn, rfl, hno, rfl⟩ := hrel
        have HN := hide hno
        clear hno
        by_cases hlt : n < ts.length
        · have hcx := unhide C1 n hlt
          rw [ss_getD hlt, Nat.zero_add] at hcx
          obtain rfl := a1 (by omega)
          have hltI : (n : Int) < (ts.length : Int) := by omega
          clear a1
          have HX : Hid (∀ m, m < us.length → leads (ts.getD n []) (us.getD m []) = true → clashP ts us = true) := fun m hm e => by
            unfold clashP
            rw [List.any_eq_true]
            refine ⟨_, getD_mem hlt, ?_⟩
            rw [List.any_eq_true]
            exact ⟨_, getD_mem hm, e⟩
          generalize hp : ts.getD n [] = p at *
          have HP := hide hp
          clear hp
          go_wp2
          go_loopw [31] (fun i wr => ∃ m : Nat, m ≤ us.length ∧ i = .int .i64 m ∧ (∀ j, j < m → leads p (us.getD j []) = false) ∧ w2 = wr) (fun i _ => us.length - (intOf i).toNat)
          case atStart => exact ⟨0, Nat.zero_le _, rfl, fun j hj => by omega, rfl⟩
          case round =>
            obtain ⟨m, hm, rfl, hno2, rfl⟩ := hrel
            have HM := hide hno2
            clear hno2
            by_cases hlt2 : m < us.length
            · have hcy := unhide C2 m hlt2
              rw [ss_getD hlt2, Nat.zero_add] at hcy
              obtain rfl := a2 (by omega)
              have hltJ : (m : Int) < (us.length : Int) := by omega
              have HX' := hide (unhide HX m hlt2)
              have HM' : Hid (leads p (us.getD m []) = false → ∀ j, j < m + 1 → leads p (us.getD j []) = false) := fun e j hj => by
                by_cases ej : j = m
                · subst ej; exact e
                · exact unhide HM j (by omega)
              clear a2 HM HX HN
              generalize us.getD m [] = q at *
              have L1 : Hid (Calls Tryd.prog 11 #[.string (baT p), .string (baT q)] w2 fun e w' => e = .returned (.bool (leads p q)) ∧ w2 = w') := hide (by
                have := meet_walk (baT p) (baT q) w2
                simpa [baT] using this)
              cases h1 : leads p q with
              | true =>
                rw [h1] at L1
                have HZ : Hid (clashP ts us = true) := unhide HX' h1
                clear h1 HX' HM'
                go_wp2_with fail
                refine (unhide L1).mono ?_
                rintro e w3 ⟨rfl, rfl⟩
                go_wp2
                go_ret
                exact ⟨by rw [unhide HR, unhide HZ]; rfl, B2⟩
              | false =>
                rw [h1] at L1
                have HZ := hide (unhide HM' h1)
                clear h1 HX' HM'
                go_wp2_with fail
                refine (unhide L1).mono ?_
                rintro e w3 ⟨rfl, rfl⟩
                clear L1
                go_wp2
                go_roundw
                case rel => exact ⟨m + 1, by omega, by go_num, unhide HZ, trivial⟩
                case measure => simp [intOf]; omega
            · have HM' : Hid (∀ j, j < n + 1 → ∀ m, m < us.length → leads (ts.getD j []) (us.getD m []) = false) := fun j hj m' hm' => by
                by_cases ej : j = n
                · subst ej; rw [unhide HP]; exact unhide HM m' (by omega)
                · exact unhide HN j (by omega) m' hm'
              clear a2 HM HX HN
              go_wp2
              go_roundw
              case rel => exact ⟨n + 1, by omega, by go_num, unhide HM', trivial⟩
              case measure => simp [intOf]; omega
        · have HZ : Hid (clashP ts us = false) := by
            show _ = _
            unfold clashP
            rw [List.any_eq_false]
            intro x hx
            rw [Bool.not_eq_true, List.any_eq_false]
            intro y hy
            obtain ⟨j, hj, rfl⟩ := List.getElem_of_mem hx
            obtain ⟨m, hm, rfl⟩ := List.getElem_of_mem hy
            have := unhide HN j (by omega) m hm
            rw [Bool.not_eq_true]
            simpa [List.getD, hj, hm] using this
          clear a1 a2 HN
          go_wp2
          go_ret
          exact ⟨by rw [unhide HR, unhide HZ]; rfl, B2⟩
    · have HR : Hid (clashB a b = false) := by show _ = _; unfold clashB; rw [if_neg (fun e => hlb e.2)]
      have t1 : ¬ (1000 : Int) < (a.length : Int) := by omega
      have t2 : (1000 : Int) < (b.length : Int) := by omega
      go_enter Tryd.func7, Tryd.ntmps7
      go_wp2
      go_ret
      exact ⟨by rw [unhide HR]; rfl, Below.refl _ _⟩
  · have HR : Hid (clashB a b = false) := by show _ = _; unfold clashB; rw [if_neg (fun e => hla e.1)]
    have t1 : (1000 : Int) < (a.length : Int) := by omega
    go_enter Tryd.func7, Tryd.ntmps7
    go_wp2
    go_ret
    exact ⟨by rw [unhide HR]; rfl, Below.refl _ _⟩
end Go.Proofs.YtcffdclgddmigaaDoor
