import Derived.Test.YtadefcohbkgbfaaDoorDrawPtr
import Derived.Test.YtadefcohbkgbfaaDoorSame4
import Derived.Test.YtadefcohbkgbfaaDoorPtrRound
import Derived.Test.YtadefcohbkgbfaaDoorPtrImpl
import Derived.Test.YtadefcohbkgbfaaDoorWithinI
namespace Go.Proofs.YtadefcohbkgbfaaDoor
open Go.RowKit

/-- The pointer's text of tokens. -/
def txt (ts : List (List UInt8)) : ByteArray := ⟨(ptrText (ts.map baT)).toArray⟩
theorem textT_walk {B : Nat} (v : Value) (ts : List (List UInt8)) (w : World) (h : OT w B v ts) (hl : ts.length ≤ 1000) (hs : Small ts) :
    Calls Tryd.prog 18 #[v] w fun e w' => e = .returned (.string (txt ts)) ∧ Below w.heap.size w w' := by
  obtain ⟨a, g, cap, rfl, hss, _⟩ := h.shape
  have e : ts.length = (ts.map baT).length := by simp
  have := tot_small ts hs
  rw [e]
  exact implText_walk a g 0 cap (ts.map baT) w hss (by rw [← e]; omega)
theorem sameT_walk {B1 B2 : Nat} (v u : Value) (ts : List (List UInt8)) (w : World) (h : OT w B1 v ts) (k : OT w B2 u ts) (hl : ts.length ≤ 9223372036854775807) :
    Calls Tryd.prog 19 #[v, u] w fun e w' => e = .returned (.bool true) ∧ ∃ n, w' = w.drewN n := by
  obtain ⟨a, g, cap, rfl, hs, _⟩ := h.shape
  obtain ⟨a', g', cap', rfl, hs', _⟩ := k.shape
  have e : ts.length = (ts.map baT).length := by simp
  rw [e]
  exact same_walk a a' g 0 cap g' 0 cap' (ts.map baT) w hs hs' (by omega)
theorem text_size (ts : List (List UInt8)) (hl : ts.length ≤ 1000) (hs : Small ts) : (⟨(ptrText (ts.map baT)).toArray⟩ : ByteArray).size ≤ 1048576 := by
  have h1 := ptrText_le (ts.map baT)
  have h2 := tot_small ts hs
  have e : (⟨(ptrText (ts.map baT)).toArray⟩ : ByteArray).size = (ptrText (ts.map baT)).length := by show (ptrText (ts.map baT)).toArray.size = _; simp
  rw [e]; rw [List.length_map] at h1; omega
theorem backT_walk (ts : List (List UInt8)) (w : World) (hML : ML w) (hl : ts.length ≤ 1000) (hs : Small ts) :
    Calls Tryd.prog 13 #[.string (txt ts)] w fun e w' => ∃ v, e = .returned (.tuple #[v, .bool true]) ∧ OT w' w.heap.size v ts ∧ Below w.heap.size w w' := by
  have h := implToks_walk ⟨(ptrText (ts.map baT)).toArray⟩ w hML (text_size ts hl hs)
  have e : ptoks (⟨(ptrText (ts.map baT)).toArray⟩ : ByteArray).data.toList = some ts := by
    show ptoks (ptrText (ts.map baT)).toArray.toList = _; rw [List.toList_toArray]; exact ptoks_text ts
  rw [e] at h; exact h
theorem withinT_walk (ts us : List (List UInt8)) (w : World) (hML : ML w) (hl : ts.length ≤ 1000) (hs : Small ts) (hl2 : us.length ≤ 1000) (hs2 : Small us) :
    Calls Tryd.prog 11 #[.string (txt ts), .string (txt us)] w fun e w' => e = .returned (.int .i64 (wSpec (some ts) (some us))) ∧ Below w.heap.size w w' := by
  have h := implWithin_walk ⟨(ptrText (ts.map baT)).toArray⟩ ⟨(ptrText (us.map baT)).toArray⟩ w hML (text_size ts hl hs) (text_size us hl2 hs2)
  have e : ∀ ts : List (List UInt8), ptoks (⟨(ptrText (ts.map baT)).toArray⟩ : ByteArray).data.toList = some ts := fun ts => by
    show ptoks (ptrText (ts.map baT)).toArray.toList = _; rw [List.toList_toArray]; exact ptoks_text ts
  rw [e, e] at h; exact h

set_option maxHeartbeats 2000000 in
set_option maxRecDepth 100000 in
theorem pointerLaw_walk (xa : Option Addr) (xb xo xc : Nat) (l : List UInt8) (ya : Option Addr) (yb yo yc : Nat) (m : List UInt8) (w : World) (h : BS w xa xb xo l) (hlc : l.length ≤ xc) (k : BS w ya yb yo m) (hmc : m.length ≤ yc) (hML : ML w) :
    Calls Tryd.prog 6 #[.slice xa l.length xc, .slice ya m.length yc] w fun e w' => e = .returned (.bool true) ∧ Below w.heap.size w w' := by
  obtain ⟨i0, hi, hz0, hz1, hz2⟩ := info_parts infoString
  by_cases hl : l.length ≤ 1048576
  · by_cases hm : m.length ≤ 1048576
    · have HD := hide (drawPtr_walk xa xb xo xc l w h hl hlc)
      have HK := hide k
      clear h k
      go_enter Tryd.func6, Tryd.ntmps6
      go_wp2_with fail
      refine (unhide HD).mono ?_
      rintro e w1 ⟨v1, ts, rfl, o1, l1, s1, b1⟩
      have O1 := hide o1
      have HS := hide s1
      clear HD o1 s1
      have HD2 := hide (drawPtr_walk ya yb yo yc m w1 ((unhide HK).below b1) hm hmc)
      clear HK
      go_wp2_with fail
      refine (unhide HD2).mono ?_
      rintro e w2 ⟨v2, us, rfl, o2, l2, s2, b2⟩
      have o1' : OT w2 w.heap.size v1 ts := own_below (unhide O1) b2
      have HS2 := hide s2
      have O2 := hide o2
      have O1' := hide o1'
      have B2 := below_next b1 b2
      clear HD2 s2 o2 o1' b1 b2 O1
      have HT := hide (textT_walk v1 ts w2 (unhide O1') (by omega) (unhide HS))
      go_wp2_with fail
      refine (unhide HT).mono ?_
      rintro e w3 ⟨rfl, b3⟩
      have o1' : OT w3 w.heap.size v1 ts := own_below (unhide O1') b3
      have o2' : OT w3 w1.heap.size v2 us := own_below (unhide O2) b3
      have B3 := below_next B2 b3
      have HSJ : Hid (Small (ts ++ us)) := fun q hq => by
        rcases List.mem_append.1 hq with hq | hq
        · exact unhide HS q hq
        · exact unhide HS2 q hq
      have hw3 := B3.size
      have HML := hide (hML.below B3)
      have HO0 : OT (w3.alloc (.cells #[] 9)) w3.heap.size (.slice (some ⟨w3.heap.size, 0, none⟩) 0 0) [] := World.ownsRow_lit w3 #[] 0 (Nat.le_refl _) (by unfold maxLen; omega) rfl
      have B3a : Below w3.heap.size w3 (w3.alloc (.cells #[] 9)) := (Below.refl _ _).alloc (Nat.le_refl _) _
      have o1a : OT (w3.alloc (.cells #[] 9)) w.heap.size v1 ts := own_below o1' B3a
      have o2a : OT (w3.alloc (.cells #[] 9)) w1.heap.size v2 us := own_below o2' B3a
      have O2' := hide o2'
      clear HT O1' O2 b3 B2 o1' o2'
      go_wp2_with (at_builtin; refine wpList_append_OT rfl (.tmp 27) (.tmp 28) rfl rfl rfl HO0 o1a (by simp) (by simp; omega) ?_)
      intro v4 w4 o4 g4
      have b4 : Below w3.heap.size w3 w4 := B3a.grown g4 (by simp) (fun k e => (HO0.lt k e).1)
      have o2b : OT w4 w1.heap.size v2 us := own_below (unhide O2') b4
      replace o4 : OT w4 w3.heap.size v4 ts := o4
      clear HO0 B3a o1a o2a g4
      go_wp2_with (at_builtin; refine wpList_append_OT rfl (.tmp 30) (.tmp 31) rfl rfl rfl o4 o2b b4.size (by omega) ?_)
      intro v5 w5 o5 g5
      have b5 : Below w3.heap.size w3 w5 := b4.grown g5 b4.size (fun k e => (o4.lt k e).1)
      have B5 := below_next B3 b5
      have O5 := hide o5
      have o2c : OT w5 w1.heap.size v2 us := own_below (unhide O2') b5
      obtain ⟨a2, g2, cap2, rfl, _, _⟩ := o2c.shape
      clear o4 o2b b4 g5 o5 b5 o2c
      have hjl : (ts ++ us).length ≤ 1000 := by simp; omega
      have HT := hide (textT_walk v5 (ts ++ us) w5 (unhide O5) hjl (unhide HSJ))
      go_wp2_with fail
      refine (unhide HT).mono ?_
      rintro e w6 ⟨rfl, b6⟩
      have O6 : Hid (OT w6 w3.heap.size v5 (ts ++ us)) := own_below (unhide O5) b6
      have B6 := below_next B5 b6
      clear HT O5 b6 B5
      have HT := hide (backT_walk (ts ++ us) w6 (hML.below B6) hjl (unhide HSJ))
      go_wp2_with fail
      refine (unhide HT).mono ?_
      rintro e w7 ⟨v7, rfl, o7, b7⟩
      have B7 := below_next B6 b7
      have O7 := hide o7
      have O6' : Hid (OT w7 w3.heap.size v5 (ts ++ us)) := own_below (unhide O6) b7
      clear HT o7 b7 O6
      have HT := hide (sameT_walk v7 v5 (ts ++ us) w7 (unhide O7) (unhide O6') (by omega))
      go_wp2_with fail
      refine (unhide HT).mono ?_
      rintro e w8 ⟨rfl, n8, rfl⟩
      have B8 : Below w.heap.size w (w7.drewN n8) := B7.trans ⟨rfl, rfl, rfl, Nat.le_refl _, fun _ _ => rfl⟩
      clear HT O7 O6' B6
      generalize w7.drewN n8 = w8 at *
      have HW : Hid (∀ W, ML W → Calls Tryd.prog 11 #[.string (txt ts), .string (txt (ts ++ us))] W fun e w' => e = .returned (.int .i64 (wSpec (some ts) (some (ts ++ us)))) ∧ Below W.heap.size W w') := fun W h => withinT_walk ts (ts ++ us) W h (by omega) (unhide HS) hjl (unhide HSJ)
      have HV : Hid (∀ W, ML W → Calls Tryd.prog 11 #[.string (txt (ts ++ us)), .string (txt ts)] W fun e w' => e = .returned (.int .i64 (wSpec (some (ts ++ us)) (some ts))) ∧ Below W.heap.size W w') := fun W h => withinT_walk (ts ++ us) ts W h hjl (unhide HSJ) (by omega) (unhide HS)
      have HML8 := hide (hML.below B8)
      have HMLB : Hid (∀ w', Below w.heap.size w w' → ML w') := fun w' b => hML.below b
      generalize txt ts = ta at *
      generalize txt (ts ++ us) = tb at *
      by_cases hu : us.length = 0
      · have e0 : us = [] := List.eq_nil_of_length_eq_zero hu
        subst e0
        rw [wS_eq] at HW
        rw [wS_eq'] at HV
        go_wp2_with fail
        refine (unhide HW _ (unhide HML8)).mono ?_
        rintro e w9 ⟨rfl, b9⟩
        have B9 := below_next B8 b9
        go_wp2_with fail
        refine (unhide HV _ (unhide HMLB _ B9)).mono ?_
        rintro e w10 ⟨rfl, b10⟩
        have B10 := below_next B9 b10
        go_wp2
        go_ret
        exact ⟨rfl, B10⟩
      · have hp : 0 < us.length := by omega
        have tz : ((us.length : Int) == 0) = false := by rw [beq_eq_false_iff_ne]; omega
        rw [wS_lt ts hp] at HW
        rw [wS_gt ts hp] at HV
        go_wp2_with fail
        refine (unhide HW _ (unhide HML8)).mono ?_
        rintro e w9 ⟨rfl, b9⟩
        have B9 := below_next B8 b9
        go_wp2_with fail
        refine (unhide HV _ (unhide HMLB _ B9)).mono ?_
        rintro e w10 ⟨rfl, b10⟩
        have B10 := below_next B9 b10
        go_wp2
        go_ret
        exact ⟨rfl, B10⟩
    · have hmI : (1048576 : Int) < (m.length : Int) := by omega
      have hlI : ¬ (1048576 : Int) < (l.length : Int) := by omega
      have hlB : decide ((1048576 : Int) < (l.length : Int)) = false := by simp; omega
      clear h k
      go_enter Tryd.func6, Tryd.ntmps6
      go_wp2
      go_ret
      exact ⟨rfl, Below.refl _ _⟩
  · have hlI : (1048576 : Int) < (l.length : Int) := by omega
    clear h k
    go_enter Tryd.func6, Tryd.ntmps6
    go_wp2
    go_ret
    exact ⟨rfl, Below.refl _ _⟩
end Go.Proofs.YtadefcohbkgbfaaDoor
