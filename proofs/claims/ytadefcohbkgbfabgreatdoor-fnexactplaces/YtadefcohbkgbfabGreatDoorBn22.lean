import Derived.Test.YtadefcohbkgbfabGreatDoorBn21
import Derived.Test.YtadefcohbkgbfabGreatDoorBn14
import Derived.Test.YtadefcohbkgbfabGreatDoorBn1
namespace Go.Proofs.YtadefcohbkgbfabGreatDoor
open Go.RowKit

set_option maxRecDepth 100000 in
set_option maxHeartbeats 800000 in
theorem canonStr_walk (s : ByteArray) (w : World) (hs : s.size ≤ 10000000) :
    Calls Tryz.prog 29 #[.iface 45 (.string s)] w fun e w' => e = .returned (.string (strOf (34 :: (rs s ++ [34])))) ∧ Below w.heap.size w w' := by
  have HC := hide (strWrite_walk w.heap.size w.heap.size [] s (w.alloc (.cells #[.pointer none, .slice none 0 0] 81)) (Lib.fresh_isBuilder _ _ w) (by simp) (by simp) hs)
  rw [List.nil_append] at HC
  go_enter Tryz.func29, Tryz.ntmps29
  go_wp2_with fail
  refine (unhide HC).mono ?_
  rintro e w1 ⟨rfl, h1, b1, _⟩
  have B1 : Below w.heap.size w w1 := ((Below.refl _ _).alloc (Nat.le_refl _) _).trans b1
  have hw1 := B1.size
  have HS := hide (bldString w.heap.size w.heap.size (34 :: (rs s ++ [34])) w1 h1 hw1)
  clear h1 b1 HC
  go_wp2_with fail
  refine (unhide HS).mono ?_
  rintro e w2 ⟨rfl, b2⟩
  have B2 := B1.trans b2
  go_wp2
  go_ret
  exact ⟨rfl, B2⟩

/-- The answer of Quote. -/
def qRes (s : ByteArray) : Value := if s.size ≤ 20000 ∧ Lib.validD s.data.toList = true then .tuple #[.string (strOf (quoted s.data.toList)), .bool true] else .tuple #[.string ⟨#[]⟩, .bool false]

set_option maxHeartbeats 800000 in
theorem implQuote_walk (s : ByteArray) (w : World) (hs : s.size ≤ 1048576) (hT : Tabs w) :
    Calls Tryz.prog 9 #[.string s] w fun e w' => e = .returned (qRes s) ∧ Below w.heap.size w w' := by
  have HV : Hid (Calls Tryz.prog 28 #[.string s] w fun e w' => e = .returned (.bool (Lib.validD s.data.toList)) ∧ Below w.heap.size w w') := Any.utf8_ValidString Tryz.laysValid s w (by omega) hT
  by_cases hl : s.size ≤ 20000
  · have tl : ¬ (20000 : Int) < (s.size : Int) := by omega
    have tb : decide ((20000 : Int) < (s.size : Int)) = false := by simp; omega
    cases hv : Lib.validD s.data.toList with
    | true =>
      have HR : Hid (qRes s = .tuple #[.string (strOf (quoted s.data.toList)), .bool true]) := by show _ = _; unfold qRes; rw [if_pos ⟨hl, hv⟩]
      have HQ : Hid (34 :: (rs s ++ [34]) = quoted s.data.toList) := by show _ = _; rw [rs_eq s hv]; rfl
      have HC : Hid (∀ w, Calls Tryz.prog 29 #[.iface 45 (.string s)] w fun e w' => e = .returned (.string (strOf (quoted s.data.toList))) ∧ Below w.heap.size w w') := fun w => by
        have h := canonStr_walk s w (by omega)
        rw [unhide HQ] at h; exact h
      rw [hv] at HV
      generalize strOf (quoted s.data.toList) = qt at *
      clear hv HQ
      go_enter Tryz.func9, Tryz.ntmps9
      go_wp2_with fail
      refine (unhide HV).mono ?_
      rintro e w1 ⟨rfl, b1⟩
      go_wp2_with fail
      refine (unhide HC _).mono ?_
      rintro e w2 ⟨rfl, b2⟩
      have B2 := below_next b1 b2
      go_wp2
      go_ret2
      exact ⟨by rw [unhide HR]; rfl, B2⟩
    | false =>
      have HR : Hid (qRes s = .tuple #[.string ⟨#[]⟩, .bool false]) := by show _ = _; unfold qRes; rw [if_neg (fun h => by rw [hv] at h; cases h.2)]
      rw [hv] at HV
      clear hv
      go_enter Tryz.func9, Tryz.ntmps9
      go_wp2_with fail
      refine (unhide HV).mono ?_
      rintro e w1 ⟨rfl, b1⟩
      go_wp2
      go_ret2
      exact ⟨by rw [unhide HR]; rfl, b1⟩
  · have tl : (20000 : Int) < (s.size : Int) := by omega
    have HR : Hid (qRes s = .tuple #[.string ⟨#[]⟩, .bool false]) := by show _ = _; unfold qRes; rw [if_neg (fun h => hl h.1)]
    clear HV
    go_enter Tryz.func9, Tryz.ntmps9
    go_wp2
    go_ret2
    exact ⟨by rw [unhide HR]; rfl, Below.refl _ _⟩

set_option maxHeartbeats 800000 in
theorem specQuote_walk (s : ByteArray) (w : World) (hs : s.size ≤ 1048576) :
    Calls Tryz.prog 8 #[.string s] w fun e w' => e = .returned (qRes s) ∧ Below w.heap.size w w' := by
  have HV := hide (valid_walk s w hs)
  by_cases hl : s.size ≤ 20000
  · have tl : ¬ (20000 : Int) < (s.size : Int) := by omega
    have tb : decide ((20000 : Int) < (s.size : Int)) = false := by simp; omega
    cases hv : Lib.validD s.data.toList with
    | true =>
      have HR : Hid (qRes s = .tuple #[.string (strOf (quoted s.data.toList)), .bool true]) := by show _ = _; unfold qRes; rw [if_pos ⟨hl, hv⟩]
      have HC : Hid (∀ w, Calls Tryz.prog 27 #[.string s] w fun e w' => e = .returned (.string (strOf (quoted s.data.toList))) ∧ Below w.heap.size w w') := fun w => quoted_walk s w hs
      rw [hv] at HV
      generalize strOf (quoted s.data.toList) = qt at *
      clear hv
      go_enter Tryz.func8, Tryz.ntmps8
      go_wp2_with fail
      refine (unhide HV).mono ?_
      rintro e w1 ⟨rfl, b1⟩
      go_wp2_with fail
      refine (unhide HC _).mono ?_
      rintro e w2 ⟨rfl, b2⟩
      have B2 := below_next b1 b2
      go_wp2
      go_ret2
      exact ⟨by rw [unhide HR]; rfl, B2⟩
    | false =>
      have HR : Hid (qRes s = .tuple #[.string ⟨#[]⟩, .bool false]) := by show _ = _; unfold qRes; rw [if_neg (fun h => by rw [hv] at h; cases h.2)]
      rw [hv] at HV
      clear hv
      go_enter Tryz.func8, Tryz.ntmps8
      go_wp2_with fail
      refine (unhide HV).mono ?_
      rintro e w1 ⟨rfl, b1⟩
      go_wp2
      go_ret2
      exact ⟨by rw [unhide HR]; rfl, b1⟩
  · have tl : (20000 : Int) < (s.size : Int) := by omega
    have HR : Hid (qRes s = .tuple #[.string ⟨#[]⟩, .bool false]) := by show _ = _; unfold qRes; rw [if_neg (fun h => hl h.1)]
    clear HV
    go_enter Tryz.func8, Tryz.ntmps8
    go_wp2
    go_ret2
    exact ⟨by rw [unhide HR]; rfl, Below.refl _ _⟩
end Go.Proofs.YtadefcohbkgbfabGreatDoor

