import Derived.Lib.LaidU8T
import Derived.PinnedBridge
import Derived.Test.YtadefcohbkgbfabGreatDoorBn4
import Derived.Test.YtadefcohbkgbfabGreatDoorBn36
import Derived.Test.YtadefcohbkgbfabGreatDoorBn26
namespace Go.Proofs.YtadefcohbkgbfabGreatDoor
open Go.RowKit Go.Shelf Go.Lib

theorem tables_of {W : World} (hL : laidMetH Tryz.prog Rows.fnStringRow.laid W) : StrOk W := by
  have h : laidMet Tryz.prog Rows.fnStringRow.laid W := hL
  exact ⟨tabs_at h, err_at h, pow_at h⟩

theorem unq_quoted (s : ByteArray) (hv : Lib.validD s.data.toList = true) (hq : (strOf (quoted s.data.toList)).size ≤ 20000) : uRes (strOf (quoted s.data.toList)) = .tuple #[.string s, .bool true] := by
  have h := strQ_quoted s hv
  unfold uRes
  rw [if_pos hq, uOk_some h, if_pos rfl]
  have e : strOf s.data.toList = s := by cases s; simp [strOf]
  show Value.tuple #[.string (strOf s.data.toList), .bool true] = _
  rw [e]

set_option maxRecDepth 100000 in
set_option maxHeartbeats 1600000 in
theorem stringLaw_walk (xa : Option Addr) (xb xo xc : Nat) (l : List UInt8) (w : World) (h : BS w xa xb xo l) (hc : l.length ≤ xc) (hT : StrOk w) :
    Calls Tryz.prog 3 #[.slice xa l.length xc] w fun e w' => e = .returned (.bool true) ∧ Below w.heap.size w w' := by
  by_cases hl : l.length ≤ 1048576
  · have tl : ((1048576 : Int) < (l.length : Int)) = False := eq_false (by omega)
    have HD := hide (drawQuote_walk xa xb xo xc l w h hl hc)
    have HT := hide hT
    clear h hc hl hT
    go_enter Tryz.func3, Tryz.ntmps3
    go_wp2_with fail
    refine (unhide HD).mono ?_
    rintro e w1 ⟨s, hs, rfl, b1⟩
    have HT1 := hide ((unhide HT).below b1)
    have HS := hide (specQuote_walk s w1 hs)
    have HI : Hid (∀ w, StrOk w → Calls Tryz.prog 9 #[.string s] w fun e w' => e = .returned (qRes s) ∧ Below w.heap.size w w') := fun w h => implQuote_walk s w hs h.1
    clear HD HT
    by_cases hv : s.size ≤ 20000 ∧ Lib.validD s.data.toList = true
    · have e0 : qRes s = .tuple #[.string (strOf (quoted s.data.toList)), .bool true] := by unfold qRes; rw [if_pos hv]
      rw [e0] at HS HI
      clear e0
      by_cases hq : (strOf (quoted s.data.toList)).size ≤ 20000
      · have HU : Hid (∀ w, StrOk w → Calls Tryz.prog 10 #[.string (strOf (quoted s.data.toList))] w fun e w' => e = .returned (.tuple #[.string s, .bool true]) ∧ Below w.heap.size w w') := fun w h => by
          have := implUnquote_walk (strOf (quoted s.data.toList)) w (by omega) h.1
          rw [unq_quoted s hv.2 hq] at this
          exact this
        have HC : Hid (∀ w, StrOk w → Calls Tryz.prog 11 #[.string (strOf (quoted s.data.toList))] w fun e w' => e = .returned (.tuple #[.string (strOf (quoted s.data.toList)), .int .i64 0]) ∧ Below w.heap.size w w') := fun w h => canon_quoted s w hv.2 hq h
        have tq : ((20000 : Int) < ((strOf (quoted s.data.toList)).size : Int)) = False := eq_false (by omega)
        clear hq hv hs
        generalize strOf (quoted s.data.toList) = qt at *
        go_wp2_with fail
        refine (unhide HS).mono ?_
        rintro e w2 ⟨rfl, b2⟩
        have HT2 := hide ((unhide HT1).below b2)
        have B2 := hide (below_next b1 b2)
        clear HS HT1 b1 b2
        go_wp2_with fail
        refine (unhide HI _ (unhide HT2)).mono ?_
        rintro e w3 ⟨rfl, b3⟩
        have HT3 := hide ((unhide HT2).below b3)
        have B3 := hide (below_next (unhide B2) b3)
        clear HI HT2 b3 B2
        go_wp2_with fail
        refine (unhide HU _ (unhide HT3)).mono ?_
        rintro e w4 ⟨rfl, b4⟩
        have HT4 := hide ((unhide HT3).below b4)
        have B4 := hide (below_next (unhide B3) b4)
        clear HU HT3 b4 B3
        go_wp2_with fail
        refine (unhide HC _ (unhide HT4)).mono ?_
        rintro e w5 ⟨rfl, b5⟩
        have B5 := below_next (unhide B4) b5
        clear HC HT4 b5 B4
        go_wp2
        go_ret
        exact ⟨rfl, B5⟩
      · have tq : ((20000 : Int) < ((strOf (quoted s.data.toList)).size : Int)) = True := eq_true (by omega)
        have tn : (strOf (quoted s.data.toList)).toList.isEmpty = false := by
          rw [ByteArray.toList_eq, strOf_toList]; rfl
        clear hq hv hs
        generalize strOf (quoted s.data.toList) = qt at *
        go_wp2_with fail
        refine (unhide HS).mono ?_
        rintro e w2 ⟨rfl, b2⟩
        have HT2 := hide ((unhide HT1).below b2)
        have B2 := hide (below_next b1 b2)
        clear HS HT1 b1 b2
        go_wp2_with fail
        refine (unhide HI _ (unhide HT2)).mono ?_
        rintro e w3 ⟨rfl, b3⟩
        have B3 := below_next (unhide B2) b3
        clear HI HT2 b3 B2
        go_wp2
        go_ret
        exact ⟨rfl, B3⟩
    · have e0 : qRes s = .tuple #[.string ⟨#[]⟩, .bool false] := by unfold qRes; rw [if_neg hv]
      rw [e0] at HS HI
      clear e0 hv hs
      go_wp2_with fail
      refine (unhide HS).mono ?_
      rintro e w2 ⟨rfl, b2⟩
      have HT2 := hide ((unhide HT1).below b2)
      have B2 := hide (below_next b1 b2)
      clear HS HT1 b1 b2
      go_wp2_with fail
      refine (unhide HI _ (unhide HT2)).mono ?_
      rintro e w3 ⟨rfl, b3⟩
      have B3 := below_next (unhide B2) b3
      clear HI HT2 b3 B2
      go_wp2
      go_ret
      exact ⟨rfl, B3⟩
  · have tl : ((1048576 : Int) < (l.length : Int)) = True := eq_true (by omega)
    clear hl h hc hT
    go_enter Tryz.func3, Tryz.ntmps3
    go_wp2
    go_ret
    exact ⟨rfl, Below.refl _ _⟩
end Go.Proofs.YtadefcohbkgbfabGreatDoor
