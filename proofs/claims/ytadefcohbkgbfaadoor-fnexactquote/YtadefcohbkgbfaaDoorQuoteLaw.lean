import Derived.Test.YtadefcohbkgbfaaDoorImplQuote
import Derived.PinnedBridge

namespace Go.Proofs.YtadefcohbkgbfaaDoor
open Go.RowKit Go.Shelf Go.Lib

theorem tables_of {W : World} (hL : laidMetH Tryd.prog Rows.fnExactQuoteRow.laid W) : Tabs W := by
  have h : laidMet Tryd.prog Rows.fnExactQuoteRow.laid W := hL
  refine utf8Tabs_of_readsT (U8Types.of196 Tryd.laysValid) ⟨by kernel_rfl, by kernel_rfl, by kernel_rfl, by kernel_rfl, by kernel_rfl, by kernel_rfl, by kernel_rfl⟩ ?_ ?_
  · have h1 := Lib.laidMet.reads h (d := Rows.laid_unicode_utf8_first) (.tail _ (.head _))
    rw [show Rows.laid_unicode_utf8_first = firstData from Pinned.utf8First_eq] at h1
    exact h1
  · have h1 := Lib.laidMet.reads h (d := Rows.laid_unicode_utf8_acceptRanges) (.head _)
    rw [show (Rows.laid_unicode_utf8_acceptRanges : DataW Unit) = acceptData from by kernel_rfl] at h1
    exact h1

theorem qRes_form (s : ByteArray) : ∃ x y, qRes s = .tuple #[.string x, .bool y] := by
  unfold qRes; split
  · exact ⟨_, _, rfl⟩
  · exact ⟨_, _, rfl⟩

set_option maxHeartbeats 400000 in
theorem quoteLaw_walk (s : ByteArray) (w : World) (hT : Tabs w) :
    Calls Tryd.prog 3 #[.string s] w fun e w' => e = .returned (.bool true) ∧ Below w.heap.size w w' := by
  by_cases hs : s.size ≤ 1048576
  · have HS := hide (specQuote_walk s w hs)
    have HI : Hid (∀ w, Tabs w → Calls Tryd.prog 9 #[.string s] w fun e w' => e = .returned (qRes s) ∧ Below w.heap.size w w') := fun w h => implQuote_walk s w hs h
    obtain ⟨x, y, e⟩ := qRes_form s
    rw [e] at HS HI
    clear e
    go_enter Tryd.func3, Tryd.ntmps3
    go_wp2_with fail
    refine (unhide HS).mono ?_
    rintro e w1 ⟨rfl, b1⟩
    have HT1 := hide (hT.below b1)
    go_wp2_with fail
    refine (unhide HI _ (unhide HT1)).mono ?_
    rintro e w2 ⟨rfl, b2⟩
    have B2 := below_next b1 b2
    go_wp2
    go_ret
    exact ⟨rfl, B2⟩
  · have hs' : (1048576 : Int) < (s.size : Int) := by omega
    go_enter Tryd.func3, Tryd.ntmps3
    go_wp2
    go_ret
    exact ⟨rfl, Below.refl _ _⟩
end Go.Proofs.YtadefcohbkgbfaaDoor
