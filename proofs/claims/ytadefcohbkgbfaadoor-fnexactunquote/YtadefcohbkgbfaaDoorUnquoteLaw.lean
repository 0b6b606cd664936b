import Derived.Test.YtadefcohbkgbfaaDoorImplUnq
import Derived.Test.YtadefcohbkgbfaaDoorSpecStr
import Derived.Lib.LaidU8T
import Derived.PinnedBridge
namespace Go.Proofs.YtadefcohbkgbfaaDoor
open Go.RowKit Go.Shelf Go.Lib

theorem tables_of {W : World} (hL : laidMetH Tryd.prog Rows.fnExactUnquoteRow.laid W) : Tabs W := by
  have h : laidMet Tryd.prog Rows.fnExactUnquoteRow.laid W := hL
  refine utf8Tabs_of_readsT ⟨Tryd.laysDecode.t5, Tryd.laysDecode.t119, Tryd.laysDecode.t138, Tryd.laysDecode.t139⟩ ⟨by kernel_rfl, by kernel_rfl, by kernel_rfl, by kernel_rfl, by kernel_rfl, by kernel_rfl, by kernel_rfl⟩ ?_ ?_
  · have h1 := Lib.laidMet.reads h (d := Rows.laid_unicode_utf8_first) (.tail _ (.head _))
    rw [show Rows.laid_unicode_utf8_first = firstData from Pinned.utf8First_eq] at h1
    exact h1
  · have h1 := Lib.laidMet.reads h (d := Rows.laid_unicode_utf8_acceptRanges) (.head _)
    rw [show (Rows.laid_unicode_utf8_acceptRanges : DataW Unit) = acceptData from by kernel_rfl] at h1
    exact h1

theorem uRes_bad {s : ByteArray} (h : 20000 < s.size ∨ uOk s = none) : uRes s = .tuple #[.string ⟨#[]⟩, .bool false] := by
  unfold uRes
  rcases h with h | h
  · rw [if_neg (by omega)]
  · rw [h]; split <;> rfl

set_option maxHeartbeats 400000 in
theorem specUnquote_walk (s : ByteArray) (w : World) (hs : s.size ≤ 1048576) :
    Calls Tryd.prog 20 #[.string s] w fun e w' => e = .returned (uRes s) ∧ Below w.heap.size w w' := by
  have HC : Hid (Calls Tryd.prog 37 #[.string s, .int .i64 0] w (SPost s w (strQ s 0))) := l1String_walk s 0 w hs (by omega)
  cases hq : strQ s 0 with
  | none =>
    rw [hq] at HC
    have HR := hide (uRes_bad (.inr (uOk_none hq)))
    clear hq
    go_enter Tryd.func20, Tryd.ntmps20
    go_wp2_with fail
    refine (unhide HC).mono ?_
    rintro e w1 ⟨b1, t, k, hk, ht, rfl⟩
    clear HC hk ht
    by_cases hl : s.size ≤ 20000
    · have tl : (decide ((20000 : Int) < (s.size : Int))) = false := by simp; omega
      have tl' : ((20000 : Int) < (s.size : Int)) = False := eq_false (by omega)
      clear hl hs
      go_wp2
      go_ret2
      exact ⟨by rw [unhide HR]; rfl, b1⟩
    · have tl' : ((20000 : Int) < (s.size : Int)) = True := eq_true (by omega)
      clear hl hs
      go_wp2
      go_ret2
      exact ⟨by rw [unhide HR]; rfl, b1⟩
  | some q =>
    obtain ⟨l, j⟩ := q
    rw [hq] at HC
    have HU := hide (uOk_some hq)
    clear hq
    generalize hsl : strOf l = sl at *
    have HC' : Hid (Calls Tryd.prog 37 #[.string s, .int .i64 0] w fun e w' => Below w.heap.size w w' ∧ e = .returned (.tuple #[.string sl, .int .i64 (j : Int), .bool true])) := by subst hsl; exact HC
    clear HC
    go_enter Tryd.func20, Tryd.ntmps20
    go_wp2_with fail
    refine (unhide HC').mono ?_
    rintro e w1 ⟨b1, rfl⟩
    clear HC'
    by_cases hl : s.size ≤ 20000
    · have tl' : ((20000 : Int) < (s.size : Int)) = False := eq_false (by omega)
      by_cases hj : j = s.size
      · have tj : ((j : Int) != (s.size : Int)) = false := by rw [bne_eq_false_iff_eq]; omega
        have HR : Hid (uRes s = .tuple #[.string sl, .bool true]) := by
          show _ = _
          unfold uRes
          rw [if_pos hl, unhide HU, if_pos hj, ← hsl]; rfl
        clear hl hs hj HU hsl
        go_wp2
        go_ret2
        exact ⟨by rw [unhide HR]; rfl, b1⟩
      · have tj : ((j : Int) != (s.size : Int)) = true := by rw [bne_iff_ne]; omega
        have HR := hide (uRes_bad (.inr ((unhide HU).trans (if_neg hj))))
        clear hl hs hj HU hsl
        go_wp2
        go_ret2
        exact ⟨by rw [unhide HR]; rfl, b1⟩
    · have tl' : ((20000 : Int) < (s.size : Int)) = True := eq_true (by omega)
      have HR := hide (uRes_bad (s := s) (.inl (by omega)))
      clear hl hs HU hsl
      go_wp2
      go_ret2
      exact ⟨by rw [unhide HR]; rfl, b1⟩

theorem uRes_form (s : ByteArray) : ∃ x y, uRes s = .tuple #[.string x, .bool y] := by
  unfold uRes; split
  · cases uOk s with
    | none => exact ⟨_, _, rfl⟩
    | some l => exact ⟨_, _, rfl⟩
  · exact ⟨_, _, rfl⟩

set_option maxHeartbeats 400000 in
theorem unquoteLaw_walk (s : ByteArray) (w : World) (hT : Tabs w) :
    Calls Tryd.prog 7 #[.string s] w fun e w' => e = .returned (.bool true) ∧ Below w.heap.size w w' := by
  by_cases hs : s.size ≤ 1048576
  · have HS := hide (specUnquote_walk s w hs)
    have HI : Hid (∀ w, Tabs w → Calls Tryd.prog 21 #[.string s] w fun e w' => e = .returned (uRes s) ∧ Below w.heap.size w w') := fun w h => implUnquote_walk s w hs h
    obtain ⟨x, y, e⟩ := uRes_form s
    rw [e] at HS HI
    clear e
    have hs' : ((1048576 : Int) < (s.size : Int)) = False := eq_false (by omega)
    clear hs
    go_enter Tryd.func7, Tryd.ntmps7
    go_wp2_with fail
    refine (unhide HS).mono ?_
    rintro e w1 ⟨rfl, b1⟩
    have HT1 := hide (hT.below b1)
    go_wp2_with fail
    refine (unhide HI _ (unhide HT1)).mono ?_
    rintro e w2 ⟨rfl, b2⟩
    have B2 := below_next b1 b2
    go_wp2
    go_ret
    exact ⟨rfl, B2⟩
  · have hs' : ((1048576 : Int) < (s.size : Int)) = True := eq_true (by omega)
    clear hs
    go_enter Tryd.func7, Tryd.ntmps7
    go_wp2
    go_ret
    exact ⟨rfl, Below.refl _ _⟩
end Go.Proofs.YtadefcohbkgbfaaDoor
