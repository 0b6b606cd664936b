import Derived.Test.YtadefcohbkgbfaaStrSz
import Derived.Test.YtadefcohbkgbfaaStrTo
import Derived.Test.YtadefcohbkgbfaaStrEq
import Derived.Test.YtadefcohbkgbfaaPtrSpec
import Derived.Test.YtadefcohbkgbfaaPtrImpl
import Derived.ProofKit
import Derived.OpenShut
import Derived.ShutString
import Derived.ChangeOld
import Derived.SliceStrings
namespace Go.Proofs.Ytadefcohbkgbfaa
open Go.RowKit


set_option maxHeartbeats 1000000 in
set_option maxRecDepth 100000 in
theorem ptrTextLaw_walk (xa : Option Addr) (xb xo xc : Nat) (ss : List ByteArray) (w : World) (h : SS w xa xb xo ss) (hm : ss.length ≤ maxLen) (hws : ∀ j, (ss.getD j ByteArray.empty).size ≤ maxLen) :
    Calls Try.prog 3 #[.slice xa ss.length xc] w fun e w' => e = .returned (.bool true) ∧ Below w.heap.size w w' := by
  by_cases hsz : ss.length + tot ss ≤ 1048576
  · have hl : ss.length ≤ 1048576 := by omega
    have hz : szr 1048576 ss = 1048576 - (ss.length + tot ss : Nat) := by unfold szr; rw [if_pos hsz]; rfl
    have hz0 : 0 ≤ szr 1048576 ss := by omega
    have HSZ := sz_walk xa xb xo xc ss 1048576 w h (Nat.le_refl _) hm hws
    have HSZ' := hide HSZ
    clear HSZ hws hm hz
    generalize szr 1048576 ss = r at *
    go_enter Try.func3, Try.ntmps3
    go_wp2_with fail
    refine (unhide HSZ').mono ?_
    rintro e w0 ⟨rfl, rfl⟩
    clear HSZ'
    go_wp2_with fail
    refine (to_walk xa xb xo xc ss _ h hl).mono ?_
    rintro e w1 ⟨rfl, s1, b1, z1⟩
    go_wp2_with fail
    refine (specText_walk _ _ _ _ ss _ s1 hsz).mono ?_
    rintro e w2 ⟨rfl, b2⟩
    have B2 := below_next b1 b2
    have h2 := h.below B2
    clear b1 b2 s1 z1
    go_wp2_with fail
    refine (to_walk xa xb xo xc ss _ h2 hl).mono ?_
    rintro e w3 ⟨rfl, s3, b3, z3⟩
    have B3 := below_next B2 b3
    clear B2 b3 h2
    go_wp2_with fail
    refine (implText_walk _ _ _ _ ss _ s3 hsz).mono ?_
    rintro e w4 ⟨rfl, b4⟩
    have B4 := below_next B3 b4
    have s4 := s3.below b4
    have h4 := h.below B4
    clear b4 B3 s3
    go_wp2_with fail
    refine (to_walk xa xb xo xc ss _ h4 hl).mono ?_
    rintro e w5 ⟨rfl, s5, b5, z5⟩
    have B5 := below_next B4 b5
    have x5 := s4.below b5
    clear B4 h4 s4 b5
    go_wp2_with fail
    refine (eq_walk _ _ _ _ _ _ _ _ ss _ x5 s5 (by omega)).mono ?_
    rintro e w6 ⟨rfl, n, rfl⟩
    go_wp2
    go_ret
    exact ⟨rfl, B5.trans ⟨rfl, rfl, rfl, Nat.le_refl _, fun _ _ => rfl⟩⟩
  · have hz : szr 1048576 ss = -1 := by unfold szr; rw [if_neg hsz]
    have HSZ := sz_walk xa xb xo xc ss 1048576 w h (Nat.le_refl _) hm hws
    rw [hz] at HSZ
    have HSZ' := hide HSZ
    clear HSZ hws hm hz
    go_enter Try.func3, Try.ntmps3
    go_wp2_with fail
    refine (unhide HSZ').mono ?_
    rintro e w0 ⟨rfl, rfl⟩
    clear HSZ'
    go_wp2
    go_ret
    exact ⟨rfl, Below.refl _ _⟩
end Go.Proofs.Ytadefcohbkgbfaa
