import Derived.Test.YtcffdclgddmigaaDoorClashS
import Derived.Test.YtcffdclgddmigaaDoorStrSz
import Derived.Test.YtcffdclgddmigaaDoorStrTo
namespace Go.Proofs.YtcffdclgddmigaaDoor
open Go.RowKit

set_option maxHeartbeats 2000000 in
set_option maxRecDepth 100000 in
theorem clashLaw_walk (xa ya : Option Addr) (xb xo xc yb yo yc : Nat) (a b : List ByteArray) (w : World) (hML : ML w) (h : SS w xa xb xo a) (k : SS w ya yb yo b) (hm : a.length ≤ maxLen) (hws : ∀ j, (a.getD j ByteArray.empty).size ≤ maxLen) (km : b.length ≤ maxLen) (kws : ∀ j, (b.getD j ByteArray.empty).size ≤ maxLen) :
    Calls Tryd.prog 3 #[.slice xa a.length xc, .slice ya b.length yc] w fun e w' => e = .returned (.bool true) ∧ Below w.heap.size w w' := by
  have HSZ := hide (sz_walk xa xb xo xc a 1048576 w h (Nat.le_refl _) hm hws)
  by_cases hsz : a.length + tot a ≤ 1048576
  · have hz : szr 1048576 a = ((1048576 - (a.length + tot a) : Nat) : Int) := by unfold szr; rw [if_pos hsz]; omega
    rw [hz] at HSZ
    have HSY := hide (sz_walk ya yb yo yc b (1048576 - (a.length + tot a)) w k (by omega) km kws)
    by_cases hsy : b.length + tot b ≤ 1048576 - (a.length + tot a)
    · have hsy' : b.length + tot b ≤ 1048576 := by omega
      have hl : a.length ≤ 1048576 := by omega
      have kl : b.length ≤ 1048576 := by omega
      have hz0 : 0 ≤ szr (1048576 - (a.length + tot a)) b := by unfold szr; rw [if_pos hsy]; omega
      clear hz hsy hws kws hm km
      have hL0 : 1048576 - (a.length + tot a) ≤ 1048576 := by omega
      generalize 1048576 - (a.length + tot a) = L at *
      generalize szr L b = r at *
      have HML := hide hML
      clear hML
      go_enter Tryd.func3, Tryd.ntmps3
      go_wp2_with fail
      refine (unhide HSZ).mono ?_
      rintro e w0 ⟨rfl, rfl⟩
      clear HSZ
      go_wp2_with fail
      refine (unhide HSY).mono ?_
      rintro e w0 ⟨rfl, rfl⟩
      clear HSY
      go_wp2_with fail
      refine (to_walk xa xb xo xc a _ h hl).mono ?_
      rintro e w1 ⟨rfl, s1, b1, z1⟩
      have k1 := k.below b1
      go_wp2_with fail
      refine (to_walk ya yb yo yc b _ k1 kl).mono ?_
      rintro e w2 ⟨rfl, s2, b2, z2⟩
      have s1' := s1.below b2
      have B2 := below_next b1 b2
      clear k1 s1 b1 b2 z1 z2
      have HC := hide (specClash_walk _ _ _ _ a.length _ _ b.length a b _ s1' s2 hsz hsy')
      have HI : Hid (∀ w ga gb, ML w → SS w (some ⟨ga, 0, none⟩) ga 0 a → SS w (some ⟨gb, 0, none⟩) gb 0 b → Calls Tryd.prog 7 #[.slice (some ⟨ga, 0, none⟩) a.length a.length, .slice (some ⟨gb, 0, none⟩) b.length b.length] w fun e w' => e = .returned (.bool (clashB a b)) ∧ Below w.heap.size w w') := fun w ga gb hM h1 h2 => implClash_walk _ _ _ _ a.length _ _ b.length a b w hM h1 h2 hsz hsy'
      clear s1' s2
      generalize clashB a b = c at *
      go_wp2_with fail
      refine (unhide HC).mono ?_
      rintro e w3 ⟨rfl, b3⟩
      have B3 := below_next B2 b3
      have h3 := h.below B3
      clear HC b3 B2
      go_wp2_with fail
      refine (to_walk xa xb xo xc a _ h3 hl).mono ?_
      rintro e w4 ⟨rfl, s4, b4, z4⟩
      have B4 := below_next B3 b4
      have k4 := k.below B4
      clear h3 b4 B3 z4
      go_wp2_with fail
      refine (to_walk ya yb yo yc b _ k4 kl).mono ?_
      rintro e w5 ⟨rfl, s5, b5, z5⟩
      have B5 := below_next B4 b5
      have s4' := s4.below b5
      have HI' := hide (unhide HI _ _ _ ((unhide HML).below B5) s4' s5)
      clear k4 s4 b5 B4 z5 HI
      go_wp2_with fail
      refine (unhide HI').mono ?_
      rintro e w6 ⟨rfl, b6⟩
      have B6 := below_next B5 b6
      have s4 := s4'.below b6
      have s6 := s5.below b6
      have h6 := h.below B6
      clear HI' b6 B5 s4' s5
      go_wp2_with fail
      refine (to_walk xa xb xo xc a _ h6 hl).mono ?_
      rintro e w7 ⟨rfl, s7, b7, z7⟩
      have B7 := below_next B6 b7
      have s4' := s4.below b7
      have s6' := s6.below b7
      clear h6 b7 B6 s4 s6 z7
      go_wp2_with fail
      refine (eq_walk _ _ _ _ _ _ _ _ a _ s4' s7 (by omega)).mono ?_
      rintro e w8 ⟨rfl, n8, rfl⟩
      have B8 := B7.trans (below_draws w7 n8 _)
      have s8 := s6'.drewN n8
      have k8 := k.below B8
      clear s4' s7 s6' B7
      generalize w7.drewN n8 = w8 at *
      go_wp2_with fail
      refine (to_walk ya yb yo yc b _ k8 kl).mono ?_
      rintro e w9 ⟨rfl, s9, b9, z9⟩
      have B9 := below_next B8 b9
      have s8' := s8.below b9
      clear k8 b9 B8 s8 z9
      go_wp2_with fail
      refine (eq_walk _ _ _ _ _ _ _ _ b _ s8' s9 (by omega)).mono ?_
      rintro e w10 ⟨rfl, n10, rfl⟩
      have B10 := B9.trans (below_draws w9 n10 _)
      go_wp2
      go_ret
      exact ⟨rfl, B10⟩
    · have hz0 : szr (1048576 - (a.length + tot a)) b = -1 := by unfold szr; rw [if_neg hsy]
      rw [hz0] at HSY
      clear hz hsy hws kws hm km hz0
      have hL0 : 1048576 - (a.length + tot a) ≤ 1048576 := by omega
      generalize 1048576 - (a.length + tot a) = L at *
      go_enter Tryd.func3, Tryd.ntmps3
      go_wp2_with fail
      refine (unhide HSZ).mono ?_
      rintro e w0 ⟨rfl, rfl⟩
      clear HSZ
      go_wp2_with fail
      refine (unhide HSY).mono ?_
      rintro e w0 ⟨rfl, rfl⟩
      clear HSY
      go_wp2
      go_ret
      exact ⟨rfl, Below.refl _ _⟩
  · have hz : szr 1048576 a = -1 := by unfold szr; rw [if_neg hsz]
    rw [hz] at HSZ
    clear hz hsz hws kws hm km
    go_enter Tryd.func3, Tryd.ntmps3
    go_wp2_with fail
    refine (unhide HSZ).mono ?_
    rintro e w0 ⟨rfl, rfl⟩
    clear HSZ
    go_wp2
    go_ret
    exact ⟨rfl, Below.refl _ _⟩
theorem clashLaw_at (xa : Option Addr) (xb xo xc : Nat) (a : List ByteArray) (ya : Option Addr) (yb yo yc : Nat) (b : List ByteArray) (w : World) (h : SS w xa xb xo a) (hm : a.length ≤ maxLen) (hws : ∀ j, (a.getD j ByteArray.empty).size ≤ maxLen) (k : SS w ya yb yo b) (km : b.length ≤ maxLen) (kws : ∀ j, (b.getD j ByteArray.empty).size ≤ maxLen) (hML : ML w) :
    Calls Tryd.prog 3 #[.slice xa a.length xc, .slice ya b.length yc] w fun e w' => e = .returned (.bool true) ∧ Below w.heap.size w w' :=
  clashLaw_walk xa ya xb xo xc yb yo yc a b w hML h k hm hws km kws
end Go.Proofs.YtcffdclgddmigaaDoor
