import Derived.Test.YtadefcohbkgbfabGreatDoorBn17
import Derived.Test.YtadefcohbkgbfabGreatDoorBn36
namespace Go.Proofs.YtadefcohbkgbfabGreatDoor
open Go.RowKit

set_option maxRecDepth 100000 in
set_option maxHeartbeats 1600000 in
theorem canonLaw_in (s : ByteArray) (w : World) (hT : Tabs w) (hE : ErrB w.heap.size w) (hP : PowB w.heap.size w) :
    Calls Tryz.prog 4 #[.string s] w fun e w' => e = .returned (.bool true) ∧ Below w.heap.size w w' := by
  by_cases hs : s.size ≤ 1048576
  · have tl : ¬ (1048576 : Int) < (s.size : Int) := by omega
    have HS := hide (specCanon_walk s w hs)
    have HI : Hid (∀ w1, Below w.heap.size w w1 → Calls Tryz.prog 11 #[.string s] w1 fun e w' => e = .returned (canonV s) ∧ Below w1.heap.size w1 w') := fun w1 hb => implCanon_walk s w1 (TabsB.of (hT.below hb)) ⟨Nat.lt_of_lt_of_le hE.1 hb.size, (hE.next hb (Nat.le_refl _)).2⟩ ((hP.next hb (Nat.le_refl _)).more hb.size) (by omega)
    obtain ⟨t, c, hv⟩ : ∃ (t : ByteArray) (c : Int), canonV s = .tuple #[.string t, .int .i64 c] := by
      unfold canonV
      cases readR s with
      | inl c => exact ⟨_, _, rfl⟩
      | inr v => exact ⟨_, _, rfl⟩
    rw [hv] at HS HI
    clear hv hT hE hP
    go_enter Tryz.func4, Tryz.ntmps4
    go_wp2_with fail
    refine (unhide HS).mono ?_
    rintro e w1 ⟨rfl, b1⟩
    have HI1 := hide (unhide HI w1 b1)
    clear HS HI
    go_wp2_with fail
    refine (unhide HI1).mono ?_
    rintro e w2 ⟨rfl, b2⟩
    have B2 := below_next b1 b2
    go_wp2
    go_ret
    exact ⟨rfl, B2⟩
  · have tl : (1048576 : Int) < (s.size : Int) := by omega
    go_enter Tryz.func4, Tryz.ntmps4
    go_wp2
    go_ret
    exact ⟨rfl, Below.refl _ _⟩

set_option maxRecDepth 100000 in
set_option maxHeartbeats 1600000 in
theorem measureLaw_in (s : ByteArray) (w : World) (hT : Tabs w) (hE : ErrB w.heap.size w) (hP : PowB w.heap.size w) :
    Calls Tryz.prog 5 #[.string s] w fun e w' => e = .returned (.bool true) ∧ Below w.heap.size w w' := by
  by_cases hs : s.size ≤ 1048576
  · have tl : ¬ (1048576 : Int) < (s.size : Int) := by omega
    have HS := hide (specMeasure_walk s w hs)
    have HI : Hid (∀ w1, Below w.heap.size w w1 → Calls Tryz.prog 14 #[.string s] w1 fun e w' => e = .returned (measV s) ∧ Below w1.heap.size w1 w') := fun w1 hb => implMeasure_walk s w1 (TabsB.of (hT.below hb)) ⟨Nat.lt_of_lt_of_le hE.1 hb.size, (hE.next hb (Nat.le_refl _)).2⟩ ((hP.next hb (Nat.le_refl _)).more hb.size) (by omega)
    obtain ⟨a, b, c, hv⟩ : ∃ (a b c : Int), measV s = .tuple #[.int .i64 a, .int .i64 b, .int .i64 c] := by
      unfold measV
      cases readR s with
      | inl c => exact ⟨_, _, _, rfl⟩
      | inr v => exact ⟨_, _, _, rfl⟩
    rw [hv] at HS HI
    clear hv hT hE hP
    go_enter Tryz.func5, Tryz.ntmps5
    go_wp2_with fail
    refine (unhide HS).mono ?_
    rintro e w1 ⟨rfl, b1⟩
    have HI1 := hide (unhide HI w1 b1)
    clear HS HI
    go_wp2_with fail
    refine (unhide HI1).mono ?_
    rintro e w2 ⟨rfl, b2⟩
    have B2 := below_next b1 b2
    go_wp2
    go_ret
    exact ⟨rfl, B2⟩
  · have tl : (1048576 : Int) < (s.size : Int) := by omega
    go_enter Tryz.func5, Tryz.ntmps5
    go_wp2
    go_ret
    exact ⟨rfl, Below.refl _ _⟩
end Go.Proofs.YtadefcohbkgbfabGreatDoor
