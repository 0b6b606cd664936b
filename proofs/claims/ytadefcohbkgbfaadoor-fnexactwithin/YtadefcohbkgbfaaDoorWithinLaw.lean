import Derived.Test.YtadefcohbkgbfaaDoorWithinI
namespace Go.Proofs.YtadefcohbkgbfaaDoor
open Go.RowKit

set_option maxHeartbeats 400000 in
theorem withinLaw_walk (s t : ByteArray) (w : World) (hML : ML w) :
    Calls Tryd.prog 4 #[.string s, .string t] w fun e w' => e = .returned (.bool true) ∧ Below w.heap.size w w' := by
  by_cases hs : s.size ≤ 1048576
  · by_cases ht : t.size ≤ 1048576
    · have HS := hide (specWithin_walk s t w hs ht)
      have HI : Hid (∀ w, ML w → Calls Tryd.prog 11 #[.string s, .string t] w fun e w' => e = .returned (.int .i64 (wSpec (ptoks s.data.toList) (ptoks t.data.toList))) ∧ Below w.heap.size w w') := fun w h => implWithin_walk s t w h hs ht
      generalize wSpec (ptoks s.data.toList) (ptoks t.data.toList) = r at *
      go_enter Tryd.func4, Tryd.ntmps4
      go_wp2_with fail
      refine (unhide HS).mono ?_
      rintro e w1 ⟨rfl, b1⟩
      have HML := hide (hML.below b1)
      go_wp2_with fail
      refine (unhide HI _ (unhide HML)).mono ?_
      rintro e w2 ⟨rfl, b2⟩
      have B2 := below_next b1 b2
      go_wp2
      go_ret
      exact ⟨rfl, B2⟩
    · have ht' : (1048576 : Int) < (t.size : Int) := by omega
      go_enter Tryd.func4, Tryd.ntmps4
      go_wp2
      go_ret
      exact ⟨rfl, Below.refl _ _⟩
  · have hs' : (1048576 : Int) < (s.size : Int) := by omega
    go_enter Tryd.func4, Tryd.ntmps4
    go_wp2
    go_ret
    exact ⟨rfl, Below.refl _ _⟩
end Go.Proofs.YtadefcohbkgbfaaDoor
