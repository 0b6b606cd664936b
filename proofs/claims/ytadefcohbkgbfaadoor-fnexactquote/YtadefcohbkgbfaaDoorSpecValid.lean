import Derived.Test.YtadefcohbkgbfaaDoorSpecRl
namespace Go.Proofs.YtadefcohbkgbfaaDoor
open Go.RowKit

set_option maxHeartbeats 800000 in
theorem valid_walk (s : ByteArray) (w : World) (hs : s.size ≤ 1048576) :
    Calls Tryd.prog 22 #[.string s] w fun e w' => e = .returned (.bool (Lib.validD s.data.toList)) ∧ Below w.heap.size w w' := by
  go_enter Tryd.func22, Tryd.ntmps22
  go_wp2
  go_loopw [3] (fun i wr => ∃ j : Nat, j ≤ s.size ∧ i = .int .i64 j ∧ Lib.validD s.data.toList = Lib.validD (s.data.toList.drop j) ∧ Below w.heap.size w wr) (fun i _ => s.size - (intOf i).toNat)
  case atStart => exact ⟨0, Nat.zero_le _, rfl, by simp, Below.refl _ _⟩
  case round =>
    obtain ⟨j, hj, rfl, hv, hb⟩ := hrel
    have HV := hide hv
    clear hv
    by_cases hlt : j < s.size
    · have HC := hide (rl_walk s j wr hlt hs)
      have hle := rl_le s j hlt
      by_cases h0 : rl s j = 0
      · have HF : Hid (Lib.validD s.data.toList = false) := by have e := unhide HV; show _ = _; rw [e, valid_bad s j hlt h0]
        rw [h0] at HC
        clear h0 hle
        go_wp2_with fail
        refine (unhide HC).mono ?_
        rintro e w1 ⟨rfl, b1⟩
        have B1 := below_next hb b1
        go_wp2
        go_ret
        exact ⟨by rw [unhide HF]; rfl, B1⟩
      · have HF : Hid (Lib.validD s.data.toList = Lib.validD (s.data.toList.drop (j + rl s j))) := by have e := unhide HV; show _ = _; rw [e, valid_go s j hlt h0]
        generalize rl s j = n at *
        have t0 : ((n : Int) == 0) = false := by rw [beq_eq_false_iff_ne]; omega
        go_wp2_with fail
        refine (unhide HC).mono ?_
        rintro e w1 ⟨rfl, b1⟩
        have B1 := below_next hb b1
        clear HC b1 hb
        go_wp2
        go_roundw
        case rel => exact ⟨j + n, by omega, by go_num, unhide HF, B1⟩
        case measure => simp [intOf]; omega
    · have HF : Hid (Lib.validD s.data.toList = true) := by
        have e := unhide HV; show _ = _; rw [e, drop_end s j hlt]; rfl
      go_wp2
      go_ret
      exact ⟨by rw [unhide HF]; rfl, hb⟩
end Go.Proofs.YtadefcohbkgbfaaDoor
