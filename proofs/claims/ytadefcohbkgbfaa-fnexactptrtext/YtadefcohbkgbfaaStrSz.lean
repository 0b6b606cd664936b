import Derived.Test.YtadefcohbkgbfaaStr
namespace Go.Proofs.Ytadefcohbkgbfaa
open Go.RowKit

set_option maxHeartbeats 400000 in
theorem sz_walk (xa : Option Addr) (xb xo xc : Nat) (ss : List ByteArray) (L : Nat) (w : World) (h : SS w xa xb xo ss) (hL : L ≤ 1048576) (hm : ss.length ≤ maxLen) (hws : ∀ j, (ss.getD j ByteArray.empty).size ≤ maxLen) :
    Calls Try.prog 4 #[.slice xa ss.length xc, .int .i64 L] w fun e w' => e = .returned (.int .i64 (szr L ss)) ∧ w' = w := by
  unfold maxLen at hm
  have hadr := h.ad
  have HC := hide h.cell
  have HW := hide hws
  clear h hws
  by_cases h0 : L < ss.length
  · go_enter Try.func4, Try.ntmps4
    go_wp2
    go_ret
    refine ⟨ret_int ?_, rfl⟩
    unfold szr; rw [if_neg (by omega)]
  · go_enter Try.func4, Try.ntmps4
    go_wp2
    go_loop [1, 5] (fun l i => ∃ k : Nat, k ≤ ss.length ∧ i = .int .i64 k ∧ ss.length + tot (ss.take k) ≤ L ∧ l = .int .i64 ((L : Int) - ss.length - tot (ss.take k))) (fun _ i => ss.length - (intOf i).toNat)
    case atStart => exact ⟨0, Nat.zero_le _, rfl, by simp [tot]; omega, by simp [tot]⟩
    case round =>
      obtain ⟨k, hk, rfl, hle, rfl⟩ := hrel
      by_cases hlt : k < ss.length
      · have hc := unhide HC k hlt
        have hw1 := unhide HW k
        have ht := tot_snoc (ss.take k) (ss.getD k ByteArray.empty)
        rw [← take_snoc hlt] at ht
        obtain rfl := hadr (by omega)
        generalize ss.getD k ByteArray.empty = s at *
        unfold maxLen at hw1
        generalize tot (ss.take k) = T at *
        generalize hT2 : tot (ss.take (k + 1)) = T2 at *
        have HT := hide hT2
        clear hT2 hadr
        have Ht := hide ht
        clear ht
        by_cases hn : ss.length + T + s.size ≤ L
        · go_wp2
          go_round
          case rel => exact ⟨k + 1, by omega, by go_num, by rw [unhide HT, unhide Ht]; omega, by rw [unhide HT, unhide Ht]; go_num⟩
          case measure => simp [intOf]; omega
        · go_wp2
          go_ret
          refine ⟨ret_int ?_, rfl⟩
          have := tot_take_le ss (k + 1)
          unfold szr; rw [if_neg (by rw [unhide HT, unhide Ht] at this; omega)]
      · go_wp2
        go_ret
        refine ⟨ret_int ?_, rfl⟩
        have e : ss.take k = ss := List.take_of_length_le (by omega)
        rw [e] at hle ⊢
        unfold szr; rw [if_pos hle]; omega
end Go.Proofs.Ytadefcohbkgbfaa
