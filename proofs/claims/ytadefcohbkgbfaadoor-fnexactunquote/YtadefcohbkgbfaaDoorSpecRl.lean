import Derived.Test.YtadefcohbkgbfaaDoorSpecRl2
import Derived.Test.YtadefcohbkgbfaaDoorSpecRl3
import Derived.Test.YtadefcohbkgbfaaDoorSpecRl4
import Derived.Lib.ValidLaws
namespace Go.Proofs.YtadefcohbkgbfaaDoor
open Go.RowKit

set_option maxHeartbeats 800000 in
set_option maxRecDepth 100000 in
theorem rl_walk (s : ByteArray) (i : Nat) (w : World) (hi : i < s.size) (hs : s.size ≤ 1048576) :
    Calls Tryd.prog 42 #[.string s, .int .i64 i] w fun e w' => e = .returned (.int .i64 (rl s i)) ∧ Below w.heap.size w w' := by
  have hb : s[i].toNat < 256 := UInt8.toNat_lt _
  by_cases h1 : s[i].toNat ≤ 127
  · exact rl_1 s i w hi hs (Nat.zero_le _) h1
  · by_cases h2 : s[i].toNat < 192
    · have HF : Hid (rl s i = 0) := by show _ = _; unfold rl; rw [rlN_cont (by rw [bt_at s i hi]; omega) (by rw [bt_at s i hi]; omega)]
      have hI : (128 : Int) ≤ (s[i].toNat : Int) := by omega
      have hI' : (s[i].toNat : Int) < 192 := by omega
      clear h1 h2 hb
      go_enter Tryd.func42, Tryd.ntmps42
      go_wp2
      go_ret
      exact ⟨by rw [unhide HF]; rfl, Below.refl _ _⟩
    · by_cases h3 : s[i].toNat ≤ 223
      · exact rl_2 s i w hi hs (by omega) h3
      · by_cases h4 : s[i].toNat ≤ 239
        · exact rl_3 s i w hi hs (by omega) h4
        · exact rl_4 s i w hi hs (by omega) (by omega)

theorem decodeL_at (s : ByteArray) (i : Nat) : Lib.decodeL (s.data.toList.drop i) = Lib.decodeN (s.size - i) (bt s i) (bt s (i + 1)) (bt s (i + 2)) (bt s (i + 3)) := by
  rw [Lib.decodeL_drop, dec]
theorem rlN_le (n b0 b1 b2 b3 : Nat) (hn : 1 ≤ n) : rlN n b0 b1 b2 b3 ≤ n := by
  unfold rlN; split
  · exact hn
  · split
    · omega
    · unfold Lib.decodeN
      repeat' split
      all_goals first | omega | (simp only []; omega)
theorem rlN_bad {n b0 b1 b2 b3 : Nat} (h : rlN n b0 b1 b2 b3 = 0) : Lib.decodeN n b0 b1 b2 b3 = (65533, 1) := by
  unfold rlN at h
  split at h
  · omega
  · split at h
    · rename_i h1 h2
      revert h2
      unfold Lib.decodeN
      repeat' split
      all_goals first | (intro h2; rfl) | (intro h2; simp at h2; done) | (intro h2; exfalso; omega)
    · rename_i h1 h2
      have := Lib.decodeN_ge1 n b0 b1 b2 b3; omega
theorem rlN_good {n b0 b1 b2 b3 : Nat} (h : ¬ rlN n b0 b1 b2 b3 = 0) : (Lib.decodeN n b0 b1 b2 b3).2 = rlN n b0 b1 b2 b3 ∧ ¬ ((Lib.decodeN n b0 b1 b2 b3).1 = 65533 ∧ (Lib.decodeN n b0 b1 b2 b3).2 = 1) := by
  unfold rlN at h ⊢
  split at h
  · rename_i h1
    rw [if_pos h1]
    have e : Lib.decodeN n b0 b1 b2 b3 = (b0, 1) := by unfold Lib.decodeN; rw [if_pos h1]
    rw [e]; exact ⟨rfl, fun hh => by have := hh.1; simp at this; omega⟩
  · rename_i h1
    rw [if_neg h1]
    split at h
    · exact absurd rfl h
    · rename_i h2
      rw [if_neg h2]; exact ⟨rfl, fun hh => h2 hh.2⟩
theorem rl_le (s : ByteArray) (i : Nat) (hi : i < s.size) : i + rl s i ≤ s.size := by
  have := rlN_le (s.size - i) (bt s i) (bt s (i + 1)) (bt s (i + 2)) (bt s (i + 3)) (by omega)
  unfold rl; omega
theorem drop_ne (s : ByteArray) (i : Nat) (hi : i < s.size) : s.data.toList.drop i ≠ [] := by rw [drop_at s i hi]; simp
theorem valid_bad (s : ByteArray) (i : Nat) (hi : i < s.size) (h : rl s i = 0) : Lib.validD (s.data.toList.drop i) = false := by
  rw [Lib.validD_step _ (drop_ne s i hi), decodeL_at, rlN_bad h]; rfl
theorem valid_go (s : ByteArray) (i : Nat) (hi : i < s.size) (h : ¬ rl s i = 0) : Lib.validD (s.data.toList.drop i) = Lib.validD (s.data.toList.drop (i + rl s i)) := by
  obtain ⟨h1, h2⟩ := rlN_good h
  rw [Lib.validD_step _ (drop_ne s i hi), decodeL_at, if_neg h2, h1, List.drop_drop]; rfl

end Go.Proofs.YtadefcohbkgbfaaDoor
