import Derived.Test.YtadefcohbkgbfaaDoorSpecRl
import Derived.Lib.RuneCount
namespace Go.Proofs.YtadefcohbkgbfaaDoor
open Go.RowKit

theorem take_2 (s : ByteArray) (i : Nat) (hi : i < s.size) (h1 : i + 1 < s.size) : (s.data.toList.drop i).take 2 = [s[i], s[i + 1]] := by
  rw [drop_at s i hi, drop_at s (i + 1) h1]; rfl
theorem take_3 (s : ByteArray) (i : Nat) (hi : i < s.size) (h1 : i + 1 < s.size) (h2 : i + 2 < s.size) : (s.data.toList.drop i).take 3 = [s[i], s[i + 1], s[i + 2]] := by
  rw [drop_at s i hi, drop_at s (i + 1) h1, drop_at s (i + 2) h2]; rfl
theorem take_4 (s : ByteArray) (i : Nat) (hi : i < s.size) (h1 : i + 1 < s.size) (h2 : i + 2 < s.size) (h3 : i + 3 < s.size) : (s.data.toList.drop i).take 4 = [s[i], s[i + 1], s[i + 2], s[i + 3]] := by
  rw [drop_at s i hi, drop_at s (i + 1) h1, drop_at s (i + 2) h2, drop_at s (i + 3) h3]; rfl
theorem toU8 (c : UInt8) (x : Int) (h : x = (c.toNat : Int)) : x.toNat.toUInt8 = c := by
  subst h; rw [Int.toNat_natCast]; exact UInt8.ofNat_toNat

set_option maxRecDepth 100000 in
/-- A rune of several bytes, written again, is its bytes. -/
theorem enc_multi (s : ByteArray) (i : Nat) (hi : i < s.size) (hv : ¬ rl s i = 0) (h8 : ¬ s[i].toNat < 128) :
    Lib.encodeRune ((Utf8.decode s i).1 : Nat) = (s.data.toList.drop i).take (rl s i) ∧ (∀ c ∈ (s.data.toList.drop i).take (rl s i), 128 ≤ c.toNat) ∧ 128 ≤ (Utf8.decode s i).1 ∧ (Utf8.decode s i).2 = rl s i := by
  have hb0 := bt_at s i hi
  have hw : (Utf8.decode s i).2 = rl s i := by rw [dec]; exact (rlN_good hv).1
  have h192 : 192 ≤ s[i].toNat := by
    rcases Nat.lt_or_ge s[i].toNat 192 with h | h
    · exact absurd (show rl s i = 0 by unfold rl; rw [rlN_cont (by rw [hb0]; omega) (by rw [hb0]; exact h)]) hv
    · exact h
  by_cases h2 : s[i].toNat < 224
  · have e := rlN_2 (n := s.size - i) (b0 := bt s i) (b1 := bt s (i + 1)) (b2 := bt s (i + 2)) (b3 := bt s (i + 3)) (by rw [hb0]; exact h192) (by rw [hb0]; exact h2) (bt_lt _ _)
    change rl s i = _ at e
    by_cases hc : 2 ≤ s.size - i ∧ 128 ≤ bt s (i + 1) ∧ bt s (i + 1) < 192 ∧ 128 ≤ (bt s i - 192) * 64 + (bt s (i + 1) - 128)
    · rw [if_pos hc] at e
      obtain ⟨c1, c2, c3, c4⟩ := hc
      have h1 : i + 1 < s.size := by omega
      have b1 := bt_at s (i + 1) h1
      have ed : Utf8.decode s i = (bt s i % 32 * 64 + bt s (i + 1) % 64, 2) := by
        rw [dec]; unfold Lib.decodeN
        rw [if_neg (by omega), if_pos ⟨by omega, by omega, by omega⟩, if_pos (by omega)]
      rw [e, ed, take_2 s i hi h1]
      refine ⟨?_, ?_, by simp only; omega, rfl⟩
      · unfold Lib.encodeRune
        rw [Lib.encodeRuneZ_two (by simp only; omega) (by simp only; omega)]
        simp only [List.map_cons, List.map_nil]
        rw [toU8 s[i] _ (by omega), toU8 s[i + 1] _ (by omega)]
      · intro c hc; simp at hc; rcases hc with rfl | rfl <;> omega
    · rw [if_neg hc] at e; exact absurd e hv
  · by_cases h3 : s[i].toNat < 240
    · have e := rlN_3 (n := s.size - i) (b0 := bt s i) (b1 := bt s (i + 1)) (b2 := bt s (i + 2)) (b3 := bt s (i + 3)) (by rw [hb0]; omega) (by rw [hb0]; exact h3) (bt_lt _ _) (bt_lt _ _)
      change rl s i = _ at e
      split at e
      · rename_i hc
        obtain ⟨c1, c2, c3, c4, c5, c6, c7⟩ := hc
        have h1 : i + 1 < s.size := by omega
        have h2' : i + 2 < s.size := by omega
        have b1 := bt_at s (i + 1) h1
        have b2 := bt_at s (i + 2) h2'
        have ed : Utf8.decode s i = (bt s i % 16 * 4096 + bt s (i + 1) % 64 * 64 + bt s (i + 2) % 64, 3) := by
          rw [dec]; unfold Lib.decodeN
          rw [if_neg (by omega), if_neg (by omega), if_pos ⟨by omega, ⟨by omega, by omega⟩, by omega, by omega⟩, if_pos (by omega)]
        rw [e, ed, take_3 s i hi h1 h2']
        refine ⟨?_, ?_, by simp only; omega, rfl⟩
        · unfold Lib.encodeRune
          rw [Lib.encodeRuneZ_three (by simp only; omega)]
          simp only [List.map_cons, List.map_nil]
          rw [toU8 s[i] _ (by omega), toU8 s[i + 1] _ (by omega), toU8 s[i + 2] _ (by omega)]
        · intro c hc; simp at hc; rcases hc with rfl | rfl | rfl <;> omega
      · exact absurd e hv
    · have hlt : s[i].toNat < 256 := UInt8.toNat_lt _
      have e := rlN_4 (n := s.size - i) (b0 := bt s i) (b1 := bt s (i + 1)) (b2 := bt s (i + 2)) (b3 := bt s (i + 3)) (by rw [hb0]; omega) (by rw [hb0]; exact hlt) (bt_lt _ _) (bt_lt _ _) (bt_lt _ _)
      change rl s i = _ at e
      split at e
      · rename_i hc
        obtain ⟨c1, c2, c3, c4, c5, c6, c7, c8, c9⟩ := hc
        have h1 : i + 1 < s.size := by omega
        have h2' : i + 2 < s.size := by omega
        have h3' : i + 3 < s.size := by omega
        have b1 := bt_at s (i + 1) h1
        have b2 := bt_at s (i + 2) h2'
        have b3 := bt_at s (i + 3) h3'
        have ed : Utf8.decode s i = (bt s i % 8 * 262144 + bt s (i + 1) % 64 * 4096 + bt s (i + 2) % 64 * 64 + bt s (i + 3) % 64, 4) := by
          rw [dec]; unfold Lib.decodeN
          rw [if_neg (by omega), if_neg (by omega), if_neg (by omega), if_pos ⟨by omega, ⟨by omega, by omega⟩, ⟨by omega, by omega⟩, by omega, by omega⟩, if_pos (by omega)]
        rw [e, ed, take_4 s i hi h1 h2' h3']
        refine ⟨?_, ?_, by simp only; omega, rfl⟩
        · unfold Lib.encodeRune
          rw [Lib.encodeRuneZ_four (by simp only; omega) (by simp only; omega)]
          simp only [List.map_cons, List.map_nil]
          rw [toU8 s[i] _ (by omega), toU8 s[i + 1] _ (by omega), toU8 s[i + 2] _ (by omega), toU8 s[i + 3] _ (by omega)]
        · intro c hc; simp at hc; rcases hc with rfl | rfl | rfl | rfl <;> omega
      · exact absurd e hv
end Go.Proofs.YtadefcohbkgbfaaDoor
