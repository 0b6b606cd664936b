import Derived.Test.YtadefcohbkgbfaaDoorTokPlain
import Derived.Lib.TrimUEq
import Derived.Lib.ValidU
import Derived.Lib.RuneBytes
import Derived.Lib.DecodeN
namespace Go.Proofs.YtadefcohbkgbfaaDoor
open Go.RowKit Go.Lib

/-- The byte at place i + k, as a number; 0 beyond the end. -/
def bt (s : ByteArray) (i : Nat) : Nat := (s.data.toList.getD i 0).toNat
theorem bt_lt (s : ByteArray) (i : Nat) : bt s i < 256 := UInt8.toNat_lt _
theorem bt_at (s : ByteArray) (i : Nat) (h : i < s.size) : bt s i = s[i].toNat := by
  unfold bt
  have : s.data.toList[i]? = some s[i] := by rw [List.getElem?_eq_getElem (by rw [data_len]; exact h)]; rfl
  rw [List.getD_eq_getElem?_getD, this]; rfl
theorem dec (s : ByteArray) (i : Nat) : Utf8.decode s i = decodeN (s.size - i) (bt s i) (bt s (i + 1)) (bt s (i + 2)) (bt s (i + 3)) := by
  rw [decode_N, data_len]; rfl

/-- The length of the rune at a place, 0 where there is none. -/
def rlN (n b0 b1 b2 b3 : Nat) : Nat := if b0 < 128 then 1 else if (decodeN n b0 b1 b2 b3).2 = 1 then 0 else (decodeN n b0 b1 b2 b3).2
def rl (s : ByteArray) (i : Nat) : Nat := rlN (s.size - i) (bt s i) (bt s (i + 1)) (bt s (i + 2)) (bt s (i + 3))

theorem rlN_one {n b0 b1 b2 b3 : Nat} (h : b0 < 128) : rlN n b0 b1 b2 b3 = 1 := by simp [rlN, h]
theorem rlN_cont {n b0 b1 b2 b3 : Nat} (h : 128 ≤ b0) (h' : b0 < 192) : rlN n b0 b1 b2 b3 = 0 := by
  unfold rlN decodeN
  rw [if_neg (by omega)]
  repeat' split
  all_goals first | rfl | (exfalso; omega) | (simp at *; done) | (exfalso; simp at *; omega)

/-- Two bytes. -/
theorem rlN_2 {n b0 b1 b2 b3 : Nat} (h : 192 ≤ b0) (h' : b0 < 224) (hb1 : b1 < 256) :
    rlN n b0 b1 b2 b3 = if 2 ≤ n ∧ 128 ≤ b1 ∧ b1 < 192 ∧ 128 ≤ (b0 - 192) * 64 + (b1 - 128) then 2 else 0 := by
  unfold rlN decodeN
  rw [if_neg (by omega)]
  repeat' split
  all_goals first | rfl | omega | (exfalso; omega) | (exfalso; simp at *; omega)
/-- Three bytes. -/
theorem rlN_3 {n b0 b1 b2 b3 : Nat} (h : 224 ≤ b0) (h' : b0 < 240) (hb1 : b1 < 256) (hb2 : b2 < 256) :
    rlN n b0 b1 b2 b3 = if 3 ≤ n ∧ 128 ≤ b1 ∧ b1 < 192 ∧ 128 ≤ b2 ∧ b2 < 192 ∧ 2048 ≤ (b0 - 224) * 4096 + (b1 - 128) * 64 + (b2 - 128) ∧ ((b0 - 224) * 4096 + (b1 - 128) * 64 + (b2 - 128) < 55296 ∨ 57344 ≤ (b0 - 224) * 4096 + (b1 - 128) * 64 + (b2 - 128)) then 3 else 0 := by
  unfold rlN decodeN
  rw [if_neg (by omega)]
  repeat' split
  all_goals first | rfl | omega | (exfalso; omega) | (exfalso; simp at *; omega)
/-- Four bytes. -/
theorem rlN_4 {n b0 b1 b2 b3 : Nat} (h : 240 ≤ b0) (h' : b0 < 256) (hb1 : b1 < 256) (hb2 : b2 < 256) (hb3 : b3 < 256) :
    rlN n b0 b1 b2 b3 = if 4 ≤ n ∧ 128 ≤ b1 ∧ b1 < 192 ∧ 128 ≤ b2 ∧ b2 < 192 ∧ 128 ≤ b3 ∧ b3 < 192 ∧ 65536 ≤ (b0 - 240) * 262144 + (b1 - 128) * 4096 + (b2 - 128) * 64 + (b3 - 128) ∧ (b0 - 240) * 262144 + (b1 - 128) * 4096 + (b2 - 128) * 64 + (b3 - 128) ≤ 1114111 then 4 else 0 := by
  unfold rlN decodeN
  rw [if_neg (by omega)]
  repeat' split
  all_goals first | rfl | omega | (exfalso; omega) | (exfalso; simp at *; omega)
end Go.Proofs.YtadefcohbkgbfaaDoor
