import Derived.Test.YtadefcohbkgbfaaDoorStr
import Derived.Lib.UnsafeStr
namespace Go.Proofs.YtadefcohbkgbfaaDoor
open Go.RowKit

def escB (c : UInt8) : List UInt8 := if c.toNat = 126 then [126, 48] else if c.toNat = 47 then [126, 49] else [c]
def esc (l : List UInt8) : List UInt8 := l.flatMap escB
def ptrText (ss : List ByteArray) : List UInt8 := ss.flatMap (fun s => 47 :: esc s.data.toList)

theorem escB_le (c : UInt8) : (escB c).length ≤ 2 := by unfold escB; split <;> (try split) <;> simp
theorem esc_le (l : List UInt8) : (esc l).length ≤ 2 * l.length := by
  induction l with
  | nil => simp [esc]
  | cons c l ih => have := escB_le c; simp only [esc, List.flatMap_cons, List.length_append, List.length_cons] at *; omega
theorem esc_snoc (l : List UInt8) (c : UInt8) : esc (l ++ [c]) = esc l ++ escB c := by simp [esc]
theorem ptrText_snoc (ss : List ByteArray) (s : ByteArray) : ptrText (ss ++ [s]) = ptrText ss ++ 47 :: esc s.data.toList := by simp [ptrText]
theorem data_len (s : ByteArray) : s.data.toList.length = s.size := Array.length_toList
theorem ptrText_le (ss : List ByteArray) : (ptrText ss).length ≤ ss.length + 2 * tot ss := by
  induction ss with
  | nil => simp [ptrText, tot]
  | cons s ss ih =>
    have := esc_le s.data.toList
    have e := data_len s
    simp only [ptrText, tot, List.flatMap_cons, List.length_append, List.length_cons, List.map_cons, List.sum_cons] at *
    omega
theorem bytes_snoc (s : ByteArray) (k : Nat) (h : k < s.size) : s.data.toList.take (k + 1) = s.data.toList.take k ++ [s[k]] := by
  rw [List.take_succ_eq_append_getElem (by simpa using h)]; rfl
theorem bytes_all (s : ByteArray) : s.data.toList.take s.size = s.data.toList := List.take_of_length_le (Nat.le_of_eq (data_len s))
theorem tot_ge {ss : List ByteArray} {j : Nat} (hj : j < ss.length) : tot (ss.take j) + (ss.getD j ByteArray.empty).size ≤ tot ss := by
  have := tot_take_le ss (j + 1)
  rw [take_snoc hj, tot_snoc] at this
  exact this
theorem escB_126 {c : UInt8} (h : (c.toNat : Int) = 126) : escB c = [126, 48] := by unfold escB; rw [if_pos (by omega)]
theorem escB_47 {c : UInt8} (h : (c.toNat : Int) = 47) : escB c = [126, 49] := by unfold escB; rw [if_neg (by omega), if_pos (by omega)]
theorem escB_other {c : UInt8} (h : ¬ (c.toNat : Int) = 126) (h' : ¬ (c.toNat : Int) = 47) : escB c = [c] := by unfold escB; rw [if_neg (by omega), if_neg (by omega)]
end Go.Proofs.YtadefcohbkgbfaaDoor
