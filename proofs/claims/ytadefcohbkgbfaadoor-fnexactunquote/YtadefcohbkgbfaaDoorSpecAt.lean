import Derived.Test.YtadefcohbkgbfaaDoorTokPlain
namespace Go.Proofs.YtadefcohbkgbfaaDoor
open Go.RowKit

def atB (s : ByteArray) (k : Nat) (c : Int) : Bool := match s.data.toList[k]? with
  | some x => (x.toNat : Int) == c
  | none => false
theorem getElem_data (s : ByteArray) (k : Nat) (h : k < s.size) : s.data.toList[k]? = some s[k] := by
  rw [List.getElem?_eq_getElem (by rw [data_len]; exact h)]; rfl
theorem atB_in {s : ByteArray} {k : Nat} {c : Int} (h : k < s.size) : atB s k c = ((s[k].toNat : Int) == c) := by
  unfold atB; rw [getElem_data s k h]
theorem atB_out {s : ByteArray} {k : Nat} {c : Int} (h : ¬ k < s.size) : atB s k c = false := by
  unfold atB; rw [List.getElem?_eq_none (by rw [data_len]; omega)]
theorem ret_bool {a b : Bool} (h : a = b) : Ending.returned (.bool a) = .returned (.bool b) := by rw [h]

set_option maxHeartbeats 400000 in
theorem at_walk (s : ByteArray) (i : Int) (k : Nat) (hik : i = (k : Int)) (c : Int) (w : World) :
    Calls Tryd.prog 44 #[.string s, .int .i64 i, .int .u8 c] w fun e w' => e = .returned (.bool (atB s k c)) ∧ w = w' := by
  subst hik
  by_cases h : k < s.size
  · have HB := hide (atB_in (c := c) h)
    have h' : (k : Int) < (s.size : Int) := by omega
    go_enter Tryd.func44, Tryd.ntmps44
    go_wp2
    go_ret
    exact ⟨ret_bool (by rw [unhide HB]), rfl⟩
  · have HB := hide (atB_out (c := c) h)
    have h' : decide ((k : Int) < (s.size : Int)) = false := by simp; omega
    go_enter Tryd.func44, Tryd.ntmps44
    go_wp2
    go_ret
    exact ⟨ret_bool (by rw [unhide HB]), rfl⟩
end Go.Proofs.YtadefcohbkgbfaaDoor
