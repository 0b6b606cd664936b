import Derived.Test.YtadefcohbkgbfaaDoorTokPlain
namespace Go.Proofs.YtadefcohbkgbfaaDoor
open Go.RowKit

def hexs : List UInt8 := [48, 49, 50, 51, 52, 53, 54, 55, 56, 57, 97, 98, 99, 100, 101, 102]
def qB (c : UInt8) : List UInt8 :=
  if c.toNat = 34 ∨ c.toNat = 92 then [92, c] else if c.toNat = 8 then [92, 98] else if c.toNat = 9 then [92, 116] else if c.toNat = 10 then [92, 110]
  else if c.toNat = 12 then [92, 102] else if c.toNat = 13 then [92, 114] else if c.toNat < 32 then [92, 117, 48, 48, hexs.getD (c.toNat / 16) 0, hexs.getD (c.toNat % 16) 0] else [c]
theorem qB_le (c : UInt8) : (qB c).length ≤ 6 := by
  unfold qB
  repeat' split
  all_goals simp
def qs (l : List UInt8) : List UInt8 := l.flatMap qB
def quoted (l : List UInt8) : List UInt8 := 34 :: (qs l ++ [34])
theorem qs_snoc (l : List UInt8) (c : UInt8) : qs (l ++ [c]) = qs l ++ qB c := by simp [qs]
theorem qs_app (l m : List UInt8) : qs (l ++ m) = qs l ++ qs m := by simp [qs]
theorem qs_le (l : List UInt8) : (qs l).length ≤ 6 * l.length := by
  induction l with
  | nil => simp [qs]
  | cons c l ih => have := qB_le c; simp only [qs, List.flatMap_cons, List.length_append, List.length_cons] at *; omega
theorem q_esc {c : UInt8} (h : (c.toNat : Int) = 34 ∨ (c.toNat : Int) = 92) : qB c = [92, c] := by unfold qB; rw [if_pos (by omega)]
theorem q_8 {c : UInt8} (h : (c.toNat : Int) = 8) : qB c = [92, 98] := by unfold qB; rw [if_neg (by omega), if_pos (by omega)]
theorem q_9 {c : UInt8} (h : (c.toNat : Int) = 9) : qB c = [92, 116] := by unfold qB; rw [if_neg (by omega), if_neg (by omega), if_pos (by omega)]
theorem q_10 {c : UInt8} (h : (c.toNat : Int) = 10) : qB c = [92, 110] := by unfold qB; rw [if_neg (by omega), if_neg (by omega), if_neg (by omega), if_pos (by omega)]
theorem q_12 {c : UInt8} (h : (c.toNat : Int) = 12) : qB c = [92, 102] := by unfold qB; rw [if_neg (by omega), if_neg (by omega), if_neg (by omega), if_neg (by omega), if_pos (by omega)]
theorem q_13 {c : UInt8} (h : (c.toNat : Int) = 13) : qB c = [92, 114] := by unfold qB; rw [if_neg (by omega), if_neg (by omega), if_neg (by omega), if_neg (by omega), if_neg (by omega), if_pos (by omega)]
def Ctl (n : Nat) : Prop := n < 32 ∧ ¬ n = 8 ∧ ¬ n = 9 ∧ ¬ n = 10 ∧ ¬ n = 12 ∧ ¬ n = 13
theorem q_ctl {c : UInt8} (h : Ctl c.toNat) : qB c = [92, 117, 48, 48, hexs.getD (c.toNat / 16) 0, hexs.getD (c.toNat % 16) 0] := by
  obtain ⟨h1, h2, h3, h4, h5, h6⟩ := h
  unfold qB; rw [if_neg (by omega), if_neg h2, if_neg h3, if_neg h4, if_neg h5, if_neg h6, if_pos h1]
theorem q_lit {c : UInt8} (h : ¬ c.toNat = 34) (h' : ¬ c.toNat = 92) (h'' : 32 ≤ c.toNat) : qB c = [c] := by
  unfold qB; rw [if_neg (by omega), if_neg (by omega), if_neg (by omega), if_neg (by omega), if_neg (by omega), if_neg (by omega), if_neg (by omega)]
theorem hex_at (k : Nat) (h : k < 16) : (⟨hexs.toArray⟩ : ByteArray)[k]'(by show k < 16; exact h) = hexs.getD k 0 := by
  rcases (show k = 0 ∨ k = 1 ∨ k = 2 ∨ k = 3 ∨ k = 4 ∨ k = 5 ∨ k = 6 ∨ k = 7 ∨ k = 8 ∨ k = 9 ∨ k = 10 ∨ k = 11 ∨ k = 12 ∨ k = 13 ∨ k = 14 ∨ k = 15 from by omega) with rfl | rfl | rfl | rfl | rfl | rfl | rfl | rfl | rfl | rfl | rfl | rfl | rfl | rfl | rfl | rfl <;> rfl
theorem qs_high : ∀ l : List UInt8, (∀ c ∈ l, 128 ≤ c.toNat) → qs l = l
  | [], _ => rfl
  | c :: l, h => by
    have h1 := h c List.mem_cons_self
    have ih := qs_high l (fun d hd => h d (List.mem_cons_of_mem _ hd))
    show qB c ++ qs l = c :: l
    rw [q_lit (by omega) (by omega) (by omega), ih]; rfl
end Go.Proofs.YtadefcohbkgbfaaDoor
