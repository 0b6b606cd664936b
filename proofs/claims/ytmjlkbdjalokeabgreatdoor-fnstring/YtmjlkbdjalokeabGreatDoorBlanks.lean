import Derived.Test.YtmjlkbdjalokeabGreatDoorRdr
import Derived.Deep.LoopGhost
namespace Go.Proofs.YtmjlkbdjalokeabGreatDoor
open Go.RowKit

/-- The first place from i on that holds no blank. -/
def skF (s : ByteArray) : Nat → Nat → Nat
  | 0, i => i
  | f + 1, i => if bt s i = 32 ∨ bt s i = 9 ∨ bt s i = 10 ∨ bt s i = 13 then skF s f (i + 1) else i
def sk (s : ByteArray) (i : Nat) : Nat := skF s (s.size - i) i
theorem sk_on {s : ByteArray} {i : Nat} (h : bt s i = 32 ∨ bt s i = 9 ∨ bt s i = 10 ∨ bt s i = 13) : sk s i = sk s (i + 1) := by
  have hi : i < s.size := bt_in (by omega)
  unfold sk
  rw [show s.size - i = (s.size - (i + 1)) + 1 by omega, skF, if_pos h]
theorem sk_off {s : ByteArray} {i : Nat} (h : ¬ (bt s i = 32 ∨ bt s i = 9 ∨ bt s i = 10 ∨ bt s i = 13)) : sk s i = i := by
  unfold sk
  cases s.size - i with
  | zero => rfl
  | succ f => rw [skF, if_neg h]
theorem skF_le (s : ByteArray) : ∀ f i, i + f ≤ s.size → i ≤ skF s f i ∧ skF s f i ≤ i + f
  | 0, i, _ => ⟨Nat.le_refl _, Nat.le_refl _⟩
  | f + 1, i, h => by
    rw [skF]
    split
    · have := skF_le s f (i + 1) (by omega); omega
    · omega
theorem sk_le {s : ByteArray} {i : Nat} (h : i ≤ s.size) : i ≤ sk s i ∧ sk s i ≤ s.size := by
  have := skF_le s (s.size - i) i (by omega)
  unfold sk; omega
theorem sk_past {s : ByteArray} {i : Nat} (h : s.size ≤ i) : sk s i = i := by
  unfold sk; rw [show s.size - i = 0 by omega]; rfl
theorem sk_end (s : ByteArray) (i : Nat) : ¬ (bt s (sk s i) = 32 ∨ bt s (sk s i) = 9 ∨ bt s (sk s i) = 10 ∨ bt s (sk s i) = 13) := by
  generalize hn : s.size - i = n
  induction n generalizing i with
  | zero => rw [sk_past (by omega), bt_out s i (by omega)]; omega
  | succ n ih =>
    by_cases h : bt s i = 32 ∨ bt s i = 9 ∨ bt s i = 10 ∨ bt s i = 13
    · rw [sk_on h]; exact ih (i + 1) (by omega)
    · rw [sk_off h]; exact h

set_option maxHeartbeats 1600000 in
theorem skipBlanks_walk (rb : Nat) (s : ByteArray) (i : Nat) (tb kt : Bool) (w : World) (h : Rdr rb s i tb kt w) (hs : s.size ≤ 1048576) (hi : i ≤ s.size) :
    Calls Tryz.prog 60 #[.pointer (some ⟨rb, 0, none⟩)] w fun e w' => e = .returned (.tuple #[]) ∧ Rdr rb s (sk s i) tb kt w' ∧ KB rb w w' := by
  have R0 := hide h
  clear h
  go_enter Tryz.func60, Tryz.ntmps60
  go_wp2_with fail
  go_loopg [] (s.size - i) (fun g wr => ∃ j : Nat, g = s.size - j ∧ j ≤ s.size ∧ Rdr rb s j tb kt wr ∧ KB rb w wr ∧ sk s i = sk s j)
  case atStart => exact ⟨i, rfl, hi, unhide R0, KB.refl _ _, rfl⟩
  case round =>
    obtain ⟨j, hg, hj, hr, hk, hst⟩ := hrel
    have HR := hide hr
    have HST := hide hst
    clear hr hst R0
    have HY : Hid (∀ (c : Nat) wa, c ≠ 0 → bt s j = c → Rdr rb s j tb kt wa → Calls Tryz.prog 41 #[.pointer (some ⟨rb, 0, none⟩), .int .u8 c] wa fun e w' => e = .returned (.bool true) ∧ Rdr rb s (j + 1) tb kt w' ∧ KB rb wa w') := fun c wa h0 hc hr => skip_yes rb s j tb kt wa hr hs c hc (bt_in (by omega))
    have HN : Hid (∀ (c : Nat) wa, bt s j ≠ c → Rdr rb s j tb kt wa → Calls Tryz.prog 41 #[.pointer (some ⟨rb, 0, none⟩), .int .u8 c] wa fun e w' => e = .returned (.bool false) ∧ Rdr rb s j tb kt w' ∧ KB rb wa w') := fun c wa hc hr => skip_no rb s j tb kt wa hr hj c (.inl hc)
    by_cases c1 : bt s j = 32
    · have HX : Hid (sk s i = sk s (j + 1)) := by show _ = _; rw [unhide HST, sk_on (.inl c1)]
      have hlt : j < s.size := bt_in (by omega)
      go_wp2_with fail
      refine (unhide HY 32 _ (by decide) c1 (unhide HR)).mono ?_
      rintro e w2 ⟨rfl, r2, k2⟩
      have R2 := hide r2
      clear r2
      go_wp2
      go_roundg (s.size - (j + 1))
      case rel => exact ⟨j + 1, rfl, by omega, unhide R2, hk.trans k2, unhide HX⟩
      case measure => omega
    by_cases c2 : bt s j = 9
    · have HX : Hid (sk s i = sk s (j + 1)) := by show _ = _; rw [unhide HST, sk_on (.inr (.inl c2))]
      have hlt : j < s.size := bt_in (by omega)
      go_wp2_with fail
      refine (unhide HN 32 _ c1 (unhide HR)).mono ?_
      rintro e w2 ⟨rfl, r2, k2⟩
      have R2 := hide r2
      clear r2
      go_wp2_with fail
      refine (unhide HY 9 _ (by decide) c2 (unhide R2)).mono ?_
      rintro e w3 ⟨rfl, r3, k3⟩
      have R3 := hide r3
      clear r3
      go_wp2
      go_roundg (s.size - (j + 1))
      case rel => exact ⟨j + 1, rfl, by omega, unhide R3, (hk.trans k2).trans k3, unhide HX⟩
      case measure => omega
    by_cases c3 : bt s j = 10
    · have HX : Hid (sk s i = sk s (j + 1)) := by show _ = _; rw [unhide HST, sk_on (.inr (.inr (.inl c3)))]
      have hlt : j < s.size := bt_in (by omega)
      go_wp2_with fail
      refine (unhide HN 32 _ c1 (unhide HR)).mono ?_
      rintro e w2 ⟨rfl, r2, k2⟩
      have R2 := hide r2
      clear r2
      go_wp2_with fail
      refine (unhide HN 9 _ c2 (unhide R2)).mono ?_
      rintro e w3 ⟨rfl, r3, k3⟩
      have R3 := hide r3
      clear r3
      go_wp2_with fail
      refine (unhide HY 10 _ (by decide) c3 (unhide R3)).mono ?_
      rintro e w4 ⟨rfl, r4, k4⟩
      have R4 := hide r4
      clear r4
      go_wp2
      go_roundg (s.size - (j + 1))
      case rel => exact ⟨j + 1, rfl, by omega, unhide R4, ((hk.trans k2).trans k3).trans k4, unhide HX⟩
      case measure => omega
    go_wp2_with fail
    refine (unhide HN 32 _ c1 (unhide HR)).mono ?_
    rintro e w2 ⟨rfl, r2, k2⟩
    have R2 := hide r2
    clear r2
    go_wp2_with fail
    refine (unhide HN 9 _ c2 (unhide R2)).mono ?_
    rintro e w3 ⟨rfl, r3, k3⟩
    have R3 := hide r3
    clear r3
    go_wp2_with fail
    refine (unhide HN 10 _ c3 (unhide R3)).mono ?_
    rintro e w4 ⟨rfl, r4, k4⟩
    have R4 := hide r4
    clear r4
    by_cases c4 : bt s j = 13
    · have HX : Hid (sk s i = sk s (j + 1)) := by show _ = _; rw [unhide HST, sk_on (.inr (.inr (.inr c4)))]
      have hlt : j < s.size := bt_in (by omega)
      go_wp2_with fail
      refine (unhide HY 13 _ (by decide) c4 (unhide R4)).mono ?_
      rintro e w5 ⟨rfl, r5, k5⟩
      have R5 := hide r5
      clear r5
      go_wp2
      go_roundg (s.size - (j + 1))
      case rel => exact ⟨j + 1, rfl, by omega, unhide R5, (((hk.trans k2).trans k3).trans k4).trans k5, unhide HX⟩
      case measure => omega
    · have HX : Hid (sk s i = j) := by show _ = _; rw [unhide HST, sk_off (by omega)]
      go_wp2_with fail
      refine (unhide HN 13 _ c4 (unhide R4)).mono ?_
      rintro e w5 ⟨rfl, r5, k5⟩
      have R5 := hide r5
      clear r5
      go_wp2
      go_end0
      exact ⟨rfl, by rw [unhide HX]; exact unhide R5, (((hk.trans k2).trans k3).trans k4).trans k5⟩

set_option maxHeartbeats 800000 in
theorem peek_walk (rb : Nat) (s : ByteArray) (i : Nat) (tb kt : Bool) (w : World) (h : Rdr rb s i tb kt w) (hi : i ≤ s.size) :
    Calls Tryz.prog 76 #[.pointer (some ⟨rb, 0, none⟩)] w fun e w' => e = .returned (.int .u8 (bt s i)) ∧ Rdr rb s i tb kt w' ∧ KB rb w w' := by
  have c0 := h.text
  have c1 := h.at
  have H := hide h
  clear h
  by_cases hi' : i = s.size
  · have hne : ((i : Int) == (s.size : Int)) = true := by rw [beq_iff_eq]; omega
    have HB := hide (bt_out s i (by omega))
    go_enter Tryz.func76, Tryz.ntmps76
    go_wp2_with fail
    go_quiet (fail)
    go_wp2
    go_ret
    exact ⟨by rw [unhide HB]; rfl, (unhide H).drewN _, (KB.refl rb w).drewN _⟩
  · have h0 : i < s.size := by omega
    have hne : ((i : Int) == (s.size : Int)) = false := by rw [beq_eq_false_iff_ne]; omega
    have HB := hide (bt_at s i h0)
    go_enter Tryz.func76, Tryz.ntmps76
    go_wp2_with fail
    go_quiet (fail)
    go_wp2_with fail
    go_quiet (fail)
    go_wp2
    go_ret
    exact ⟨by rw [unhide HB]; rfl, ((unhide H).drewN _).drewN _, ((KB.refl rb w).drewN _).drewN _⟩
end Go.Proofs.YtmjlkbdjalokeabGreatDoor
