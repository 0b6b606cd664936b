import Derived.WalkLawsBesides
import Derived.Deep.QuietTactic
import Derived.BigQuiet
import Derived.Lib.OthersKept
import Derived.Laws.Rows
import Derived.Test.YtadefcohbkgbfabGreatDoorBn1
import Derived.Deep.LoopGhost
import Derived.Test.YtadefcohbkgbfabGreatDoorBn4
namespace Go.Proofs.YtadefcohbkgbfabGreatDoor
open Go.RowKit

/-- All old blocks but one are as they were. -/
structure KB (rb : Nat) (w w' : World) : Prop where
  os : w'.os = w.os
  tape : w'.tape = w.tape
  output : w'.output = w.output
  size : w.heap.size ≤ w'.heap.size
  block : ∀ k, k < w.heap.size → k ≠ rb → w'.heap[k]? = w.heap[k]?
theorem KB.refl (rb : Nat) (w : World) : KB rb w w := ⟨rfl, rfl, rfl, Nat.le_refl _, fun _ _ _ => rfl⟩
theorem KB.trans {rb : Nat} {a b c : World} (h : KB rb a b) (k : KB rb b c) : KB rb a c :=
  ⟨k.os.trans h.os, k.tape.trans h.tape, k.output.trans h.output, Nat.le_trans h.size k.size, fun i hi hn => (k.block i (Nat.lt_of_lt_of_le hi h.size) hn).trans (h.block i hi hn)⟩
theorem KB.drew {rb : Nat} {a w : World} (h : KB rb a w) : KB rb a w.drew := ⟨h.os, h.tape, h.output, h.size, h.block⟩
theorem KB.drewN {rb : Nat} {a w : World} (h : KB rb a w) (n : Nat) : KB rb a (w.drewN n) := ⟨h.os, h.tape, h.output, h.size, h.block⟩
theorem KB.set {rb : Nat} {a w : World} (h : KB rb a w) (j : Nat) (v : Value) : KB rb a (w.setCell ⟨rb, j, none⟩ v) :=
  h.trans ⟨rfl, rfl, rfl, by simp [World.setCell], fun k _ hn => Below.heap_setCell _ _ _ _ hn⟩
theorem KB.of_below {rb : Nat} {w w' : World} (h : Below w.heap.size w w') : KB rb w w' := ⟨h.os, h.tape, h.output, h.size, fun k hk _ => h.block k hk⟩
theorem KB.below {rb B : Nat} {w w' : World} (h : KB rb w w') (hB : B ≤ rb) (hs : B ≤ w.heap.size) : Below B w w' := ⟨h.os, h.tape, h.output, h.size, fun k hk => h.block k (by omega) (by omega)⟩

/-- A reader in block rb, at place i of the text s. -/
def Rdr (rb : Nat) (s : ByteArray) (i : Nat) (tb kt : Bool) (w : World) : Prop := w.heap[rb]? = some (.cells #[.string s, .int .i64 (i : Int), .bool tb, .bool kt] 50 (0, 0))
theorem Rdr.text {rb : Nat} {s : ByteArray} {i : Nat} {tb kt : Bool} {w : World} (h : Rdr rb s i tb kt w) : w.cell? ⟨rb, 0, none⟩ = some (.string s) := by rw [Lib.cell_of_heap h]; rfl
theorem Rdr.at {rb : Nat} {s : ByteArray} {i : Nat} {tb kt : Bool} {w : World} (h : Rdr rb s i tb kt w) : w.cell? ⟨rb, 1, none⟩ = some (.int .i64 (i : Int)) := by rw [Lib.cell_of_heap h]; rfl
theorem Rdr.frozen {rb : Nat} {s : ByteArray} {i : Nat} {tb kt : Bool} {w : World} (h : Rdr rb s i tb kt w) : w.frozen? ⟨rb, 1, none⟩ = false := Lib.frozen_of_heap h 1
theorem Rdr.lt {rb : Nat} {s : ByteArray} {i : Nat} {tb kt : Bool} {w : World} (h : Rdr rb s i tb kt w) : rb < w.heap.size := (Array.getElem?_eq_some_iff.1 h).1
theorem Rdr.set {rb : Nat} {s : ByteArray} {i : Nat} {tb kt : Bool} {w : World} (h : Rdr rb s i tb kt w) (z : Int) (j : Nat) (hz : z = (j : Int)) : Rdr rb s j tb kt (w.setCell ⟨rb, 1, none⟩ (.int .i64 z)) := by
  subst hz
  have := heap_setCell_same w rb 1 _ 50 (.int .i64 (j : Int)) h
  exact this
theorem Rdr.drewN {rb : Nat} {s : ByteArray} {i : Nat} {tb kt : Bool} {w : World} (h : Rdr rb s i tb kt w) (n : Nat) : Rdr rb s i tb kt (w.drewN n) := h
theorem Rdr.below {rb : Nat} {s : ByteArray} {i : Nat} {tb kt : Bool} {w w' : World} (h : Rdr rb s i tb kt w) (hb : Below w.heap.size w w') : Rdr rb s i tb kt w' := (hb.block rb h.lt).trans h

/-- The panic of a reader. -/
def mis : Ending := .panicked [{ v := .iface 84 (.agg #[]), recovered := false }]

set_option maxHeartbeats 800000 in
theorem next_in (rb : Nat) (s : ByteArray) (i : Nat) (tb kt : Bool) (w : World) (h : Rdr rb s i tb kt w) (hs : s.size ≤ 1048576) (hi : i < s.size) :
    Calls Tryz.prog 68 #[.pointer (some ⟨rb, 0, none⟩)] w fun e w' => e = .returned (.int .u8 (bt s i)) ∧ Rdr rb s (i + 1) tb kt w' ∧ KB rb w w' := by
  have c0 := h.text
  have c1 := h.at
  have f1 := h.frozen
  have hne : ((i : Int) == (s.size : Int)) = false := by rw [beq_eq_false_iff_ne]; omega
  have HB := hide (bt_at s i hi)
  have H := hide h
  clear h
  go_enter Tryz.func68, Tryz.ntmps68
  go_wp2_with fail
  go_quiet (fail)
  go_wp2_with fail
  go_quiet (fail)
  go_wp2
  go_ret
  exact ⟨by rw [unhide HB]; rfl, ((unhide H).drewN _).set _ _ (by omega), ((KB.refl rb w).drewN _).set 1 _⟩
set_option maxHeartbeats 800000 in
theorem next_out (rb : Nat) (s : ByteArray) (i : Nat) (tb kt : Bool) (w : World) (h : Rdr rb s i tb kt w) (hi : i = s.size) :
    Calls Tryz.prog 68 #[.pointer (some ⟨rb, 0, none⟩)] w fun e w' => e = mis ∧ KB rb w w' := by
  have c0 := h.text
  have c1 := h.at
  have f1 := h.frozen
  have hne : ((i : Int) == (s.size : Int)) = true := by rw [beq_iff_eq]; omega
  clear h
  go_enter Tryz.func68, Tryz.ntmps68
  go_wp2_with fail
  go_quiet (fail)
  go_wp2
  exact ⟨rfl, rfl, (KB.refl rb w).drewN _⟩

theorem bt_out (s : ByteArray) (i : Nat) (h : s.size ≤ i) : bt s i = 0 := by
  unfold bt
  rw [List.getD_eq_getElem?_getD, List.getElem?_eq_none (by rw [data_len]; exact h)]; rfl
theorem bt_in {s : ByteArray} {i : Nat} (h : bt s i ≠ 0) : i < s.size := by
  rcases Nat.lt_or_ge i s.size with g | g
  · exact g
  · exact absurd (bt_out s i g) h

set_option maxHeartbeats 800000 in
theorem readEnd_at (rb : Nat) (s : ByteArray) (i : Nat) (tb kt : Bool) (w : World) (h : Rdr rb s i tb kt w) (hi : i = s.size) :
    Calls Tryz.prog 33 #[.pointer (some ⟨rb, 0, none⟩)] w fun e w' => e = .returned (.tuple #[]) ∧ Rdr rb s i tb kt w' ∧ KB rb w w' := by
  have c0 := h.text
  have c1 := h.at
  have hne : ((i : Int) != (s.size : Int)) = false := by rw [bne_eq_false_iff_eq]; omega
  have H := hide h
  clear h hi
  go_enter Tryz.func33, Tryz.ntmps33
  go_wp2_with fail
  go_quiet (fail)
  go_wp2
  go_end0
  exact ⟨rfl, (unhide H).drewN _, (KB.refl rb w).drewN _⟩
set_option maxHeartbeats 800000 in
theorem readEnd_not (rb : Nat) (s : ByteArray) (i : Nat) (tb kt : Bool) (w : World) (h : Rdr rb s i tb kt w) (hi : i ≠ s.size) :
    Calls Tryz.prog 33 #[.pointer (some ⟨rb, 0, none⟩)] w fun e w' => e = mis ∧ KB rb w w' := by
  have c0 := h.text
  have c1 := h.at
  have hne : ((i : Int) != (s.size : Int)) = true := by rw [bne_iff_ne]; omega
  clear h hi
  go_enter Tryz.func33, Tryz.ntmps33
  go_wp2_with fail
  go_quiet (fail)
  go_wp2
  exact ⟨rfl, rfl, (KB.refl rb w).drewN _⟩

set_option maxHeartbeats 800000 in
theorem expect_yes (rb : Nat) (s : ByteArray) (i : Nat) (tb kt : Bool) (w : World) (h : Rdr rb s i tb kt w) (hs : s.size ≤ 1048576) (c : Nat) (hc : bt s i = c) (h0 : i < s.size) :
    Calls Tryz.prog 49 #[.pointer (some ⟨rb, 0, none⟩), .int .u8 c] w fun e w' => e = .returned (.tuple #[]) ∧ Rdr rb s (i + 1) tb kt w' ∧ KB rb w w' := by
  have HN := hide (next_in rb s i tb kt w h hs h0)
  rw [hc] at HN
  clear h hc h0 hs
  go_enter Tryz.func49, Tryz.ntmps49
  go_wp2_with fail
  refine (unhide HN).mono ?_
  rintro e w1 ⟨rfl, r1, k1⟩
  have R1 := hide r1
  clear r1 HN
  go_wp2
  go_end0
  exact ⟨rfl, unhide R1, k1⟩
set_option maxHeartbeats 800000 in
theorem expect_no (rb : Nat) (s : ByteArray) (i : Nat) (tb kt : Bool) (w : World) (h : Rdr rb s i tb kt w) (hs : s.size ≤ 1048576) (hi : i ≤ s.size) (c : Nat) (hc : bt s i ≠ c ∨ i = s.size) :
    Calls Tryz.prog 49 #[.pointer (some ⟨rb, 0, none⟩), .int .u8 c] w fun e w' => e = mis ∧ KB rb w w' := by
  by_cases hi' : i = s.size
  · have HN := hide (next_out rb s i tb kt w h hi')
    clear h hc hs
    go_enter Tryz.func49, Tryz.ntmps49
    go_wp2_with fail
    refine (unhide HN).mono ?_
    rintro e w1 ⟨rfl, k1⟩
    clear HN
    exact ⟨rfl, rfl, k1⟩
  · have HN := hide (next_in rb s i tb kt w h hs (by omega))
    have hne : (((bt s i : Nat) : Int) != (c : Int)) = true := by rw [bne_iff_ne]; omega
    generalize bt s i = b at *
    clear h hc hs
    go_enter Tryz.func49, Tryz.ntmps49
    go_wp2_with fail
    refine (unhide HN).mono ?_
    rintro e w1 ⟨rfl, r1, k1⟩
    clear r1 HN
    go_wp2
    exact ⟨rfl, rfl, k1⟩

set_option maxHeartbeats 1600000 in
theorem skip_yes (rb : Nat) (s : ByteArray) (i : Nat) (tb kt : Bool) (w : World) (h : Rdr rb s i tb kt w) (hs : s.size ≤ 1048576) (c : Nat) (hc : bt s i = c) (h0 : i < s.size) :
    Calls Tryz.prog 50 #[.pointer (some ⟨rb, 0, none⟩), .int .u8 c] w fun e w' => e = .returned (.bool true) ∧ Rdr rb s (i + 1) tb kt w' ∧ KB rb w w' := by
  have c0 := h.text
  have c1 := h.at
  have f1 := h.frozen
  have hne : ((i : Int) == (s.size : Int)) = false := by rw [beq_eq_false_iff_ne]; omega
  rw [bt_at s i h0] at hc
  subst hc
  have H := hide h
  clear h
  go_enter Tryz.func50, Tryz.ntmps50
  go_wp2_with fail
  go_quiet (fail)
  go_wp2
  go_ret
  exact ⟨rfl, ((unhide H).drewN _).set _ _ (by omega), ((KB.refl rb w).drewN _).set 1 _⟩
set_option maxHeartbeats 1600000 in
theorem skip_no (rb : Nat) (s : ByteArray) (i : Nat) (tb kt : Bool) (w : World) (h : Rdr rb s i tb kt w) (hi : i ≤ s.size) (c : Nat) (hc : bt s i ≠ c ∨ i = s.size) :
    Calls Tryz.prog 50 #[.pointer (some ⟨rb, 0, none⟩), .int .u8 c] w fun e w' => e = .returned (.bool false) ∧ Rdr rb s i tb kt w' ∧ KB rb w w' := by
  have c0 := h.text
  have c1 := h.at
  have H := hide h
  clear h
  by_cases hi' : i = s.size
  · have hne : ((i : Int) == (s.size : Int)) = true := by rw [beq_iff_eq]; omega
    go_enter Tryz.func50, Tryz.ntmps50
    go_wp2_with fail
    go_quiet (fail)
    go_wp2
    go_ret
    exact ⟨rfl, (unhide H).drewN _, (KB.refl rb w).drewN _⟩
  · have h0 : i < s.size := by omega
    have hne : ((i : Int) == (s.size : Int)) = false := by rw [beq_eq_false_iff_ne]; omega
    have hnc : ((s[i].toNat : Int) != (c : Int)) = true := by
      rw [bne_iff_ne]; rw [bt_at s i h0] at hc; omega
    clear hc
    go_enter Tryz.func50, Tryz.ntmps50
    go_wp2_with fail
    go_quiet (fail)
    go_wp2
    go_ret
    exact ⟨rfl, (unhide H).drewN _, (KB.refl rb w).drewN _⟩
end Go.Proofs.YtadefcohbkgbfabGreatDoor


namespace Go.Proofs.YtadefcohbkgbfabGreatDoor
open Go.RowKit

/-- The first place from i on that holds no blank. -/
def skF (s : ByteArray) : Nat → Nat → Nat
  | 0, i => i
  | f + 1, i => if bt s i = 32 ∨ bt s i = 9 ∨ bt s i = 10 ∨ bt s i = 13 then skF s f (i + 1) else i
def sk (s : ByteArray) (i : Nat) : Nat := skF s (s.size - i) i
theorem sk_on {s : ByteArray} {i : Nat} (h : bt s i = 32 ∨ bt s i = 9 ∨ bt s i = 10 ∨ bt s i = 13) : sk s i = sk s (i + 1) := by
  have hi : i < s.size := bt_in (by omega)
  unfold sk
  rw [show s.size - i = (s.size - (i + 1)) + 1 by omega, skF, if_pos h]
theorem sk_off {s : ByteArray} {i : Nat} (h : ¬ (bt s i = 32 ∨ bt s i = 9 ∨ bt s i = 10 ∨ bt s i = 13)) : sk s i = i := by
  unfold sk
  cases s.size - i with
  | zero => rfl
  | succ f => rw [skF, if_neg h]
theorem skF_le (s : ByteArray) : ∀ f i, i + f ≤ s.size → i ≤ skF s f i ∧ skF s f i ≤ i + f
  | 0, i, _ => ⟨Nat.le_refl _, Nat.le_refl _⟩
  | f + 1, i, h => by
    rw [skF]
    split
    · have := skF_le s f (i + 1) (by omega); omega
    · omega
theorem sk_le {s : ByteArray} {i : Nat} (h : i ≤ s.size) : i ≤ sk s i ∧ sk s i ≤ s.size := by
  have := skF_le s (s.size - i) i (by omega)
  unfold sk; omega
theorem sk_past {s : ByteArray} {i : Nat} (h : s.size ≤ i) : sk s i = i := by
  unfold sk; rw [show s.size - i = 0 by omega]; rfl
theorem sk_end (s : ByteArray) (i : Nat) : ¬ (bt s (sk s i) = 32 ∨ bt s (sk s i) = 9 ∨ bt s (sk s i) = 10 ∨ bt s (sk s i) = 13) := by
  generalize hn : s.size - i = n
  induction n generalizing i with
  | zero => rw [sk_past (by omega), bt_out s i (by omega)]; omega
  | succ n ih =>
    by_cases h : bt s i = 32 ∨ bt s i = 9 ∨ bt s i = 10 ∨ bt s i = 13
    · rw [sk_on h]; exact ih (i + 1) (by omega)
    · rw [sk_off h]; exact h

set_option maxHeartbeats 1600000 in
theorem skipBlanks_walk (rb : Nat) (s : ByteArray) (i : Nat) (tb kt : Bool) (w : World) (h : Rdr rb s i tb kt w) (hs : s.size ≤ 1048576) (hi : i ≤ s.size) :
    Calls Tryz.prog 73 #[.pointer (some ⟨rb, 0, none⟩)] w fun e w' => e = .returned (.tuple #[]) ∧ Rdr rb s (sk s i) tb kt w' ∧ KB rb w w' := by
  have R0 := hide h
  clear h
  go_enter Tryz.func73, Tryz.ntmps73
  go_wp2_with fail
  go_loopg [] (s.size - i) (fun g wr => ∃ j : Nat, g = s.size - j ∧ j ≤ s.size ∧ Rdr rb s j tb kt wr ∧ KB rb w wr ∧ sk s i = sk s j)
  case atStart => exact ⟨i, rfl, hi, unhide R0, KB.refl _ _, rfl⟩
  case round =>
    obtain ⟨j, hg, hj, hr, hk, hst⟩ := hrel
    have HR := hide hr
    have HST := hide hst
    clear hr hst R0
    have HY : Hid (∀ (c : Nat) wa, c ≠ 0 → bt s j = c → Rdr rb s j tb kt wa → Calls Tryz.prog 50 #[.pointer (some ⟨rb, 0, none⟩), .int .u8 c] wa fun e w' => e = .returned (.bool true) ∧ Rdr rb s (j + 1) tb kt w' ∧ KB rb wa w') := fun c wa h0 hc hr => skip_yes rb s j tb kt wa hr hs c hc (bt_in (by omega))
    have HN : Hid (∀ (c : Nat) wa, bt s j ≠ c → Rdr rb s j tb kt wa → Calls Tryz.prog 50 #[.pointer (some ⟨rb, 0, none⟩), .int .u8 c] wa fun e w' => e = .returned (.bool false) ∧ Rdr rb s j tb kt w' ∧ KB rb wa w') := fun c wa hc hr => skip_no rb s j tb kt wa hr hj c (.inl hc)
    by_cases c1 : bt s j = 32
    · have HX : Hid (sk s i = sk s (j + 1)) := by show _ = _; rw [unhide HST, sk_on (.inl c1)]
      have hlt : j < s.size := bt_in (by omega)
      go_wp2_with fail
      refine (unhide HY 32 _ (by decide) c1 (unhide HR)).mono ?_
      rintro e w2 ⟨rfl, r2, k2⟩
      have R2 := hide r2
      clear r2
      go_wp2
      go_roundg (s.size - (j + 1))
      case rel => exact ⟨j + 1, rfl, by omega, unhide R2, hk.trans k2, unhide HX⟩
      case measure => omega
    by_cases c2 : bt s j = 9
    · have HX : Hid (sk s i = sk s (j + 1)) := by show _ = _; rw [unhide HST, sk_on (.inr (.inl c2))]
      have hlt : j < s.size := bt_in (by omega)
      go_wp2_with fail
      refine (unhide HN 32 _ c1 (unhide HR)).mono ?_
      rintro e w2 ⟨rfl, r2, k2⟩
      have R2 := hide r2
      clear r2
      go_wp2_with fail
      refine (unhide HY 9 _ (by decide) c2 (unhide R2)).mono ?_
      rintro e w3 ⟨rfl, r3, k3⟩
      have R3 := hide r3
      clear r3
      go_wp2
      go_roundg (s.size - (j + 1))
      case rel => exact ⟨j + 1, rfl, by omega, unhide R3, (hk.trans k2).trans k3, unhide HX⟩
      case measure => omega
    by_cases c3 : bt s j = 10
    · have HX : Hid (sk s i = sk s (j + 1)) := by show _ = _; rw [unhide HST, sk_on (.inr (.inr (.inl c3)))]
      have hlt : j < s.size := bt_in (by omega)
      go_wp2_with fail
      refine (unhide HN 32 _ c1 (unhide HR)).mono ?_
      rintro e w2 ⟨rfl, r2, k2⟩
      have R2 := hide r2
      clear r2
      go_wp2_with fail
      refine (unhide HN 9 _ c2 (unhide R2)).mono ?_
      rintro e w3 ⟨rfl, r3, k3⟩
      have R3 := hide r3
      clear r3
      go_wp2_with fail
      refine (unhide HY 10 _ (by decide) c3 (unhide R3)).mono ?_
      rintro e w4 ⟨rfl, r4, k4⟩
      have R4 := hide r4
      clear r4
      go_wp2
      go_roundg (s.size - (j + 1))
      case rel => exact ⟨j + 1, rfl, by omega, unhide R4, ((hk.trans k2).trans k3).trans k4, unhide HX⟩
      case measure => omega
    go_wp2_with fail
    refine (unhide HN 32 _ c1 (unhide HR)).mono ?_
    rintro e w2 ⟨rfl, r2, k2⟩
    have R2 := hide r2
    clear r2
    go_wp2_with fail
    refine (unhide HN 9 _ c2 (unhide R2)).mono ?_
    rintro e w3 ⟨rfl, r3, k3⟩
    have R3 := hide r3
    clear r3
    go_wp2_with fail
    refine (unhide HN 10 _ c3 (unhide R3)).mono ?_
    rintro e w4 ⟨rfl, r4, k4⟩
    have R4 := hide r4
    clear r4
    by_cases c4 : bt s j = 13
    · have HX : Hid (sk s i = sk s (j + 1)) := by show _ = _; rw [unhide HST, sk_on (.inr (.inr (.inr c4)))]
      have hlt : j < s.size := bt_in (by omega)
      go_wp2_with fail
      refine (unhide HY 13 _ (by decide) c4 (unhide R4)).mono ?_
      rintro e w5 ⟨rfl, r5, k5⟩
      have R5 := hide r5
      clear r5
      go_wp2
      go_roundg (s.size - (j + 1))
      case rel => exact ⟨j + 1, rfl, by omega, unhide R5, (((hk.trans k2).trans k3).trans k4).trans k5, unhide HX⟩
      case measure => omega
    · have HX : Hid (sk s i = j) := by show _ = _; rw [unhide HST, sk_off (by omega)]
      go_wp2_with fail
      refine (unhide HN 13 _ c4 (unhide R4)).mono ?_
      rintro e w5 ⟨rfl, r5, k5⟩
      have R5 := hide r5
      clear r5
      go_wp2
      go_end0
      exact ⟨rfl, by rw [unhide HX]; exact unhide R5, (((hk.trans k2).trans k3).trans k4).trans k5⟩

set_option maxHeartbeats 800000 in
theorem peek_walk (rb : Nat) (s : ByteArray) (i : Nat) (tb kt : Bool) (w : World) (h : Rdr rb s i tb kt w) (hi : i ≤ s.size) :
    Calls Tryz.prog 90 #[.pointer (some ⟨rb, 0, none⟩)] w fun e w' => e = .returned (.int .u8 (bt s i)) ∧ Rdr rb s i tb kt w' ∧ KB rb w w' := by
  have c0 := h.text
  have c1 := h.at
  have H := hide h
  clear h
  by_cases hi' : i = s.size
  · have hne : ((i : Int) == (s.size : Int)) = true := by rw [beq_iff_eq]; omega
    have HB := hide (bt_out s i (by omega))
    go_enter Tryz.func90, Tryz.ntmps90
    go_wp2_with fail
    go_quiet (fail)
    go_wp2
    go_ret
    exact ⟨by rw [unhide HB]; rfl, (unhide H).drewN _, (KB.refl rb w).drewN _⟩
  · have h0 : i < s.size := by omega
    have hne : ((i : Int) == (s.size : Int)) = false := by rw [beq_eq_false_iff_ne]; omega
    have HB := hide (bt_at s i h0)
    go_enter Tryz.func90, Tryz.ntmps90
    go_wp2_with fail
    go_quiet (fail)
    go_wp2_with fail
    go_quiet (fail)
    go_wp2
    go_ret
    exact ⟨by rw [unhide HB]; rfl, ((unhide H).drewN _).drewN _, ((KB.refl rb w).drewN _).drewN _⟩
end Go.Proofs.YtadefcohbkgbfabGreatDoor


namespace Go.Proofs.YtadefcohbkgbfabGreatDoor
open Go.RowKit

/-- The value of a hexadecimal digit. -/
def hx (b : Nat) : Option Nat := if 48 ≤ b ∧ b ≤ 57 then some (b - 48) else if 97 ≤ b ∧ b ≤ 102 then some (b - 87) else if 65 ≤ b ∧ b ≤ 70 then some (b - 55) else none
theorem hx_lt {b v : Nat} (h : hx b = some v) : v < 16 := by
  unfold hx at h
  repeat' split at h
  all_goals first | (injection h with h; omega) | cases h
/-- The number of k hexadecimal digits from place i on. -/
def hexN (s : ByteArray) (i : Nat) : Nat → Option Nat
  | 0 => some 0
  | k + 1 => (hexN s i k).bind fun v => (hx (bt s (i + k))).map fun h => v * 16 + h
theorem hexN_lt (s : ByteArray) (i : Nat) : ∀ (k v : Nat), hexN s i k = some v → v < 16 ^ k
  | 0, v, h => by injection h with h; omega
  | k + 1, v, h => by
    simp only [hexN, Option.bind_eq_some_iff, Option.map_eq_some_iff] at h
    obtain ⟨u, hu, y, hy, rfl⟩ := h
    have := hexN_lt s i k u hu
    have := hx_lt hy
    rw [Nat.pow_succ]; omega
theorem hexN_next {s : ByteArray} {i k v h : Nat} (hv : hexN s i k = some v) (hh : hx (bt s (i + k)) = some h) : hexN s i (k + 1) = some (v * 16 + h) := by simp [hexN, hv, hh]
theorem hexN_bad {s : ByteArray} {i k : Nat} (hh : hx (bt s (i + k)) = none) : hexN s i (k + 1) = none := by simp [hexN, hh]
theorem hexN_none {s : ByteArray} {i k m : Nat} (h : hexN s i k = none) (hm : k ≤ m) : hexN s i m = none := by
  induction m with
  | zero => have : k = 0 := by omega
            subst this; exact h
  | succ m ih =>
    rcases Nat.lt_or_ge m k with g | g
    · have : k = m + 1 := by omega
      subst this; exact h
    · simp [hexN, ih g]
theorem hexN_in {s : ByteArray} {i k v : Nat} (h : hexN s i (k + 1) = some v) : i + k < s.size := by
  refine bt_in fun e => ?_
  have := hexN_bad (s := s) (i := i) (k := k) (by rw [e]; rfl)
  rw [this] at h; cases h

/-- What an escape of one byte stands for. -/
def smp (b : Nat) : Option Nat := if b = 34 then some 34 else if b = 92 then some 92 else if b = 47 then some 47 else if b = 98 then some 8 else if b = 102 then some 12 else if b = 110 then some 10 else if b = 114 then some 13 else if b = 116 then some 9 else none
theorem smp_lt {b v : Nat} (h : smp b = some v) : v < 128 := by
  unfold smp at h
  repeat' split at h
  all_goals first | (injection h with h; omega) | cases h
/-- The number behind \u at place i. -/
def unit (s : ByteArray) (i : Nat) : Option Nat := if bt s i = 92 ∧ bt s (i + 1) = 117 then hexN s (i + 2) 4 else none
theorem unit_lt {s : ByteArray} {i u : Nat} (h : unit s i = some u) : u < 65536 := by
  unfold unit at h; split at h
  · exact hexN_lt s (i + 2) 4 u h
  · cases h
theorem unit_in {s : ByteArray} {i u : Nat} (h : unit s i = some u) : i + 6 ≤ s.size := by
  unfold unit at h; split at h
  · have := hexN_in h; omega
  · cases h
/-- The rune of an escape, its backslash at place i, and the escape's length. -/
def escU (s : ByteArray) (i u : Nat) : Option (Nat × Nat) :=
  if u < 55296 ∨ 57344 ≤ u then some (u, 6) else if 56320 ≤ u then none else
  (unit s (i + 6)).bind fun v => if 56320 ≤ v ∧ v < 57344 then some (65536 + (u - 55296) * 1024 + (v - 56320), 12) else none
def escP (s : ByteArray) (i : Nat) : Option (Nat × Nat) :=
  match smp (bt s (i + 1)) with
  | some v => some (v, 2)
  | none => (unit s i).bind (escU s i)
def piece (s : ByteArray) (i : Nat) : Option (Nat × Nat) :=
  if bt s i = 92 then escP s i else if bt s i < 32 then none else if bt s i < 128 then some (bt s i, 1)
  else if rl s i = 0 then none else some ((Utf8.decode s i).1, rl s i)

theorem escU_ok {s : ByteArray} {i u r n : Nat} (hu : u < 65536) (hi : i + 6 ≤ s.size) (h : escU s i u = some (r, n)) : i + n ≤ s.size ∧ 1 ≤ n ∧ r ≤ 1114111 ∧ (r < 55296 ∨ 57344 ≤ r) := by
  unfold escU at h
  split at h
  · injection h with h; injection h with h1 h2; omega
  · split at h
    · cases h
    · simp only [Option.bind_eq_some_iff] at h
      obtain ⟨v, hv, h⟩ := h
      have := unit_in hv
      split at h
      · injection h with h; injection h with h1 h2; omega
      · cases h
theorem bt_simple {s : ByteArray} {i v : Nat} (h : smp (bt s i) = some v) : i < s.size := bt_in fun e => by rw [e] at h; cases h
theorem escP_ok {s : ByteArray} {i r n : Nat} (h : escP s i = some (r, n)) : i + n ≤ s.size ∧ 1 ≤ n ∧ r ≤ 1114111 ∧ (r < 55296 ∨ 57344 ≤ r) := by
  unfold escP at h
  split at h
  · rename_i v hv
    injection h with h; injection h with h1 h2
    have := bt_simple hv
    have := smp_lt hv
    omega
  · simp only [Option.bind_eq_some_iff] at h
    obtain ⟨u, hu, h⟩ := h
    exact escU_ok (unit_lt hu) (unit_in hu) h

theorem utf_enc {r : Nat} (h : r ≤ 1114111) (h' : r < 55296 ∨ 57344 ≤ r) : utf r = Lib.encodeRune (r : Int) := by
  unfold utf utfZ Lib.encodeRune
  split
  · rw [Lib.encodeRuneZ_one (by omega) (by omega)]
    simp only [List.map_cons, List.map_nil, List.cons.injEq, and_true]
    exact (toU8 _ _ (by rw [UInt8.toNat_ofNat']; omega)).symm
  · split
    · rw [Lib.encodeRuneZ_two (by omega) (by omega)]
      simp only [List.map_cons, List.map_nil]
      rw [toU8 (UInt8.ofNat (192 + r / 64)) _ (by rw [UInt8.toNat_ofNat']; omega), toU8 (UInt8.ofNat (128 + r % 64)) _ (by rw [UInt8.toNat_ofNat']; omega)]
    · split
      · rw [Lib.encodeRuneZ_three (by omega)]
        simp only [List.map_cons, List.map_nil]
        rw [toU8 (UInt8.ofNat (224 + r / 4096)) _ (by rw [UInt8.toNat_ofNat']; omega), toU8 (UInt8.ofNat (128 + r / 64 % 64)) _ (by rw [UInt8.toNat_ofNat']; omega), toU8 (UInt8.ofNat (128 + r % 64)) _ (by rw [UInt8.toNat_ofNat']; omega)]
      · rw [Lib.encodeRuneZ_four (by omega) (by omega)]
        simp only [List.map_cons, List.map_nil]
        rw [toU8 (UInt8.ofNat (240 + r / 262144)) _ (by rw [UInt8.toNat_ofNat']; omega), toU8 (UInt8.ofNat (128 + r / 4096 % 64)) _ (by rw [UInt8.toNat_ofNat']; omega), toU8 (UInt8.ofNat (128 + r / 64 % 64)) _ (by rw [UInt8.toNat_ofNat']; omega), toU8 (UInt8.ofNat (128 + r % 64)) _ (by rw [UInt8.toNat_ofNat']; omega)]

/-- The bytes of a piece. -/
def enc (r : Nat) : List UInt8 := Lib.encodeRune (r : Int)
theorem enc_le (r : Nat) : (enc r).length ≤ 4 := by
  have := Lib.encodeRuneZ_length r; simp [enc, Lib.encodeRune]; omega

theorem decode_le (s : ByteArray) (i : Nat) : (Utf8.decode s i).1 ≤ 1114111 := by
  rw [dec]; exact Lib.decodeN_rune_le _ _ _ _ _ (bt_lt s i)
theorem piece_ok {s : ByteArray} {i r n : Nat} (h : piece s i = some (r, n)) : i + n ≤ s.size ∧ 1 ≤ n ∧ r ≤ 1114111 := by
  unfold piece at h
  split at h
  · have := escP_ok h; omega
  · split at h
    · cases h
    · have hi : i < s.size := bt_in (by omega)
      split at h
      · injection h with h; injection h with h1 h2; omega
      · split at h
        · cases h
        · injection h with h; injection h with h1 h2
          have := rl_le s i hi
          have := decode_le s i
          omega
theorem piece_out {s : ByteArray} {i : Nat} (h : s.size ≤ i) : piece s i = none := by
  unfold piece; rw [bt_out s i h]; rfl

/-- The rest of a string from place i on, behind its opening quote: its bytes, and the place behind it. -/
def strF (s : ByteArray) : Nat → Nat → Option (List UInt8 × Nat)
  | 0, _ => none
  | f + 1, i => if bt s i = 34 then some ([], i + 1) else (piece s i).bind fun p => (strF s f (i + p.2)).map fun q => (enc p.1 ++ q.1, q.2)
def strR (s : ByteArray) (i : Nat) : Option (List UInt8 × Nat) := strF s (s.size + 1 - i) i
theorem strF_past (s : ByteArray) (f i : Nat) (h : s.size ≤ i) : strF s f i = none := by
  cases f with
  | zero => rfl
  | succ f => simp [strF, bt_out s i h, piece_out h]
theorem strF_same (s : ByteArray) : ∀ (f g i : Nat), s.size ≤ i + f → s.size ≤ i + g → strF s f i = strF s g i
  | 0, g, i, h, _ => by rw [strF_past s g i (by omega)]; rfl
  | f + 1, 0, i, _, h => by rw [strF_past s (f + 1) i (by omega)]; rfl
  | f + 1, g + 1, i, hf, hg => by
    rw [strF, strF]
    split
    · rfl
    · cases hp : piece s i with
      | none => rfl
      | some p =>
        obtain ⟨r, n⟩ := p
        have := piece_ok hp
        simp only [Option.bind_some]
        rw [strF_same s f g (i + n) (by omega) (by omega)]
theorem strR_eq (s : ByteArray) (i : Nat) : strR s i = if bt s i = 34 then some ([], i + 1) else (piece s i).bind fun p => (strR s (i + p.2)).map fun q => (enc p.1 ++ q.1, q.2) := by
  unfold strR
  rw [strF_same s (s.size + 1 - i) (s.size + 1) i (by omega) (by omega), strF]
  split
  · rfl
  · cases hp : piece s i with
    | none => rfl
    | some p =>
      obtain ⟨r, n⟩ := p
      simp only [Option.bind_some]
      rw [strF_same s s.size (s.size + 1 - (i + n)) (i + n) (by omega) (by omega)]
theorem strR_end {s : ByteArray} {i : Nat} (h : bt s i = 34) : strR s i = some ([], i + 1) := by rw [strR_eq, if_pos h]
theorem strR_go {s : ByteArray} {i r n : Nat} (h : bt s i ≠ 34) (hp : piece s i = some (r, n)) : strR s i = (strR s (i + n)).map fun q => (enc r ++ q.1, q.2) := by rw [strR_eq, if_neg h, hp]; rfl
theorem strR_bad {s : ByteArray} {i : Nat} (h : bt s i ≠ 34) (hp : piece s i = none) : strR s i = none := by rw [strR_eq, if_neg h, hp]; rfl
theorem strR_out {s : ByteArray} {i : Nat} (h : s.size ≤ i) : strR s i = none := strR_bad (by rw [bt_out s i h]; decide) (piece_out h)

theorem escP_u {s : ByteArray} {i : Nat} (h0 : bt s i = 92) (h1 : bt s (i + 1) = 117) : escP s i = (hexN s (i + 2) 4).bind (escU s i) := by
  unfold escP unit
  rw [if_pos ⟨h0, h1⟩, h1]; rfl
theorem escP_s {s : ByteArray} {i b v : Nat} (h1 : bt s (i + 1) = b) (hv : smp b = some v) : escP s i = some (v, 2) := by
  unfold escP
  rw [h1, hv]
theorem escP_n {s : ByteArray} {i b : Nat} (h1 : bt s (i + 1) = b) (hv : smp b = none) (hu : b ≠ 117) : escP s i = none := by
  unfold escP unit
  rw [h1, hv, if_neg (fun h => hu h.2)]; rfl
/-- A string from its quote on. -/
def strQ (s : ByteArray) (i : Nat) : Option (List UInt8 × Nat) := if bt s i = 34 then strR s (i + 1) else none

/-- A reader's answer: the value and the place behind it, or the panic. -/
def Post (rb : Nat) (s : ByteArray) (tb kt : Bool) (w : World) (o : Option (Value × Nat)) (e : Ending) (w' : World) : Prop :=
  KB rb w w' ∧ o.elim (e = mis) fun p => e = .returned p.1 ∧ Rdr rb s p.2 tb kt w'
def rune (p : Nat × Nat) : Value × Nat := (.int .i32 (p.1 : Int), p.2)
end Go.Proofs.YtadefcohbkgbfabGreatDoor


namespace Go.Proofs.YtadefcohbkgbfabGreatDoor
open Go.RowKit

mutual
/-- A value of JSON as it was read: numbers as their canonical texts, members in the text's order, a key twice where it came twice. -/
inductive JV where
  | nul | tt | ff
  | num (l : List UInt8)
  | str (l : List UInt8)
  | arr (l : JL)
  | obj (m : JM)
inductive JL where
  | nil
  | cons (v : JV) (r : JL)
inductive JM where
  | nil
  | cons (k : List UInt8) (v : JV) (r : JM)
end

/-- The first place from i on that holds no digit. -/
def dgF (s : ByteArray) : Nat → Nat → Nat
  | 0, i => i
  | f + 1, i => if isDg (bt s i) = true then dgF s f (i + 1) else i
def dg (s : ByteArray) (i : Nat) : Nat := dgF s (s.size - i) i
theorem dg_on {s : ByteArray} {i : Nat} (h : isDg (bt s i) = true) : dg s i = dg s (i + 1) := by
  have hi : i < s.size := bt_in (by have := isDg_iff.1 h; omega)
  unfold dg
  rw [show s.size - i = (s.size - (i + 1)) + 1 by omega, dgF, if_pos h]
theorem dg_off {s : ByteArray} {i : Nat} (h : ¬ isDg (bt s i) = true) : dg s i = i := by
  unfold dg
  cases s.size - i with
  | zero => rfl
  | succ f => rw [dgF, if_neg h]
theorem dgF_le (s : ByteArray) : ∀ f i, i + f ≤ s.size → i ≤ dgF s f i ∧ dgF s f i ≤ i + f
  | 0, i, _ => ⟨Nat.le_refl _, Nat.le_refl _⟩
  | f + 1, i, h => by
    rw [dgF]
    split
    · have := dgF_le s f (i + 1) (by omega); omega
    · omega
theorem dg_le {s : ByteArray} {i : Nat} (h : i ≤ s.size) : i ≤ dg s i ∧ dg s i ≤ s.size := by
  have := dgF_le s (s.size - i) i (by omega)
  unfold dg; omega

/-- The bytes from i to j. -/
def cutB (s : ByteArray) (i j : Nat) : List UInt8 := (s.data.toList.drop i).take (j - i)
/-- Where a number's digits begin and end. -/
def nmD (s : ByteArray) (i : Nat) : Nat := if bt s i = 45 then i + 1 else i
def nmE (s : ByteArray) (i : Nat) : Nat := if bt s (nmD s i) = 48 then nmD s i + 1 else dg s (nmD s i)
def norm0 (l : List UInt8) : List UInt8 := if l = [45, 48] then [48] else l
def nm (s : ByteArray) (i : Nat) : Option (List UInt8 × Nat) := if isDg (bt s (nmD s i)) = true then some (norm0 (cutB s i (nmE s i)), nmE s i) else none
theorem nm_ok {s : ByteArray} {i j : Nat} {l : List UInt8} (h : nm s i = some (l, j)) : i < j ∧ j ≤ s.size := by
  unfold nm at h
  split at h
  · rename_i hd
    injection h with h; injection h with h1 h2
    subst h2
    have hlt : nmD s i < s.size := bt_in (by have := isDg_iff.1 hd; omega)
    have hge : i ≤ nmD s i := by unfold nmD; split <;> omega
    unfold nmE
    split
    · omega
    · rw [dg_on hd]
      have := dg_le (s := s) (i := nmD s i + 1) (by omega)
      omega
  · cases h
theorem strR_ok {s : ByteArray} : ∀ {i j : Nat} {l : List UInt8}, strR s i = some (l, j) → i < j ∧ j ≤ s.size := by
  intro i
  generalize hn : s.size - i = n
  induction n using Nat.strongRecOn generalizing i with
  | _ n ih =>
    intro j l h
    by_cases h34 : bt s i = 34
    · rw [strR_end h34] at h
      injection h with h; injection h with h1 h2
      have := bt_in (s := s) (i := i) (by omega)
      omega
    · cases hp : piece s i with
      | none => rw [strR_bad h34 hp] at h; cases h
      | some p =>
        obtain ⟨r, n'⟩ := p
        have hk := piece_ok hp
        rw [strR_go h34 hp] at h
        rcases hq : strR s (i + n') with _ | ⟨l2, j2⟩
        · rw [hq] at h; cases h
        · rw [hq] at h
          injection h with h; injection h with h1 h2
          have := ih (s.size - (i + n')) (by omega) rfl hq
          omega
theorem strQ_ok {s : ByteArray} {i j : Nat} {l : List UInt8} (h : strQ s i = some (l, j)) : i + 1 < j ∧ j ≤ s.size := by
  unfold strQ at h
  split at h
  · have := strR_ok h; omega
  · cases h

def wNull (s : ByteArray) (i : Nat) : Bool := bt s i == 110 && bt s (i + 1) == 117 && bt s (i + 2) == 108 && bt s (i + 3) == 108
def wTrue (s : ByteArray) (i : Nat) : Bool := bt s i == 116 && bt s (i + 1) == 114 && bt s (i + 2) == 117 && bt s (i + 3) == 101
def wFalse (s : ByteArray) (i : Nat) : Bool := bt s i == 102 && bt s (i + 1) == 97 && bt s (i + 2) == 108 && bt s (i + 3) == 115 && bt s (i + 4) == 101

mutual
/-- A value whose first byte stands at place i, and the place behind it. -/
def pv (s : ByteArray) : Nat → Nat → Option (JV × Nat)
  | 0, _ => none
  | f + 1, i =>
    if bt s i = 91 then (if bt s (sk s (i + 1)) = 93 then some (.arr .nil, sk s (i + 1) + 1) else (pa s f (sk s (i + 1))).map fun q => (.arr q.1, q.2))
    else if bt s i = 123 then (if bt s (sk s (i + 1)) = 125 then some (.obj .nil, sk s (i + 1) + 1) else (po s f (sk s (i + 1))).map fun q => (.obj q.1, q.2))
    else if bt s i = 34 then (strQ s i).map fun q => (.str q.1, q.2)
    else if wNull s i = true then some (.nul, i + 4)
    else if wTrue s i = true then some (.tt, i + 4)
    else if wFalse s i = true then some (.ff, i + 5)
    else (nm s i).map fun q => (.num q.1, q.2)
/-- The items from place i on, up to the bracket that closes. -/
def pa (s : ByteArray) : Nat → Nat → Option (JL × Nat)
  | 0, _ => none
  | f + 1, i => (pv s f i).bind fun q =>
    if bt s (sk s q.2) = 93 then some (.cons q.1 .nil, sk s q.2 + 1)
    else if bt s (sk s q.2) = 44 then (pa s f (sk s (sk s q.2 + 1))).map fun r => (.cons q.1 r.1, r.2)
    else none
/-- The members from place i on, up to the bracket that closes. -/
def po (s : ByteArray) : Nat → Nat → Option (JM × Nat)
  | 0, _ => none
  | f + 1, i => (strQ s i).bind fun k =>
    if bt s (sk s k.2) = 58 then (pv s f (sk s (sk s k.2 + 1))).bind fun q =>
      if bt s (sk s q.2) = 125 then some (.cons k.1 q.1 .nil, sk s q.2 + 1)
      else if bt s (sk s q.2) = 44 then (po s f (sk s (sk s q.2 + 1))).map fun r => (.cons k.1 q.1 r.1, r.2)
      else none
    else none
end
end Go.Proofs.YtadefcohbkgbfabGreatDoor


namespace Go.Proofs.YtadefcohbkgbfabGreatDoor
open Go.RowKit

theorem sk_ge (s : ByteArray) (i : Nat) : i ≤ sk s i := by
  rcases Nat.le_total i s.size with h | h
  · exact (sk_le h).1
  · rw [sk_past h]; exact Nat.le_refl _
theorem wNull_in {s : ByteArray} {i : Nat} (h : wNull s i = true) : i + 4 ≤ s.size := by
  simp [wNull] at h
  have := bt_in (s := s) (i := i + 3) (by omega); omega
theorem wTrue_in {s : ByteArray} {i : Nat} (h : wTrue s i = true) : i + 4 ≤ s.size := by
  simp [wTrue] at h
  have := bt_in (s := s) (i := i + 3) (by omega); omega
theorem wFalse_in {s : ByteArray} {i : Nat} (h : wFalse s i = true) : i + 5 ≤ s.size := by
  simp [wFalse] at h
  have := bt_in (s := s) (i := i + 4) (by omega); omega

theorem p_ok (s : ByteArray) : ∀ f i, (∀ v j, pv s f i = some (v, j) → i < j ∧ j ≤ s.size) ∧ (∀ l j, pa s f i = some (l, j) → i < j ∧ j ≤ s.size) ∧ (∀ m j, po s f i = some (m, j) → i < j ∧ j ≤ s.size)
  | 0, i => ⟨fun v j h => by simp [pv] at h, fun v j h => by simp [pa] at h, fun v j h => by simp [po] at h⟩
  | f + 1, i => by
    refine ⟨fun v j h => ?_, fun l j h => ?_, fun m j h => ?_⟩
    · rw [pv] at h
      have g := sk_ge s (i + 1)
      split at h
      · split at h
        · have := bt_in (s := s) (i := sk s (i + 1)) (by omega)
          injection h with h; injection h with _ h; omega
        · simp only [Option.map_eq_some_iff] at h
          obtain ⟨⟨l, k⟩, hk, h⟩ := h
          injection h with _ h
          have := (p_ok s f (sk s (i + 1))).2.1 l k hk
          simp only at h; omega
      · split at h
        · split at h
          · have := bt_in (s := s) (i := sk s (i + 1)) (by omega)
            injection h with h; injection h with _ h; omega
          · simp only [Option.map_eq_some_iff] at h
            obtain ⟨⟨l, k⟩, hk, h⟩ := h
            injection h with _ h
            have := (p_ok s f (sk s (i + 1))).2.2 l k hk
            simp only at h; omega
        · split at h
          · simp only [Option.map_eq_some_iff] at h
            obtain ⟨⟨l, k⟩, hk, h⟩ := h
            injection h with _ h
            have := strQ_ok hk
            simp only at h; omega
          · split at h
            · rename_i hw
              have := wNull_in hw
              injection h with h; injection h with _ h; omega
            · split at h
              · rename_i hw
                have := wTrue_in hw
                injection h with h; injection h with _ h; omega
              · split at h
                · rename_i hw
                  have := wFalse_in hw
                  injection h with h; injection h with _ h; omega
                · simp only [Option.map_eq_some_iff] at h
                  obtain ⟨⟨l, k⟩, hk, h⟩ := h
                  injection h with _ h
                  have := nm_ok hk
                  simp only at h; omega
    · rw [pa] at h
      simp only [Option.bind_eq_some_iff] at h
      obtain ⟨⟨v, k⟩, hk, h⟩ := h
      have h1 := (p_ok s f i).1 v k hk
      have g1 := sk_ge s k
      simp only at h
      split at h
      · have := bt_in (s := s) (i := sk s k) (by omega)
        injection h with h; injection h with _ h; omega
      · split at h
        · simp only [Option.map_eq_some_iff] at h
          obtain ⟨⟨l, n⟩, hn, h⟩ := h
          injection h with _ h
          have := (p_ok s f _).2.1 l n hn
          have g2 := sk_ge s (sk s k + 1)
          simp only at h; omega
        · cases h
    · rw [po] at h
      simp only [Option.bind_eq_some_iff] at h
      obtain ⟨⟨key, a⟩, ha, h⟩ := h
      have h0 := strQ_ok ha
      simp only at h
      split at h
      · simp only [Option.bind_eq_some_iff] at h
        obtain ⟨⟨v, k⟩, hk, h⟩ := h
        have h1 := (p_ok s f _).1 v k hk
        have g0 := sk_ge s a
        have g3 := sk_ge s (sk s a + 1)
        have g1 := sk_ge s k
        simp only at h
        split at h
        · have := bt_in (s := s) (i := sk s k) (by omega)
          injection h with h; injection h with _ h; omega
        · split at h
          · simp only [Option.map_eq_some_iff] at h
            obtain ⟨⟨l, n⟩, hn, h⟩ := h
            injection h with _ h
            have := (p_ok s f _).2.2 l n hn
            have g2 := sk_ge s (sk s k + 1)
            simp only at h; omega
          · cases h
      · cases h

theorem p_same (s : ByteArray) : ∀ f g i, (2 * (s.size - i) + 1 ≤ f → 2 * (s.size - i) + 1 ≤ g → pv s f i = pv s g i) ∧ (2 * (s.size - i) + 2 ≤ f → 2 * (s.size - i) + 2 ≤ g → pa s f i = pa s g i ∧ po s f i = po s g i)
  | 0, g, i => ⟨fun h _ => by omega, fun h _ => by omega⟩
  | f + 1, 0, i => ⟨fun _ h => by omega, fun _ h => by omega⟩
  | f + 1, g + 1, i => by
    refine ⟨fun hf hg => ?_, fun hf hg => ⟨?_, ?_⟩⟩
    · rw [pv, pv]
      have g0 := sk_ge s (i + 1)
      by_cases c1 : bt s i = 91
      · have hi := bt_in (s := s) (i := i) (by omega)
        rw [if_pos c1, if_pos c1, ((p_same s f g (sk s (i + 1))).2 (by omega) (by omega)).1]
      · rw [if_neg c1, if_neg c1]
        by_cases c2 : bt s i = 123
        · have hi := bt_in (s := s) (i := i) (by omega)
          rw [if_pos c2, if_pos c2, ((p_same s f g (sk s (i + 1))).2 (by omega) (by omega)).2]
        · rw [if_neg c2, if_neg c2]
    · rw [pa, pa, (p_same s f g i).1 (by omega) (by omega)]
      cases hk : pv s g i with
      | none => rfl
      | some q =>
        obtain ⟨v, k⟩ := q
        have h1 := (p_ok s g i).1 v k hk
        have g1 := sk_ge s k
        have g2 := sk_ge s (sk s k + 1)
        simp only [Option.bind_some]
        rw [((p_same s f g (sk s (sk s k + 1))).2 (by omega) (by omega)).1]
    · rw [po, po]
      cases ha : strQ s i with
      | none => rfl
      | some q =>
        obtain ⟨key, a⟩ := q
        have h0 := strQ_ok ha
        have ga := sk_ge s a
        have gb := sk_ge s (sk s a + 1)
        simp only [Option.bind_some]
        rw [(p_same s f g (sk s (sk s a + 1))).1 (by omega) (by omega)]
        cases hk : pv s g (sk s (sk s a + 1)) with
        | none => rfl
        | some q =>
          obtain ⟨v, k⟩ := q
          have h1 := (p_ok s g _).1 v k hk
          have g1 := sk_ge s k
          have g2 := sk_ge s (sk s k + 1)
          simp only [Option.bind_some]
          rw [((p_same s f g (sk s (sk s k + 1))).2 (by omega) (by omega)).2]

def val (s : ByteArray) (i : Nat) : Option (JV × Nat) := pv s (2 * (s.size - i) + 1) i
def elems (s : ByteArray) (i : Nat) : Option (JL × Nat) := pa s (2 * (s.size - i) + 2) i
def mems (s : ByteArray) (i : Nat) : Option (JM × Nat) := po s (2 * (s.size - i) + 2) i
theorem val_ok {s : ByteArray} {i j : Nat} {v : JV} (h : val s i = some (v, j)) : i < j ∧ j ≤ s.size := (p_ok s _ i).1 v j h
theorem val_arr {s : ByteArray} {i : Nat} (h : bt s i = 91) : val s i = if bt s (sk s (i + 1)) = 93 then some (.arr .nil, sk s (i + 1) + 1) else (elems s (sk s (i + 1))).map fun q => (.arr q.1, q.2) := by
  have hi := bt_in (s := s) (i := i) (by omega)
  have g := sk_ge s (i + 1)
  unfold val elems
  rw [pv, if_pos h, ((p_same s (2 * (s.size - i)) (2 * (s.size - sk s (i + 1)) + 2) (sk s (i + 1))).2 (by omega) (by omega)).1]
theorem val_obj {s : ByteArray} {i : Nat} (h : bt s i = 123) : val s i = if bt s (sk s (i + 1)) = 125 then some (.obj .nil, sk s (i + 1) + 1) else (mems s (sk s (i + 1))).map fun q => (.obj q.1, q.2) := by
  have hi := bt_in (s := s) (i := i) (by omega)
  have g := sk_ge s (i + 1)
  unfold val mems
  rw [pv, if_neg (by omega), if_pos h, ((p_same s (2 * (s.size - i)) (2 * (s.size - sk s (i + 1)) + 2) (sk s (i + 1))).2 (by omega) (by omega)).2]
theorem val_str {s : ByteArray} {i : Nat} (h : bt s i = 34) : val s i = (strQ s i).map fun q => (.str q.1, q.2) := by
  unfold val
  rw [pv, if_neg (by omega), if_neg (by omega), if_pos h]
theorem val_else {s : ByteArray} {i : Nat} (h1 : bt s i ≠ 91) (h2 : bt s i ≠ 123) (h3 : bt s i ≠ 34) : val s i =
    if wNull s i = true then some (.nul, i + 4) else if wTrue s i = true then some (.tt, i + 4) else if wFalse s i = true then some (.ff, i + 5) else (nm s i).map fun q => (.num q.1, q.2) := by
  unfold val
  rw [pv, if_neg h1, if_neg h2, if_neg h3]
theorem elems_eq (s : ByteArray) (i : Nat) : elems s i = (val s i).bind fun q =>
    if bt s (sk s q.2) = 93 then some (.cons q.1 .nil, sk s q.2 + 1)
    else if bt s (sk s q.2) = 44 then (elems s (sk s (sk s q.2 + 1))).map fun r => (.cons q.1 r.1, r.2)
    else none := by
  have e : elems s i = pa s (2 * (s.size - i) + 1 + 1) i := rfl
  rw [e, pa]
  show (val s i).bind _ = _
  cases hk : val s i with
  | none => rfl
  | some q =>
    obtain ⟨v, k⟩ := q
    have h1 := val_ok hk
    have g1 := sk_ge s k
    have g2 := sk_ge s (sk s k + 1)
    simp only [Option.bind_some]
    rw [show elems s (sk s (sk s k + 1)) = pa s (2 * (s.size - i) + 1) (sk s (sk s k + 1)) from ((p_same s _ _ _).2 (by omega) (by omega)).1]
theorem mems_eq (s : ByteArray) (i : Nat) : mems s i = (strQ s i).bind fun k =>
    if bt s (sk s k.2) = 58 then (val s (sk s (sk s k.2 + 1))).bind fun q =>
      if bt s (sk s q.2) = 125 then some (.cons k.1 q.1 .nil, sk s q.2 + 1)
      else if bt s (sk s q.2) = 44 then (mems s (sk s (sk s q.2 + 1))).map fun r => (.cons k.1 q.1 r.1, r.2)
      else none
    else none := by
  have e : mems s i = po s (2 * (s.size - i) + 1 + 1) i := rfl
  rw [e, po]
  cases ha : strQ s i with
  | none => rfl
  | some q =>
    obtain ⟨key, a⟩ := q
    have h0 := strQ_ok ha
    have ga := sk_ge s a
    have gb := sk_ge s (sk s a + 1)
    simp only [Option.bind_some]
    rw [show pv s (2 * (s.size - i) + 1) (sk s (sk s a + 1)) = val s (sk s (sk s a + 1)) from (p_same s _ _ _).1 (by omega) (by omega)]
    cases hk : val s (sk s (sk s a + 1)) with
    | none => rfl
    | some q =>
      obtain ⟨v, k⟩ := q
      have h1 := val_ok hk
      have g1 := sk_ge s k
      have g2 := sk_ge s (sk s k + 1)
      simp only [Option.bind_some]
      rw [show mems s (sk s (sk s k + 1)) = po s (2 * (s.size - i) + 1) (sk s (sk s k + 1)) from ((p_same s _ _ _).2 (by omega) (by omega)).2]
end Go.Proofs.YtadefcohbkgbfabGreatDoor


namespace Go.Proofs.YtadefcohbkgbfabGreatDoor
open Go.RowKit

/-- A part put among those before it, from the end on. -/
def insR (p : List UInt8 × List UInt8) : List (List UInt8 × List UInt8) → List (List UInt8 × List UInt8)
  | [] => [p]
  | q :: r => if p.1 < q.1 then q :: insR p r else p :: q :: r
/-- Parts in order. -/
def isort (l : List (List UInt8 × List UInt8)) : List (List UInt8 × List UInt8) := (l.foldl (fun acc p => insR p acc) []).reverse
/-- The text of a part, and of an object of parts. -/
def memT (p : List UInt8 × List UInt8) : List UInt8 := quoted p.1 ++ 58 :: p.2
def joinT : List (List UInt8) → List UInt8
  | [] => []
  | t :: r => 44 :: (t ++ joinT r)
def joinC : List (List UInt8) → List UInt8
  | [] => []
  | t :: r => t ++ joinT r
def mkO (l : List (List UInt8 × List UInt8)) : List UInt8 := 123 :: (joinC (l.map memT) ++ [125])
def mkA (l : List (List UInt8)) : List UInt8 := 91 :: (joinC l ++ [93])
theorem joinT_app (a b : List (List UInt8)) : joinT (a ++ b) = joinT a ++ joinT b := by
  induction a with
  | nil => rfl
  | cons t r ih => simp [joinT, ih]
theorem joinC_snoc (a : List (List UInt8)) (t : List UInt8) : joinC (a ++ [t]) = joinC a ++ (if a = [] then t else 44 :: t) := by
  cases a with
  | nil => simp [joinC, joinT]
  | cons x r => simp [joinC, joinT_app, joinT]

/-- Whether a number's text is out of range. -/
def lim0 : List UInt8 := [57, 50, 50, 51, 51, 55, 50, 48, 51, 54, 56, 53, 52, 55, 55, 53, 56, 48, 55]
def lim1 : List UInt8 := [57, 50, 50, 51, 51, 55, 50, 48, 51, 54, 56, 53, 52, 55, 55, 53, 56, 48, 56]
def over (d lim : List UInt8) : Bool := if d.length ≠ 19 then decide (19 < d.length) else (!Op.bytesLess d lim && !(d == lim))
def tooBig : List UInt8 → Bool
  | [] => false
  | c :: r => if c = 45 then over r lim1 else over (c :: r) lim0

mutual
/-- The canonical text. -/
def ct : JV → List UInt8
  | .nul => [110, 117, 108, 108]
  | .tt => [116, 114, 117, 101]
  | .ff => [102, 97, 108, 115, 101]
  | .num l => l
  | .str l => quoted l
  | .arr l => mkA (ctL l)
  | .obj m => mkO (isort (ctM m))
def ctL : JL → List (List UInt8)
  | .nil => []
  | .cons v r => ct v :: ctL r
def ctM : JM → List (List UInt8 × List UInt8)
  | .nil => []
  | .cons k v r => (k, ct v) :: ctM r
end
mutual
/-- Whether a number is out of range. -/
def bigV : JV → Bool
  | .nul => false
  | .tt => false
  | .ff => false
  | .num l => tooBig l
  | .str _ => false
  | .arr l => bigL l
  | .obj m => bigM m
def bigL : JL → Bool
  | .nil => false
  | .cons v r => bigV v || bigL r
def bigM : JM → Bool
  | .nil => false
  | .cons _ v r => bigV v || bigM r
end
mutual
/-- Whether a key comes twice. -/
def twV : JV → Bool
  | .nul => false
  | .tt => false
  | .ff => false
  | .num _ => false
  | .str _ => false
  | .arr l => twL l
  | .obj m => twM [] m
def twL : JL → Bool
  | .nil => false
  | .cons v r => twV v || twL r
/-- .. among members, behind the keys that came before. -/
def twM : List (List UInt8) → JM → Bool
  | _, .nil => false
  | ks, .cons k v r => (twV v || ks.contains k) || twM (ks ++ [k]) r
end
mutual
def depV : JV → Nat
  | .nul => 1
  | .tt => 1
  | .ff => 1
  | .num _ => 1
  | .str _ => 1
  | .arr l => depL l + 1
  | .obj m => depM m + 1
def depL : JL → Nat
  | .nil => 0
  | .cons v r => max (depV v) (depL r)
def depM : JM → Nat
  | .nil => 0
  | .cons _ v r => max (depV v) (depM r)
end
mutual
def cntV : JV → Nat
  | .nul => 1
  | .tt => 1
  | .ff => 1
  | .num _ => 1
  | .str _ => 1
  | .arr l => cntL l + 1
  | .obj m => cntM m + 1
def cntL : JL → Nat
  | .nil => 0
  | .cons v r => cntV v + cntL r
def cntM : JM → Nat
  | .nil => 0
  | .cons _ v r => cntV v + cntM r
end
/-- Lists of items, one more at the end. -/
def JL.app : JL → JL → JL
  | .nil, b => b
  | .cons v r, b => .cons v (r.app b)
def JM.app : JM → JM → JM
  | .nil, b => b
  | .cons k v r, b => .cons k v (r.app b)
theorem JL.app_assoc : ∀ a b c : JL, (a.app b).app c = a.app (b.app c)
  | .nil, _, _ => rfl
  | .cons v r, b, c => by simp [JL.app, JL.app_assoc r b c]
theorem JM.app_assoc : ∀ a b c : JM, (a.app b).app c = a.app (b.app c)
  | .nil, _, _ => rfl
  | .cons k v r, b, c => by simp [JM.app, JM.app_assoc r b c]
theorem JL.app_nil : ∀ a : JL, a.app .nil = a
  | .nil => rfl
  | .cons v r => by simp [JL.app, JL.app_nil r]
theorem JM.app_nil : ∀ a : JM, a.app .nil = a
  | .nil => rfl
  | .cons k v r => by simp [JM.app, JM.app_nil r]
theorem ctM_app : ∀ a b : JM, ctM (a.app b) = ctM a ++ ctM b
  | .nil, b => by simp [JM.app, ctM]
  | .cons k v r, b => by simp [JM.app, ctM, ctM_app r b]
theorem bigL_app : ∀ a b : JL, bigL (a.app b) = (bigL a || bigL b)
  | .nil, b => by simp [JL.app, bigL]
  | .cons v r, b => by simp [JL.app, bigL, bigL_app r b, Bool.or_assoc]
theorem bigM_app : ∀ a b : JM, bigM (a.app b) = (bigM a || bigM b)
  | .nil, b => by simp [JM.app, bigM]
  | .cons k v r, b => by simp [JM.app, bigM, bigM_app r b, Bool.or_assoc]
theorem twL_app : ∀ a b : JL, twL (a.app b) = (twL a || twL b)
  | .nil, b => by simp [JL.app, twL]
  | .cons v r, b => by simp [JL.app, twL, twL_app r b, Bool.or_assoc]
def keysM : JM → List (List UInt8)
  | .nil => []
  | .cons k _ r => k :: keysM r
theorem keysM_app : ∀ a b : JM, keysM (a.app b) = keysM a ++ keysM b
  | .nil, b => by simp [JM.app, keysM]
  | .cons k v r, b => by simp [JM.app, keysM, keysM_app r b]
theorem twM_app : ∀ (ks : List (List UInt8)) (a b : JM), twM ks (a.app b) = (twM ks a || twM (ks ++ keysM a) b)
  | ks, .nil, b => by simp [JM.app, twM, keysM]
  | ks, .cons k v r, b => by simp [JM.app, twM, keysM, twM_app (ks ++ [k]) r b, Bool.or_assoc]
theorem ctM_keys : ∀ a : JM, (ctM a).map (·.1) = keysM a
  | .nil => rfl
  | .cons k v r => by simp [ctM, keysM, ctM_keys r]
end Go.Proofs.YtadefcohbkgbfabGreatDoor

