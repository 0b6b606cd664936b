import Derived.Test.YtadefcohbkgbfaaDoorUtf
import Derived.Test.YtadefcohbkgbfaaDoorStr
import Derived.WalkLawsBesides
import Derived.Deep.QuietTactic
import Derived.BigQuiet
import Derived.Lib.OthersKept
import Derived.Laws.Rows
namespace Go.Proofs.YtadefcohbkgbfaaDoor
open Go.RowKit

/-- All old blocks but one are as they were. -/
structure KB (rb : Nat) (w w' : World) : Prop where
  os : w'.os = w.os
  tape : w'.tape = w.tape
  output : w'.output = w.output
  size : w.heap.size ≤ w'.heap.size
  block : ∀ k, k < w.heap.size → k ≠ rb → w'.heap[k]? = w.heap[k]?
theorem KB.refl (rb : Nat) (w : World) : KB rb w w := ⟨rfl, rfl, rfl, Nat.le_refl _, fun _ _ _ => rfl⟩
theorem KB.trans {rb : Nat} {a b c : World} (h : KB rb a b) (k : KB rb b c) : KB rb a c :=
  ⟨k.os.trans h.os, k.tape.trans h.tape, k.output.trans h.output, Nat.le_trans h.size k.size, fun i hi hn => (k.block i (Nat.lt_of_lt_of_le hi h.size) hn).trans (h.block i hi hn)⟩
theorem KB.drew {rb : Nat} {a w : World} (h : KB rb a w) : KB rb a w.drew := ⟨h.os, h.tape, h.output, h.size, h.block⟩
theorem KB.drewN {rb : Nat} {a w : World} (h : KB rb a w) (n : Nat) : KB rb a (w.drewN n) := ⟨h.os, h.tape, h.output, h.size, h.block⟩
theorem KB.set {rb : Nat} {a w : World} (h : KB rb a w) (j : Nat) (v : Value) : KB rb a (w.setCell ⟨rb, j, none⟩ v) :=
  h.trans ⟨rfl, rfl, rfl, by simp [World.setCell], fun k _ hn => Below.heap_setCell _ _ _ _ hn⟩
theorem KB.of_below {rb : Nat} {w w' : World} (h : Below w.heap.size w w') : KB rb w w' := ⟨h.os, h.tape, h.output, h.size, fun k hk _ => h.block k hk⟩
theorem KB.below {rb B : Nat} {w w' : World} (h : KB rb w w') (hB : B ≤ rb) (hs : B ≤ w.heap.size) : Below B w w' := ⟨h.os, h.tape, h.output, h.size, fun k hk => h.block k (by omega) (by omega)⟩

/-- A reader in block rb, at place i of the text s. -/
def Rdr (rb : Nat) (s : ByteArray) (i : Nat) (tb kt : Bool) (w : World) : Prop := w.heap[rb]? = some (.cells #[.string s, .int .i64 (i : Int), .bool tb, .bool kt] 55 (0, 0))
theorem Rdr.text {rb : Nat} {s : ByteArray} {i : Nat} {tb kt : Bool} {w : World} (h : Rdr rb s i tb kt w) : w.cell? ⟨rb, 0, none⟩ = some (.string s) := by rw [Lib.cell_of_heap h]; rfl
theorem Rdr.at {rb : Nat} {s : ByteArray} {i : Nat} {tb kt : Bool} {w : World} (h : Rdr rb s i tb kt w) : w.cell? ⟨rb, 1, none⟩ = some (.int .i64 (i : Int)) := by rw [Lib.cell_of_heap h]; rfl
theorem Rdr.frozen {rb : Nat} {s : ByteArray} {i : Nat} {tb kt : Bool} {w : World} (h : Rdr rb s i tb kt w) : w.frozen? ⟨rb, 1, none⟩ = false := Lib.frozen_of_heap h 1
theorem Rdr.lt {rb : Nat} {s : ByteArray} {i : Nat} {tb kt : Bool} {w : World} (h : Rdr rb s i tb kt w) : rb < w.heap.size := (Array.getElem?_eq_some_iff.1 h).1
theorem Rdr.set {rb : Nat} {s : ByteArray} {i : Nat} {tb kt : Bool} {w : World} (h : Rdr rb s i tb kt w) (z : Int) (j : Nat) (hz : z = (j : Int)) : Rdr rb s j tb kt (w.setCell ⟨rb, 1, none⟩ (.int .i64 z)) := by
  subst hz
  have := heap_setCell_same w rb 1 _ 55 (.int .i64 (j : Int)) h
  exact this
theorem Rdr.drewN {rb : Nat} {s : ByteArray} {i : Nat} {tb kt : Bool} {w : World} (h : Rdr rb s i tb kt w) (n : Nat) : Rdr rb s i tb kt (w.drewN n) := h
theorem Rdr.below {rb : Nat} {s : ByteArray} {i : Nat} {tb kt : Bool} {w w' : World} (h : Rdr rb s i tb kt w) (hb : Below w.heap.size w w') : Rdr rb s i tb kt w' := (hb.block rb h.lt).trans h

/-- The panic of a reader. -/
def mis : Ending := .panicked [{ v := .iface 81 (.agg #[]), recovered := false }]

set_option maxHeartbeats 800000 in
theorem next_in (rb : Nat) (s : ByteArray) (i : Nat) (tb kt : Bool) (w : World) (h : Rdr rb s i tb kt w) (hs : s.size ≤ 1048576) (hi : i < s.size) :
    Calls Tryd.prog 63 #[.pointer (some ⟨rb, 0, none⟩)] w fun e w' => e = .returned (.int .u8 (bt s i)) ∧ Rdr rb s (i + 1) tb kt w' ∧ KB rb w w' := by
  have c0 := h.text
  have c1 := h.at
  have f1 := h.frozen
  have hne : ((i : Int) == (s.size : Int)) = false := by rw [beq_eq_false_iff_ne]; omega
  have HB := hide (bt_at s i hi)
  have H := hide h
  clear h
  go_enter Tryd.func63, Tryd.ntmps63
  go_wp2_with fail
  go_quiet (fail)
  go_wp2_with fail
  go_quiet (fail)
  go_wp2
  go_ret
  exact ⟨by rw [unhide HB]; rfl, ((unhide H).drewN _).set _ _ (by omega), ((KB.refl rb w).drewN _).set 1 _⟩
set_option maxHeartbeats 800000 in
theorem next_out (rb : Nat) (s : ByteArray) (i : Nat) (tb kt : Bool) (w : World) (h : Rdr rb s i tb kt w) (hi : i = s.size) :
    Calls Tryd.prog 63 #[.pointer (some ⟨rb, 0, none⟩)] w fun e w' => e = mis ∧ KB rb w w' := by
  have c0 := h.text
  have c1 := h.at
  have f1 := h.frozen
  have hne : ((i : Int) == (s.size : Int)) = true := by rw [beq_iff_eq]; omega
  clear h
  go_enter Tryd.func63, Tryd.ntmps63
  go_wp2_with fail
  go_quiet (fail)
  go_wp2
  exact ⟨rfl, rfl, (KB.refl rb w).drewN _⟩

theorem bt_out (s : ByteArray) (i : Nat) (h : s.size ≤ i) : bt s i = 0 := by
  unfold bt
  rw [List.getD_eq_getElem?_getD, List.getElem?_eq_none (by rw [data_len]; exact h)]; rfl
theorem bt_in {s : ByteArray} {i : Nat} (h : bt s i ≠ 0) : i < s.size := by
  rcases Nat.lt_or_ge i s.size with g | g
  · exact g
  · exact absurd (bt_out s i g) h

set_option maxHeartbeats 800000 in
theorem readEnd_at (rb : Nat) (s : ByteArray) (i : Nat) (tb kt : Bool) (w : World) (h : Rdr rb s i tb kt w) (hi : i = s.size) :
    Calls Tryd.prog 41 #[.pointer (some ⟨rb, 0, none⟩)] w fun e w' => e = .returned (.tuple #[]) ∧ Rdr rb s i tb kt w' ∧ KB rb w w' := by
  have c0 := h.text
  have c1 := h.at
  have hne : ((i : Int) != (s.size : Int)) = false := by rw [bne_eq_false_iff_eq]; omega
  have H := hide h
  clear h hi
  go_enter Tryd.func41, Tryd.ntmps41
  go_wp2_with fail
  go_quiet (fail)
  go_wp2
  go_end0
  exact ⟨rfl, (unhide H).drewN _, (KB.refl rb w).drewN _⟩
set_option maxHeartbeats 800000 in
theorem readEnd_not (rb : Nat) (s : ByteArray) (i : Nat) (tb kt : Bool) (w : World) (h : Rdr rb s i tb kt w) (hi : i ≠ s.size) :
    Calls Tryd.prog 41 #[.pointer (some ⟨rb, 0, none⟩)] w fun e w' => e = mis ∧ KB rb w w' := by
  have c0 := h.text
  have c1 := h.at
  have hne : ((i : Int) != (s.size : Int)) = true := by rw [bne_iff_ne]; omega
  clear h hi
  go_enter Tryd.func41, Tryd.ntmps41
  go_wp2_with fail
  go_quiet (fail)
  go_wp2
  exact ⟨rfl, rfl, (KB.refl rb w).drewN _⟩

set_option maxHeartbeats 800000 in
theorem expect_yes (rb : Nat) (s : ByteArray) (i : Nat) (tb kt : Bool) (w : World) (h : Rdr rb s i tb kt w) (hs : s.size ≤ 1048576) (c : Nat) (hc : bt s i = c) (h0 : i < s.size) :
    Calls Tryd.prog 52 #[.pointer (some ⟨rb, 0, none⟩), .int .u8 c] w fun e w' => e = .returned (.tuple #[]) ∧ Rdr rb s (i + 1) tb kt w' ∧ KB rb w w' := by
  have HN := hide (next_in rb s i tb kt w h hs h0)
  rw [hc] at HN
  clear h hc h0 hs
  go_enter Tryd.func52, Tryd.ntmps52
  go_wp2_with fail
  refine (unhide HN).mono ?_
  rintro e w1 ⟨rfl, r1, k1⟩
  have R1 := hide r1
  clear r1 HN
  go_wp2
  go_end0
  exact ⟨rfl, unhide R1, k1⟩
set_option maxHeartbeats 800000 in
theorem expect_no (rb : Nat) (s : ByteArray) (i : Nat) (tb kt : Bool) (w : World) (h : Rdr rb s i tb kt w) (hs : s.size ≤ 1048576) (hi : i ≤ s.size) (c : Nat) (hc : bt s i ≠ c ∨ i = s.size) :
    Calls Tryd.prog 52 #[.pointer (some ⟨rb, 0, none⟩), .int .u8 c] w fun e w' => e = mis ∧ KB rb w w' := by
  by_cases hi' : i = s.size
  · have HN := hide (next_out rb s i tb kt w h hi')
    clear h hc hs
    go_enter Tryd.func52, Tryd.ntmps52
    go_wp2_with fail
    refine (unhide HN).mono ?_
    rintro e w1 ⟨rfl, k1⟩
    clear HN
    exact ⟨rfl, rfl, k1⟩
  · have HN := hide (next_in rb s i tb kt w h hs (by omega))
    have hne : (((bt s i : Nat) : Int) != (c : Int)) = true := by rw [bne_iff_ne]; omega
    generalize bt s i = b at *
    clear h hc hs
    go_enter Tryd.func52, Tryd.ntmps52
    go_wp2_with fail
    refine (unhide HN).mono ?_
    rintro e w1 ⟨rfl, r1, k1⟩
    clear r1 HN
    go_wp2
    exact ⟨rfl, rfl, k1⟩

set_option maxHeartbeats 1600000 in
theorem skip_yes (rb : Nat) (s : ByteArray) (i : Nat) (tb kt : Bool) (w : World) (h : Rdr rb s i tb kt w) (hs : s.size ≤ 1048576) (c : Nat) (hc : bt s i = c) (h0 : i < s.size) :
    Calls Tryd.prog 53 #[.pointer (some ⟨rb, 0, none⟩), .int .u8 c] w fun e w' => e = .returned (.bool true) ∧ Rdr rb s (i + 1) tb kt w' ∧ KB rb w w' := by
  have c0 := h.text
  have c1 := h.at
  have f1 := h.frozen
  have hne : ((i : Int) == (s.size : Int)) = false := by rw [beq_eq_false_iff_ne]; omega
  rw [bt_at s i h0] at hc
  subst hc
  have H := hide h
  clear h
  go_enter Tryd.func53, Tryd.ntmps53
  go_wp2_with fail
  go_quiet (fail)
  go_wp2
  go_ret
  exact ⟨rfl, ((unhide H).drewN _).set _ _ (by omega), ((KB.refl rb w).drewN _).set 1 _⟩
set_option maxHeartbeats 1600000 in
theorem skip_no (rb : Nat) (s : ByteArray) (i : Nat) (tb kt : Bool) (w : World) (h : Rdr rb s i tb kt w) (hi : i ≤ s.size) (c : Nat) (hc : bt s i ≠ c ∨ i = s.size) :
    Calls Tryd.prog 53 #[.pointer (some ⟨rb, 0, none⟩), .int .u8 c] w fun e w' => e = .returned (.bool false) ∧ Rdr rb s i tb kt w' ∧ KB rb w w' := by
  have c0 := h.text
  have c1 := h.at
  have H := hide h
  clear h
  by_cases hi' : i = s.size
  · have hne : ((i : Int) == (s.size : Int)) = true := by rw [beq_iff_eq]; omega
    go_enter Tryd.func53, Tryd.ntmps53
    go_wp2_with fail
    go_quiet (fail)
    go_wp2
    go_ret
    exact ⟨rfl, (unhide H).drewN _, (KB.refl rb w).drewN _⟩
  · have h0 : i < s.size := by omega
    have hne : ((i : Int) == (s.size : Int)) = false := by rw [beq_eq_false_iff_ne]; omega
    have hnc : ((s[i].toNat : Int) != (c : Int)) = true := by
      rw [bne_iff_ne]; rw [bt_at s i h0] at hc; omega
    clear hc
    go_enter Tryd.func53, Tryd.ntmps53
    go_wp2_with fail
    go_quiet (fail)
    go_wp2
    go_ret
    exact ⟨rfl, (unhide H).drewN _, (KB.refl rb w).drewN _⟩
end Go.Proofs.YtadefcohbkgbfaaDoor
