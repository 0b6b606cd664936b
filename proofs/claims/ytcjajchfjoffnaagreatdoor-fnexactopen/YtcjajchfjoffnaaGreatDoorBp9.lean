import Derived.WalkLawsBesides
import Derived.Deep.QuietTactic
import Derived.BigQuiet
import Derived.Lib.OthersKept
import Derived.Laws.Rows
import Derived.Test.YtcjajchfjoffnaaGreatDoorBp1
import Derived.Test.YtcjajchfjoffnaaGreatDoorBp5
namespace Go.Proofs.YtcjajchfjoffnaaGreatDoor
open Go.RowKit

/-- All old blocks but one are as they were. -/
structure KB (rb : Nat) (w w' : World) : Prop where
  os : w'.os = w.os
  tape : w'.tape = w.tape
  output : w'.output = w.output
  size : w.heap.size ≤ w'.heap.size
  block : ∀ k, k < w.heap.size → k ≠ rb → w'.heap[k]? = w.heap[k]?
theorem KB.refl (rb : Nat) (w : World) : KB rb w w := ⟨rfl, rfl, rfl, Nat.le_refl _, fun _ _ _ => rfl⟩
theorem KB.trans {rb : Nat} {a b c : World} (h : KB rb a b) (k : KB rb b c) : KB rb a c :=
  ⟨k.os.trans h.os, k.tape.trans h.tape, k.output.trans h.output, Nat.le_trans h.size k.size, fun i hi hn => (k.block i (Nat.lt_of_lt_of_le hi h.size) hn).trans (h.block i hi hn)⟩
theorem KB.drew {rb : Nat} {a w : World} (h : KB rb a w) : KB rb a w.drew := ⟨h.os, h.tape, h.output, h.size, h.block⟩
theorem KB.drewN {rb : Nat} {a w : World} (h : KB rb a w) (n : Nat) : KB rb a (w.drewN n) := ⟨h.os, h.tape, h.output, h.size, h.block⟩
theorem KB.set {rb : Nat} {a w : World} (h : KB rb a w) (j : Nat) (v : Value) : KB rb a (w.setCell ⟨rb, j, none⟩ v) :=
  h.trans ⟨rfl, rfl, rfl, by simp [World.setCell], fun k _ hn => Below.heap_setCell _ _ _ _ hn⟩
theorem KB.of_below {rb : Nat} {w w' : World} (h : Below w.heap.size w w') : KB rb w w' := ⟨h.os, h.tape, h.output, h.size, fun k hk _ => h.block k hk⟩
theorem KB.below {rb B : Nat} {w w' : World} (h : KB rb w w') (hB : B ≤ rb) (hs : B ≤ w.heap.size) : Below B w w' := ⟨h.os, h.tape, h.output, h.size, fun k hk => h.block k (by omega) (by omega)⟩

/-- A reader in block rb, at place i of the text s. -/
def Rdr (rb : Nat) (s : ByteArray) (i : Nat) (tb kt : Bool) (w : World) : Prop := w.heap[rb]? = some (.cells #[.string s, .int .i64 (i : Int), .bool tb, .bool kt] 183 (0, 0))
theorem Rdr.text {rb : Nat} {s : ByteArray} {i : Nat} {tb kt : Bool} {w : World} (h : Rdr rb s i tb kt w) : w.cell? ⟨rb, 0, none⟩ = some (.string s) := by rw [Lib.cell_of_heap h]; rfl
theorem Rdr.at {rb : Nat} {s : ByteArray} {i : Nat} {tb kt : Bool} {w : World} (h : Rdr rb s i tb kt w) : w.cell? ⟨rb, 1, none⟩ = some (.int .i64 (i : Int)) := by rw [Lib.cell_of_heap h]; rfl
theorem Rdr.frozen {rb : Nat} {s : ByteArray} {i : Nat} {tb kt : Bool} {w : World} (h : Rdr rb s i tb kt w) : w.frozen? ⟨rb, 1, none⟩ = false := Lib.frozen_of_heap h 1
theorem Rdr.lt {rb : Nat} {s : ByteArray} {i : Nat} {tb kt : Bool} {w : World} (h : Rdr rb s i tb kt w) : rb < w.heap.size := (Array.getElem?_eq_some_iff.1 h).1
theorem Rdr.set {rb : Nat} {s : ByteArray} {i : Nat} {tb kt : Bool} {w : World} (h : Rdr rb s i tb kt w) (z : Int) (j : Nat) (hz : z = (j : Int)) : Rdr rb s j tb kt (w.setCell ⟨rb, 1, none⟩ (.int .i64 z)) := by
  subst hz
  have := heap_setCell_same w rb 1 _ 183 (.int .i64 (j : Int)) h
  exact this
theorem Rdr.drewN {rb : Nat} {s : ByteArray} {i : Nat} {tb kt : Bool} {w : World} (h : Rdr rb s i tb kt w) (n : Nat) : Rdr rb s i tb kt (w.drewN n) := h
theorem Rdr.below {rb : Nat} {s : ByteArray} {i : Nat} {tb kt : Bool} {w w' : World} (h : Rdr rb s i tb kt w) (hb : Below w.heap.size w w') : Rdr rb s i tb kt w' := (hb.block rb h.lt).trans h

/-- The panic of a reader. -/
def mis : Ending := .panicked [{ v := .iface 221 (.agg #[]), recovered := false }]

set_option maxHeartbeats 800000 in
theorem next_in (rb : Nat) (s : ByteArray) (i : Nat) (tb kt : Bool) (w : World) (h : Rdr rb s i tb kt w) (hs : s.size ≤ 1048576) (hi : i < s.size) :
    Calls Tryz.prog 229 #[.pointer (some ⟨rb, 0, none⟩)] w fun e w' => e = .returned (.int .u8 (bt s i)) ∧ Rdr rb s (i + 1) tb kt w' ∧ KB rb w w' := by
  have c0 := h.text
  have c1 := h.at
  have f1 := h.frozen
  have hne : ((i : Int) == (s.size : Int)) = false := by rw [beq_eq_false_iff_ne]; omega
  have HB := hide (bt_at s i hi)
  have H := hide h
  clear h
  go_enter Tryz.func229, Tryz.ntmps229
  go_wp2_with fail
  go_quiet (fail)
  go_wp2_with fail
  go_quiet (fail)
  go_wp2
  go_ret
  exact ⟨by rw [unhide HB]; rfl, ((unhide H).drewN _).set _ _ (by omega), ((KB.refl rb w).drewN _).set 1 _⟩
set_option maxHeartbeats 800000 in
theorem next_out (rb : Nat) (s : ByteArray) (i : Nat) (tb kt : Bool) (w : World) (h : Rdr rb s i tb kt w) (hi : i = s.size) :
    Calls Tryz.prog 229 #[.pointer (some ⟨rb, 0, none⟩)] w fun e w' => e = mis ∧ KB rb w w' := by
  have c0 := h.text
  have c1 := h.at
  have f1 := h.frozen
  have hne : ((i : Int) == (s.size : Int)) = true := by rw [beq_iff_eq]; omega
  clear h
  go_enter Tryz.func229, Tryz.ntmps229
  go_wp2_with fail
  go_quiet (fail)
  go_wp2
  exact ⟨rfl, rfl, (KB.refl rb w).drewN _⟩

theorem bt_out (s : ByteArray) (i : Nat) (h : s.size ≤ i) : bt s i = 0 := by
  unfold bt
  rw [List.getD_eq_getElem?_getD, List.getElem?_eq_none (by rw [data_len]; exact h)]; rfl
theorem bt_in {s : ByteArray} {i : Nat} (h : bt s i ≠ 0) : i < s.size := by
  rcases Nat.lt_or_ge i s.size with g | g
  · exact g
  · exact absurd (bt_out s i g) h

set_option maxHeartbeats 800000 in
theorem readEnd_at (rb : Nat) (s : ByteArray) (i : Nat) (tb kt : Bool) (w : World) (h : Rdr rb s i tb kt w) (hi : i = s.size) :
    Calls Tryz.prog 114 #[.pointer (some ⟨rb, 0, none⟩)] w fun e w' => e = .returned (.tuple #[]) ∧ Rdr rb s i tb kt w' ∧ KB rb w w' := by
  have c0 := h.text
  have c1 := h.at
  have hne : ((i : Int) != (s.size : Int)) = false := by rw [bne_eq_false_iff_eq]; omega
  have H := hide h
  clear h hi
  go_enter Tryz.func114, Tryz.ntmps114
  go_wp2_with fail
  go_quiet (fail)
  go_wp2
  go_end0
  exact ⟨rfl, (unhide H).drewN _, (KB.refl rb w).drewN _⟩
set_option maxHeartbeats 800000 in
theorem readEnd_not (rb : Nat) (s : ByteArray) (i : Nat) (tb kt : Bool) (w : World) (h : Rdr rb s i tb kt w) (hi : i ≠ s.size) :
    Calls Tryz.prog 114 #[.pointer (some ⟨rb, 0, none⟩)] w fun e w' => e = mis ∧ KB rb w w' := by
  have c0 := h.text
  have c1 := h.at
  have hne : ((i : Int) != (s.size : Int)) = true := by rw [bne_iff_ne]; omega
  clear h hi
  go_enter Tryz.func114, Tryz.ntmps114
  go_wp2_with fail
  go_quiet (fail)
  go_wp2
  exact ⟨rfl, rfl, (KB.refl rb w).drewN _⟩

set_option maxHeartbeats 800000 in
theorem expect_yes (rb : Nat) (s : ByteArray) (i : Nat) (tb kt : Bool) (w : World) (h : Rdr rb s i tb kt w) (hs : s.size ≤ 1048576) (c : Nat) (hc : bt s i = c) (h0 : i < s.size) :
    Calls Tryz.prog 205 #[.pointer (some ⟨rb, 0, none⟩), .int .u8 c] w fun e w' => e = .returned (.tuple #[]) ∧ Rdr rb s (i + 1) tb kt w' ∧ KB rb w w' := by
  have HN := hide (next_in rb s i tb kt w h hs h0)
  rw [hc] at HN
  clear h hc h0 hs
  go_enter Tryz.func205, Tryz.ntmps205
  go_wp2_with fail
  refine (unhide HN).mono ?_
  rintro e w1 ⟨rfl, r1, k1⟩
  have R1 := hide r1
  clear r1 HN
  go_wp2
  go_end0
  exact ⟨rfl, unhide R1, k1⟩
set_option maxHeartbeats 800000 in
theorem expect_no (rb : Nat) (s : ByteArray) (i : Nat) (tb kt : Bool) (w : World) (h : Rdr rb s i tb kt w) (hs : s.size ≤ 1048576) (hi : i ≤ s.size) (c : Nat) (hc : bt s i ≠ c ∨ i = s.size) :
    Calls Tryz.prog 205 #[.pointer (some ⟨rb, 0, none⟩), .int .u8 c] w fun e w' => e = mis ∧ KB rb w w' := by
  by_cases hi' : i = s.size
  · have HN := hide (next_out rb s i tb kt w h hi')
    clear h hc hs
    go_enter Tryz.func205, Tryz.ntmps205
    go_wp2_with fail
    refine (unhide HN).mono ?_
    rintro e w1 ⟨rfl, k1⟩
    clear HN
    exact ⟨rfl, rfl, k1⟩
  · have HN := hide (next_in rb s i tb kt w h hs (by omega))
    have hne : (((bt s i : Nat) : Int) != (c : Int)) = true := by rw [bne_iff_ne]; omega
    generalize bt s i = b at *
    clear h hc hs
    go_enter Tryz.func205, Tryz.ntmps205
    go_wp2_with fail
    refine (unhide HN).mono ?_
    rintro e w1 ⟨rfl, r1, k1⟩
    clear r1 HN
    go_wp2
    exact ⟨rfl, rfl, k1⟩

set_option maxHeartbeats 1600000 in
theorem skip_yes (rb : Nat) (s : ByteArray) (i : Nat) (tb kt : Bool) (w : World) (h : Rdr rb s i tb kt w) (hs : s.size ≤ 1048576) (c : Nat) (hc : bt s i = c) (h0 : i < s.size) :
    Calls Tryz.prog 177 #[.pointer (some ⟨rb, 0, none⟩), .int .u8 c] w fun e w' => e = .returned (.bool true) ∧ Rdr rb s (i + 1) tb kt w' ∧ KB rb w w' := by
  have c0 := h.text
  have c1 := h.at
  have f1 := h.frozen
  have hne : ((i : Int) == (s.size : Int)) = false := by rw [beq_eq_false_iff_ne]; omega
  rw [bt_at s i h0] at hc
  subst hc
  have H := hide h
  clear h
  go_enter Tryz.func177, Tryz.ntmps177
  go_wp2_with fail
  go_quiet (fail)
  go_wp2
  go_ret
  exact ⟨rfl, ((unhide H).drewN _).set _ _ (by omega), ((KB.refl rb w).drewN _).set 1 _⟩
set_option maxHeartbeats 1600000 in
theorem skip_no (rb : Nat) (s : ByteArray) (i : Nat) (tb kt : Bool) (w : World) (h : Rdr rb s i tb kt w) (hi : i ≤ s.size) (c : Nat) (hc : bt s i ≠ c ∨ i = s.size) :
    Calls Tryz.prog 177 #[.pointer (some ⟨rb, 0, none⟩), .int .u8 c] w fun e w' => e = .returned (.bool false) ∧ Rdr rb s i tb kt w' ∧ KB rb w w' := by
  have c0 := h.text
  have c1 := h.at
  have H := hide h
  clear h
  by_cases hi' : i = s.size
  · have hne : ((i : Int) == (s.size : Int)) = true := by rw [beq_iff_eq]; omega
    go_enter Tryz.func177, Tryz.ntmps177
    go_wp2_with fail
    go_quiet (fail)
    go_wp2
    go_ret
    exact ⟨rfl, (unhide H).drewN _, (KB.refl rb w).drewN _⟩
  · have h0 : i < s.size := by omega
    have hne : ((i : Int) == (s.size : Int)) = false := by rw [beq_eq_false_iff_ne]; omega
    have hnc : ((s[i].toNat : Int) != (c : Int)) = true := by
      rw [bne_iff_ne]; rw [bt_at s i h0] at hc; omega
    clear hc
    go_enter Tryz.func177, Tryz.ntmps177
    go_wp2_with fail
    go_quiet (fail)
    go_wp2
    go_ret
    exact ⟨rfl, (unhide H).drewN _, (KB.refl rb w).drewN _⟩
end Go.Proofs.YtcjajchfjoffnaaGreatDoor

namespace Go.Proofs.YtcjajchfjoffnaaGreatDoor
open Go.RowKit

/-- The value of a hexadecimal digit. -/
def hx (b : Nat) : Option Nat := if 48 ≤ b ∧ b ≤ 57 then some (b - 48) else if 97 ≤ b ∧ b ≤ 102 then some (b - 87) else if 65 ≤ b ∧ b ≤ 70 then some (b - 55) else none
theorem hx_lt {b v : Nat} (h : hx b = some v) : v < 16 := by
  unfold hx at h
  repeat' split at h
  all_goals first | (injection h with h; omega) | cases h
theorem hx_zero : hx 0 = none := rfl
/-- The number of k hexadecimal digits from place i on. -/
def hexN (s : ByteArray) (i : Nat) : Nat → Option Nat
  | 0 => some 0
  | k + 1 => (hexN s i k).bind fun v => (hx (bt s (i + k))).map fun h => v * 16 + h
theorem hexN_lt (s : ByteArray) (i : Nat) : ∀ (k v : Nat), hexN s i k = some v → v < 16 ^ k
  | 0, v, h => by injection h with h; omega
  | k + 1, v, h => by
    simp only [hexN, Option.bind_eq_some_iff, Option.map_eq_some_iff] at h
    obtain ⟨u, hu, y, hy, rfl⟩ := h
    have := hexN_lt s i k u hu
    have := hx_lt hy
    rw [Nat.pow_succ]; omega
theorem hexN_next {s : ByteArray} {i k v h : Nat} (hv : hexN s i k = some v) (hh : hx (bt s (i + k)) = some h) : hexN s i (k + 1) = some (v * 16 + h) := by simp [hexN, hv, hh]
theorem hexN_bad {s : ByteArray} {i k : Nat} (hh : hx (bt s (i + k)) = none) : hexN s i (k + 1) = none := by simp [hexN, hh]
theorem hexN_none {s : ByteArray} {i k m : Nat} (h : hexN s i k = none) (hm : k ≤ m) : hexN s i m = none := by
  induction m with
  | zero => have : k = 0 := by omega
            subst this; exact h
  | succ m ih =>
    rcases Nat.lt_or_ge m k with g | g
    · have : k = m + 1 := by omega
      subst this; exact h
    · simp [hexN, ih g]
theorem hexN_in {s : ByteArray} {i k v : Nat} (h : hexN s i (k + 1) = some v) : i + k < s.size := by
  refine bt_in fun e => ?_
  have := hexN_bad (s := s) (i := i) (k := k) (by rw [e]; rfl)
  rw [this] at h; cases h

/-- What an escape of one byte stands for. -/
def smp (b : Nat) : Option Nat := if b = 34 then some 34 else if b = 92 then some 92 else if b = 47 then some 47 else if b = 98 then some 8 else if b = 102 then some 12 else if b = 110 then some 10 else if b = 114 then some 13 else if b = 116 then some 9 else none
theorem smp_lt {b v : Nat} (h : smp b = some v) : v < 128 := by
  unfold smp at h
  repeat' split at h
  all_goals first | (injection h with h; omega) | cases h
/-- The number behind \u at place i. -/
def unit (s : ByteArray) (i : Nat) : Option Nat := if bt s i = 92 ∧ bt s (i + 1) = 117 then hexN s (i + 2) 4 else none
theorem unit_lt {s : ByteArray} {i u : Nat} (h : unit s i = some u) : u < 65536 := by
  unfold unit at h; split at h
  · exact hexN_lt s (i + 2) 4 u h
  · cases h
theorem unit_in {s : ByteArray} {i u : Nat} (h : unit s i = some u) : i + 6 ≤ s.size := by
  unfold unit at h; split at h
  · have := hexN_in h; omega
  · cases h
/-- The rune of an escape, its backslash at place i, and the escape's length. -/
def escU (s : ByteArray) (i u : Nat) : Option (Nat × Nat) :=
  if u < 55296 ∨ 57344 ≤ u then some (u, 6) else if 56320 ≤ u then none else
  (unit s (i + 6)).bind fun v => if 56320 ≤ v ∧ v < 57344 then some (65536 + (u - 55296) * 1024 + (v - 56320), 12) else none
def escP (s : ByteArray) (i : Nat) : Option (Nat × Nat) :=
  match smp (bt s (i + 1)) with
  | some v => some (v, 2)
  | none => (unit s i).bind (escU s i)
def piece (s : ByteArray) (i : Nat) : Option (Nat × Nat) :=
  if bt s i = 92 then escP s i else if bt s i < 32 then none else if bt s i < 128 then some (bt s i, 1)
  else if rl s i = 0 then none else some ((Utf8.decode s i).1, rl s i)

theorem escU_ok {s : ByteArray} {i u r n : Nat} (hu : u < 65536) (hi : i + 6 ≤ s.size) (h : escU s i u = some (r, n)) : i + n ≤ s.size ∧ 1 ≤ n ∧ r ≤ 1114111 ∧ (r < 55296 ∨ 57344 ≤ r) := by
  unfold escU at h
  split at h
  · injection h with h; injection h with h1 h2; omega
  · split at h
    · cases h
    · simp only [Option.bind_eq_some_iff] at h
      obtain ⟨v, hv, h⟩ := h
      have := unit_in hv
      split at h
      · injection h with h; injection h with h1 h2; omega
      · cases h
theorem bt_simple {s : ByteArray} {i v : Nat} (h : smp (bt s i) = some v) : i < s.size := bt_in fun e => by rw [e] at h; cases h
theorem escP_ok {s : ByteArray} {i r n : Nat} (h : escP s i = some (r, n)) : i + n ≤ s.size ∧ 1 ≤ n ∧ r ≤ 1114111 ∧ (r < 55296 ∨ 57344 ≤ r) := by
  unfold escP at h
  split at h
  · rename_i v hv
    injection h with h; injection h with h1 h2
    have := bt_simple hv
    have := smp_lt hv
    omega
  · simp only [Option.bind_eq_some_iff] at h
    obtain ⟨u, hu, h⟩ := h
    exact escU_ok (unit_lt hu) (unit_in hu) h

theorem utf_enc {r : Nat} (h : r ≤ 1114111) (h' : r < 55296 ∨ 57344 ≤ r) : utf r = Lib.encodeRune (r : Int) := by
  unfold utf utfZ Lib.encodeRune
  split
  · rw [Lib.encodeRuneZ_one (by omega) (by omega)]
    simp only [List.map_cons, List.map_nil, List.cons.injEq, and_true]
    exact (toU8 _ _ (by rw [UInt8.toNat_ofNat']; omega)).symm
  · split
    · rw [Lib.encodeRuneZ_two (by omega) (by omega)]
      simp only [List.map_cons, List.map_nil]
      rw [toU8 (UInt8.ofNat (192 + r / 64)) _ (by rw [UInt8.toNat_ofNat']; omega), toU8 (UInt8.ofNat (128 + r % 64)) _ (by rw [UInt8.toNat_ofNat']; omega)]
    · split
      · rw [Lib.encodeRuneZ_three (by omega)]
        simp only [List.map_cons, List.map_nil]
        rw [toU8 (UInt8.ofNat (224 + r / 4096)) _ (by rw [UInt8.toNat_ofNat']; omega), toU8 (UInt8.ofNat (128 + r / 64 % 64)) _ (by rw [UInt8.toNat_ofNat']; omega), toU8 (UInt8.ofNat (128 + r % 64)) _ (by rw [UInt8.toNat_ofNat']; omega)]
      · rw [Lib.encodeRuneZ_four (by omega) (by omega)]
        simp only [List.map_cons, List.map_nil]
        rw [toU8 (UInt8.ofNat (240 + r / 262144)) _ (by rw [UInt8.toNat_ofNat']; omega), toU8 (UInt8.ofNat (128 + r / 4096 % 64)) _ (by rw [UInt8.toNat_ofNat']; omega), toU8 (UInt8.ofNat (128 + r / 64 % 64)) _ (by rw [UInt8.toNat_ofNat']; omega), toU8 (UInt8.ofNat (128 + r % 64)) _ (by rw [UInt8.toNat_ofNat']; omega)]

/-- The bytes of a piece. -/
def enc (r : Nat) : List UInt8 := Lib.encodeRune (r : Int)
theorem enc_le (r : Nat) : (enc r).length ≤ 4 := by
  have := Lib.encodeRuneZ_length r; simp [enc, Lib.encodeRune]; omega

theorem decode_le (s : ByteArray) (i : Nat) : (Utf8.decode s i).1 ≤ 1114111 := by
  rw [dec]; exact Lib.decodeN_rune_le _ _ _ _ _ (bt_lt s i)
theorem piece_ok {s : ByteArray} {i r n : Nat} (h : piece s i = some (r, n)) : i + n ≤ s.size ∧ 1 ≤ n ∧ r ≤ 1114111 := by
  unfold piece at h
  split at h
  · have := escP_ok h; omega
  · split at h
    · cases h
    · have hi : i < s.size := bt_in (by omega)
      split at h
      · injection h with h; injection h with h1 h2; omega
      · split at h
        · cases h
        · injection h with h; injection h with h1 h2
          have := rl_le s i hi
          have := decode_le s i
          omega
theorem piece_out {s : ByteArray} {i : Nat} (h : s.size ≤ i) : piece s i = none := by
  unfold piece; rw [bt_out s i h]; rfl

/-- The rest of a string from place i on, behind its opening quote: its bytes, and the place behind it. -/
def strF (s : ByteArray) : Nat → Nat → Option (List UInt8 × Nat)
  | 0, _ => none
  | f + 1, i => if bt s i = 34 then some ([], i + 1) else (piece s i).bind fun p => (strF s f (i + p.2)).map fun q => (enc p.1 ++ q.1, q.2)
def strR (s : ByteArray) (i : Nat) : Option (List UInt8 × Nat) := strF s (s.size + 1 - i) i
theorem strF_past (s : ByteArray) (f i : Nat) (h : s.size ≤ i) : strF s f i = none := by
  cases f with
  | zero => rfl
  | succ f => simp [strF, bt_out s i h, piece_out h]
theorem strF_same (s : ByteArray) : ∀ (f g i : Nat), s.size ≤ i + f → s.size ≤ i + g → strF s f i = strF s g i
  | 0, g, i, h, _ => by rw [strF_past s g i (by omega)]; rfl
  | f + 1, 0, i, _, h => by rw [strF_past s (f + 1) i (by omega)]; rfl
  | f + 1, g + 1, i, hf, hg => by
    rw [strF, strF]
    split
    · rfl
    · cases hp : piece s i with
      | none => rfl
      | some p =>
        obtain ⟨r, n⟩ := p
        have := piece_ok hp
        simp only [Option.bind_some]
        rw [strF_same s f g (i + n) (by omega) (by omega)]
theorem strR_eq (s : ByteArray) (i : Nat) : strR s i = if bt s i = 34 then some ([], i + 1) else (piece s i).bind fun p => (strR s (i + p.2)).map fun q => (enc p.1 ++ q.1, q.2) := by
  unfold strR
  rw [strF_same s (s.size + 1 - i) (s.size + 1) i (by omega) (by omega), strF]
  split
  · rfl
  · cases hp : piece s i with
    | none => rfl
    | some p =>
      obtain ⟨r, n⟩ := p
      simp only [Option.bind_some]
      rw [strF_same s s.size (s.size + 1 - (i + n)) (i + n) (by omega) (by omega)]
theorem strR_end {s : ByteArray} {i : Nat} (h : bt s i = 34) : strR s i = some ([], i + 1) := by rw [strR_eq, if_pos h]
theorem strR_go {s : ByteArray} {i r n : Nat} (h : bt s i ≠ 34) (hp : piece s i = some (r, n)) : strR s i = (strR s (i + n)).map fun q => (enc r ++ q.1, q.2) := by rw [strR_eq, if_neg h, hp]; rfl
theorem strR_bad {s : ByteArray} {i : Nat} (h : bt s i ≠ 34) (hp : piece s i = none) : strR s i = none := by rw [strR_eq, if_neg h, hp]; rfl
theorem strR_out {s : ByteArray} {i : Nat} (h : s.size ≤ i) : strR s i = none := strR_bad (by rw [bt_out s i h]; decide) (piece_out h)

theorem escP_u {s : ByteArray} {i : Nat} (h0 : bt s i = 92) (h1 : bt s (i + 1) = 117) : escP s i = (hexN s (i + 2) 4).bind (escU s i) := by
  unfold escP unit
  rw [if_pos ⟨h0, h1⟩, h1]; rfl
theorem escP_s {s : ByteArray} {i b v : Nat} (h1 : bt s (i + 1) = b) (hv : smp b = some v) : escP s i = some (v, 2) := by
  unfold escP
  rw [h1, hv]
theorem escP_n {s : ByteArray} {i b : Nat} (h1 : bt s (i + 1) = b) (hv : smp b = none) (hu : b ≠ 117) : escP s i = none := by
  unfold escP unit
  rw [h1, hv, if_neg (fun h => hu h.2)]; rfl
/-- A string from its quote on. -/
def strQ (s : ByteArray) (i : Nat) : Option (List UInt8 × Nat) := if bt s i = 34 then strR s (i + 1) else none

/-- A reader's answer: the value and the place behind it, or the panic. -/
def Post (rb : Nat) (s : ByteArray) (tb kt : Bool) (w : World) (o : Option (Value × Nat)) (e : Ending) (w' : World) : Prop :=
  KB rb w w' ∧ o.elim (e = mis) fun p => e = .returned p.1 ∧ Rdr rb s p.2 tb kt w'
def rune (p : Nat × Nat) : Value × Nat := (.int .i32 (p.1 : Int), p.2)
end Go.Proofs.YtcjajchfjoffnaaGreatDoor

namespace Go.Proofs.YtcjajchfjoffnaaGreatDoor
open Go.RowKit

theorem bt_drop (s : ByteArray) (i k : Nat) : bt s (i + k) = ((s.data.toList.drop i).getD k 0).toNat := by
  unfold bt; rw [List.getD_eq_getElem?_getD, List.getD_eq_getElem?_getD, List.getElem?_drop]
theorem drop_size {s : ByteArray} {i : Nat} {m : List UInt8} (h : s.data.toList.drop i = m) (hm : m ≠ []) : s.size = i + m.length := by
  have h1 : (s.data.toList.drop i).length = m.length := by rw [h]
  have h2 : 0 < m.length := List.length_pos_iff.2 hm
  rw [List.length_drop, data_len] at h1
  omega
theorem hx_hexs : ∀ k : Fin 16, hx (hexs.getD k.val 0).toNat = some k.val := by decide
theorem enc_lo {r : Nat} (h : r < 128) : enc r = [UInt8.ofNat r] := by
  unfold enc; rw [← utf_enc (by omega) (by omega)]; unfold utf utfZ; rw [if_pos h]; rfl

theorem piece_esc {T : ByteArray} {i : Nat} {c x : UInt8} {m : List UInt8} (hq : qB c = [92, x]) (hs : smp x.toNat = some c.toNat) (h : T.data.toList.drop i = qB c ++ m) :
    bt T i ≠ 34 ∧ piece T i = some (c.toNat, (qB c).length) := by
  have b0 := bt_drop T i 0
  have b1 := bt_drop T i 1
  rw [h, hq] at b0 b1
  change bt T i = 92 at b0
  change bt T (i + 1) = x.toNat at b1
  refine ⟨by omega, ?_⟩
  unfold piece
  rw [if_pos b0, escP_s b1 hs, hq]; rfl
theorem piece_ctl {T : ByteArray} {i : Nat} {c : UInt8} {m : List UInt8} (hc : Ctl c.toNat) (h : T.data.toList.drop i = qB c ++ m) :
    bt T i ≠ 34 ∧ piece T i = some (c.toNat, (qB c).length) := by
  have hq := q_ctl hc
  have hlt := hc.1
  have x1 := hx_hexs ⟨c.toNat / 16, by omega⟩
  have x2 := hx_hexs ⟨c.toNat % 16, by omega⟩
  simp only at x1 x2
  generalize hexs.getD (c.toNat / 16) 0 = a at *
  generalize hexs.getD (c.toNat % 16) 0 = b at *
  have b0 := bt_drop T i 0
  have b1 := bt_drop T i 1
  have b2 := bt_drop T i 2
  have b3 := bt_drop T i 3
  have b4 := bt_drop T i 4
  have b5 := bt_drop T i 5
  rw [h, hq] at b0 b1 b2 b3 b4 b5
  change bt T i = 92 at b0
  change bt T (i + 1) = 117 at b1
  change bt T (i + 2) = 48 at b2
  change bt T (i + 3) = 48 at b3
  change bt T (i + 4) = a.toNat at b4
  change bt T (i + 5) = b.toNat at b5
  have e : hexN T (i + 2) 4 = some ((((0 * 16 + 0) * 16 + 0) * 16 + c.toNat / 16) * 16 + c.toNat % 16) := by
    refine hexN_next (hexN_next (hexN_next (hexN_next rfl ?_) ?_) ?_) ?_
    · show hx (bt T (i + 2)) = _
      rw [b2]; rfl
    · show hx (bt T (i + 3)) = _
      rw [b3]; rfl
    · show hx (bt T (i + 4)) = _
      rw [b4]; exact x1
    · show hx (bt T (i + 5)) = _
      rw [b5]; exact x2
  refine ⟨by omega, ?_⟩
  unfold piece
  rw [if_pos b0, escP_u b0 b1, e, hq]
  show escU T i _ = _
  unfold escU
  rw [if_pos (by omega)]
  congr 2
  omega
theorem piece_q {T : ByteArray} {i : Nat} {c : UInt8} {m : List UInt8} (hc : c.toNat < 128) (h : T.data.toList.drop i = qB c ++ m) :
    bt T i ≠ 34 ∧ piece T i = some (c.toNat, (qB c).length) := by
  by_cases e1 : c.toNat = 34
  · exact piece_esc (q_esc (by omega)) (by rw [e1]; rfl) h
  by_cases e2 : c.toNat = 92
  · exact piece_esc (q_esc (by omega)) (by rw [e2]; rfl) h
  by_cases e3 : c.toNat = 8
  · exact piece_esc (q_8 (by omega)) (by rw [e3]; rfl) h
  by_cases e4 : c.toNat = 9
  · exact piece_esc (q_9 (by omega)) (by rw [e4]; rfl) h
  by_cases e5 : c.toNat = 10
  · exact piece_esc (q_10 (by omega)) (by rw [e5]; rfl) h
  by_cases e6 : c.toNat = 12
  · exact piece_esc (q_12 (by omega)) (by rw [e6]; rfl) h
  by_cases e7 : c.toNat = 13
  · exact piece_esc (q_13 (by omega)) (by rw [e7]; rfl) h
  by_cases e8 : c.toNat < 32
  · exact piece_ctl ⟨e8, e3, e4, e5, e6, e7⟩ h
  have hq := q_lit e1 e2 (by omega)
  have b0 := bt_drop T i 0
  rw [h, hq] at b0
  change bt T i = c.toNat at b0
  refine ⟨by omega, ?_⟩
  unfold piece
  rw [if_neg (by omega), if_neg (by omega), if_pos (by omega), b0, hq]; rfl

theorem take_getD (l : List UInt8) (n k : Nat) (m : List UInt8) (h : k < n) (hn : n ≤ l.length) : (l.take n ++ m).getD k 0 = l.getD k 0 := by
  rw [List.getD_eq_getElem?_getD, List.getD_eq_getElem?_getD, List.getElem?_append_left (by rw [List.length_take]; omega), List.getElem?_take_of_lt h]

theorem rl_same {s T : ByteArray} {i j : Nat} {m : List UInt8} (hi : i < s.size) (h8 : ¬ s[i].toNat < 128) (hr : ¬ rl s i = 0) (h : T.data.toList.drop j = (s.data.toList.drop i).take (rl s i) ++ m) : rl T j = rl s i := by
  have hle := rl_le s i hi
  have hlen : (s.data.toList.drop i).length = s.size - i := by rw [List.length_drop, data_len]
  have hb : ∀ k, k < rl s i → bt T (j + k) = bt s (i + k) := fun k hk => by
    rw [bt_drop, bt_drop, h, take_getD _ _ _ _ hk (by omega)]
  have hn : rl s i ≤ T.size - j := by
    have h1 := drop_size h (by
      intro e
      have := congrArg List.length e
      rw [List.length_append, List.length_take, hlen] at this
      simp at this; omega)
    rw [List.length_append, List.length_take, hlen] at h1
    omega
  have hb0 := bt_at s i hi
  have h192 : 192 ≤ bt s i := by
    rcases Nat.lt_or_ge (bt s i) 192 with g | g
    · exact absurd (show rl s i = 0 by unfold rl; rw [rlN_cont (by omega) g]) hr
    · exact g
  have hT0 := hb 0 (by omega)
  rw [Nat.add_zero, Nat.add_zero] at hT0
  have l1 := bt_lt s (i + 1)
  have l2 := bt_lt s (i + 2)
  have l3 := bt_lt s (i + 3)
  by_cases h2 : bt s i < 224
  · have e := rlN_2 (n := s.size - i) (b0 := bt s i) (b1 := bt s (i + 1)) (b2 := bt s (i + 2)) (b3 := bt s (i + 3)) h192 h2 l1
    have e' := rlN_2 (n := T.size - j) (b0 := bt T j) (b1 := bt T (j + 1)) (b2 := bt T (j + 2)) (b3 := bt T (j + 3)) (by omega) (by omega) (bt_lt _ _)
    change rl s i = _ at e
    change rl T j = _ at e'
    split at e
    · rename_i hc
      have x1 := hb 1 (by omega)
      rw [e', e, if_pos (by rw [hT0, x1]; omega)]
    · omega
  by_cases h3 : bt s i < 240
  · have e := rlN_3 (n := s.size - i) (b0 := bt s i) (b1 := bt s (i + 1)) (b2 := bt s (i + 2)) (b3 := bt s (i + 3)) (by omega) h3 l1 l2
    have e' := rlN_3 (n := T.size - j) (b0 := bt T j) (b1 := bt T (j + 1)) (b2 := bt T (j + 2)) (b3 := bt T (j + 3)) (by omega) (by omega) (bt_lt _ _) (bt_lt _ _)
    change rl s i = _ at e
    change rl T j = _ at e'
    split at e
    · rename_i hc
      have x1 := hb 1 (by omega)
      have x2 := hb 2 (by omega)
      rw [e', e, if_pos (by rw [hT0, x1, x2]; omega)]
    · omega
  · have e := rlN_4 (n := s.size - i) (b0 := bt s i) (b1 := bt s (i + 1)) (b2 := bt s (i + 2)) (b3 := bt s (i + 3)) (by omega) (bt_lt _ _) l1 l2 l3
    have e' := rlN_4 (n := T.size - j) (b0 := bt T j) (b1 := bt T (j + 1)) (b2 := bt T (j + 2)) (b3 := bt T (j + 3)) (by omega) (bt_lt _ _) (bt_lt _ _) (bt_lt _ _) (bt_lt _ _)
    change rl s i = _ at e
    change rl T j = _ at e'
    split at e
    · rename_i hc
      have x1 := hb 1 (by omega)
      have x2 := hb 2 (by omega)
      have x3 := hb 3 (by omega)
      rw [e', e, if_pos (by rw [hT0, x1, x2, x3]; omega)]
    · omega

theorem drop_past {l m n : List UInt8} {j : Nat} (h : l.drop j = m ++ n) : l.drop (j + m.length) = n := by
  rw [← List.drop_drop, h, List.drop_left]

theorem str_round (s T : ByteArray) : ∀ (f pos : Nat), s.size ≤ pos + f → Lib.validD (s.data.toList.drop pos) = true → ∀ j, T.data.toList.drop j = qs (s.data.toList.drop pos) ++ [34] → strR T j = some (s.data.toList.drop pos, T.size)
  | f, pos, h, hv, j, hj => by
    by_cases hp : pos < s.size
    · cases f with
      | zero => omega
      | succ f =>
        have hr : ¬ rl s pos = 0 := fun e => by rw [valid_bad s pos hp e] at hv; cases hv
        have hv2 := hv
        rw [valid_go s pos hp hr] at hv2
        by_cases h8 : s[pos].toNat < 128
        · have e1 : rl s pos = 1 := by unfold rl; rw [rlN_one (by rw [bt_at s pos hp]; exact h8)]
          rw [e1] at hv2
          have hq : T.data.toList.drop j = qB s[pos] ++ (qs (s.data.toList.drop (pos + 1)) ++ [34]) := by
            rw [hj, drop_at s pos hp]; simp [qs]
          obtain ⟨p1, p2⟩ := piece_q h8 hq
          have ih := str_round s T f (pos + 1) (by omega) hv2 (j + (qB s[pos]).length) (drop_past hq)
          rw [strR_go p1 p2, ih, enc_lo h8, show UInt8.ofNat s[pos].toNat = s[pos] from UInt8.ofNat_toNat, drop_at s pos hp]
          rfl
        · obtain ⟨g1, g2, g3, g4⟩ := enc_multi s pos hp hr h8
          have hsplit := (List.take_append_drop (rl s pos) (s.data.toList.drop pos)).symm
          rw [List.drop_drop] at hsplit
          have hq : T.data.toList.drop j = (s.data.toList.drop pos).take (rl s pos) ++ (qs (s.data.toList.drop (pos + rl s pos)) ++ [34]) := by
            rw [hj]
            conv => lhs; rw [hsplit]
            rw [qs_app, qs_high _ g2, List.append_assoc]
          have hle := rl_le s pos hp
          have hlen : ((s.data.toList.drop pos).take (rl s pos)).length = rl s pos := by rw [List.length_take, List.length_drop, data_len]; omega
          have hrl := rl_same hp h8 hr hq
          have ih := str_round s T f (pos + rl s pos) (by omega) hv2 (j + rl s pos) (by have := drop_past hq; rwa [hlen] at this)
          have hjT : j < T.size := by
            have := drop_size hq (by intro e; have := congrArg List.length e; rw [List.length_append, hlen, List.length_nil] at this; omega)
            rw [List.length_append, hlen] at this; omega
          have b0 : bt T j = bt s pos := by
            have x := bt_drop T j 0
            have y := bt_drop s pos 0
            rw [Nat.add_zero] at x y
            rw [x, y, hq, take_getD _ _ _ _ (by omega) (by rw [List.length_drop, data_len]; omega)]
          have hb0 := bt_at s pos hp
          have b8 : ¬ T[j].toNat < 128 := by rw [← bt_at T j hjT]; omega
          obtain ⟨k1, k2, k3, k4⟩ := enc_multi T j hjT (by rw [hrl]; exact hr) b8
          have hp2 : piece T j = some ((Utf8.decode T j).1, rl s pos) := by
            unfold piece
            rw [if_neg (by omega), if_neg (by omega), if_neg (by omega), if_neg (by rw [hrl]; exact hr), hrl]
          rw [strR_go (by omega) hp2, ih]
          unfold enc
          rw [k1, hq, hrl]
          conv => rhs; rw [hsplit]
          rw [List.take_append_of_le_length (by omega), List.take_of_length_le (by omega)]
          rfl
    · rw [drop_end s pos hp] at hj ⊢
      have hs := drop_size hj (by simp [qs])
      have b0 := bt_drop T j 0
      rw [hj] at b0
      change bt T j = 34 at b0
      rw [strR_end b0]
      simp [qs] at hs
      rw [hs]

/-- A quoted text is read back. -/
theorem strQ_quoted (s : ByteArray) (hv : Lib.validD s.data.toList = true) : strQ (strOf (quoted s.data.toList)) 0 = some (s.data.toList, (strOf (quoted s.data.toList)).size) := by
  have h := str_round s (strOf (quoted s.data.toList)) s.size 0 (by omega) (by simpa using hv) 1 (by rw [strOf_toList]; rfl)
  have b : bt (strOf (quoted s.data.toList)) 0 = 34 := by unfold bt; rw [strOf_toList]; rfl
  unfold strQ
  rw [if_pos b]
  exact h
end Go.Proofs.YtcjajchfjoffnaaGreatDoor

namespace Go.Proofs.YtcjajchfjoffnaaGreatDoor
open Go.RowKit

set_option maxHeartbeats 800000 in
theorem hexDigit_walk (b : Nat) (hb : b < 256) (w : World) :
    Calls Tryz.prog 274 #[.int .u8 b] w fun e w' => w = w' ∧ e = (hx b).elim mis (fun v => .returned (.int .i32 v)) := by
  by_cases h1 : 48 ≤ b ∧ b ≤ 57
  · have HH : Hid (hx b = some (b - 48)) := by show _ = _; unfold hx; rw [if_pos h1]
    have a1 : (48 : Int) ≤ (b : Int) := by omega
    have a2 : (b : Int) ≤ 57 := by omega
    clear h1
    go_enter Tryz.func274, Tryz.ntmps274
    go_wp2
    go_ret
    refine ⟨rfl, ?_⟩
    rw [unhide HH]
    exact ret_int (by go_num)
  · by_cases h2 : 97 ≤ b ∧ b ≤ 102
    · have HH : Hid (hx b = some (b - 87)) := by show _ = _; unfold hx; rw [if_neg h1, if_pos h2]
      have a1 : (97 : Int) ≤ (b : Int) := by omega
      have a2 : (b : Int) ≤ 102 := by omega
      clear h1 h2
      go_enter Tryz.func274, Tryz.ntmps274
      go_wp2
      go_ret
      refine ⟨rfl, ?_⟩
      rw [unhide HH]
      exact ret_int (by go_num)
    · by_cases h3 : 65 ≤ b ∧ b ≤ 70
      · have HH : Hid (hx b = some (b - 55)) := by show _ = _; unfold hx; rw [if_neg h1, if_neg h2, if_pos h3]
        have a1 : (65 : Int) ≤ (b : Int) := by omega
        have a2 : (b : Int) ≤ 70 := by omega
        clear h1 h2 h3
        go_enter Tryz.func274, Tryz.ntmps274
        go_wp2
        go_ret
        refine ⟨rfl, ?_⟩
        rw [unhide HH]
        exact ret_int (by go_num)
      · have HH : Hid (hx b = none) := by show _ = _; unfold hx; rw [if_neg h1, if_neg h2, if_neg h3]
        clear HH
        have HH : Hid (hx b = none) := by show _ = _; unfold hx; rw [if_neg h1, if_neg h2, if_neg h3]
        rcases (show b < 48 ∨ (57 < b ∧ b < 65) ∨ (70 < b ∧ b < 97) ∨ 102 < b from by omega) with g | g | g | g
        · have a1 : (b : Int) < 48 := by omega
          clear h1 h2 h3 g
          go_enter Tryz.func274, Tryz.ntmps274
          go_wp2
          exact ⟨rfl, rfl, by rw [unhide HH]; rfl⟩
        · have a1 : (57 : Int) < (b : Int) := by omega
          have a2 : (b : Int) < 65 := by omega
          clear h1 h2 h3 g
          go_enter Tryz.func274, Tryz.ntmps274
          go_wp2
          exact ⟨rfl, rfl, by rw [unhide HH]; rfl⟩
        · have a1 : (70 : Int) < (b : Int) := by omega
          have a2 : (b : Int) < 97 := by omega
          clear h1 h2 h3 g
          go_enter Tryz.func274, Tryz.ntmps274
          go_wp2
          exact ⟨rfl, rfl, by rw [unhide HH]; rfl⟩
        · have a1 : (102 : Int) < (b : Int) := by omega
          clear h1 h2 h3 g
          go_enter Tryz.func274, Tryz.ntmps274
          go_wp2
          exact ⟨rfl, rfl, by rw [unhide HH]; rfl⟩

set_option maxHeartbeats 1600000 in
theorem hexNum_walk (rb : Nat) (s : ByteArray) (i : Nat) (tb kt : Bool) (w : World) (h : Rdr rb s i tb kt w) (hs : s.size ≤ 1048576) (hi : i ≤ s.size) :
    Calls Tryz.prog 265 #[.pointer (some ⟨rb, 0, none⟩)] w (Post rb s tb kt w ((hexN s i 4).map fun v : Nat => (.int .i32 (v : Int), i + 4))) := by
  have H := hide h
  clear h
  go_enter Tryz.func265, Tryz.ntmps265
  go_wp2
  go_loopw [3, 4] (fun n k wr => ∃ j v : Nat, j ≤ 4 ∧ i + j ≤ s.size ∧ v < 16 ^ j ∧ k = .int .i64 j ∧ n = .int .i32 v ∧ hexN s i j = some v ∧ Rdr rb s (i + j) tb kt wr ∧ KB rb w wr) (fun _ k _ => 4 - (intOf k).toNat)
  case atStart => exact ⟨0, 0, by omega, by omega, by decide, rfl, rfl, rfl, unhide H, KB.refl _ _⟩
  case round =>
    obtain ⟨j, v, hj, hij, hv16, rfl, rfl, hv, hr, hk⟩ := hrel
    have HV := hide hv
    have HR := hide hr
    clear hv hr
    by_cases h4 : j < 4
    · have hv65 : v < 65536 := by
        have : (16 : Nat) ^ j ≤ 16 ^ 3 := Nat.pow_le_pow_right (by decide) (by omega)
        omega
      have h4' : (j : Int) < 4 := by omega
      by_cases hin : i + j < s.size
      · have HN := hide (next_in rb s (i + j) tb kt wr (unhide HR) hs hin)
        have HD := hide (hexDigit_walk (bt s (i + j)) (bt_lt _ _))
        have hvI : (v : Int) < 65536 := by omega
        cases hx1 : hx (bt s (i + j)) with
        | some d =>
          have hd := hx_lt hx1
          have HX := hide (hexN_next (unhide HV) hx1)
          rw [hx1] at HD
          generalize bt s (i + j) = b at *
          clear hx1
          go_wp2_with fail
          refine (unhide HN).mono ?_
          rintro e w1 ⟨rfl, r1, k1⟩
          have R1 := hide r1
          clear r1
          go_wp2_with fail
          refine (unhide HD _).mono ?_
          rintro e w2 ⟨rfl, rfl⟩
          clear HN HD
          simp only [Option.elim]
          go_wp2
          go_roundw
          case rel => exact ⟨j + 1, v * 16 + d, by omega, by omega, by rw [Nat.pow_succ]; omega, by go_num, by go_num, unhide HX, unhide R1, hk.trans k1⟩
          case measure => simp [intOf]; omega
        | none =>
          have HX : Hid (hexN s i 4 = none) := hexN_none (hexN_bad hx1) (by omega)
          rw [hx1] at HD
          generalize bt s (i + j) = b at *
          clear hx1
          go_wp2_with fail
          refine (unhide HN).mono ?_
          rintro e w1 ⟨rfl, r1, k1⟩
          clear r1
          go_wp2_with fail
          refine (unhide HD _).mono ?_
          rintro e w2 ⟨rfl, rfl⟩
          clear HN HD
          exact ⟨rfl, hk.trans k1, by rw [unhide HX]; rfl⟩
      · have HX : Hid (hexN s i 4 = none) := hexN_none (hexN_bad (by rw [bt_out s (i + j) (by omega)]; rfl)) (show j + 1 ≤ 4 by omega)
        have HN := hide (next_out rb s (i + j) tb kt wr (unhide HR) (by omega))
        go_wp2_with fail
        refine (unhide HN).mono ?_
        rintro e w1 ⟨rfl, k1⟩
        clear HN
        exact ⟨rfl, hk.trans k1, by rw [unhide HX]; rfl⟩
    · have e4 : j = 4 := by omega
      subst e4
      go_wp2
      go_ret
      exact ⟨hk, by rw [unhide HV]; exact ⟨rfl, unhide HR⟩⟩

/-- The word at place i. -/
def isWord (s : ByteArray) (i : Nat) (wd : ByteArray) : Prop := ∀ k, k < wd.size → bt s (i + k) = bt wd k

set_option maxHeartbeats 1600000 in
theorem word_yes (rb : Nat) (s : ByteArray) (i : Nat) (tb kt : Bool) (w : World) (h : Rdr rb s i tb kt w) (hs : s.size ≤ 1048576) (wd : ByteArray) (hw : wd.size ≤ 1000) (hi : i + wd.size ≤ s.size) (hit : isWord s i wd) :
    Calls Tryz.prog 179 #[.pointer (some ⟨rb, 0, none⟩), .string wd] w fun e w' => e = .returned (.tuple #[]) ∧ Rdr rb s (i + wd.size) tb kt w' ∧ KB rb w w' := by
  have H := hide h
  have HIT := hide hit
  clear h hit
  go_enter Tryz.func179, Tryz.ntmps179
  go_wp2
  go_loopw [7] (fun k wr => ∃ j : Nat, j ≤ wd.size ∧ k = .int .i64 j ∧ Rdr rb s (i + j) tb kt wr ∧ KB rb w wr) (fun k _ => wd.size - (intOf k).toNat)
  case atStart => exact ⟨0, by omega, rfl, unhide H, KB.refl _ _⟩
  case round =>
    obtain ⟨j, hj, rfl, hr, hk⟩ := hrel
    have HR := hide hr
    clear hr
    by_cases hlt : j < wd.size
    · have e1 := (unhide HIT) j hlt
      have HE : Hid (Calls Tryz.prog 205 #[.pointer (some ⟨rb, 0, none⟩), .int .u8 (wd[j].toNat : Int)] wr fun e w' => e = .returned (.tuple #[]) ∧ Rdr rb s (i + j + 1) tb kt w' ∧ KB rb wr w') :=
        expect_yes rb s (i + j) tb kt wr (unhide HR) hs wd[j].toNat (by rw [e1, bt_at wd j hlt]) (by omega)
      clear e1
      go_wp2_with fail
      refine (unhide HE).mono ?_
      rintro e w1 ⟨rfl, r1, k1⟩
      have R1 := hide r1
      clear r1 HE
      go_wp2
      go_roundw
      case rel => exact ⟨j + 1, by omega, by go_num, unhide R1, hk.trans k1⟩
      case measure => simp [intOf]; omega
    · have e4 : j = wd.size := by omega
      subst e4
      go_wp2
      go_end0
      exact ⟨rfl, unhide HR, hk⟩

set_option maxHeartbeats 1600000 in
theorem word_no (rb : Nat) (s : ByteArray) (i : Nat) (tb kt : Bool) (w : World) (h : Rdr rb s i tb kt w) (hs : s.size ≤ 1048576) (wd : ByteArray) (hw : wd.size ≤ 1000) (hz : ∀ k, k < wd.size → bt wd k ≠ 0) (hi : i ≤ s.size) (hit : ¬ isWord s i wd) :
    Calls Tryz.prog 179 #[.pointer (some ⟨rb, 0, none⟩), .string wd] w fun e w' => e = mis ∧ KB rb w w' := by
  have H := hide h
  have HIT := hide hit
  have HZ := hide hz
  clear h hit hz
  go_enter Tryz.func179, Tryz.ntmps179
  go_wp2
  go_loopw [7] (fun k wr => ∃ j : Nat, j ≤ wd.size ∧ i + j ≤ s.size ∧ k = .int .i64 j ∧ (∀ m, m < j → bt s (i + m) = bt wd m) ∧ Rdr rb s (i + j) tb kt wr ∧ KB rb w wr) (fun k _ => wd.size - (intOf k).toNat)
  case atStart => exact ⟨0, by omega, hi, rfl, by omega, unhide H, KB.refl _ _⟩
  case round =>
    obtain ⟨j, hj, hij, rfl, hm, hr, hk⟩ := hrel
    have HR := hide hr
    have HM := hide hm
    clear hr hm
    by_cases hlt : j < wd.size
    · by_cases e1 : bt s (i + j) = bt wd j
      · have hin : i + j < s.size := bt_in (by rw [e1]; exact (unhide HZ) j hlt)
        have HE : Hid (Calls Tryz.prog 205 #[.pointer (some ⟨rb, 0, none⟩), .int .u8 (wd[j].toNat : Int)] wr fun e w' => e = .returned (.tuple #[]) ∧ Rdr rb s (i + j + 1) tb kt w' ∧ KB rb wr w') :=
          expect_yes rb s (i + j) tb kt wr (unhide HR) hs wd[j].toNat (by rw [e1, bt_at wd j hlt]) hin
        have HM1 : Hid (∀ m, m < j + 1 → bt s (i + m) = bt wd m) := fun m hm => by
          rcases Nat.lt_or_ge m j with g | g
          · exact (unhide HM) m g
          · have : m = j := by omega
            subst this; exact e1
        clear e1
        go_wp2_with fail
        refine (unhide HE).mono ?_
        rintro e w1 ⟨rfl, r1, k1⟩
        have R1 := hide r1
        clear r1 HE
        go_wp2
        go_roundw
        case rel => exact ⟨j + 1, by omega, by omega, by go_num, unhide HM1, unhide R1, hk.trans k1⟩
        case measure => simp [intOf]; omega
      · have HE : Hid (Calls Tryz.prog 205 #[.pointer (some ⟨rb, 0, none⟩), .int .u8 (wd[j].toNat : Int)] wr fun e w' => e = mis ∧ KB rb wr w') :=
          expect_no rb s (i + j) tb kt wr (unhide HR) hs hij wd[j].toNat (.inl (by rw [bt_at wd j hlt] at e1; exact e1))
        clear e1
        go_wp2_with fail
        refine (unhide HE).mono ?_
        rintro e w1 ⟨rfl, k1⟩
        clear HE
        exact ⟨rfl, rfl, hk.trans k1⟩
    · exfalso
      refine (unhide HIT) fun k hk' => (unhide HM) k (by omega)
end Go.Proofs.YtcjajchfjoffnaaGreatDoor

namespace Go.Proofs.YtcjajchfjoffnaaGreatDoor
open Go.RowKit

theorem isWord_u (s : ByteArray) (i : Nat) : isWord s i ⟨#[92, 117]⟩ ↔ bt s i = 92 ∧ bt s (i + 1) = 117 := by
  constructor
  · intro h
    exact ⟨h 0 (by decide), h 1 (by decide)⟩
  · rintro ⟨h0, h1⟩ k hk
    have : k < 2 := hk
    match k, this with
    | 0, _ => exact h0
    | 1, _ => exact h1

set_option maxHeartbeats 1600000 in
set_option maxRecDepth 100000 in
theorem hexRune_walk (rb : Nat) (s : ByteArray) (i : Nat) (tb kt : Bool) (w : World) (h : Rdr rb s (i + 2) tb kt w) (hs : s.size ≤ 1048576) (hi : i + 2 ≤ s.size) :
    Calls Tryz.prog 248 #[.pointer (some ⟨rb, 0, none⟩)] w (Post rb s tb kt w (((hexN s (i + 2) 4).bind (escU s i)).map fun p => (.int .i32 (p.1 : Int), i + p.2))) := by
  have HX := hide (hexNum_walk rb s (i + 2) tb kt w h hs hi)
  clear h
  cases hx1 : hexN s (i + 2) 4 with
  | none =>
    rw [hx1] at HX
    clear hx1
    go_enter Tryz.func248, Tryz.ntmps248
    go_wp2_with fail
    refine (unhide HX).mono ?_
    rintro e w1 ⟨k1, rfl⟩
    clear HX
    exact ⟨rfl, k1, rfl⟩
  | some u =>
    have hu : u < 65536 := hexN_lt s (i + 2) 4 u hx1
    have hin := hexN_in hx1
    rw [hx1] at HX
    clear hx1
    simp only [Option.bind_some]
    by_cases h1 : u < 55296 ∨ 57344 ≤ u
    · have HE : Hid (escU s i u = some (u, 6)) := by show _ = _; unfold escU; rw [if_pos h1]
      rcases h1 with h1 | h1
      · have a1 : (u : Int) < 55296 := by omega
        go_enter Tryz.func248, Tryz.ntmps248
        go_wp2_with fail
        refine (unhide HX).mono ?_
        rintro e w1 ⟨k1, rfl, r1⟩
        have R1 := hide r1
        clear HX r1
        go_wp2
        go_ret
        exact ⟨k1, by rw [unhide HE]; exact ⟨rfl, unhide R1⟩⟩
      · have a1 : ¬ (u : Int) < 55296 := by omega
        have a2 : (57343 : Int) < (u : Int) := by omega
        have d1 : decide ((u : Int) < 55296) = false := by simp; omega
        go_enter Tryz.func248, Tryz.ntmps248
        go_wp2_with fail
        refine (unhide HX).mono ?_
        rintro e w1 ⟨k1, rfl, r1⟩
        have R1 := hide r1
        clear HX r1
        go_wp2
        go_ret
        exact ⟨k1, by rw [unhide HE]; exact ⟨rfl, unhide R1⟩⟩
    · have a1 : ¬ (u : Int) < 55296 := by omega
      have a2 : ¬ (57343 : Int) < (u : Int) := by omega
      by_cases h2 : 56320 ≤ u
      · have HE : Hid (escU s i u = none) := by show _ = _; unfold escU; rw [if_neg h1, if_pos h2]
        have a3 : (56319 : Int) < (u : Int) := by omega
        clear h1
        go_enter Tryz.func248, Tryz.ntmps248
        go_wp2_with fail
        refine (unhide HX).mono ?_
        rintro e w1 ⟨k1, rfl, r1⟩
        clear HX r1
        go_wp2
        exact ⟨rfl, k1, by rw [unhide HE]; rfl⟩
      · have a3 : ¬ (56319 : Int) < (u : Int) := by omega
        have U12 : Hid ((55296 : Int) ≤ (u : Int) ∧ (u : Int) ≤ 56319) := by show _ ∧ _; omega
        by_cases hw : bt s (i + 6) = 92 ∧ bt s (i + 6 + 1) = 117
        · have hw' := (isWord_u s (i + 6)).2 hw
          have hin7 : i + 6 + 1 < s.size := bt_in (by rw [hw.2]; decide)
          have HW : Hid (∀ w, Rdr rb s (i + 6) tb kt w → Calls Tryz.prog 179 #[.pointer (some ⟨rb, 0, none⟩), .string ⟨#[92, 117]⟩] w fun e w' => e = .returned (.tuple #[]) ∧ Rdr rb s (i + 6 + 2) tb kt w' ∧ KB rb w w') :=
            fun w h => word_yes rb s (i + 6) tb kt w h hs ⟨#[92, 117]⟩ (by decide) (by show i + 6 + 2 ≤ _; omega) hw'
          have HX2 : Hid (∀ w, Rdr rb s (i + 6 + 2) tb kt w → Calls Tryz.prog 265 #[.pointer (some ⟨rb, 0, none⟩)] w (Post rb s tb kt w ((hexN s (i + 6 + 2) 4).map fun v : Nat => (.int .i32 (v : Int), i + 6 + 2 + 4)))) :=
            fun w h => hexNum_walk rb s (i + 6 + 2) tb kt w h hs (by omega)
          have eU : unit s (i + 6) = hexN s (i + 6 + 2) 4 := by unfold unit; rw [if_pos hw]
          clear hw hw'
          cases hx2 : hexN s (i + 6 + 2) 4 with
          | none =>
            have HE : Hid (escU s i u = none) := by show _ = _; unfold escU; rw [if_neg h1, if_neg h2, eU, hx2]; rfl
            rw [hx2] at HX2
            clear hx2 eU h1 h2
            go_enter Tryz.func248, Tryz.ntmps248
            go_wp2_with fail
            refine (unhide HX).mono ?_
            rintro e w1 ⟨k1, rfl, r1⟩
            have R1 := hide r1
            clear HX r1
            go_wp2_with fail
            refine (unhide HW _ (unhide R1)).mono ?_
            rintro e w2 ⟨rfl, r2, k2⟩
            have R2 := hide r2
            clear HW r2
            go_wp2_with fail
            refine (unhide HX2 _ (unhide R2)).mono ?_
            rintro e w3 ⟨k3, rfl⟩
            clear HX2
            exact ⟨rfl, (k1.trans k2).trans k3, by rw [unhide HE]; rfl⟩
          | some v =>
            have hv : v < 65536 := hexN_lt s (i + 6 + 2) 4 v hx2
            rw [hx2] at HX2
            by_cases h3 : 56320 ≤ v ∧ v < 57344
            · have HE : Hid (escU s i u = some (65536 + (u - 55296) * 1024 + (v - 56320), 12)) := by
                show _ = _; unfold escU; rw [if_neg h1, if_neg h2, eU, hx2]; simp only [Option.bind_some]; rw [if_pos h3]
              have v1 : (56320 : Int) ≤ (v : Int) := by omega
              have v2 : (v : Int) ≤ 57343 := by omega
              have v3 : ¬ (v : Int) < 56320 := by omega
              have v4 : ¬ (57343 : Int) < (v : Int) := by omega
              clear hx2 eU h1 h2 h3
              go_enter Tryz.func248, Tryz.ntmps248
              go_wp2_with fail
              refine (unhide HX).mono ?_
              rintro e w1 ⟨k1, rfl, r1⟩
              have R1 := hide r1
              clear HX r1
              go_wp2_with fail
              refine (unhide HW _ (unhide R1)).mono ?_
              rintro e w2 ⟨rfl, r2, k2⟩
              have R2 := hide r2
              clear HW r2
              go_wp2_with fail
              refine (unhide HX2 _ (unhide R2)).mono ?_
              rintro e w3 ⟨k3, rfl, r3⟩
              have R3 := hide r3
              clear HX2 r3
              obtain ⟨u1, u2⟩ := unhide U12
              go_wp2
              go_ret
              refine ⟨(k1.trans k2).trans k3, ?_⟩
              rw [unhide HE]
              exact ⟨ret_int (by omega), unhide R3⟩
            · have HE : Hid (escU s i u = none) := by
                show _ = _; unfold escU; rw [if_neg h1, if_neg h2, eU, hx2]; simp only [Option.bind_some]; rw [if_neg h3]
              rcases (show v < 56320 ∨ 57344 ≤ v from by omega) with h4 | h4
              · have v1 : (v : Int) ≤ 56319 := by omega
                clear hx2 eU h1 h2 h3 h4
                go_enter Tryz.func248, Tryz.ntmps248
                go_wp2_with fail
                refine (unhide HX).mono ?_
                rintro e w1 ⟨k1, rfl, r1⟩
                have R1 := hide r1
                clear HX r1
                go_wp2_with fail
                refine (unhide HW _ (unhide R1)).mono ?_
                rintro e w2 ⟨rfl, r2, k2⟩
                have R2 := hide r2
                clear HW r2
                go_wp2_with fail
                refine (unhide HX2 _ (unhide R2)).mono ?_
                rintro e w3 ⟨k3, rfl, r3⟩
                clear HX2 r3
                go_wp2
                exact ⟨rfl, (k1.trans k2).trans k3, by rw [unhide HE]; rfl⟩
              · have v1 : ¬ (v : Int) < 56320 := by omega
                have v2 : (57343 : Int) < (v : Int) := by omega
                clear hx2 eU h1 h2 h3
                go_enter Tryz.func248, Tryz.ntmps248
                go_wp2_with fail
                refine (unhide HX).mono ?_
                rintro e w1 ⟨k1, rfl, r1⟩
                have R1 := hide r1
                clear HX r1
                go_wp2_with fail
                refine (unhide HW _ (unhide R1)).mono ?_
                rintro e w2 ⟨rfl, r2, k2⟩
                have R2 := hide r2
                clear HW r2
                go_wp2_with fail
                refine (unhide HX2 _ (unhide R2)).mono ?_
                rintro e w3 ⟨k3, rfl, r3⟩
                clear HX2 r3
                go_wp2
                exact ⟨rfl, (k1.trans k2).trans k3, by rw [unhide HE]; rfl⟩
        · have HE : Hid (escU s i u = none) := by
            show _ = _; unfold escU; rw [if_neg h1, if_neg h2]; unfold unit; rw [if_neg hw]; rfl
          have HW : Hid (∀ w, Rdr rb s (i + 6) tb kt w → Calls Tryz.prog 179 #[.pointer (some ⟨rb, 0, none⟩), .string ⟨#[92, 117]⟩] w fun e w' => e = mis ∧ KB rb w w') :=
            fun w h => word_no rb s (i + 6) tb kt w h hs ⟨#[92, 117]⟩ (by decide) (fun k hk => by
              have : k < 2 := hk
              match k, this with
              | 0, _ => decide
              | 1, _ => decide) (by omega) (fun h => hw ((isWord_u s (i + 6)).1 h))
          clear h1 h2 hw
          go_enter Tryz.func248, Tryz.ntmps248
          go_wp2_with fail
          refine (unhide HX).mono ?_
          rintro e w1 ⟨k1, rfl, r1⟩
          have R1 := hide r1
          clear HX r1
          go_wp2_with fail
          refine (unhide HW _ (unhide R1)).mono ?_
          rintro e w2 ⟨rfl, k2⟩
          clear HW
          exact ⟨rfl, k1.trans k2, by rw [unhide HE]; rfl⟩
end Go.Proofs.YtcjajchfjoffnaaGreatDoor
