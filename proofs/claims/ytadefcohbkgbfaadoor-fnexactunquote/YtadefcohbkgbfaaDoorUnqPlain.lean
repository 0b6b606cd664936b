import Derived.Test.YtadefcohbkgbfaaDoorRdr
import Derived.Test.YtadefcohbkgbfaaDoorEncMulti
namespace Go.Proofs.YtadefcohbkgbfaaDoor
open Go.RowKit

/-- The value of a hexadecimal digit. -/
def hx (b : Nat) : Option Nat := if 48 ≤ b ∧ b ≤ 57 then some (b - 48) else if 97 ≤ b ∧ b ≤ 102 then some (b - 87) else if 65 ≤ b ∧ b ≤ 70 then some (b - 55) else none
theorem hx_lt {b v : Nat} (h : hx b = some v) : v < 16 := by
  unfold hx at h
  repeat' split at h
  all_goals first | (injection h with h; omega) | cases h
theorem hx_zero : hx 0 = none := rfl
/-- The number of k hexadecimal digits from place i on. -/
def hexN (s : ByteArray) (i : Nat) : Nat → Option Nat
  | 0 => some 0
  | k + 1 => (hexN s i k).bind fun v => (hx (bt s (i + k))).map fun h => v * 16 + h
theorem hexN_lt (s : ByteArray) (i : Nat) : ∀ (k v : Nat), hexN s i k = some v → v < 16 ^ k
  | 0, v, h => by injection h with h; omega
  | k + 1, v, h => by
    simp only [hexN, Option.bind_eq_some_iff, Option.map_eq_some_iff] at h
    obtain ⟨u, hu, y, hy, rfl⟩ := h
    have := hexN_lt s i k u hu
    have := hx_lt hy
    rw [Nat.pow_succ]; omega
theorem hexN_next {s : ByteArray} {i k v h : Nat} (hv : hexN s i k = some v) (hh : hx (bt s (i + k)) = some h) : hexN s i (k + 1) = some (v * 16 + h) := by simp [hexN, hv, hh]
theorem hexN_bad {s : ByteArray} {i k : Nat} (hh : hx (bt s (i + k)) = none) : hexN s i (k + 1) = none := by simp [hexN, hh]
theorem hexN_none {s : ByteArray} {i k m : Nat} (h : hexN s i k = none) (hm : k ≤ m) : hexN s i m = none := by
  induction m with
  | zero => have : k = 0 := by omega
            subst this; exact h
  | succ m ih =>
    rcases Nat.lt_or_ge m k with g | g
    · have : k = m + 1 := by omega
      subst this; exact h
    · simp [hexN, ih g]
theorem hexN_in {s : ByteArray} {i k v : Nat} (h : hexN s i (k + 1) = some v) : i + k < s.size := by
  refine bt_in fun e => ?_
  have := hexN_bad (s := s) (i := i) (k := k) (by rw [e]; rfl)
  rw [this] at h; cases h

/-- What an escape of one byte stands for. -/
def smp (b : Nat) : Option Nat := if b = 34 then some 34 else if b = 92 then some 92 else if b = 47 then some 47 else if b = 98 then some 8 else if b = 102 then some 12 else if b = 110 then some 10 else if b = 114 then some 13 else if b = 116 then some 9 else none
theorem smp_lt {b v : Nat} (h : smp b = some v) : v < 128 := by
  unfold smp at h
  repeat' split at h
  all_goals first | (injection h with h; omega) | cases h
/-- The number behind \u at place i. -/
def unit (s : ByteArray) (i : Nat) : Option Nat := if bt s i = 92 ∧ bt s (i + 1) = 117 then hexN s (i + 2) 4 else none
theorem unit_lt {s : ByteArray} {i u : Nat} (h : unit s i = some u) : u < 65536 := by
  unfold unit at h; split at h
  · exact hexN_lt s (i + 2) 4 u h
  · cases h
theorem unit_in {s : ByteArray} {i u : Nat} (h : unit s i = some u) : i + 6 ≤ s.size := by
  unfold unit at h; split at h
  · have := hexN_in h; omega
  · cases h
/-- The rune of an escape, its backslash at place i, and the escape's length. -/
def escU (s : ByteArray) (i u : Nat) : Option (Nat × Nat) :=
  if u < 55296 ∨ 57344 ≤ u then some (u, 6) else if 56320 ≤ u then none else
  (unit s (i + 6)).bind fun v => if 56320 ≤ v ∧ v < 57344 then some (65536 + (u - 55296) * 1024 + (v - 56320), 12) else none
def escP (s : ByteArray) (i : Nat) : Option (Nat × Nat) :=
  match smp (bt s (i + 1)) with
  | some v => some (v, 2)
  | none => (unit s i).bind (escU s i)
def piece (s : ByteArray) (i : Nat) : Option (Nat × Nat) :=
  if bt s i = 92 then escP s i else if bt s i < 32 then none else if bt s i < 128 then some (bt s i, 1)
  else if rl s i = 0 then none else some ((Utf8.decode s i).1, rl s i)

theorem escU_ok {s : ByteArray} {i u r n : Nat} (hu : u < 65536) (hi : i + 6 ≤ s.size) (h : escU s i u = some (r, n)) : i + n ≤ s.size ∧ 1 ≤ n ∧ r ≤ 1114111 ∧ (r < 55296 ∨ 57344 ≤ r) := by
  unfold escU at h
  split at h
  · injection h with h; injection h with h1 h2; omega
  · split at h
    · cases h
    · simp only [Option.bind_eq_some_iff] at h
      obtain ⟨v, hv, h⟩ := h
      have := unit_in hv
      split at h
      · injection h with h; injection h with h1 h2; omega
      · cases h
theorem bt_simple {s : ByteArray} {i v : Nat} (h : smp (bt s i) = some v) : i < s.size := bt_in fun e => by rw [e] at h; cases h
theorem escP_ok {s : ByteArray} {i r n : Nat} (h : escP s i = some (r, n)) : i + n ≤ s.size ∧ 1 ≤ n ∧ r ≤ 1114111 ∧ (r < 55296 ∨ 57344 ≤ r) := by
  unfold escP at h
  split at h
  · rename_i v hv
    injection h with h; injection h with h1 h2
    have := bt_simple hv
    have := smp_lt hv
    omega
  · simp only [Option.bind_eq_some_iff] at h
    obtain ⟨u, hu, h⟩ := h
    exact escU_ok (unit_lt hu) (unit_in hu) h

theorem utf_enc {r : Nat} (h : r ≤ 1114111) (h' : r < 55296 ∨ 57344 ≤ r) : utf r = Lib.encodeRune (r : Int) := by
  unfold utf utfZ Lib.encodeRune
  split
  · rw [Lib.encodeRuneZ_one (by omega) (by omega)]
    simp only [List.map_cons, List.map_nil, List.cons.injEq, and_true]
    exact (toU8 _ _ (by rw [UInt8.toNat_ofNat']; omega)).symm
  · split
    · rw [Lib.encodeRuneZ_two (by omega) (by omega)]
      simp only [List.map_cons, List.map_nil]
      rw [toU8 (UInt8.ofNat (192 + r / 64)) _ (by rw [UInt8.toNat_ofNat']; omega), toU8 (UInt8.ofNat (128 + r % 64)) _ (by rw [UInt8.toNat_ofNat']; omega)]
    · split
      · rw [Lib.encodeRuneZ_three (by omega)]
        simp only [List.map_cons, List.map_nil]
        rw [toU8 (UInt8.ofNat (224 + r / 4096)) _ (by rw [UInt8.toNat_ofNat']; omega), toU8 (UInt8.ofNat (128 + r / 64 % 64)) _ (by rw [UInt8.toNat_ofNat']; omega), toU8 (UInt8.ofNat (128 + r % 64)) _ (by rw [UInt8.toNat_ofNat']; omega)]
      · rw [Lib.encodeRuneZ_four (by omega) (by omega)]
        simp only [List.map_cons, List.map_nil]
        rw [toU8 (UInt8.ofNat (240 + r / 262144)) _ (by rw [UInt8.toNat_ofNat']; omega), toU8 (UInt8.ofNat (128 + r / 4096 % 64)) _ (by rw [UInt8.toNat_ofNat']; omega), toU8 (UInt8.ofNat (128 + r / 64 % 64)) _ (by rw [UInt8.toNat_ofNat']; omega), toU8 (UInt8.ofNat (128 + r % 64)) _ (by rw [UInt8.toNat_ofNat']; omega)]

/-- The bytes of a piece. -/
def enc (r : Nat) : List UInt8 := Lib.encodeRune (r : Int)
theorem enc_le (r : Nat) : (enc r).length ≤ 4 := by
  have := Lib.encodeRuneZ_length r; simp [enc, Lib.encodeRune]; omega

theorem decode_le (s : ByteArray) (i : Nat) : (Utf8.decode s i).1 ≤ 1114111 := by
  rw [dec]; exact Lib.decodeN_rune_le _ _ _ _ _ (bt_lt s i)
theorem piece_ok {s : ByteArray} {i r n : Nat} (h : piece s i = some (r, n)) : i + n ≤ s.size ∧ 1 ≤ n ∧ r ≤ 1114111 := by
  unfold piece at h
  split at h
  · have := escP_ok h; omega
  · split at h
    · cases h
    · have hi : i < s.size := bt_in (by omega)
      split at h
      · injection h with h; injection h with h1 h2; omega
      · split at h
        · cases h
        · injection h with h; injection h with h1 h2
          have := rl_le s i hi
          have := decode_le s i
          omega
theorem piece_out {s : ByteArray} {i : Nat} (h : s.size ≤ i) : piece s i = none := by
  unfold piece; rw [bt_out s i h]; rfl

/-- The rest of a string from place i on, behind its opening quote: its bytes, and the place behind it. -/
def strF (s : ByteArray) : Nat → Nat → Option (List UInt8 × Nat)
  | 0, _ => none
  | f + 1, i => if bt s i = 34 then some ([], i + 1) else (piece s i).bind fun p => (strF s f (i + p.2)).map fun q => (enc p.1 ++ q.1, q.2)
def strR (s : ByteArray) (i : Nat) : Option (List UInt8 × Nat) := strF s (s.size + 1 - i) i
theorem strF_past (s : ByteArray) (f i : Nat) (h : s.size ≤ i) : strF s f i = none := by
  cases f with
  | zero => rfl
  | succ f => simp [strF, bt_out s i h, piece_out h]
theorem strF_same (s : ByteArray) : ∀ (f g i : Nat), s.size ≤ i + f → s.size ≤ i + g → strF s f i = strF s g i
  | 0, g, i, h, _ => by rw [strF_past s g i (by omega)]; rfl
  | f + 1, 0, i, _, h => by rw [strF_past s (f + 1) i (by omega)]; rfl
  | f + 1, g + 1, i, hf, hg => by
    rw [strF, strF]
    split
    · rfl
    · cases hp : piece s i with
      | none => rfl
      | some p =>
        obtain ⟨r, n⟩ := p
        have := piece_ok hp
        simp only [Option.bind_some]
        rw [strF_same s f g (i + n) (by omega) (by omega)]
theorem strR_eq (s : ByteArray) (i : Nat) : strR s i = if bt s i = 34 then some ([], i + 1) else (piece s i).bind fun p => (strR s (i + p.2)).map fun q => (enc p.1 ++ q.1, q.2) := by
  unfold strR
  rw [strF_same s (s.size + 1 - i) (s.size + 1) i (by omega) (by omega), strF]
  split
  · rfl
  · cases hp : piece s i with
    | none => rfl
    | some p =>
      obtain ⟨r, n⟩ := p
      simp only [Option.bind_some]
      rw [strF_same s s.size (s.size + 1 - (i + n)) (i + n) (by omega) (by omega)]
theorem strR_end {s : ByteArray} {i : Nat} (h : bt s i = 34) : strR s i = some ([], i + 1) := by rw [strR_eq, if_pos h]
theorem strR_go {s : ByteArray} {i r n : Nat} (h : bt s i ≠ 34) (hp : piece s i = some (r, n)) : strR s i = (strR s (i + n)).map fun q => (enc r ++ q.1, q.2) := by rw [strR_eq, if_neg h, hp]; rfl
theorem strR_bad {s : ByteArray} {i : Nat} (h : bt s i ≠ 34) (hp : piece s i = none) : strR s i = none := by rw [strR_eq, if_neg h, hp]; rfl
theorem strR_out {s : ByteArray} {i : Nat} (h : s.size ≤ i) : strR s i = none := strR_bad (by rw [bt_out s i h]; decide) (piece_out h)

theorem escP_u {s : ByteArray} {i : Nat} (h0 : bt s i = 92) (h1 : bt s (i + 1) = 117) : escP s i = (hexN s (i + 2) 4).bind (escU s i) := by
  unfold escP unit
  rw [if_pos ⟨h0, h1⟩, h1]; rfl
theorem escP_s {s : ByteArray} {i b v : Nat} (h1 : bt s (i + 1) = b) (hv : smp b = some v) : escP s i = some (v, 2) := by
  unfold escP
  rw [h1, hv]
theorem escP_n {s : ByteArray} {i b : Nat} (h1 : bt s (i + 1) = b) (hv : smp b = none) (hu : b ≠ 117) : escP s i = none := by
  unfold escP unit
  rw [h1, hv, if_neg (fun h => hu h.2)]; rfl
/-- A string from its quote on. -/
def strQ (s : ByteArray) (i : Nat) : Option (List UInt8 × Nat) := if bt s i = 34 then strR s (i + 1) else none

/-- A reader's answer: the value and the place behind it, or the panic. -/
def Post (rb : Nat) (s : ByteArray) (tb kt : Bool) (w : World) (o : Option (Value × Nat)) (e : Ending) (w' : World) : Prop :=
  KB rb w w' ∧ o.elim (e = mis) fun p => e = .returned p.1 ∧ Rdr rb s p.2 tb kt w'
def rune (p : Nat × Nat) : Value × Nat := (.int .i32 (p.1 : Int), p.2)
end Go.Proofs.YtadefcohbkgbfaaDoor
