import Derived.Deep.LoopGhost
import Derived.Test.YtcffdclgddmigaaGreatDoorBn3
import Derived.Test.YtcffdclgddmigaaGreatDoorBn1
import Derived.Laws.DeepStrings4
import Derived.Lib.ParseIntBCases
import Derived.Lib.ItoaMem
namespace Go.Proofs.YtcffdclgddmigaaGreatDoor
open Go.RowKit

/-- The first place from i on that holds no blank. -/
def skF (s : ByteArray) : Nat → Nat → Nat
  | 0, i => i
  | f + 1, i => if bt s i = 32 ∨ bt s i = 9 ∨ bt s i = 10 ∨ bt s i = 13 then skF s f (i + 1) else i
def sk (s : ByteArray) (i : Nat) : Nat := skF s (s.size - i) i
theorem sk_on {s : ByteArray} {i : Nat} (h : bt s i = 32 ∨ bt s i = 9 ∨ bt s i = 10 ∨ bt s i = 13) : sk s i = sk s (i + 1) := by
  have hi : i < s.size := bt_in (by omega)
  unfold sk
  rw [show s.size - i = (s.size - (i + 1)) + 1 by omega, skF, if_pos h]
theorem sk_off {s : ByteArray} {i : Nat} (h : ¬ (bt s i = 32 ∨ bt s i = 9 ∨ bt s i = 10 ∨ bt s i = 13)) : sk s i = i := by
  unfold sk
  cases s.size - i with
  | zero => rfl
  | succ f => rw [skF, if_neg h]
theorem skF_le (s : ByteArray) : ∀ f i, i + f ≤ s.size → i ≤ skF s f i ∧ skF s f i ≤ i + f
  | 0, i, _ => ⟨Nat.le_refl _, Nat.le_refl _⟩
  | f + 1, i, h => by
    rw [skF]
    split
    · have := skF_le s f (i + 1) (by omega); omega
    · omega
theorem sk_le {s : ByteArray} {i : Nat} (h : i ≤ s.size) : i ≤ sk s i ∧ sk s i ≤ s.size := by
  have := skF_le s (s.size - i) i (by omega)
  unfold sk; omega
theorem sk_past {s : ByteArray} {i : Nat} (h : s.size ≤ i) : sk s i = i := by
  unfold sk; rw [show s.size - i = 0 by omega]; rfl
theorem sk_end (s : ByteArray) (i : Nat) : ¬ (bt s (sk s i) = 32 ∨ bt s (sk s i) = 9 ∨ bt s (sk s i) = 10 ∨ bt s (sk s i) = 13) := by
  generalize hn : s.size - i = n
  induction n generalizing i with
  | zero => rw [sk_past (by omega), bt_out s i (by omega)]; omega
  | succ n ih =>
    by_cases h : bt s i = 32 ∨ bt s i = 9 ∨ bt s i = 10 ∨ bt s i = 13
    · rw [sk_on h]; exact ih (i + 1) (by omega)
    · rw [sk_off h]; exact h

set_option maxHeartbeats 1600000 in
theorem skipBlanks_walk (rb : Nat) (s : ByteArray) (i : Nat) (tb kt : Bool) (w : World) (h : Rdr rb s i tb kt w) (hs : s.size ≤ 1048576) (hi : i ≤ s.size) :
    Calls Tryz.prog 99 #[.pointer (some ⟨rb, 0, none⟩)] w fun e w' => e = .returned (.tuple #[]) ∧ Rdr rb s (sk s i) tb kt w' ∧ KB rb w w' := by
  have R0 := hide h
  clear h
  go_enter Tryz.func99, Tryz.ntmps99
  go_wp2_with fail
  go_loopg [] (s.size - i) (fun g wr => ∃ j : Nat, g = s.size - j ∧ j ≤ s.size ∧ Rdr rb s j tb kt wr ∧ KB rb w wr ∧ sk s i = sk s j)
  case atStart => exact ⟨i, rfl, hi, unhide R0, KB.refl _ _, rfl⟩
  case round =>
    obtain ⟨j, hg, hj, hr, hk, hst⟩ := hrel
    have HR := hide hr
    have HST := hide hst
    clear hr hst R0
    have HY : Hid (∀ (c : Nat) wa, c ≠ 0 → bt s j = c → Rdr rb s j tb kt wa → Calls Tryz.prog 127 #[.pointer (some ⟨rb, 0, none⟩), .int .u8 c] wa fun e w' => e = .returned (.bool true) ∧ Rdr rb s (j + 1) tb kt w' ∧ KB rb wa w') := fun c wa h0 hc hr => skip_yes rb s j tb kt wa hr hs c hc (bt_in (by omega))
    have HN : Hid (∀ (c : Nat) wa, bt s j ≠ c → Rdr rb s j tb kt wa → Calls Tryz.prog 127 #[.pointer (some ⟨rb, 0, none⟩), .int .u8 c] wa fun e w' => e = .returned (.bool false) ∧ Rdr rb s j tb kt w' ∧ KB rb wa w') := fun c wa hc hr => skip_no rb s j tb kt wa hr hj c (.inl hc)
    by_cases c1 : bt s j = 32
    · have HX : Hid (sk s i = sk s (j + 1)) := by show _ = _; rw [unhide HST, sk_on (.inl c1)]
      have hlt : j < s.size := bt_in (by omega)
      go_wp2_with fail
      refine (unhide HY 32 _ (by decide) c1 (unhide HR)).mono ?_
      rintro e w2 ⟨rfl, r2, k2⟩
      have R2 := hide r2
      clear r2
      go_wp2
      go_roundg (s.size - (j + 1))
      case rel => exact ⟨j + 1, rfl, by omega, unhide R2, hk.trans k2, unhide HX⟩
      case measure => omega
    by_cases c2 : bt s j = 9
    · have HX : Hid (sk s i = sk s (j + 1)) := by show _ = _; rw [unhide HST, sk_on (.inr (.inl c2))]
      have hlt : j < s.size := bt_in (by omega)
      go_wp2_with fail
      refine (unhide HN 32 _ c1 (unhide HR)).mono ?_
      rintro e w2 ⟨rfl, r2, k2⟩
      have R2 := hide r2
      clear r2
      go_wp2_with fail
      refine (unhide HY 9 _ (by decide) c2 (unhide R2)).mono ?_
      rintro e w3 ⟨rfl, r3, k3⟩
      have R3 := hide r3
      clear r3
      go_wp2
      go_roundg (s.size - (j + 1))
      case rel => exact ⟨j + 1, rfl, by omega, unhide R3, (hk.trans k2).trans k3, unhide HX⟩
      case measure => omega
    by_cases c3 : bt s j = 10
    · have HX : Hid (sk s i = sk s (j + 1)) := by show _ = _; rw [unhide HST, sk_on (.inr (.inr (.inl c3)))]
      have hlt : j < s.size := bt_in (by omega)
      go_wp2_with fail
      refine (unhide HN 32 _ c1 (unhide HR)).mono ?_
      rintro e w2 ⟨rfl, r2, k2⟩
      have R2 := hide r2
      clear r2
      go_wp2_with fail
      refine (unhide HN 9 _ c2 (unhide R2)).mono ?_
      rintro e w3 ⟨rfl, r3, k3⟩
      have R3 := hide r3
      clear r3
      go_wp2_with fail
      refine (unhide HY 10 _ (by decide) c3 (unhide R3)).mono ?_
      rintro e w4 ⟨rfl, r4, k4⟩
      have R4 := hide r4
      clear r4
      go_wp2
      go_roundg (s.size - (j + 1))
      case rel => exact ⟨j + 1, rfl, by omega, unhide R4, ((hk.trans k2).trans k3).trans k4, unhide HX⟩
      case measure => omega
    go_wp2_with fail
    refine (unhide HN 32 _ c1 (unhide HR)).mono ?_
    rintro e w2 ⟨rfl, r2, k2⟩
    have R2 := hide r2
    clear r2
    go_wp2_with fail
    refine (unhide HN 9 _ c2 (unhide R2)).mono ?_
    rintro e w3 ⟨rfl, r3, k3⟩
    have R3 := hide r3
    clear r3
    go_wp2_with fail
    refine (unhide HN 10 _ c3 (unhide R3)).mono ?_
    rintro e w4 ⟨rfl, r4, k4⟩
    have R4 := hide r4
    clear r4
    by_cases c4 : bt s j = 13
    · have HX : Hid (sk s i = sk s (j + 1)) := by show _ = _; rw [unhide HST, sk_on (.inr (.inr (.inr c4)))]
      have hlt : j < s.size := bt_in (by omega)
      go_wp2_with fail
      refine (unhide HY 13 _ (by decide) c4 (unhide R4)).mono ?_
      rintro e w5 ⟨rfl, r5, k5⟩
      have R5 := hide r5
      clear r5
      go_wp2
      go_roundg (s.size - (j + 1))
      case rel => exact ⟨j + 1, rfl, by omega, unhide R5, (((hk.trans k2).trans k3).trans k4).trans k5, unhide HX⟩
      case measure => omega
    · have HX : Hid (sk s i = j) := by show _ = _; rw [unhide HST, sk_off (by omega)]
      go_wp2_with fail
      refine (unhide HN 13 _ c4 (unhide R4)).mono ?_
      rintro e w5 ⟨rfl, r5, k5⟩
      have R5 := hide r5
      clear r5
      go_wp2
      go_end0
      exact ⟨rfl, by rw [unhide HX]; exact unhide R5, (((hk.trans k2).trans k3).trans k4).trans k5⟩

set_option maxHeartbeats 800000 in
theorem peek_walk (rb : Nat) (s : ByteArray) (i : Nat) (tb kt : Bool) (w : World) (h : Rdr rb s i tb kt w) (hi : i ≤ s.size) :
    Calls Tryz.prog 128 #[.pointer (some ⟨rb, 0, none⟩)] w fun e w' => e = .returned (.int .u8 (bt s i)) ∧ Rdr rb s i tb kt w' ∧ KB rb w w' := by
  have c0 := h.text
  have c1 := h.at
  have H := hide h
  clear h
  by_cases hi' : i = s.size
  · have hne : ((i : Int) == (s.size : Int)) = true := by rw [beq_iff_eq]; omega
    have HB := hide (bt_out s i (by omega))
    go_enter Tryz.func128, Tryz.ntmps128
    go_wp2_with fail
    go_quiet (fail)
    go_wp2
    go_ret
    exact ⟨by rw [unhide HB]; rfl, (unhide H).drewN _, (KB.refl rb w).drewN _⟩
  · have h0 : i < s.size := by omega
    have hne : ((i : Int) == (s.size : Int)) = false := by rw [beq_eq_false_iff_ne]; omega
    have HB := hide (bt_at s i h0)
    go_enter Tryz.func128, Tryz.ntmps128
    go_wp2_with fail
    go_quiet (fail)
    go_wp2_with fail
    go_quiet (fail)
    go_wp2
    go_ret
    exact ⟨by rw [unhide HB]; rfl, ((unhide H).drewN _).drewN _, ((KB.refl rb w).drewN _).drewN _⟩
end Go.Proofs.YtcffdclgddmigaaGreatDoor

namespace Go.Proofs.YtcffdclgddmigaaGreatDoor
open Go.RowKit

mutual
/-- A value of JSON as it was read: numbers as their canonical texts, members in the text's order, a key twice where it came twice. -/
inductive JV where
  | nul | tt | ff
  | num (l : List UInt8)
  | str (l : List UInt8)
  | arr (l : JL)
  | obj (m : JM)
inductive JL where
  | nil
  | cons (v : JV) (r : JL)
inductive JM where
  | nil
  | cons (k : List UInt8) (v : JV) (r : JM)
end

def isDg (b : Nat) : Bool := decide (48 ≤ b) && decide (b ≤ 57)
theorem isDg_iff {b : Nat} : isDg b = true ↔ 48 ≤ b ∧ b ≤ 57 := by simp [isDg]
/-- The first place from i on that holds no digit. -/
def dgF (s : ByteArray) : Nat → Nat → Nat
  | 0, i => i
  | f + 1, i => if isDg (bt s i) = true then dgF s f (i + 1) else i
def dg (s : ByteArray) (i : Nat) : Nat := dgF s (s.size - i) i
theorem dg_on {s : ByteArray} {i : Nat} (h : isDg (bt s i) = true) : dg s i = dg s (i + 1) := by
  have hi : i < s.size := bt_in (by have := isDg_iff.1 h; omega)
  unfold dg
  rw [show s.size - i = (s.size - (i + 1)) + 1 by omega, dgF, if_pos h]
theorem dg_off {s : ByteArray} {i : Nat} (h : ¬ isDg (bt s i) = true) : dg s i = i := by
  unfold dg
  cases s.size - i with
  | zero => rfl
  | succ f => rw [dgF, if_neg h]
theorem dgF_le (s : ByteArray) : ∀ f i, i + f ≤ s.size → i ≤ dgF s f i ∧ dgF s f i ≤ i + f
  | 0, i, _ => ⟨Nat.le_refl _, Nat.le_refl _⟩
  | f + 1, i, h => by
    rw [dgF]
    split
    · have := dgF_le s f (i + 1) (by omega); omega
    · omega
theorem dg_le {s : ByteArray} {i : Nat} (h : i ≤ s.size) : i ≤ dg s i ∧ dg s i ≤ s.size := by
  have := dgF_le s (s.size - i) i (by omega)
  unfold dg; omega

/-- The bytes from i to j. -/
def cutB (s : ByteArray) (i j : Nat) : List UInt8 := (s.data.toList.drop i).take (j - i)
/-- Where a number's digits begin and end. -/
def nmD (s : ByteArray) (i : Nat) : Nat := if bt s i = 45 then i + 1 else i
def nmE (s : ByteArray) (i : Nat) : Nat := if bt s (nmD s i) = 48 then nmD s i + 1 else dg s (nmD s i)
def norm0 (l : List UInt8) : List UInt8 := if l = [45, 48] then [48] else l
def nm (s : ByteArray) (i : Nat) : Option (List UInt8 × Nat) := if isDg (bt s (nmD s i)) = true then some (norm0 (cutB s i (nmE s i)), nmE s i) else none
theorem nm_ok {s : ByteArray} {i j : Nat} {l : List UInt8} (h : nm s i = some (l, j)) : i < j ∧ j ≤ s.size := by
  unfold nm at h
  split at h
  · rename_i hd
    injection h with h; injection h with h1 h2
    subst h2
    have hlt : nmD s i < s.size := bt_in (by have := isDg_iff.1 hd; omega)
    have hge : i ≤ nmD s i := by unfold nmD; split <;> omega
    unfold nmE
    split
    · omega
    · rw [dg_on hd]
      have := dg_le (s := s) (i := nmD s i + 1) (by omega)
      omega
  · cases h
theorem strR_ok {s : ByteArray} : ∀ {i j : Nat} {l : List UInt8}, strR s i = some (l, j) → i < j ∧ j ≤ s.size := by
  intro i
  generalize hn : s.size - i = n
  induction n using Nat.strongRecOn generalizing i with
  | _ n ih =>
    intro j l h
    by_cases h34 : bt s i = 34
    · rw [strR_end h34] at h
      injection h with h; injection h with h1 h2
      have := bt_in (s := s) (i := i) (by omega)
      omega
    · cases hp : piece s i with
      | none => rw [strR_bad h34 hp] at h; cases h
      | some p =>
        obtain ⟨r, n'⟩ := p
        have hk := piece_ok hp
        rw [strR_go h34 hp] at h
        rcases hq : strR s (i + n') with _ | ⟨l2, j2⟩
        · rw [hq] at h; cases h
        · rw [hq] at h
          injection h with h; injection h with h1 h2
          have := ih (s.size - (i + n')) (by omega) rfl hq
          omega
theorem strQ_ok {s : ByteArray} {i j : Nat} {l : List UInt8} (h : strQ s i = some (l, j)) : i + 1 < j ∧ j ≤ s.size := by
  unfold strQ at h
  split at h
  · have := strR_ok h; omega
  · cases h

def wNull (s : ByteArray) (i : Nat) : Bool := bt s i == 110 && bt s (i + 1) == 117 && bt s (i + 2) == 108 && bt s (i + 3) == 108
def wTrue (s : ByteArray) (i : Nat) : Bool := bt s i == 116 && bt s (i + 1) == 114 && bt s (i + 2) == 117 && bt s (i + 3) == 101
def wFalse (s : ByteArray) (i : Nat) : Bool := bt s i == 102 && bt s (i + 1) == 97 && bt s (i + 2) == 108 && bt s (i + 3) == 115 && bt s (i + 4) == 101

mutual
/-- A value whose first byte stands at place i, and the place behind it. -/
def pv (s : ByteArray) : Nat → Nat → Option (JV × Nat)
  | 0, _ => none
  | f + 1, i =>
    if bt s i = 91 then (if bt s (sk s (i + 1)) = 93 then some (.arr .nil, sk s (i + 1) + 1) else (pa s f (sk s (i + 1))).map fun q => (.arr q.1, q.2))
    else if bt s i = 123 then (if bt s (sk s (i + 1)) = 125 then some (.obj .nil, sk s (i + 1) + 1) else (po s f (sk s (i + 1))).map fun q => (.obj q.1, q.2))
    else if bt s i = 34 then (strQ s i).map fun q => (.str q.1, q.2)
    else if wNull s i = true then some (.nul, i + 4)
    else if wTrue s i = true then some (.tt, i + 4)
    else if wFalse s i = true then some (.ff, i + 5)
    else (nm s i).map fun q => (.num q.1, q.2)
/-- The items from place i on, up to the bracket that closes. -/
def pa (s : ByteArray) : Nat → Nat → Option (JL × Nat)
  | 0, _ => none
  | f + 1, i => (pv s f i).bind fun q =>
    if bt s (sk s q.2) = 93 then some (.cons q.1 .nil, sk s q.2 + 1)
    else if bt s (sk s q.2) = 44 then (pa s f (sk s (sk s q.2 + 1))).map fun r => (.cons q.1 r.1, r.2)
    else none
/-- The members from place i on, up to the bracket that closes. -/
def po (s : ByteArray) : Nat → Nat → Option (JM × Nat)
  | 0, _ => none
  | f + 1, i => (strQ s i).bind fun k =>
    if bt s (sk s k.2) = 58 then (pv s f (sk s (sk s k.2 + 1))).bind fun q =>
      if bt s (sk s q.2) = 125 then some (.cons k.1 q.1 .nil, sk s q.2 + 1)
      else if bt s (sk s q.2) = 44 then (po s f (sk s (sk s q.2 + 1))).map fun r => (.cons k.1 q.1 r.1, r.2)
      else none
    else none
end
end Go.Proofs.YtcffdclgddmigaaGreatDoor

namespace Go.Proofs.YtcffdclgddmigaaGreatDoor
open Go.RowKit

theorem sk_ge (s : ByteArray) (i : Nat) : i ≤ sk s i := by
  rcases Nat.le_total i s.size with h | h
  · exact (sk_le h).1
  · rw [sk_past h]; exact Nat.le_refl _
theorem wNull_in {s : ByteArray} {i : Nat} (h : wNull s i = true) : i + 4 ≤ s.size := by
  simp [wNull] at h
  have := bt_in (s := s) (i := i + 3) (by omega); omega
theorem wTrue_in {s : ByteArray} {i : Nat} (h : wTrue s i = true) : i + 4 ≤ s.size := by
  simp [wTrue] at h
  have := bt_in (s := s) (i := i + 3) (by omega); omega
theorem wFalse_in {s : ByteArray} {i : Nat} (h : wFalse s i = true) : i + 5 ≤ s.size := by
  simp [wFalse] at h
  have := bt_in (s := s) (i := i + 4) (by omega); omega

theorem p_ok (s : ByteArray) : ∀ f i, (∀ v j, pv s f i = some (v, j) → i < j ∧ j ≤ s.size) ∧ (∀ l j, pa s f i = some (l, j) → i < j ∧ j ≤ s.size) ∧ (∀ m j, po s f i = some (m, j) → i < j ∧ j ≤ s.size)
  | 0, i => ⟨fun v j h => by simp [pv] at h, fun v j h => by simp [pa] at h, fun v j h => by simp [po] at h⟩
  | f + 1, i => by
    refine ⟨fun v j h => ?_, fun l j h => ?_, fun m j h => ?_⟩
    · rw [pv] at h
      have g := sk_ge s (i + 1)
      split at h
      · split at h
        · have := bt_in (s := s) (i := sk s (i + 1)) (by omega)
          injection h with h; injection h with _ h; omega
        · simp only [Option.map_eq_some_iff] at h
          obtain ⟨⟨l, k⟩, hk, h⟩ := h
          injection h with _ h
          have := (p_ok s f (sk s (i + 1))).2.1 l k hk
          simp only at h; omega
      · split at h
        · split at h
          · have := bt_in (s := s) (i := sk s (i + 1)) (by omega)
            injection h with h; injection h with _ h; omega
          · simp only [Option.map_eq_some_iff] at h
            obtain ⟨⟨l, k⟩, hk, h⟩ := h
            injection h with _ h
            have := (p_ok s f (sk s (i + 1))).2.2 l k hk
            simp only at h; omega
        · split at h
          · simp only [Option.map_eq_some_iff] at h
            obtain ⟨⟨l, k⟩, hk, h⟩ := h
            injection h with _ h
            have := strQ_ok hk
            simp only at h; omega
          · split at h
            · rename_i hw
              have := wNull_in hw
              injection h with h; injection h with _ h; omega
            · split at h
              · rename_i hw
                have := wTrue_in hw
                injection h with h; injection h with _ h; omega
              · split at h
                · rename_i hw
                  have := wFalse_in hw
                  injection h with h; injection h with _ h; omega
                · simp only [Option.map_eq_some_iff] at h
                  obtain ⟨⟨l, k⟩, hk, h⟩ := h
                  injection h with _ h
                  have := nm_ok hk
                  simp only at h; omega
    · rw [pa] at h
      simp only [Option.bind_eq_some_iff] at h
      obtain ⟨⟨v, k⟩, hk, h⟩ := h
      have h1 := (p_ok s f i).1 v k hk
      have g1 := sk_ge s k
      simp only at h
      split at h
      · have := bt_in (s := s) (i := sk s k) (by omega)
        injection h with h; injection h with _ h; omega
      · split at h
        · simp only [Option.map_eq_some_iff] at h
          obtain ⟨⟨l, n⟩, hn, h⟩ := h
          injection h with _ h
          have := (p_ok s f _).2.1 l n hn
          have g2 := sk_ge s (sk s k + 1)
          simp only at h; omega
        · cases h
    · rw [po] at h
      simp only [Option.bind_eq_some_iff] at h
      obtain ⟨⟨key, a⟩, ha, h⟩ := h
      have h0 := strQ_ok ha
      simp only at h
      split at h
      · simp only [Option.bind_eq_some_iff] at h
        obtain ⟨⟨v, k⟩, hk, h⟩ := h
        have h1 := (p_ok s f _).1 v k hk
        have g0 := sk_ge s a
        have g3 := sk_ge s (sk s a + 1)
        have g1 := sk_ge s k
        simp only at h
        split at h
        · have := bt_in (s := s) (i := sk s k) (by omega)
          injection h with h; injection h with _ h; omega
        · split at h
          · simp only [Option.map_eq_some_iff] at h
            obtain ⟨⟨l, n⟩, hn, h⟩ := h
            injection h with _ h
            have := (p_ok s f _).2.2 l n hn
            have g2 := sk_ge s (sk s k + 1)
            simp only at h; omega
          · cases h
      · cases h

theorem p_same (s : ByteArray) : ∀ f g i, (2 * (s.size - i) + 1 ≤ f → 2 * (s.size - i) + 1 ≤ g → pv s f i = pv s g i) ∧ (2 * (s.size - i) + 2 ≤ f → 2 * (s.size - i) + 2 ≤ g → pa s f i = pa s g i ∧ po s f i = po s g i)
  | 0, g, i => ⟨fun h _ => by omega, fun h _ => by omega⟩
  | f + 1, 0, i => ⟨fun _ h => by omega, fun _ h => by omega⟩
  | f + 1, g + 1, i => by
    refine ⟨fun hf hg => ?_, fun hf hg => ⟨?_, ?_⟩⟩
    · rw [pv, pv]
      have g0 := sk_ge s (i + 1)
      by_cases c1 : bt s i = 91
      · have hi := bt_in (s := s) (i := i) (by omega)
        rw [if_pos c1, if_pos c1, ((p_same s f g (sk s (i + 1))).2 (by omega) (by omega)).1]
      · rw [if_neg c1, if_neg c1]
        by_cases c2 : bt s i = 123
        · have hi := bt_in (s := s) (i := i) (by omega)
          rw [if_pos c2, if_pos c2, ((p_same s f g (sk s (i + 1))).2 (by omega) (by omega)).2]
        · rw [if_neg c2, if_neg c2]
    · rw [pa, pa, (p_same s f g i).1 (by omega) (by omega)]
      cases hk : pv s g i with
      | none => rfl
      | some q =>
        obtain ⟨v, k⟩ := q
        have h1 := (p_ok s g i).1 v k hk
        have g1 := sk_ge s k
        have g2 := sk_ge s (sk s k + 1)
        simp only [Option.bind_some]
        rw [((p_same s f g (sk s (sk s k + 1))).2 (by omega) (by omega)).1]
    · rw [po, po]
      cases ha : strQ s i with
      | none => rfl
      | some q =>
        obtain ⟨key, a⟩ := q
        have h0 := strQ_ok ha
        have ga := sk_ge s a
        have gb := sk_ge s (sk s a + 1)
        simp only [Option.bind_some]
        rw [(p_same s f g (sk s (sk s a + 1))).1 (by omega) (by omega)]
        cases hk : pv s g (sk s (sk s a + 1)) with
        | none => rfl
        | some q =>
          obtain ⟨v, k⟩ := q
          have h1 := (p_ok s g _).1 v k hk
          have g1 := sk_ge s k
          have g2 := sk_ge s (sk s k + 1)
          simp only [Option.bind_some]
          rw [((p_same s f g (sk s (sk s k + 1))).2 (by omega) (by omega)).2]

def val (s : ByteArray) (i : Nat) : Option (JV × Nat) := pv s (2 * (s.size - i) + 1) i
def elems (s : ByteArray) (i : Nat) : Option (JL × Nat) := pa s (2 * (s.size - i) + 2) i
def mems (s : ByteArray) (i : Nat) : Option (JM × Nat) := po s (2 * (s.size - i) + 2) i
theorem val_ok {s : ByteArray} {i j : Nat} {v : JV} (h : val s i = some (v, j)) : i < j ∧ j ≤ s.size := (p_ok s _ i).1 v j h
theorem elems_ok {s : ByteArray} {i j : Nat} {v : JL} (h : elems s i = some (v, j)) : i < j ∧ j ≤ s.size := (p_ok s _ i).2.1 v j h
theorem mems_ok {s : ByteArray} {i j : Nat} {v : JM} (h : mems s i = some (v, j)) : i < j ∧ j ≤ s.size := (p_ok s _ i).2.2 v j h

theorem val_arr {s : ByteArray} {i : Nat} (h : bt s i = 91) : val s i = if bt s (sk s (i + 1)) = 93 then some (.arr .nil, sk s (i + 1) + 1) else (elems s (sk s (i + 1))).map fun q => (.arr q.1, q.2) := by
  have hi := bt_in (s := s) (i := i) (by omega)
  have g := sk_ge s (i + 1)
  unfold val elems
  rw [pv, if_pos h, ((p_same s (2 * (s.size - i)) (2 * (s.size - sk s (i + 1)) + 2) (sk s (i + 1))).2 (by omega) (by omega)).1]
theorem val_obj {s : ByteArray} {i : Nat} (h : bt s i = 123) : val s i = if bt s (sk s (i + 1)) = 125 then some (.obj .nil, sk s (i + 1) + 1) else (mems s (sk s (i + 1))).map fun q => (.obj q.1, q.2) := by
  have hi := bt_in (s := s) (i := i) (by omega)
  have g := sk_ge s (i + 1)
  unfold val mems
  rw [pv, if_neg (by omega), if_pos h, ((p_same s (2 * (s.size - i)) (2 * (s.size - sk s (i + 1)) + 2) (sk s (i + 1))).2 (by omega) (by omega)).2]
theorem val_str {s : ByteArray} {i : Nat} (h : bt s i = 34) : val s i = (strQ s i).map fun q => (.str q.1, q.2) := by
  unfold val
  rw [pv, if_neg (by omega), if_neg (by omega), if_pos h]
theorem val_else {s : ByteArray} {i : Nat} (h1 : bt s i ≠ 91) (h2 : bt s i ≠ 123) (h3 : bt s i ≠ 34) : val s i =
    if wNull s i = true then some (.nul, i + 4) else if wTrue s i = true then some (.tt, i + 4) else if wFalse s i = true then some (.ff, i + 5) else (nm s i).map fun q => (.num q.1, q.2) := by
  unfold val
  rw [pv, if_neg h1, if_neg h2, if_neg h3]
theorem elems_eq (s : ByteArray) (i : Nat) : elems s i = (val s i).bind fun q =>
    if bt s (sk s q.2) = 93 then some (.cons q.1 .nil, sk s q.2 + 1)
    else if bt s (sk s q.2) = 44 then (elems s (sk s (sk s q.2 + 1))).map fun r => (.cons q.1 r.1, r.2)
    else none := by
  have e : elems s i = pa s (2 * (s.size - i) + 1 + 1) i := rfl
  rw [e, pa]
  show (val s i).bind _ = _
  cases hk : val s i with
  | none => rfl
  | some q =>
    obtain ⟨v, k⟩ := q
    have h1 := val_ok hk
    have g1 := sk_ge s k
    have g2 := sk_ge s (sk s k + 1)
    simp only [Option.bind_some]
    rw [show elems s (sk s (sk s k + 1)) = pa s (2 * (s.size - i) + 1) (sk s (sk s k + 1)) from ((p_same s _ _ _).2 (by omega) (by omega)).1]
theorem mems_eq (s : ByteArray) (i : Nat) : mems s i = (strQ s i).bind fun k =>
    if bt s (sk s k.2) = 58 then (val s (sk s (sk s k.2 + 1))).bind fun q =>
      if bt s (sk s q.2) = 125 then some (.cons k.1 q.1 .nil, sk s q.2 + 1)
      else if bt s (sk s q.2) = 44 then (mems s (sk s (sk s q.2 + 1))).map fun r => (.cons k.1 q.1 r.1, r.2)
      else none
    else none := by
  have e : mems s i = po s (2 * (s.size - i) + 1 + 1) i := rfl
  rw [e, po]
  cases ha : strQ s i with
  | none => rfl
  | some q =>
    obtain ⟨key, a⟩ := q
    have h0 := strQ_ok ha
    have ga := sk_ge s a
    have gb := sk_ge s (sk s a + 1)
    simp only [Option.bind_some]
    rw [show pv s (2 * (s.size - i) + 1) (sk s (sk s a + 1)) = val s (sk s (sk s a + 1)) from (p_same s _ _ _).1 (by omega) (by omega)]
    cases hk : val s (sk s (sk s a + 1)) with
    | none => rfl
    | some q =>
      obtain ⟨v, k⟩ := q
      have h1 := val_ok hk
      have g1 := sk_ge s k
      have g2 := sk_ge s (sk s k + 1)
      simp only [Option.bind_some]
      rw [show mems s (sk s (sk s k + 1)) = po s (2 * (s.size - i) + 1) (sk s (sk s k + 1)) from ((p_same s _ _ _).2 (by omega) (by omega)).2]
end Go.Proofs.YtcffdclgddmigaaGreatDoor

namespace Go.Proofs.YtcffdclgddmigaaGreatDoor
open Go.RowKit

/-- A part put among those before it, from the end on. -/
def insR (p : List UInt8 × List UInt8) : List (List UInt8 × List UInt8) → List (List UInt8 × List UInt8)
  | [] => [p]
  | q :: r => if p.1 < q.1 then q :: insR p r else p :: q :: r
/-- Parts in order. -/
def isort (l : List (List UInt8 × List UInt8)) : List (List UInt8 × List UInt8) := (l.foldl (fun acc p => insR p acc) []).reverse
/-- The text of a part, and of an object of parts. -/
def memT (p : List UInt8 × List UInt8) : List UInt8 := quoted p.1 ++ 58 :: p.2
def joinT : List (List UInt8) → List UInt8
  | [] => []
  | t :: r => 44 :: (t ++ joinT r)
def joinC : List (List UInt8) → List UInt8
  | [] => []
  | t :: r => t ++ joinT r
def mkO (l : List (List UInt8 × List UInt8)) : List UInt8 := 123 :: (joinC (l.map memT) ++ [125])
def mkA (l : List (List UInt8)) : List UInt8 := 91 :: (joinC l ++ [93])
theorem joinT_app (a b : List (List UInt8)) : joinT (a ++ b) = joinT a ++ joinT b := by
  induction a with
  | nil => rfl
  | cons t r ih => simp [joinT, ih]
theorem joinC_snoc (a : List (List UInt8)) (t : List UInt8) : joinC (a ++ [t]) = joinC a ++ (if a = [] then t else 44 :: t) := by
  cases a with
  | nil => simp [joinC, joinT]
  | cons x r => simp [joinC, joinT_app, joinT]

/-- Whether a number's text is out of range. -/
def lim0 : List UInt8 := [57, 50, 50, 51, 51, 55, 50, 48, 51, 54, 56, 53, 52, 55, 55, 53, 56, 48, 55]
def lim1 : List UInt8 := [57, 50, 50, 51, 51, 55, 50, 48, 51, 54, 56, 53, 52, 55, 55, 53, 56, 48, 56]
def over (d lim : List UInt8) : Bool := if d.length ≠ 19 then decide (19 < d.length) else (!Op.bytesLess d lim && !(d == lim))
def tooBig : List UInt8 → Bool
  | [] => false
  | c :: r => if c = 45 then over r lim1 else over (c :: r) lim0

mutual
/-- The canonical text. -/
def ct : JV → List UInt8
  | .nul => [110, 117, 108, 108]
  | .tt => [116, 114, 117, 101]
  | .ff => [102, 97, 108, 115, 101]
  | .num l => l
  | .str l => quoted l
  | .arr l => mkA (ctL l)
  | .obj m => mkO (isort (ctM m))
def ctL : JL → List (List UInt8)
  | .nil => []
  | .cons v r => ct v :: ctL r
def ctM : JM → List (List UInt8 × List UInt8)
  | .nil => []
  | .cons k v r => (k, ct v) :: ctM r
end
mutual
/-- Whether a number is out of range. -/
def bigV : JV → Bool
  | .nul => false
  | .tt => false
  | .ff => false
  | .num l => tooBig l
  | .str _ => false
  | .arr l => bigL l
  | .obj m => bigM m
def bigL : JL → Bool
  | .nil => false
  | .cons v r => bigV v || bigL r
def bigM : JM → Bool
  | .nil => false
  | .cons _ v r => bigV v || bigM r
end
mutual
/-- Whether a key comes twice. -/
def twV : JV → Bool
  | .nul => false
  | .tt => false
  | .ff => false
  | .num _ => false
  | .str _ => false
  | .arr l => twL l
  | .obj m => twM [] m
def twL : JL → Bool
  | .nil => false
  | .cons v r => twV v || twL r
/-- .. among members, behind the keys that came before. -/
def twM : List (List UInt8) → JM → Bool
  | _, .nil => false
  | ks, .cons k v r => (twV v || ks.contains k) || twM (ks ++ [k]) r
end
mutual
def depV : JV → Nat
  | .nul => 1
  | .tt => 1
  | .ff => 1
  | .num _ => 1
  | .str _ => 1
  | .arr l => depL l + 1
  | .obj m => depM m + 1
def depL : JL → Nat
  | .nil => 0
  | .cons v r => max (depV v) (depL r)
def depM : JM → Nat
  | .nil => 0
  | .cons _ v r => max (depV v) (depM r)
end
mutual
def cntV : JV → Nat
  | .nul => 1
  | .tt => 1
  | .ff => 1
  | .num _ => 1
  | .str _ => 1
  | .arr l => cntL l + 1
  | .obj m => cntM m + 1
def cntL : JL → Nat
  | .nil => 0
  | .cons v r => cntV v + cntL r
def cntM : JM → Nat
  | .nil => 0
  | .cons _ v r => cntV v + cntM r
end
/-- Lists of items, one more at the end. -/
def JL.app : JL → JL → JL
  | .nil, b => b
  | .cons v r, b => .cons v (r.app b)
def JM.app : JM → JM → JM
  | .nil, b => b
  | .cons k v r, b => .cons k v (r.app b)
theorem JL.app_assoc : ∀ a b c : JL, (a.app b).app c = a.app (b.app c)
  | .nil, _, _ => rfl
  | .cons v r, b, c => by simp [JL.app, JL.app_assoc r b c]
theorem JM.app_assoc : ∀ a b c : JM, (a.app b).app c = a.app (b.app c)
  | .nil, _, _ => rfl
  | .cons k v r, b, c => by simp [JM.app, JM.app_assoc r b c]
theorem JL.app_nil : ∀ a : JL, a.app .nil = a
  | .nil => rfl
  | .cons v r => by simp [JL.app, JL.app_nil r]
theorem JM.app_nil : ∀ a : JM, a.app .nil = a
  | .nil => rfl
  | .cons k v r => by simp [JM.app, JM.app_nil r]
theorem ctL_app : ∀ a b : JL, ctL (a.app b) = ctL a ++ ctL b
  | .nil, b => by simp [JL.app, ctL]
  | .cons v r, b => by simp [JL.app, ctL, ctL_app r b]
theorem ctM_app : ∀ a b : JM, ctM (a.app b) = ctM a ++ ctM b
  | .nil, b => by simp [JM.app, ctM]
  | .cons k v r, b => by simp [JM.app, ctM, ctM_app r b]
theorem bigL_app : ∀ a b : JL, bigL (a.app b) = (bigL a || bigL b)
  | .nil, b => by simp [JL.app, bigL]
  | .cons v r, b => by simp [JL.app, bigL, bigL_app r b, Bool.or_assoc]
theorem bigM_app : ∀ a b : JM, bigM (a.app b) = (bigM a || bigM b)
  | .nil, b => by simp [JM.app, bigM]
  | .cons k v r, b => by simp [JM.app, bigM, bigM_app r b, Bool.or_assoc]
theorem twL_app : ∀ a b : JL, twL (a.app b) = (twL a || twL b)
  | .nil, b => by simp [JL.app, twL]
  | .cons v r, b => by simp [JL.app, twL, twL_app r b, Bool.or_assoc]
def keysM : JM → List (List UInt8)
  | .nil => []
  | .cons k _ r => k :: keysM r
theorem keysM_app : ∀ a b : JM, keysM (a.app b) = keysM a ++ keysM b
  | .nil, b => by simp [JM.app, keysM]
  | .cons k v r, b => by simp [JM.app, keysM, keysM_app r b]
theorem twM_app : ∀ (ks : List (List UInt8)) (a b : JM), twM ks (a.app b) = (twM ks a || twM (ks ++ keysM a) b)
  | ks, .nil, b => by simp [JM.app, twM, keysM]
  | ks, .cons k v r, b => by simp [JM.app, twM, keysM, twM_app (ks ++ [k]) r b, Bool.or_assoc]
theorem ctM_keys : ∀ a : JM, (ctM a).map (·.1) = keysM a
  | .nil => rfl
  | .cons k v r => by simp [ctM, keysM, ctM_keys r]
end Go.Proofs.YtcffdclgddmigaaGreatDoor

namespace Go.Proofs.YtcffdclgddmigaaGreatDoor
open Go.RowKit

theorem insR_perm (p : List UInt8 × List UInt8) : ∀ l, (insR p l).Perm (p :: l)
  | [] => List.Perm.refl _
  | q :: r => by
    unfold insR
    split
    · exact ((insR_perm p r).cons q).trans (List.Perm.swap p q r)
    · exact List.Perm.refl _
theorem fold_perm : ∀ (l acc : List (List UInt8 × List UInt8)), (l.foldl (fun acc p => insR p acc) acc).Perm (l ++ acc)
  | [], acc => List.Perm.refl _
  | p :: l, acc => by
    rw [List.foldl_cons]
    exact (fold_perm l _).trans (((insR_perm p acc).append_left l).trans (List.perm_middle))
theorem isort_perm (l : List (List UInt8 × List UInt8)) : (isort l).Perm l := by
  unfold isort
  have := fold_perm l []
  rw [List.append_nil] at this
  exact (List.reverse_perm _).trans this
theorem insR_down (p : List UInt8 × List UInt8) : ∀ l, l.Pairwise (fun a b => b.1 ≤ a.1) → (insR p l).Pairwise (fun a b => b.1 ≤ a.1)
  | [], _ => by simp [insR]
  | q :: r, h => by
    rw [List.pairwise_cons] at h
    unfold insR
    split
    · rename_i hlt
      rw [List.pairwise_cons]
      refine ⟨fun a ha => ?_, insR_down p r h.2⟩
      rcases List.mem_cons.1 ((insR_perm p r).subset ha) with rfl | ha
      · exact List.le_of_lt hlt
      · exact h.1 a ha
    · rename_i hlt
      have hqp : q.1 ≤ p.1 := List.not_lt.1 hlt
      rw [List.pairwise_cons, List.pairwise_cons]
      refine ⟨fun a ha => ?_, h⟩
      rcases List.mem_cons.1 ha with rfl | ha
      · exact hqp
      · exact List.le_trans (h.1 a ha) hqp
theorem fold_down : ∀ (l acc : List (List UInt8 × List UInt8)), acc.Pairwise (fun a b => b.1 ≤ a.1) → (l.foldl (fun acc p => insR p acc) acc).Pairwise (fun a b => b.1 ≤ a.1)
  | [], acc, h => h
  | p :: l, acc, h => by rw [List.foldl_cons]; exact fold_down l _ (insR_down p acc h)
theorem isort_up (l : List (List UInt8 × List UInt8)) : (isort l).Pairwise (fun a b => a.1 ≤ b.1) := by
  unfold isort
  rw [List.pairwise_reverse]
  exact fold_down l [] List.Pairwise.nil
/-- The keys in order. -/
theorem isort_keys {l : List (List UInt8 × List UInt8)} {ss : List (List UInt8)} (h : ss.Perm (l.map (·.1))) : ss.mergeSort (fun x y => decide (x ≤ y)) = (isort l).map (·.1) := by
  have tr : ∀ a b c : List UInt8, decide (a ≤ b) = true → decide (b ≤ c) = true → decide (a ≤ c) = true := fun a b c h1 h2 => by simp only [decide_eq_true_eq] at *; exact List.le_trans h1 h2
  have to : ∀ a b : List UInt8, (decide (a ≤ b) || decide (b ≤ a)) = true := fun a b => by simp only [Bool.or_eq_true, decide_eq_true_eq]; exact List.le_total a b
  refine List.Perm.eq_of_pairwise (le := fun a b => decide (a ≤ b) = true) (fun a b _ _ h1 h2 => ?_) (List.pairwise_mergeSort tr to ss) ?_ (((List.mergeSort_perm _ _).trans h).trans ((isort_perm l).map _).symm)
  · simp only [decide_eq_true_eq] at h1 h2
    exact List.le_antisymm h1 h2
  · rw [List.pairwise_map]
    exact (isort_up l).imp fun h => by simpa using h

def JM.toL : JM → List (List UInt8 × JV)
  | .nil => []
  | .cons k v r => (k, v) :: r.toL
theorem ctM_map : ∀ m : JM, ctM m = m.toL.map fun p => (p.1, ct p.2)
  | .nil => rfl
  | .cons k v r => by rw [ctM, JM.toL, List.map_cons, ctM_map r]
theorem keysM_map : ∀ m : JM, keysM m = m.toL.map (·.1)
  | .nil => rfl
  | .cons k v r => by rw [keysM, JM.toL, List.map_cons, keysM_map r]
theorem twM_nodup : ∀ (m : JM) (ks : List (List UInt8)), twM ks m = false → (keysM m).Nodup ∧ ∀ k ∈ keysM m, k ∉ ks
  | .nil, ks, _ => ⟨List.nodup_nil, fun k hk => by simp [keysM] at hk⟩
  | .cons k v r, ks, h => by
    rw [twM] at h
    simp only [Bool.or_eq_false_iff] at h
    obtain ⟨⟨_, h1⟩, h2⟩ := h
    obtain ⟨i1, i2⟩ := twM_nodup r (ks ++ [k]) h2
    rw [keysM, List.nodup_cons]
    refine ⟨⟨fun hk => i2 k hk (by simp), i1⟩, fun a ha => ?_⟩
    rcases List.mem_cons.1 ha with rfl | ha
    · intro hc; rw [List.contains_eq_mem, decide_eq_false_iff_not] at h1; exact h1 hc
    · intro hc; exact i2 a ha (List.mem_append_left _ hc)
end Go.Proofs.YtcffdclgddmigaaGreatDoor

namespace Go.Proofs.YtcffdclgddmigaaGreatDoor
open Go.RowKit

set_option maxHeartbeats 800000 in
theorem l1Skip_walk (s : ByteArray) (i : Nat) (w : World) (hs : s.size ≤ 1048576) :
    Calls Tryz.prog 57 #[.string s, .int .i64 i] w fun e w' => e = .returned (.int .i64 (sk s i)) ∧ w = w' := by
  go_enter Tryz.func57, Tryz.ntmps57
  go_wp2
  go_loopw [1] (fun k wr => w = wr ∧ ∃ j : Nat, k = .int .i64 (j : Int) ∧ sk s i = sk s j) (fun k _ => s.size - (intOf k).toNat)
  case atStart => exact ⟨rfl, i, rfl, rfl⟩
  case round =>
    obtain ⟨rfl, j, rfl, hst⟩ := hrel
    have HST := hide hst
    clear hst
    by_cases hin : j < s.size
    · have hinI : (j : Int) < (s.size : Int) := by omega
      have e0 := bt_at s j hin
      by_cases c : bt s j = 32 ∨ bt s j = 9 ∨ bt s j = 10 ∨ bt s j = 13
      · have HX : Hid (sk s i = sk s (j + 1)) := by show _ = _; rw [unhide HST, sk_on c]
        rw [e0] at c
        clear e0
        rcases c with c | c | c | c
        · have t1 : (s[j].toNat : Int) = 32 := by omega
          clear c
          go_wp2
          go_roundw
          case rel => exact ⟨trivial, j + 1, by go_num, unhide HX⟩
          case measure => simp [intOf]; omega
        · have t1 : (s[j].toNat : Int) = 9 := by omega
          clear c
          go_wp2
          go_roundw
          case rel => exact ⟨trivial, j + 1, by go_num, unhide HX⟩
          case measure => simp [intOf]; omega
        · have t1 : (s[j].toNat : Int) = 10 := by omega
          clear c
          go_wp2
          go_roundw
          case rel => exact ⟨trivial, j + 1, by go_num, unhide HX⟩
          case measure => simp [intOf]; omega
        · have t1 : (s[j].toNat : Int) = 13 := by omega
          clear c
          go_wp2
          go_roundw
          case rel => exact ⟨trivial, j + 1, by go_num, unhide HX⟩
          case measure => simp [intOf]; omega
      · have HX : Hid (sk s i = j) := by show _ = _; rw [unhide HST, sk_off c]
        have t1 : ((s[j].toNat : Int) == 32) = false := by rw [beq_eq_false_iff_ne]; omega
        have t2 : ((s[j].toNat : Int) == 9) = false := by rw [beq_eq_false_iff_ne]; omega
        have t3 : ((s[j].toNat : Int) == 10) = false := by rw [beq_eq_false_iff_ne]; omega
        have t4 : ((s[j].toNat : Int) == 13) = false := by rw [beq_eq_false_iff_ne]; omega
        clear c e0
        go_wp2
        go_ret
        exact ⟨by rw [unhide HX]; rfl, rfl⟩
    · have hinI : ¬ (j : Int) < (s.size : Int) := by omega
      have d1 : decide ((j : Int) < (s.size : Int)) = false := by simp; omega
      have HX : Hid (sk s i = j) := by show _ = _; rw [unhide HST, sk_past (by omega)]
      go_wp2
      go_ret
      exact ⟨by rw [unhide HX]; rfl, rfl⟩

set_option maxHeartbeats 800000 in
theorem l1Word_walk (s t : ByteArray) (i : Nat) (w : World) (hs : s.size ≤ 1048576) (ht : t.size ≤ 10) (hi : i ≤ s.size + 1) :
    Calls Tryz.prog 92 #[.string s, .int .i64 i, .string t] w fun e w' => e = .returned (.bool (decide (i + t.size ≤ s.size) && (s.extract i (i + t.size)).toList == t.toList)) ∧ w = w' := by
  by_cases hin : i + t.size ≤ s.size
  · have h1 : (i : Int) + (t.size : Int) ≤ (s.size : Int) := by omega
    have h2 : (i : Int) ≤ (i : Int) + (t.size : Int) := by omega
    have h3 : (0 : Int) ≤ (i : Int) := by omega
    have hd : decide (i + t.size ≤ s.size) = true := by simp; omega
    rw [hd, Bool.true_and]
    clear hd
    go_enter Tryz.func92, Tryz.ntmps92
    go_wp2
    go_ret
    exact ⟨rfl, rfl⟩
  · have h1 : ¬ (i : Int) + (t.size : Int) ≤ (s.size : Int) := by omega
    have hd : decide (i + t.size ≤ s.size) = false := by simp; omega
    rw [hd, Bool.false_and]
    clear hd
    go_enter Tryz.func92, Tryz.ntmps92
    go_wp2
    go_ret
    exact ⟨rfl, rfl⟩
end Go.Proofs.YtcffdclgddmigaaGreatDoor

namespace Go.Proofs.YtcffdclgddmigaaGreatDoor
open Go.RowKit

theorem ex_toList (s : ByteArray) (i j : Nat) : (s.extract i j).toList = cutB s i j := by
  rw [ByteArray.toList_eq, Lib.extract_data]; rfl
theorem strOf_cut (s : ByteArray) (i j : Nat) : s.extract i j = strOf (cutB s i j) := by
  have h : (s.extract i j).data.toList = cutB s i j := by rw [Lib.extract_data]; rfl
  rw [← h]
  cases s.extract i j; simp [strOf]
theorem cut_tail (c : UInt8) (r : List UInt8) : cutB (strOf (c :: r)) 1 (r.length + 1) = r := by
  unfold cutB; rw [strOf_toList]; simp

set_option maxHeartbeats 800000 in
theorem tooBig_walk (l : List UInt8) (w : World) (h0 : l ≠ []) (hl : l.length ≤ 1048576) :
    Calls Tryz.prog 126 #[.string (strOf l)] w fun e w' => e = .returned (.bool (tooBig l)) ∧ w = w' := by
  obtain ⟨c, r, rfl⟩ : ∃ c r, l = c :: r := by cases l with | nil => exact absurd rfl h0 | cons c r => exact ⟨c, r, rfl⟩
  have hz : (strOf (c :: r)).size = r.length + 1 := by rw [strOf_size]; rfl
  have hpos : 0 < (strOf (c :: r)).size := by omega
  have hc : (strOf (c :: r))[0].toNat = c.toNat := rfl
  by_cases h45 : c = 45
  · subst h45
    have HT : Hid (tooBig (45 :: r) = over r lim1) := by show _ = _; rw [tooBig, if_pos rfl]
    have HE : Hid (((strOf (45 :: r)).extract 1 (r.length + 1)).toList = r) := by show _ = _; rw [ex_toList, cut_tail]
    have t1 : ((strOf (45 :: r))[0].toNat : Int) = 45 := by rw [hc]; rfl
    by_cases h19 : r.length = 19
    · have t2 : ((r.length : Int) != 19) = false := by rw [bne_eq_false_iff_eq]; omega
      have HT2 : Hid (tooBig (45 :: r) = (!Op.bytesLess r lim1 && !(r == lim1))) := by show _ = _; rw [unhide HT]; unfold over; rw [if_neg (by omega)]
      clear h19 hc h0
      go_enter Tryz.func126, Tryz.ntmps126
      go_wp2
      go_ret
      refine ⟨?_, rfl⟩
      rw [unhide HE, unhide HT2]; rfl
    · have t2 : ((r.length : Int) != 19) = true := by rw [bne_iff_ne]; omega
      have HT2 : Hid (tooBig (45 :: r) = decide (19 < (r.length : Int))) := by
        show _ = _; rw [unhide HT]; unfold over; rw [if_pos h19]; simp; omega
      clear h19 hc h0
      go_enter Tryz.func126, Tryz.ntmps126
      go_wp2
      go_ret
      refine ⟨?_, rfl⟩
      rw [unhide HT2]; rfl
  · have HT : Hid (tooBig (c :: r) = over (c :: r) lim0) := by show _ = _; rw [tooBig, if_neg h45]
    have HE : Hid ((strOf (c :: r)).toList = c :: r) := by show _ = _; rw [ByteArray.toList_eq, strOf_toList]
    have t1 : (((strOf (c :: r))[0].toNat : Int) == 45) = false := by
      rw [beq_eq_false_iff_ne, hc]
      intro e
      exact h45 (UInt8.toNat_inj.1 (by show c.toNat = 45; omega))
    by_cases h19 : r.length = 18
    · have t2 : ((r.length + 1 : Int) != 19) = false := by rw [bne_eq_false_iff_eq]; omega
      have HT2 : Hid (tooBig (c :: r) = (!Op.bytesLess (c :: r) lim0 && !((c :: r) == lim0))) := by show _ = _; rw [unhide HT]; unfold over; rw [if_neg (by simp; omega)]
      clear h19 hc h0
      go_enter Tryz.func126, Tryz.ntmps126
      go_wp2
      go_ret
      refine ⟨?_, rfl⟩
      rw [unhide HE, unhide HT2]; rfl
    · have t2 : ((r.length + 1 : Int) != 19) = true := by rw [bne_iff_ne]; omega
      have HT2 : Hid (tooBig (c :: r) = decide (19 < (r.length + 1 : Int))) := by
        show _ = _; rw [unhide HT]; unfold over; rw [if_pos (by simp; omega)]; simp; omega
      clear h19 hc h0
      go_enter Tryz.func126, Tryz.ntmps126
      go_wp2
      go_ret
      refine ⟨?_, rfl⟩
      rw [unhide HT2]; rfl
end Go.Proofs.YtcffdclgddmigaaGreatDoor

namespace Go.Proofs.YtcffdclgddmigaaGreatDoor
open Go.RowKit

theorem strR_len {s : ByteArray} : ∀ {i j : Nat} {l : List UInt8}, strR s i = some (l, j) → l.length + 4 * (i + 1) ≤ 4 * j := by
  intro i
  generalize hn : s.size - i = n
  induction n using Nat.strongRecOn generalizing i with
  | _ n ih =>
    intro j l h
    by_cases h34 : bt s i = 34
    · rw [strR_end h34] at h
      injection h with h; injection h with h1 h2
      subst h1; simp; omega
    · cases hp : piece s i with
      | none => rw [strR_bad h34 hp] at h; cases h
      | some p =>
        obtain ⟨r, n'⟩ := p
        have hk := piece_ok hp
        have he := enc_le r
        rw [strR_go h34 hp] at h
        rcases hq : strR s (i + n') with _ | ⟨l2, j2⟩
        · rw [hq] at h; cases h
        · rw [hq] at h
          injection h with h; injection h with h1 h2
          have := ih (s.size - (i + n')) (by omega) rfl hq
          subst h1
          simp only [List.length_append]
          simp only at h2
          omega
theorem strQ_len {s : ByteArray} {i j : Nat} {l : List UInt8} (h : strQ s i = some (l, j)) : l.length + 4 * (i + 2) ≤ 4 * j := by
  unfold strQ at h
  split at h
  · have := strR_len h; omega
  · cases h
theorem quoted_len (l : List UInt8) : (quoted l).length ≤ 6 * l.length + 2 := by
  have := qs_le l
  unfold quoted; simp only [List.length_cons, List.length_append, List.length_nil]; omega
theorem nm_len {s : ByteArray} {i j : Nat} {l : List UInt8} (h : nm s i = some (l, j)) : l.length + i ≤ j := by
  have hk := nm_ok h
  unfold nm at h
  split at h
  · injection h with h; injection h with h1 h2
    subst h1; subst h2
    unfold norm0 cutB
    split
    · simp; omega
    · rw [List.length_take, List.length_drop, data_len]; omega
  · cases h

def sumT (l : List (List UInt8 × List UInt8)) : Nat := (l.map fun p => (memT p).length + 1).sum
theorem sumT_ins (p : List UInt8 × List UInt8) : ∀ l, sumT (insR p l) = (memT p).length + 1 + sumT l
  | [] => by simp [insR, sumT]
  | q :: r => by
    have := sumT_ins p r
    unfold insR
    split
    · simp [sumT] at *; omega
    · simp [sumT]
theorem sumT_fold : ∀ (l acc : List (List UInt8 × List UInt8)), sumT (l.foldl (fun acc p => insR p acc) acc) = sumT l + sumT acc
  | [], acc => by simp [sumT]
  | p :: l, acc => by
    rw [List.foldl_cons, sumT_fold l, sumT_ins]
    simp [sumT]; omega
theorem sumT_rev (l : List (List UInt8 × List UInt8)) : sumT l.reverse = sumT l := by
  unfold sumT; rw [List.map_reverse, List.sum_reverse]
theorem sumT_isort (l : List (List UInt8 × List UInt8)) : sumT (isort l) = sumT l := by
  unfold isort; rw [sumT_rev, sumT_fold]; simp [sumT]
theorem joinT_len : ∀ l : List (List UInt8), (joinT l).length = (l.map fun t => t.length + 1).sum
  | [] => rfl
  | t :: r => by simp [joinT, joinT_len r]; omega
theorem joinC_len (l : List (List UInt8)) : (joinC l).length ≤ (l.map fun t => t.length + 1).sum := by
  cases l with
  | nil => simp [joinC]
  | cons t r => simp [joinC, joinT_len]
theorem mkO_len (l : List (List UInt8 × List UInt8)) : (mkO (isort l)).length ≤ sumT l + 2 := by
  have h := joinC_len ((isort l).map memT)
  rw [List.map_map] at h
  have e : ((isort l).map ((fun t => t.length + 1) ∘ memT)).sum = sumT l := by rw [← sumT_isort l]; rfl
  rw [e] at h
  unfold mkO
  simp only [List.length_cons, List.length_append, List.length_nil]; omega

theorem p_len (s : ByteArray) : ∀ f i, (∀ v j, pv s f i = some (v, j) → (ct v).length ≤ 30 * (j - i)) ∧ (∀ l j, pa s f i = some (l, j) → ((ctL l).map fun t => t.length + 1).sum + 2 ≤ 30 * (j - i)) ∧ (∀ m j, po s f i = some (m, j) → sumT (ctM m) + 2 ≤ 30 * (j - i))
  | 0, i => ⟨fun v j h => by simp [pv] at h, fun v j h => by simp [pa] at h, fun v j h => by simp [po] at h⟩
  | f + 1, i => by
    refine ⟨fun v j h => ?_, fun l j h => ?_, fun m j h => ?_⟩
    · have hok := (p_ok s (f + 1) i).1 v j h
      rw [pv] at h
      have g := sk_ge s (i + 1)
      split at h
      · split at h
        · injection h with h; injection h with h0 h
          subst h0
          simp [ct, ctL, mkA, joinC]; omega
        · simp only [Option.map_eq_some_iff] at h
          obtain ⟨⟨l, k⟩, hk, h⟩ := h
          injection h with h0 h
          have h1 := (p_len s f (sk s (i + 1))).2.1 l k hk
          have h2 := (p_ok s f (sk s (i + 1))).2.1 l k hk
          have h3 := joinC_len (ctL l)
          subst h0
          simp only [ct, mkA, List.length_cons, List.length_append, List.length_nil]
          simp only at h; omega
      · split at h
        · split at h
          · injection h with h; injection h with h0 h
            subst h0
            simp [ct, ctM, mkO, isort, joinC]; omega
          · simp only [Option.map_eq_some_iff] at h
            obtain ⟨⟨l, k⟩, hk, h⟩ := h
            injection h with h0 h
            have h1 := (p_len s f (sk s (i + 1))).2.2 l k hk
            have h2 := (p_ok s f (sk s (i + 1))).2.2 l k hk
            have h3 := mkO_len (ctM l)
            subst h0
            simp only [ct]
            simp only at h; omega
        · split at h
          · simp only [Option.map_eq_some_iff] at h
            obtain ⟨⟨l, k⟩, hk, h⟩ := h
            injection h with h0 h
            have h1 := strQ_len hk
            have h2 := quoted_len l
            subst h0
            simp only [ct]
            simp only at h; omega
          · split at h
            · injection h with h; injection h with h0 h
              subst h0; simp [ct]; omega
            · split at h
              · injection h with h; injection h with h0 h
                subst h0; simp [ct]; omega
              · split at h
                · injection h with h; injection h with h0 h
                  subst h0; simp [ct]; omega
                · simp only [Option.map_eq_some_iff] at h
                  obtain ⟨⟨l, k⟩, hk, h⟩ := h
                  injection h with h0 h
                  have h1 := nm_len hk
                  subst h0
                  simp only [ct]
                  simp only at h; omega
    · rw [pa] at h
      simp only [Option.bind_eq_some_iff] at h
      obtain ⟨⟨v, k⟩, hk, h⟩ := h
      have h1 := (p_ok s f i).1 v k hk
      have h1' := (p_len s f i).1 v k hk
      have g1 := sk_ge s k
      simp only at h
      split at h
      · injection h with h; injection h with h0 h
        subst h0
        simp [ctL]; omega
      · split at h
        · simp only [Option.map_eq_some_iff] at h
          obtain ⟨⟨l, n⟩, hn, h⟩ := h
          injection h with h0 h
          have h2 := (p_ok s f _).2.1 l n hn
          have h2' := (p_len s f _).2.1 l n hn
          have g2 := sk_ge s (sk s k + 1)
          subst h0
          simp only [ctL, List.map_cons, List.sum_cons]
          simp only at h; omega
        · cases h
    · rw [po] at h
      simp only [Option.bind_eq_some_iff] at h
      obtain ⟨⟨key, a⟩, ha, h⟩ := h
      have h0 := strQ_ok ha
      have h0' := strQ_len ha
      have hq := quoted_len key
      simp only at h
      split at h
      · simp only [Option.bind_eq_some_iff] at h
        obtain ⟨⟨v, k⟩, hk, h⟩ := h
        have h1 := (p_ok s f _).1 v k hk
        have h1' := (p_len s f _).1 v k hk
        have g0 := sk_ge s a
        have g3 := sk_ge s (sk s a + 1)
        have g1 := sk_ge s k
        simp only at h
        split at h
        · injection h with h; injection h with h0 h
          subst h0
          simp [ctM, sumT, memT]; omega
        · split at h
          · simp only [Option.map_eq_some_iff] at h
            obtain ⟨⟨l, n⟩, hn, h⟩ := h
            injection h with h0 h
            have h2 := (p_ok s f _).2.2 l n hn
            have h2' := (p_len s f _).2.2 l n hn
            have g2 := sk_ge s (sk s k + 1)
            subst h0
            have e : sumT (ctM (.cons key v l)) = (memT (key, ct v)).length + 1 + sumT (ctM l) := by simp [ctM, sumT]
            have e2 : (memT (key, ct v)).length = (quoted key).length + 1 + (ct v).length := by simp [memT]; omega
            simp only at h ⊢
            omega
          · cases h
      · cases h
theorem val_len {s : ByteArray} {i j : Nat} {v : JV} (h : val s i = some (v, j)) : (ct v).length ≤ 30 * (j - i) := (p_len s _ i).1 v j h
end Go.Proofs.YtcffdclgddmigaaGreatDoor

namespace Go.Proofs.YtcffdclgddmigaaGreatDoor
open Go.RowKit Go.Lib

def dV (c : UInt8) : Nat := c.toNat - 48
/-- What digits spell, behind a number. -/
def foldV (a : Nat) (d : List UInt8) : Nat := d.foldl (fun a c => a * 10 + dV c) a
def Dg (d : List UInt8) : Prop := ∀ c ∈ d, 48 ≤ c.toNat ∧ c.toNat ≤ 57
/-- Digits without a zero ahead. -/
def Num (d : List UInt8) : Prop := Dg d ∧ d ≠ [] ∧ (d = [48] ∨ ∀ c r, d = c :: r → 49 ≤ c.toNat)
theorem Dg.tail {c : UInt8} {d : List UInt8} (h : Dg (c :: d)) : Dg d := fun x hx => h x (List.mem_cons_of_mem _ hx)
theorem Dg.head {c : UInt8} {d : List UInt8} (h : Dg (c :: d)) : 48 ≤ c.toNat ∧ c.toNat ≤ 57 := h c List.mem_cons_self
theorem foldV_cons (a : Nat) (c : UInt8) (d : List UInt8) : foldV a (c :: d) = foldV (a * 10 + dV c) d := by unfold foldV; rw [List.foldl_cons]
theorem foldV_snoc (a : Nat) (d : List UInt8) (c : UInt8) : foldV a (d ++ [c]) = foldV a d * 10 + dV c := by unfold foldV; rw [List.foldl_append]; rfl
theorem foldV_ge (d : List UInt8) : ∀ a, a ≤ foldV a d := by
  induction d with
  | nil => intro a; exact Nat.le_refl _
  | cons c d ih => intro a; rw [foldV_cons]; have := ih (a * 10 + dV c); omega
theorem foldV_lin (d : List UInt8) : ∀ a, foldV a d = a * 10 ^ d.length + foldV 0 d := by
  induction d with
  | nil => intro a; simp [foldV]
  | cons c d ih =>
    intro a
    rw [foldV_cons, foldV_cons, ih (a * 10 + dV c), ih (0 * 10 + dV c), List.length_cons, Nat.pow_succ]
    rw [Nat.add_mul, Nat.zero_mul, Nat.zero_add, Nat.mul_assoc, Nat.mul_comm 10, Nat.add_assoc]
theorem foldV_lt (d : List UInt8) (h : Dg d) : foldV 0 d < 10 ^ d.length := by
  induction d with
  | nil => simp [foldV]
  | cons c d ih =>
    rw [foldV_cons, foldV_lin, List.length_cons, Nat.pow_succ]
    have h1 := ih h.tail
    have h2 := h.head
    have h3 : dV c ≤ 9 := by unfold dV; omega
    have h4 : (0 * 10 + dV c) * 10 ^ d.length ≤ 9 * 10 ^ d.length := Nat.mul_le_mul_right _ (by omega)
    omega
theorem foldV_low {c : UInt8} {d : List UInt8} (hc : 49 ≤ c.toNat) : 10 ^ d.length ≤ foldV 0 (c :: d) := by
  rw [foldV_cons, foldV_lin]
  have : 1 * 10 ^ d.length ≤ (0 * 10 + dV c) * 10 ^ d.length := Nat.mul_le_mul_right _ (by unfold dV; omega)
  omega

theorem parse_fold (d : List UInt8) (h : Dg d) : ∀ a, a ≤ 18446744073709551615 → parseUintM 18446744073709551615 a d = if foldV a d ≤ 18446744073709551615 then .ok (foldV a d) else .range := by
  induction d with
  | nil => intro a ha; rw [parseUintM]; rw [if_pos (by exact ha)]; rfl
  | cons c d ih =>
    intro a ha
    rw [parseUintM, if_pos h.head, foldV_cons]
    have hg := foldV_ge d (a * 10 + dV c)
    have e : a * 10 + (c.toNat - 48) = a * 10 + dV c := rfl
    by_cases h1 : 1844674407370955162 ≤ a
    · rw [if_pos h1, if_neg (by omega)]
    · rw [if_neg h1, e]
      by_cases h2 : 18446744073709551615 < a * 10 + dV c
      · rw [if_pos h2, if_neg (by omega)]
      · rw [if_neg h2]
        exact ih h.tail _ (by omega)

theorem less_fold : ∀ (a b : List UInt8), Dg a → Dg b → a.length = b.length → (Op.bytesLess a b = decide (foldV 0 a < foldV 0 b)) ∧ ((a == b) = decide (foldV 0 a = foldV 0 b))
  | [], [], _, _, _ => by simp [Op.bytesLess, foldV]
  | [], _ :: _, _, _, h => by simp at h
  | _ :: _, [], _, _, h => by simp at h
  | c :: a, x :: b, ha, hb, h => by
    have hl : a.length = b.length := by simpa using h
    obtain ⟨i1, i2⟩ := less_fold a b ha.tail hb.tail hl
    have a1 := foldV_lt a ha.tail
    have b1 := foldV_lt b hb.tail
    have hc := ha.head
    have hx := hb.head
    rw [foldV_cons, foldV_cons, foldV_lin a, foldV_lin b, hl]
    rw [hl] at a1
    have ec : 0 * 10 + dV c = dV c := by omega
    have ex : 0 * 10 + dV x = dV x := by omega
    rw [ec, ex]
    generalize foldV 0 a = A at *
    generalize foldV 0 b = B at *
    generalize 10 ^ b.length = P at *
    have hcx : c < x ↔ dV c < dV x := by rw [UInt8.lt_iff_toNat_lt]; unfold dV; omega
    have hce : c = x ↔ dV c = dV x := by rw [← UInt8.toNat_inj]; unfold dV; omega
    rw [Op.bytesLess]
    by_cases g1 : dV c < dV x
    · have : (dV c + 1) * P ≤ dV x * P := Nat.mul_le_mul_right _ g1
      rw [Nat.add_mul, Nat.one_mul] at this
      refine ⟨?_, ?_⟩
      · rw [decide_eq_true (hcx.2 g1), Bool.true_or, decide_eq_true (by omega)]
      · rw [decide_eq_false (by omega), beq_eq_false_iff_ne]
        intro e; injection e with e1 e2; have := hce.1 e1; omega
    · by_cases g2 : dV c = dV x
      · have hcq : (c == x) = true := by rw [beq_iff_eq]; exact hce.2 g2
        rw [decide_eq_false (fun hh => g1 (hcx.1 hh)), Bool.false_or, hcq, Bool.true_and, i1, g2]
        refine ⟨?_, ?_⟩
        · apply decide_eq_decide.2; omega
        · rw [hce.2 g2]
          rw [show ((x :: a) == (x :: b)) = (a == b) from by simp, i2]
          apply decide_eq_decide.2; omega
      · have : (dV x + 1) * P ≤ dV c * P := Nat.mul_le_mul_right _ (by omega)
        rw [Nat.add_mul, Nat.one_mul] at this
        have hcq : (c == x) = false := by rw [beq_eq_false_iff_ne]; exact fun e => g2 (hce.1 e)
        refine ⟨?_, ?_⟩
        · rw [decide_eq_false (fun hh => g1 (hcx.1 hh)), Bool.false_or, hcq, Bool.false_and, decide_eq_false (by omega)]
        · rw [decide_eq_false (by omega), beq_eq_false_iff_ne]
          intro e; injection e with e1 e2; exact g2 (hce.1 e1)

theorem Num.bounds {d : List UInt8} (h : Num d) : (d.length ≤ 18 → foldV 0 d < 1000000000000000000) ∧ (20 ≤ d.length → 10000000000000000000 ≤ foldV 0 d) := by
  obtain ⟨h1, h2, h3⟩ := h
  refine ⟨fun hl => ?_, fun hl => ?_⟩
  · have := foldV_lt d h1
    have h4 : 10 ^ d.length ≤ 10 ^ 18 := Nat.pow_le_pow_right (by decide) hl
    have h5 : (10 : Nat) ^ 18 = 1000000000000000000 := by decide
    omega
  · rcases h3 with rfl | h3
    · simp at hl
    · cases d with
      | nil => simp at hl
      | cons c r =>
        have := foldV_low (d := r) (h3 c r rfl)
        have h4 : 10 ^ 19 ≤ 10 ^ r.length := Nat.pow_le_pow_right (by decide) (by simp at hl; omega)
        have h5 : (10 : Nat) ^ 19 = 10000000000000000000 := by decide
        omega
theorem over_lim {d lim : List UInt8} {m : Nat} (h : Num d) (hl : Dg lim) (h19 : lim.length = 19) (hm : foldV 0 lim = m) (h1 : 1000000000000000000 ≤ m) (h2 : m < 10000000000000000000) : over d lim = decide (m < foldV 0 d) := by
  unfold over
  have hb := h.bounds
  by_cases hd : d.length = 19
  · rw [if_neg (by omega)]
    obtain ⟨i1, i2⟩ := less_fold d lim h.1 hl (by omega)
    rw [i1, i2, hm]
    by_cases g : m < foldV 0 d
    · rw [decide_eq_true g, decide_eq_false (by omega), decide_eq_false (by omega)]; rfl
    · rw [decide_eq_false g]
      by_cases g2 : foldV 0 d = m
      · rw [decide_eq_true g2]; simp
      · rw [decide_eq_true (show foldV 0 d < m by omega)]; rfl
  · rw [if_pos hd]
    apply decide_eq_decide.2
    constructor
    · intro g; have := hb.2 (by omega); omega
    · intro g
      rcases Nat.lt_or_ge d.length 19 with g2 | g2
      · have := hb.1 (by omega); omega
      · omega
theorem over_0 {d : List UInt8} (h : Num d) : over d lim0 = decide (9223372036854775807 < foldV 0 d) := over_lim h (by unfold Dg lim0; decide) rfl (by decide) (by decide) (by decide)
theorem over_1 {d : List UInt8} (h : Num d) : over d lim1 = decide (9223372036854775808 < foldV 0 d) := over_lim h (by unfold Dg lim1; decide) rfl (by decide) (by decide) (by decide)

theorem u8_dig {c : UInt8} (h : 48 ≤ c.toNat ∧ c.toNat ≤ 57) : UInt8.ofNat (48 + dV c) = c := by
  apply UInt8.toNat_inj.1
  rw [UInt8.toNat_ofNat']; unfold dV; omega
theorem dec_fold (n : Nat) : ∀ d : List UInt8, d.length = n → Num d → decDigits (foldV 0 d) = d := by
  induction n with
  | zero => intro d hn h; exact absurd (List.eq_nil_of_length_eq_zero hn) h.2.1
  | succ n ih =>
    intro d hn h
    obtain ⟨h1, h2, h3⟩ := h
    rcases List.eq_nil_or_concat d with e | ⟨d', c, e⟩
    · exact absurd e h2
    · rw [List.concat_eq_append] at e
      subst e
      have hc : 48 ≤ c.toNat ∧ c.toNat ≤ 57 := h1 c (by simp)
      have hv : dV c ≤ 9 := by unfold dV; omega
      rw [foldV_snoc]
      cases d' with
      | nil =>
        show decDigits (0 * 10 + dV c) = [c]
        rw [decDigits_one (by omega), show 48 + (0 * 10 + dV c) = 48 + dV c by omega, u8_dig hc]
      | cons x r =>
        have hx : 49 ≤ x.toNat := by
          rcases h3 with h3 | h3
          · simp at h3
          · exact h3 x (r ++ [c]) rfl
        have hlow := foldV_low (d := r) hx
        have hp : 0 < 10 ^ r.length := Nat.pow_pos (by decide)
        have hN : Num (x :: r) := ⟨fun y hy => h1 y (by simp at hy ⊢; rcases hy with hy | hy <;> simp [hy]), by simp, .inr (fun a b e => by injection e with e1 e2; subst e1; exact hx)⟩
        have := ih (x :: r) (by simp at hn ⊢; omega) hN
        rw [decDigits, dif_neg (by omega), show (foldV 0 (x :: r) * 10 + dV c) / 10 = foldV 0 (x :: r) by omega, show (foldV 0 (x :: r) * 10 + dV c) % 10 = dV c by omega, this, u8_dig hc]
end Go.Proofs.YtcffdclgddmigaaGreatDoor

namespace Go.Proofs.YtcffdclgddmigaaGreatDoor
open Go.RowKit Go.Lib

theorem cutB_cons {s : ByteArray} {i j : Nat} (hi : i < s.size) (hj : i < j) : cutB s i j = s[i] :: cutB s (i + 1) j := by
  unfold cutB
  rw [drop_at s i hi, show j - i = (j - (i + 1)) + 1 by omega, List.take_succ_cons]
theorem cutB_nil (s : ByteArray) (i : Nat) : cutB s i i = [] := by unfold cutB; simp
theorem cut_dg (s : ByteArray) : ∀ n i, s.size - i ≤ n → Dg (cutB s i (dg s i))
  | n, i, hn => by
    by_cases h : isDg (bt s i) = true
    · have hi : i < s.size := bt_in (by have := isDg_iff.1 h; omega)
      cases n with
      | zero => omega
      | succ n =>
        have h2 := dg_le (s := s) (i := i + 1) (by omega)
        rw [dg_on h, cutB_cons hi (by omega)]
        intro c hc
        rcases List.mem_cons.1 hc with rfl | hc
        · rw [bt_at s i hi] at h; exact isDg_iff.1 h
        · exact cut_dg s n (i + 1) (by omega) c hc
    · rw [dg_off h, cutB_nil]; intro c hc; cases hc
/-- The digits of a number. -/
theorem nm_digits {s : ByteArray} {i j : Nat} {l : List UInt8} (h : nm s i = some (l, j)) : j = nmE s i ∧ Num (cutB s (nmD s i) j) ∧ cutB s i j = (if bt s i = 45 then 45 :: cutB s (nmD s i) j else cutB s (nmD s i) j) ∧ l = norm0 (cutB s i j) := by
  have hk := nm_ok h
  unfold nm at h
  split at h
  · rename_i hd
    injection h with h; injection h with h1 h2
    have hdI := isDg_iff.1 hd
    have hlt : nmD s i < s.size := bt_in (by omega)
    have hbt := bt_at s (nmD s i) hlt
    subst h2
    refine ⟨rfl, ?_, ?_, h1.symm⟩
    · unfold nmE
      split
      · rename_i h48
        rw [cutB_cons hlt (by omega), cutB_nil]
        have e : s[nmD s i] = 48 := UInt8.toNat_inj.1 (by show _ = 48; omega)
        rw [e]
        exact ⟨by unfold Dg; decide, by simp, .inl rfl⟩
      · rename_i h48
        have h3 := dg_le (s := s) (i := nmD s i + 1) (by omega)
        refine ⟨cut_dg s _ _ (Nat.le_refl _), ?_, .inr ?_⟩
        · rw [dg_on hd, cutB_cons hlt (by omega)]; simp
        · intro c r e
          rw [dg_on hd, cutB_cons hlt (by omega)] at e
          injection e with e1 e2
          subst e1; omega
    · by_cases h45 : bt s i = 45
      · have hi : i < s.size := bt_in (by omega)
        have e : s[i] = 45 := UInt8.toNat_inj.1 (by show _ = 45; rw [← bt_at s i hi]; exact h45)
        have hD : nmD s i = i + 1 := by unfold nmD; rw [if_pos h45]
        rw [if_pos h45, cutB_cons hi (by omega), e, hD]
      · have hD : nmD s i = i := by unfold nmD; rw [if_neg h45]
        rw [if_neg h45, hD]
  · cases h
theorem norm0_num {d : List UInt8} (h : Num d) : norm0 d = d := by
  unfold norm0
  rw [if_neg]
  intro e
  have := h.1 45 (by rw [e]; simp)
  exact absurd this.1 (by decide)
theorem parse_num {d : List UInt8} (h : Num d) : parseUintB 64 d = if foldV 0 d ≤ 18446744073709551615 then .ok (foldV 0 d) else .range := by
  unfold parseUintB
  rw [if_neg h.2.1]
  exact parse_fold d h.1 0 (by decide)
theorem nm_parse {s : ByteArray} {i j : Nat} {l : List UInt8} (h : nm s i = some (l, j)) :
    (tooBig l = false → ∃ z : Int, parseIntB 64 (cutB s i j) = .ok z ∧ itoa z = l ∧ -9223372036854775808 ≤ z ∧ z ≤ 9223372036854775807) ∧ (tooBig l = true → parseIntB 64 (cutB s i j) = .range) := by
  obtain ⟨_, hN, hc, hl⟩ := nm_digits h
  generalize cutB s (nmD s i) j = d at *
  have hp := parse_num hN
  have hde := dec_fold d.length d rfl hN
  have p63 : (2 : Nat) ^ (64 - 1) = 9223372036854775808 := by decide
  by_cases h45 : bt s i = 45
  · rw [if_pos h45] at hc
    rw [hc] at hl ⊢
    rw [parseIntB_minus, hp]
    by_cases h0 : d = [48]
    · subst h0
      have e : l = [48] := by rw [hl]; unfold norm0; rw [if_pos rfl]
      subst e
      refine ⟨fun _ => ⟨0, by decide, by rw [show (0 : Int) = ((0 : Nat) : Int) from rfl, itoa_nonneg, decDigits_one (by decide)]; rfl, by decide, by decide⟩, fun hb => absurd hb (by decide)⟩
    · have e : l = 45 :: d := by
        rw [hl]; unfold norm0; rw [if_neg]
        intro e; injection e with _ e; exact h0 e
      subst e
      have ht : tooBig (45 :: d) = decide (9223372036854775808 < foldV 0 d) := by rw [tooBig, if_pos rfl, over_1 hN]
      rw [ht]
      have hpos : 1 ≤ foldV 0 d := by
        obtain ⟨h1, h2, h3⟩ := hN
        rcases h3 with h3 | h3
        · exact absurd h3 h0
        · cases d with
          | nil => exact absurd rfl h2
          | cons c r =>
            have := foldV_low (d := r) (h3 c r rfl)
            have hp : 0 < 10 ^ r.length := Nat.pow_pos (by decide)
            omega
      refine ⟨fun hb => ?_, fun hb => ?_⟩
      · have hb' := of_decide_eq_false hb
        rw [if_pos (by omega)]
        refine ⟨-((foldV 0 d : Nat) : Int), ?_, ?_, by omega, by omega⟩
        · show (if 2 ^ (64 - 1) < foldV 0 d then NumEnd.range else .ok (-((foldV 0 d : Nat) : Int))) = _
          rw [if_neg (by omega)]
        · rw [itoa_neg _ hpos, hde]
      · have hb' := of_decide_eq_true hb
        by_cases g : foldV 0 d ≤ 18446744073709551615
        · rw [if_pos g]
          show (if 2 ^ (64 - 1) < foldV 0 d then NumEnd.range else .ok (-((foldV 0 d : Nat) : Int))) = _
          rw [if_pos (by omega)]
        · rw [if_neg g]; rfl
  · rw [if_neg h45] at hc
    rw [hc] at hl ⊢
    rw [norm0_num hN] at hl
    subst hl
    cases hd : l with
    | nil => exact absurd hd hN.2.1
    | cons c r =>
      have hcd := hN.1 c (by rw [hd]; simp)
      rw [parseIntB_plain 64 c r (by omega) (by omega), ← hd, hp]
      have ht : tooBig l = decide (9223372036854775807 < foldV 0 l) := by
        rw [hd, tooBig, if_neg (by intro e; rw [e] at hcd; exact absurd hcd.1 (by decide)), ← hd, over_0 hN]
      rw [ht]
      refine ⟨fun hb => ?_, fun hb => ?_⟩
      · have hb' := of_decide_eq_false hb
        rw [if_pos (by omega)]
        refine ⟨((foldV 0 l : Nat) : Int), ?_, ?_, by omega, by omega⟩
        · show (if 2 ^ (64 - 1) ≤ foldV 0 l then NumEnd.range else .ok ((foldV 0 l : Nat) : Int)) = _
          rw [if_neg (by omega)]
        · rw [itoa_nonneg, hde]
      · have hb' := of_decide_eq_true hb
        by_cases g : foldV 0 l ≤ 18446744073709551615
        · rw [if_pos g]
          show (if 2 ^ (64 - 1) ≤ foldV 0 l then NumEnd.range else .ok ((foldV 0 l : Nat) : Int)) = _
          rw [if_pos (by omega)]
        · rw [if_neg g]; rfl
end Go.Proofs.YtcffdclgddmigaaGreatDoor

namespace Go.Proofs.YtcffdclgddmigaaGreatDoor
open Go.RowKit

/-- A value takes as many bytes as it has values, or more. -/
theorem p_cnt (s : ByteArray) : ∀ f i, (∀ v j, pv s f i = some (v, j) → cntV v + i ≤ j) ∧ (∀ l j, pa s f i = some (l, j) → cntL l + i ≤ j) ∧ (∀ m j, po s f i = some (m, j) → cntM m + i ≤ j)
  | 0, i => ⟨fun v j h => by simp [pv] at h, fun v j h => by simp [pa] at h, fun v j h => by simp [po] at h⟩
  | f + 1, i => by
    refine ⟨fun v j h => ?_, fun l j h => ?_, fun m j h => ?_⟩
    · rw [pv] at h
      have g := sk_ge s (i + 1)
      split at h
      · split at h
        · have := bt_in (s := s) (i := sk s (i + 1)) (by omega)
          injection h with h; injection h with hv h; subst hv; (try simp only [cntV]); (try simp only [cntL]); (try simp only [cntM]); omega
        · simp only [Option.map_eq_some_iff] at h
          obtain ⟨⟨l, k⟩, hk, h⟩ := h
          injection h with hv h
          have := (p_cnt s f (sk s (i + 1))).2.1 l k hk
          subst hv; simp only at h; (try simp only [cntV]); (try simp only [cntL]); (try simp only [cntM]); omega
      · split at h
        · split at h
          · have := bt_in (s := s) (i := sk s (i + 1)) (by omega)
            injection h with h; injection h with hv h; subst hv; (try simp only [cntV]); (try simp only [cntL]); (try simp only [cntM]); omega
          · simp only [Option.map_eq_some_iff] at h
            obtain ⟨⟨l, k⟩, hk, h⟩ := h
            injection h with hv h
            have := (p_cnt s f (sk s (i + 1))).2.2 l k hk
            subst hv; simp only at h; (try simp only [cntV]); (try simp only [cntL]); (try simp only [cntM]); omega
        · split at h
          · simp only [Option.map_eq_some_iff] at h
            obtain ⟨⟨l, k⟩, hk, h⟩ := h
            injection h with hv h
            have := strQ_ok hk
            subst hv; simp only at h; (try simp only [cntV]); (try simp only [cntL]); (try simp only [cntM]); omega
          · split at h
            · rename_i hw
              have := wNull_in hw
              injection h with h; injection h with hv h; subst hv; (try simp only [cntV]); (try simp only [cntL]); (try simp only [cntM]); omega
            · split at h
              · rename_i hw
                have := wTrue_in hw
                injection h with h; injection h with hv h; subst hv; (try simp only [cntV]); (try simp only [cntL]); (try simp only [cntM]); omega
              · split at h
                · rename_i hw
                  have := wFalse_in hw
                  injection h with h; injection h with hv h; subst hv; (try simp only [cntV]); (try simp only [cntL]); (try simp only [cntM]); omega
                · simp only [Option.map_eq_some_iff] at h
                  obtain ⟨⟨l, k⟩, hk, h⟩ := h
                  injection h with hv h
                  have := nm_ok hk
                  subst hv; simp only at h; (try simp only [cntV]); (try simp only [cntL]); (try simp only [cntM]); omega
    · rw [pa] at h
      simp only [Option.bind_eq_some_iff] at h
      obtain ⟨⟨v, k⟩, hk, h⟩ := h
      have h1 := (p_cnt s f i).1 v k hk
      have g1 := sk_ge s k
      simp only at h
      split at h
      · have := bt_in (s := s) (i := sk s k) (by omega)
        injection h with h; injection h with hv h; subst hv; (try simp only [cntV]); (try simp only [cntL]); (try simp only [cntM]); omega
      · split at h
        · simp only [Option.map_eq_some_iff] at h
          obtain ⟨⟨l, n⟩, hn, h⟩ := h
          injection h with hv h
          have := (p_cnt s f _).2.1 l n hn
          have g2 := sk_ge s (sk s k + 1)
          subst hv; simp only at h; (try simp only [cntL]); (try simp only [cntM]); omega
        · cases h
    · rw [po] at h
      simp only [Option.bind_eq_some_iff] at h
      obtain ⟨⟨key, a⟩, ha, h⟩ := h
      have h0 := strQ_ok ha
      simp only at h
      split at h
      · simp only [Option.bind_eq_some_iff] at h
        obtain ⟨⟨v, k⟩, hk, h⟩ := h
        have h1 := (p_cnt s f _).1 v k hk
        have g0 := sk_ge s a
        have g3 := sk_ge s (sk s a + 1)
        have g1 := sk_ge s k
        simp only at h
        split at h
        · have := bt_in (s := s) (i := sk s k) (by omega)
          injection h with h; injection h with hv h; subst hv; (try simp only [cntV]); (try simp only [cntL]); (try simp only [cntM]); omega
        · split at h
          · simp only [Option.map_eq_some_iff] at h
            obtain ⟨⟨l, n⟩, hn, h⟩ := h
            injection h with hv h
            have := (p_cnt s f _).2.2 l n hn
            have g2 := sk_ge s (sk s k + 1)
            subst hv; simp only at h; (try simp only [cntM]); omega
          · cases h
      · cases h

theorem val_cnt {s : ByteArray} {i j : Nat} {v : JV} (h : val s i = some (v, j)) : cntV v + i ≤ j := (p_cnt s _ i).1 v j h
end Go.Proofs.YtcffdclgddmigaaGreatDoor
