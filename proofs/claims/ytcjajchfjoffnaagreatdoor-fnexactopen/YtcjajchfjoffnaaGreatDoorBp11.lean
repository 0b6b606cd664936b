import Derived.Deep.LoopGhost
import Derived.Test.YtcjajchfjoffnaaGreatDoorBp9
import Derived.Test.YtcjajchfjoffnaaGreatDoorBp1
namespace Go.Proofs.YtcjajchfjoffnaaGreatDoor
open Go.RowKit

/-- The first place from i on that holds no blank. -/
def skF (s : ByteArray) : Nat → Nat → Nat
  | 0, i => i
  | f + 1, i => if bt s i = 32 ∨ bt s i = 9 ∨ bt s i = 10 ∨ bt s i = 13 then skF s f (i + 1) else i
def sk (s : ByteArray) (i : Nat) : Nat := skF s (s.size - i) i
theorem sk_on {s : ByteArray} {i : Nat} (h : bt s i = 32 ∨ bt s i = 9 ∨ bt s i = 10 ∨ bt s i = 13) : sk s i = sk s (i + 1) := by
  have hi : i < s.size := bt_in (by omega)
  unfold sk
  rw [show s.size - i = (s.size - (i + 1)) + 1 by omega, skF, if_pos h]
theorem sk_off {s : ByteArray} {i : Nat} (h : ¬ (bt s i = 32 ∨ bt s i = 9 ∨ bt s i = 10 ∨ bt s i = 13)) : sk s i = i := by
  unfold sk
  cases s.size - i with
  | zero => rfl
  | succ f => rw [skF, if_neg h]
theorem skF_le (s : ByteArray) : ∀ f i, i + f ≤ s.size → i ≤ skF s f i ∧ skF s f i ≤ i + f
  | 0, i, _ => ⟨Nat.le_refl _, Nat.le_refl _⟩
  | f + 1, i, h => by
    rw [skF]
    split
    · have := skF_le s f (i + 1) (by omega); omega
    · omega
theorem sk_le {s : ByteArray} {i : Nat} (h : i ≤ s.size) : i ≤ sk s i ∧ sk s i ≤ s.size := by
  have := skF_le s (s.size - i) i (by omega)
  unfold sk; omega
theorem sk_past {s : ByteArray} {i : Nat} (h : s.size ≤ i) : sk s i = i := by
  unfold sk; rw [show s.size - i = 0 by omega]; rfl
theorem sk_end (s : ByteArray) (i : Nat) : ¬ (bt s (sk s i) = 32 ∨ bt s (sk s i) = 9 ∨ bt s (sk s i) = 10 ∨ bt s (sk s i) = 13) := by
  generalize hn : s.size - i = n
  induction n generalizing i with
  | zero => rw [sk_past (by omega), bt_out s i (by omega)]; omega
  | succ n ih =>
    by_cases h : bt s i = 32 ∨ bt s i = 9 ∨ bt s i = 10 ∨ bt s i = 13
    · rw [sk_on h]; exact ih (i + 1) (by omega)
    · rw [sk_off h]; exact h

set_option maxHeartbeats 1600000 in
theorem skipBlanks_walk (rb : Nat) (s : ByteArray) (i : Nat) (tb kt : Bool) (w : World) (h : Rdr rb s i tb kt w) (hs : s.size ≤ 1048576) (hi : i ≤ s.size) :
    Calls Tryz.prog 151 #[.pointer (some ⟨rb, 0, none⟩)] w fun e w' => e = .returned (.tuple #[]) ∧ Rdr rb s (sk s i) tb kt w' ∧ KB rb w w' := by
  have R0 := hide h
  clear h
  go_enter Tryz.func151, Tryz.ntmps151
  go_wp2_with fail
  go_loopg [] (s.size - i) (fun g wr => ∃ j : Nat, g = s.size - j ∧ j ≤ s.size ∧ Rdr rb s j tb kt wr ∧ KB rb w wr ∧ sk s i = sk s j)
  case atStart => exact ⟨i, rfl, hi, unhide R0, KB.refl _ _, rfl⟩
  case round =>
    obtain ⟨j, hg, hj, hr, hk, hst⟩ := hrel
    have HR := hide hr
    have HST := hide hst
    clear hr hst R0
    have HY : Hid (∀ (c : Nat) wa, c ≠ 0 → bt s j = c → Rdr rb s j tb kt wa → Calls Tryz.prog 177 #[.pointer (some ⟨rb, 0, none⟩), .int .u8 c] wa fun e w' => e = .returned (.bool true) ∧ Rdr rb s (j + 1) tb kt w' ∧ KB rb wa w') := fun c wa h0 hc hr => skip_yes rb s j tb kt wa hr hs c hc (bt_in (by omega))
    have HN : Hid (∀ (c : Nat) wa, bt s j ≠ c → Rdr rb s j tb kt wa → Calls Tryz.prog 177 #[.pointer (some ⟨rb, 0, none⟩), .int .u8 c] wa fun e w' => e = .returned (.bool false) ∧ Rdr rb s j tb kt w' ∧ KB rb wa w') := fun c wa hc hr => skip_no rb s j tb kt wa hr hj c (.inl hc)
    by_cases c1 : bt s j = 32
    · have HX : Hid (sk s i = sk s (j + 1)) := by show _ = _; rw [unhide HST, sk_on (.inl c1)]
      have hlt : j < s.size := bt_in (by omega)
      go_wp2_with fail
      refine (unhide HY 32 _ (by decide) c1 (unhide HR)).mono ?_
      rintro e w2 ⟨rfl, r2, k2⟩
      have R2 := hide r2
      clear r2
      go_wp2
      go_roundg (s.size - (j + 1))
      case rel => exact ⟨j + 1, rfl, by omega, unhide R2, hk.trans k2, unhide HX⟩
      case measure => omega
    by_cases c2 : bt s j = 9
    · have HX : Hid (sk s i = sk s (j + 1)) := by show _ = _; rw [unhide HST, sk_on (.inr (.inl c2))]
      have hlt : j < s.size := bt_in (by omega)
      go_wp2_with fail
      refine (unhide HN 32 _ c1 (unhide HR)).mono ?_
      rintro e w2 ⟨rfl, r2, k2⟩
      have R2 := hide r2
      clear r2
      go_wp2_with fail
      refine (unhide HY 9 _ (by decide) c2 (unhide R2)).mono ?_
      rintro e w3 ⟨rfl, r3, k3⟩
      have R3 := hide r3
      clear r3
      go_wp2
      go_roundg (s.size - (j + 1))
      case rel => exact ⟨j + 1, rfl, by omega, unhide R3, (hk.trans k2).trans k3, unhide HX⟩
      case measure => omega
    by_cases c3 : bt s j = 10
    · have HX : Hid (sk s i = sk s (j + 1)) := by show _ = _; rw [unhide HST, sk_on (.inr (.inr (.inl c3)))]
      have hlt : j < s.size := bt_in (by omega)
      go_wp2_with fail
      refine (unhide HN 32 _ c1 (unhide HR)).mono ?_
      rintro e w2 ⟨rfl, r2, k2⟩
      have R2 := hide r2
      clear r2
      go_wp2_with fail
      refine (unhide HN 9 _ c2 (unhide R2)).mono ?_
      rintro e w3 ⟨rfl, r3, k3⟩
      have R3 := hide r3
      clear r3
      go_wp2_with fail
      refine (unhide HY 10 _ (by decide) c3 (unhide R3)).mono ?_
      rintro e w4 ⟨rfl, r4, k4⟩
      have R4 := hide r4
      clear r4
      go_wp2
      go_roundg (s.size - (j + 1))
      case rel => exact ⟨j + 1, rfl, by omega, unhide R4, ((hk.trans k2).trans k3).trans k4, unhide HX⟩
      case measure => omega
    go_wp2_with fail
    refine (unhide HN 32 _ c1 (unhide HR)).mono ?_
    rintro e w2 ⟨rfl, r2, k2⟩
    have R2 := hide r2
    clear r2
    go_wp2_with fail
    refine (unhide HN 9 _ c2 (unhide R2)).mono ?_
    rintro e w3 ⟨rfl, r3, k3⟩
    have R3 := hide r3
    clear r3
    go_wp2_with fail
    refine (unhide HN 10 _ c3 (unhide R3)).mono ?_
    rintro e w4 ⟨rfl, r4, k4⟩
    have R4 := hide r4
    clear r4
    by_cases c4 : bt s j = 13
    · have HX : Hid (sk s i = sk s (j + 1)) := by show _ = _; rw [unhide HST, sk_on (.inr (.inr (.inr c4)))]
      have hlt : j < s.size := bt_in (by omega)
      go_wp2_with fail
      refine (unhide HY 13 _ (by decide) c4 (unhide R4)).mono ?_
      rintro e w5 ⟨rfl, r5, k5⟩
      have R5 := hide r5
      clear r5
      go_wp2
      go_roundg (s.size - (j + 1))
      case rel => exact ⟨j + 1, rfl, by omega, unhide R5, (((hk.trans k2).trans k3).trans k4).trans k5, unhide HX⟩
      case measure => omega
    · have HX : Hid (sk s i = j) := by show _ = _; rw [unhide HST, sk_off (by omega)]
      go_wp2_with fail
      refine (unhide HN 13 _ c4 (unhide R4)).mono ?_
      rintro e w5 ⟨rfl, r5, k5⟩
      have R5 := hide r5
      clear r5
      go_wp2
      go_end0
      exact ⟨rfl, by rw [unhide HX]; exact unhide R5, (((hk.trans k2).trans k3).trans k4).trans k5⟩

set_option maxHeartbeats 800000 in
theorem peek_walk (rb : Nat) (s : ByteArray) (i : Nat) (tb kt : Bool) (w : World) (h : Rdr rb s i tb kt w) (hi : i ≤ s.size) :
    Calls Tryz.prog 178 #[.pointer (some ⟨rb, 0, none⟩)] w fun e w' => e = .returned (.int .u8 (bt s i)) ∧ Rdr rb s i tb kt w' ∧ KB rb w w' := by
  have c0 := h.text
  have c1 := h.at
  have H := hide h
  clear h
  by_cases hi' : i = s.size
  · have hne : ((i : Int) == (s.size : Int)) = true := by rw [beq_iff_eq]; omega
    have HB := hide (bt_out s i (by omega))
    go_enter Tryz.func178, Tryz.ntmps178
    go_wp2_with fail
    go_quiet (fail)
    go_wp2
    go_ret
    exact ⟨by rw [unhide HB]; rfl, (unhide H).drewN _, (KB.refl rb w).drewN _⟩
  · have h0 : i < s.size := by omega
    have hne : ((i : Int) == (s.size : Int)) = false := by rw [beq_eq_false_iff_ne]; omega
    have HB := hide (bt_at s i h0)
    go_enter Tryz.func178, Tryz.ntmps178
    go_wp2_with fail
    go_quiet (fail)
    go_wp2_with fail
    go_quiet (fail)
    go_wp2
    go_ret
    exact ⟨by rw [unhide HB]; rfl, ((unhide H).drewN _).drewN _, ((KB.refl rb w).drewN _).drewN _⟩
end Go.Proofs.YtcjajchfjoffnaaGreatDoor

namespace Go.Proofs.YtcjajchfjoffnaaGreatDoor
open Go.RowKit

mutual
/-- A value of JSON as it was read: numbers as their canonical texts, members in the text's order, a key twice where it came twice. -/
inductive JV where
  | nul | tt | ff
  | num (l : List UInt8)
  | str (l : List UInt8)
  | arr (l : JL)
  | obj (m : JM)
inductive JL where
  | nil
  | cons (v : JV) (r : JL)
inductive JM where
  | nil
  | cons (k : List UInt8) (v : JV) (r : JM)
end

def isDg (b : Nat) : Bool := decide (48 ≤ b) && decide (b ≤ 57)
theorem isDg_iff {b : Nat} : isDg b = true ↔ 48 ≤ b ∧ b ≤ 57 := by simp [isDg]
/-- The first place from i on that holds no digit. -/
def dgF (s : ByteArray) : Nat → Nat → Nat
  | 0, i => i
  | f + 1, i => if isDg (bt s i) = true then dgF s f (i + 1) else i
def dg (s : ByteArray) (i : Nat) : Nat := dgF s (s.size - i) i
theorem dg_on {s : ByteArray} {i : Nat} (h : isDg (bt s i) = true) : dg s i = dg s (i + 1) := by
  have hi : i < s.size := bt_in (by have := isDg_iff.1 h; omega)
  unfold dg
  rw [show s.size - i = (s.size - (i + 1)) + 1 by omega, dgF, if_pos h]
theorem dg_off {s : ByteArray} {i : Nat} (h : ¬ isDg (bt s i) = true) : dg s i = i := by
  unfold dg
  cases s.size - i with
  | zero => rfl
  | succ f => rw [dgF, if_neg h]
theorem dgF_le (s : ByteArray) : ∀ f i, i + f ≤ s.size → i ≤ dgF s f i ∧ dgF s f i ≤ i + f
  | 0, i, _ => ⟨Nat.le_refl _, Nat.le_refl _⟩
  | f + 1, i, h => by
    rw [dgF]
    split
    · have := dgF_le s f (i + 1) (by omega); omega
    · omega
theorem dg_le {s : ByteArray} {i : Nat} (h : i ≤ s.size) : i ≤ dg s i ∧ dg s i ≤ s.size := by
  have := dgF_le s (s.size - i) i (by omega)
  unfold dg; omega

/-- The bytes from i to j. -/
def cutB (s : ByteArray) (i j : Nat) : List UInt8 := (s.data.toList.drop i).take (j - i)
/-- Where a number's digits begin and end. -/
def nmD (s : ByteArray) (i : Nat) : Nat := if bt s i = 45 then i + 1 else i
def nmE (s : ByteArray) (i : Nat) : Nat := if bt s (nmD s i) = 48 then nmD s i + 1 else dg s (nmD s i)
def norm0 (l : List UInt8) : List UInt8 := if l = [45, 48] then [48] else l
def nm (s : ByteArray) (i : Nat) : Option (List UInt8 × Nat) := if isDg (bt s (nmD s i)) = true then some (norm0 (cutB s i (nmE s i)), nmE s i) else none
theorem nm_ok {s : ByteArray} {i j : Nat} {l : List UInt8} (h : nm s i = some (l, j)) : i < j ∧ j ≤ s.size := by
  unfold nm at h
  split at h
  · rename_i hd
    injection h with h; injection h with h1 h2
    subst h2
    have hlt : nmD s i < s.size := bt_in (by have := isDg_iff.1 hd; omega)
    have hge : i ≤ nmD s i := by unfold nmD; split <;> omega
    unfold nmE
    split
    · omega
    · rw [dg_on hd]
      have := dg_le (s := s) (i := nmD s i + 1) (by omega)
      omega
  · cases h
theorem strR_ok {s : ByteArray} : ∀ {i j : Nat} {l : List UInt8}, strR s i = some (l, j) → i < j ∧ j ≤ s.size := by
  intro i
  generalize hn : s.size - i = n
  induction n using Nat.strongRecOn generalizing i with
  | _ n ih =>
    intro j l h
    by_cases h34 : bt s i = 34
    · rw [strR_end h34] at h
      injection h with h; injection h with h1 h2
      have := bt_in (s := s) (i := i) (by omega)
      omega
    · cases hp : piece s i with
      | none => rw [strR_bad h34 hp] at h; cases h
      | some p =>
        obtain ⟨r, n'⟩ := p
        have hk := piece_ok hp
        rw [strR_go h34 hp] at h
        rcases hq : strR s (i + n') with _ | ⟨l2, j2⟩
        · rw [hq] at h; cases h
        · rw [hq] at h
          injection h with h; injection h with h1 h2
          have := ih (s.size - (i + n')) (by omega) rfl hq
          omega
theorem strQ_ok {s : ByteArray} {i j : Nat} {l : List UInt8} (h : strQ s i = some (l, j)) : i + 1 < j ∧ j ≤ s.size := by
  unfold strQ at h
  split at h
  · have := strR_ok h; omega
  · cases h

def wNull (s : ByteArray) (i : Nat) : Bool := bt s i == 110 && bt s (i + 1) == 117 && bt s (i + 2) == 108 && bt s (i + 3) == 108
def wTrue (s : ByteArray) (i : Nat) : Bool := bt s i == 116 && bt s (i + 1) == 114 && bt s (i + 2) == 117 && bt s (i + 3) == 101
def wFalse (s : ByteArray) (i : Nat) : Bool := bt s i == 102 && bt s (i + 1) == 97 && bt s (i + 2) == 108 && bt s (i + 3) == 115 && bt s (i + 4) == 101

mutual
/-- A value whose first byte stands at place i, and the place behind it. -/
def pv (s : ByteArray) : Nat → Nat → Option (JV × Nat)
  | 0, _ => none
  | f + 1, i =>
    if bt s i = 91 then (if bt s (sk s (i + 1)) = 93 then some (.arr .nil, sk s (i + 1) + 1) else (pa s f (sk s (i + 1))).map fun q => (.arr q.1, q.2))
    else if bt s i = 123 then (if bt s (sk s (i + 1)) = 125 then some (.obj .nil, sk s (i + 1) + 1) else (po s f (sk s (i + 1))).map fun q => (.obj q.1, q.2))
    else if bt s i = 34 then (strQ s i).map fun q => (.str q.1, q.2)
    else if wNull s i = true then some (.nul, i + 4)
    else if wTrue s i = true then some (.tt, i + 4)
    else if wFalse s i = true then some (.ff, i + 5)
    else (nm s i).map fun q => (.num q.1, q.2)
/-- The items from place i on, up to the bracket that closes. -/
def pa (s : ByteArray) : Nat → Nat → Option (JL × Nat)
  | 0, _ => none
  | f + 1, i => (pv s f i).bind fun q =>
    if bt s (sk s q.2) = 93 then some (.cons q.1 .nil, sk s q.2 + 1)
    else if bt s (sk s q.2) = 44 then (pa s f (sk s (sk s q.2 + 1))).map fun r => (.cons q.1 r.1, r.2)
    else none
/-- The members from place i on, up to the bracket that closes. -/
def po (s : ByteArray) : Nat → Nat → Option (JM × Nat)
  | 0, _ => none
  | f + 1, i => (strQ s i).bind fun k =>
    if bt s (sk s k.2) = 58 then (pv s f (sk s (sk s k.2 + 1))).bind fun q =>
      if bt s (sk s q.2) = 125 then some (.cons k.1 q.1 .nil, sk s q.2 + 1)
      else if bt s (sk s q.2) = 44 then (po s f (sk s (sk s q.2 + 1))).map fun r => (.cons k.1 q.1 r.1, r.2)
      else none
    else none
end
end Go.Proofs.YtcjajchfjoffnaaGreatDoor

namespace Go.Proofs.YtcjajchfjoffnaaGreatDoor
open Go.RowKit

theorem sk_ge (s : ByteArray) (i : Nat) : i ≤ sk s i := by
  rcases Nat.le_total i s.size with h | h
  · exact (sk_le h).1
  · rw [sk_past h]; exact Nat.le_refl _
theorem wNull_in {s : ByteArray} {i : Nat} (h : wNull s i = true) : i + 4 ≤ s.size := by
  simp [wNull] at h
  have := bt_in (s := s) (i := i + 3) (by omega); omega
theorem wTrue_in {s : ByteArray} {i : Nat} (h : wTrue s i = true) : i + 4 ≤ s.size := by
  simp [wTrue] at h
  have := bt_in (s := s) (i := i + 3) (by omega); omega
theorem wFalse_in {s : ByteArray} {i : Nat} (h : wFalse s i = true) : i + 5 ≤ s.size := by
  simp [wFalse] at h
  have := bt_in (s := s) (i := i + 4) (by omega); omega

theorem p_ok (s : ByteArray) : ∀ f i, (∀ v j, pv s f i = some (v, j) → i < j ∧ j ≤ s.size) ∧ (∀ l j, pa s f i = some (l, j) → i < j ∧ j ≤ s.size) ∧ (∀ m j, po s f i = some (m, j) → i < j ∧ j ≤ s.size)
  | 0, i => ⟨fun v j h => by simp [pv] at h, fun v j h => by simp [pa] at h, fun v j h => by simp [po] at h⟩
  | f + 1, i => by
    refine ⟨fun v j h => ?_, fun l j h => ?_, fun m j h => ?_⟩
    · rw [pv] at h
      have g := sk_ge s (i + 1)
      split at h
      · split at h
        · have := bt_in (s := s) (i := sk s (i + 1)) (by omega)
          injection h with h; injection h with _ h; omega
        · simp only [Option.map_eq_some_iff] at h
          obtain ⟨⟨l, k⟩, hk, h⟩ := h
          injection h with _ h
          have := (p_ok s f (sk s (i + 1))).2.1 l k hk
          simp only at h; omega
      · split at h
        · split at h
          · have := bt_in (s := s) (i := sk s (i + 1)) (by omega)
            injection h with h; injection h with _ h; omega
          · simp only [Option.map_eq_some_iff] at h
            obtain ⟨⟨l, k⟩, hk, h⟩ := h
            injection h with _ h
            have := (p_ok s f (sk s (i + 1))).2.2 l k hk
            simp only at h; omega
        · split at h
          · simp only [Option.map_eq_some_iff] at h
            obtain ⟨⟨l, k⟩, hk, h⟩ := h
            injection h with _ h
            have := strQ_ok hk
            simp only at h; omega
          · split at h
            · rename_i hw
              have := wNull_in hw
              injection h with h; injection h with _ h; omega
            · split at h
              · rename_i hw
                have := wTrue_in hw
                injection h with h; injection h with _ h; omega
              · split at h
                · rename_i hw
                  have := wFalse_in hw
                  injection h with h; injection h with _ h; omega
                · simp only [Option.map_eq_some_iff] at h
                  obtain ⟨⟨l, k⟩, hk, h⟩ := h
                  injection h with _ h
                  have := nm_ok hk
                  simp only at h; omega
    · rw [pa] at h
      simp only [Option.bind_eq_some_iff] at h
      obtain ⟨⟨v, k⟩, hk, h⟩ := h
      have h1 := (p_ok s f i).1 v k hk
      have g1 := sk_ge s k
      simp only at h
      split at h
      · have := bt_in (s := s) (i := sk s k) (by omega)
        injection h with h; injection h with _ h; omega
      · split at h
        · simp only [Option.map_eq_some_iff] at h
          obtain ⟨⟨l, n⟩, hn, h⟩ := h
          injection h with _ h
          have := (p_ok s f _).2.1 l n hn
          have g2 := sk_ge s (sk s k + 1)
          simp only at h; omega
        · cases h
    · rw [po] at h
      simp only [Option.bind_eq_some_iff] at h
      obtain ⟨⟨key, a⟩, ha, h⟩ := h
      have h0 := strQ_ok ha
      simp only at h
      split at h
      · simp only [Option.bind_eq_some_iff] at h
        obtain ⟨⟨v, k⟩, hk, h⟩ := h
        have h1 := (p_ok s f _).1 v k hk
        have g0 := sk_ge s a
        have g3 := sk_ge s (sk s a + 1)
        have g1 := sk_ge s k
        simp only at h
        split at h
        · have := bt_in (s := s) (i := sk s k) (by omega)
          injection h with h; injection h with _ h; omega
        · split at h
          · simp only [Option.map_eq_some_iff] at h
            obtain ⟨⟨l, n⟩, hn, h⟩ := h
            injection h with _ h
            have := (p_ok s f _).2.2 l n hn
            have g2 := sk_ge s (sk s k + 1)
            simp only at h; omega
          · cases h
      · cases h

theorem p_same (s : ByteArray) : ∀ f g i, (2 * (s.size - i) + 1 ≤ f → 2 * (s.size - i) + 1 ≤ g → pv s f i = pv s g i) ∧ (2 * (s.size - i) + 2 ≤ f → 2 * (s.size - i) + 2 ≤ g → pa s f i = pa s g i ∧ po s f i = po s g i)
  | 0, g, i => ⟨fun h _ => by omega, fun h _ => by omega⟩
  | f + 1, 0, i => ⟨fun _ h => by omega, fun _ h => by omega⟩
  | f + 1, g + 1, i => by
    refine ⟨fun hf hg => ?_, fun hf hg => ⟨?_, ?_⟩⟩
    · rw [pv, pv]
      have g0 := sk_ge s (i + 1)
      by_cases c1 : bt s i = 91
      · have hi := bt_in (s := s) (i := i) (by omega)
        rw [if_pos c1, if_pos c1, ((p_same s f g (sk s (i + 1))).2 (by omega) (by omega)).1]
      · rw [if_neg c1, if_neg c1]
        by_cases c2 : bt s i = 123
        · have hi := bt_in (s := s) (i := i) (by omega)
          rw [if_pos c2, if_pos c2, ((p_same s f g (sk s (i + 1))).2 (by omega) (by omega)).2]
        · rw [if_neg c2, if_neg c2]
    · rw [pa, pa, (p_same s f g i).1 (by omega) (by omega)]
      cases hk : pv s g i with
      | none => rfl
      | some q =>
        obtain ⟨v, k⟩ := q
        have h1 := (p_ok s g i).1 v k hk
        have g1 := sk_ge s k
        have g2 := sk_ge s (sk s k + 1)
        simp only [Option.bind_some]
        rw [((p_same s f g (sk s (sk s k + 1))).2 (by omega) (by omega)).1]
    · rw [po, po]
      cases ha : strQ s i with
      | none => rfl
      | some q =>
        obtain ⟨key, a⟩ := q
        have h0 := strQ_ok ha
        have ga := sk_ge s a
        have gb := sk_ge s (sk s a + 1)
        simp only [Option.bind_some]
        rw [(p_same s f g (sk s (sk s a + 1))).1 (by omega) (by omega)]
        cases hk : pv s g (sk s (sk s a + 1)) with
        | none => rfl
        | some q =>
          obtain ⟨v, k⟩ := q
          have h1 := (p_ok s g _).1 v k hk
          have g1 := sk_ge s k
          have g2 := sk_ge s (sk s k + 1)
          simp only [Option.bind_some]
          rw [((p_same s f g (sk s (sk s k + 1))).2 (by omega) (by omega)).2]

def val (s : ByteArray) (i : Nat) : Option (JV × Nat) := pv s (2 * (s.size - i) + 1) i
def elems (s : ByteArray) (i : Nat) : Option (JL × Nat) := pa s (2 * (s.size - i) + 2) i
def mems (s : ByteArray) (i : Nat) : Option (JM × Nat) := po s (2 * (s.size - i) + 2) i
theorem val_ok {s : ByteArray} {i j : Nat} {v : JV} (h : val s i = some (v, j)) : i < j ∧ j ≤ s.size := (p_ok s _ i).1 v j h
theorem elems_ok {s : ByteArray} {i j : Nat} {v : JL} (h : elems s i = some (v, j)) : i < j ∧ j ≤ s.size := (p_ok s _ i).2.1 v j h
theorem mems_ok {s : ByteArray} {i j : Nat} {v : JM} (h : mems s i = some (v, j)) : i < j ∧ j ≤ s.size := (p_ok s _ i).2.2 v j h

theorem val_arr {s : ByteArray} {i : Nat} (h : bt s i = 91) : val s i = if bt s (sk s (i + 1)) = 93 then some (.arr .nil, sk s (i + 1) + 1) else (elems s (sk s (i + 1))).map fun q => (.arr q.1, q.2) := by
  have hi := bt_in (s := s) (i := i) (by omega)
  have g := sk_ge s (i + 1)
  unfold val elems
  rw [pv, if_pos h, ((p_same s (2 * (s.size - i)) (2 * (s.size - sk s (i + 1)) + 2) (sk s (i + 1))).2 (by omega) (by omega)).1]
theorem val_obj {s : ByteArray} {i : Nat} (h : bt s i = 123) : val s i = if bt s (sk s (i + 1)) = 125 then some (.obj .nil, sk s (i + 1) + 1) else (mems s (sk s (i + 1))).map fun q => (.obj q.1, q.2) := by
  have hi := bt_in (s := s) (i := i) (by omega)
  have g := sk_ge s (i + 1)
  unfold val mems
  rw [pv, if_neg (by omega), if_pos h, ((p_same s (2 * (s.size - i)) (2 * (s.size - sk s (i + 1)) + 2) (sk s (i + 1))).2 (by omega) (by omega)).2]
theorem val_str {s : ByteArray} {i : Nat} (h : bt s i = 34) : val s i = (strQ s i).map fun q => (.str q.1, q.2) := by
  unfold val
  rw [pv, if_neg (by omega), if_neg (by omega), if_pos h]
theorem val_else {s : ByteArray} {i : Nat} (h1 : bt s i ≠ 91) (h2 : bt s i ≠ 123) (h3 : bt s i ≠ 34) : val s i =
    if wNull s i = true then some (.nul, i + 4) else if wTrue s i = true then some (.tt, i + 4) else if wFalse s i = true then some (.ff, i + 5) else (nm s i).map fun q => (.num q.1, q.2) := by
  unfold val
  rw [pv, if_neg h1, if_neg h2, if_neg h3]
theorem elems_eq (s : ByteArray) (i : Nat) : elems s i = (val s i).bind fun q =>
    if bt s (sk s q.2) = 93 then some (.cons q.1 .nil, sk s q.2 + 1)
    else if bt s (sk s q.2) = 44 then (elems s (sk s (sk s q.2 + 1))).map fun r => (.cons q.1 r.1, r.2)
    else none := by
  have e : elems s i = pa s (2 * (s.size - i) + 1 + 1) i := rfl
  rw [e, pa]
  show (val s i).bind _ = _
  cases hk : val s i with
  | none => rfl
  | some q =>
    obtain ⟨v, k⟩ := q
    have h1 := val_ok hk
    have g1 := sk_ge s k
    have g2 := sk_ge s (sk s k + 1)
    simp only [Option.bind_some]
    rw [show elems s (sk s (sk s k + 1)) = pa s (2 * (s.size - i) + 1) (sk s (sk s k + 1)) from ((p_same s _ _ _).2 (by omega) (by omega)).1]
theorem mems_eq (s : ByteArray) (i : Nat) : mems s i = (strQ s i).bind fun k =>
    if bt s (sk s k.2) = 58 then (val s (sk s (sk s k.2 + 1))).bind fun q =>
      if bt s (sk s q.2) = 125 then some (.cons k.1 q.1 .nil, sk s q.2 + 1)
      else if bt s (sk s q.2) = 44 then (mems s (sk s (sk s q.2 + 1))).map fun r => (.cons k.1 q.1 r.1, r.2)
      else none
    else none := by
  have e : mems s i = po s (2 * (s.size - i) + 1 + 1) i := rfl
  rw [e, po]
  cases ha : strQ s i with
  | none => rfl
  | some q =>
    obtain ⟨key, a⟩ := q
    have h0 := strQ_ok ha
    have ga := sk_ge s a
    have gb := sk_ge s (sk s a + 1)
    simp only [Option.bind_some]
    rw [show pv s (2 * (s.size - i) + 1) (sk s (sk s a + 1)) = val s (sk s (sk s a + 1)) from (p_same s _ _ _).1 (by omega) (by omega)]
    cases hk : val s (sk s (sk s a + 1)) with
    | none => rfl
    | some q =>
      obtain ⟨v, k⟩ := q
      have h1 := val_ok hk
      have g1 := sk_ge s k
      have g2 := sk_ge s (sk s k + 1)
      simp only [Option.bind_some]
      rw [show mems s (sk s (sk s k + 1)) = po s (2 * (s.size - i) + 1) (sk s (sk s k + 1)) from ((p_same s _ _ _).2 (by omega) (by omega)).2]
end Go.Proofs.YtcjajchfjoffnaaGreatDoor

namespace Go.Proofs.YtcjajchfjoffnaaGreatDoor
open Go.RowKit

/-- A part put among those before it, from the end on. -/
def insR (p : List UInt8 × List UInt8) : List (List UInt8 × List UInt8) → List (List UInt8 × List UInt8)
  | [] => [p]
  | q :: r => if p.1 < q.1 then q :: insR p r else p :: q :: r
/-- Parts in order. -/
def isort (l : List (List UInt8 × List UInt8)) : List (List UInt8 × List UInt8) := (l.foldl (fun acc p => insR p acc) []).reverse
/-- The text of a part, and of an object of parts. -/
def memT (p : List UInt8 × List UInt8) : List UInt8 := quoted p.1 ++ 58 :: p.2
def joinT : List (List UInt8) → List UInt8
  | [] => []
  | t :: r => 44 :: (t ++ joinT r)
def joinC : List (List UInt8) → List UInt8
  | [] => []
  | t :: r => t ++ joinT r
def mkO (l : List (List UInt8 × List UInt8)) : List UInt8 := 123 :: (joinC (l.map memT) ++ [125])
def mkA (l : List (List UInt8)) : List UInt8 := 91 :: (joinC l ++ [93])
theorem joinT_app (a b : List (List UInt8)) : joinT (a ++ b) = joinT a ++ joinT b := by
  induction a with
  | nil => rfl
  | cons t r ih => simp [joinT, ih]
theorem joinC_snoc (a : List (List UInt8)) (t : List UInt8) : joinC (a ++ [t]) = joinC a ++ (if a = [] then t else 44 :: t) := by
  cases a with
  | nil => simp [joinC, joinT]
  | cons x r => simp [joinC, joinT_app, joinT]

/-- Whether a number's text is out of range. -/
def lim0 : List UInt8 := [57, 50, 50, 51, 51, 55, 50, 48, 51, 54, 56, 53, 52, 55, 55, 53, 56, 48, 55]
def lim1 : List UInt8 := [57, 50, 50, 51, 51, 55, 50, 48, 51, 54, 56, 53, 52, 55, 55, 53, 56, 48, 56]
def over (d lim : List UInt8) : Bool := if d.length ≠ 19 then decide (19 < d.length) else (!Op.bytesLess d lim && !(d == lim))
def tooBig : List UInt8 → Bool
  | [] => false
  | c :: r => if c = 45 then over r lim1 else over (c :: r) lim0

mutual
/-- The canonical text. -/
def ct : JV → List UInt8
  | .nul => [110, 117, 108, 108]
  | .tt => [116, 114, 117, 101]
  | .ff => [102, 97, 108, 115, 101]
  | .num l => l
  | .str l => quoted l
  | .arr l => mkA (ctL l)
  | .obj m => mkO (isort (ctM m))
def ctL : JL → List (List UInt8)
  | .nil => []
  | .cons v r => ct v :: ctL r
def ctM : JM → List (List UInt8 × List UInt8)
  | .nil => []
  | .cons k v r => (k, ct v) :: ctM r
end
mutual
/-- Whether a number is out of range. -/
def bigV : JV → Bool
  | .nul => false
  | .tt => false
  | .ff => false
  | .num l => tooBig l
  | .str _ => false
  | .arr l => bigL l
  | .obj m => bigM m
def bigL : JL → Bool
  | .nil => false
  | .cons v r => bigV v || bigL r
def bigM : JM → Bool
  | .nil => false
  | .cons _ v r => bigV v || bigM r
end
mutual
/-- Whether a key comes twice. -/
def twV : JV → Bool
  | .nul => false
  | .tt => false
  | .ff => false
  | .num _ => false
  | .str _ => false
  | .arr l => twL l
  | .obj m => twM [] m
def twL : JL → Bool
  | .nil => false
  | .cons v r => twV v || twL r
/-- .. among members, behind the keys that came before. -/
def twM : List (List UInt8) → JM → Bool
  | _, .nil => false
  | ks, .cons k v r => (twV v || ks.contains k) || twM (ks ++ [k]) r
end
mutual
def depV : JV → Nat
  | .nul => 1
  | .tt => 1
  | .ff => 1
  | .num _ => 1
  | .str _ => 1
  | .arr l => depL l + 1
  | .obj m => depM m + 1
def depL : JL → Nat
  | .nil => 0
  | .cons v r => max (depV v) (depL r)
def depM : JM → Nat
  | .nil => 0
  | .cons _ v r => max (depV v) (depM r)
end
mutual
def cntV : JV → Nat
  | .nul => 1
  | .tt => 1
  | .ff => 1
  | .num _ => 1
  | .str _ => 1
  | .arr l => cntL l + 1
  | .obj m => cntM m + 1
def cntL : JL → Nat
  | .nil => 0
  | .cons v r => cntV v + cntL r
def cntM : JM → Nat
  | .nil => 0
  | .cons _ v r => cntV v + cntM r
end
/-- Lists of items, one more at the end. -/
def JL.app : JL → JL → JL
  | .nil, b => b
  | .cons v r, b => .cons v (r.app b)
def JM.app : JM → JM → JM
  | .nil, b => b
  | .cons k v r, b => .cons k v (r.app b)
theorem JL.app_assoc : ∀ a b c : JL, (a.app b).app c = a.app (b.app c)
  | .nil, _, _ => rfl
  | .cons v r, b, c => by simp [JL.app, JL.app_assoc r b c]
theorem JM.app_assoc : ∀ a b c : JM, (a.app b).app c = a.app (b.app c)
  | .nil, _, _ => rfl
  | .cons k v r, b, c => by simp [JM.app, JM.app_assoc r b c]
theorem JL.app_nil : ∀ a : JL, a.app .nil = a
  | .nil => rfl
  | .cons v r => by simp [JL.app, JL.app_nil r]
theorem JM.app_nil : ∀ a : JM, a.app .nil = a
  | .nil => rfl
  | .cons k v r => by simp [JM.app, JM.app_nil r]
theorem ctL_app : ∀ a b : JL, ctL (a.app b) = ctL a ++ ctL b
  | .nil, b => by simp [JL.app, ctL]
  | .cons v r, b => by simp [JL.app, ctL, ctL_app r b]
theorem ctM_app : ∀ a b : JM, ctM (a.app b) = ctM a ++ ctM b
  | .nil, b => by simp [JM.app, ctM]
  | .cons k v r, b => by simp [JM.app, ctM, ctM_app r b]
theorem bigL_app : ∀ a b : JL, bigL (a.app b) = (bigL a || bigL b)
  | .nil, b => by simp [JL.app, bigL]
  | .cons v r, b => by simp [JL.app, bigL, bigL_app r b, Bool.or_assoc]
theorem bigM_app : ∀ a b : JM, bigM (a.app b) = (bigM a || bigM b)
  | .nil, b => by simp [JM.app, bigM]
  | .cons k v r, b => by simp [JM.app, bigM, bigM_app r b, Bool.or_assoc]
theorem twL_app : ∀ a b : JL, twL (a.app b) = (twL a || twL b)
  | .nil, b => by simp [JL.app, twL]
  | .cons v r, b => by simp [JL.app, twL, twL_app r b, Bool.or_assoc]
def keysM : JM → List (List UInt8)
  | .nil => []
  | .cons k _ r => k :: keysM r
theorem keysM_app : ∀ a b : JM, keysM (a.app b) = keysM a ++ keysM b
  | .nil, b => by simp [JM.app, keysM]
  | .cons k v r, b => by simp [JM.app, keysM, keysM_app r b]
theorem twM_app : ∀ (ks : List (List UInt8)) (a b : JM), twM ks (a.app b) = (twM ks a || twM (ks ++ keysM a) b)
  | ks, .nil, b => by simp [JM.app, twM, keysM]
  | ks, .cons k v r, b => by simp [JM.app, twM, keysM, twM_app (ks ++ [k]) r b, Bool.or_assoc]
theorem ctM_keys : ∀ a : JM, (ctM a).map (·.1) = keysM a
  | .nil => rfl
  | .cons k v r => by simp [ctM, keysM, ctM_keys r]
end Go.Proofs.YtcjajchfjoffnaaGreatDoor

namespace Go.Proofs.YtcjajchfjoffnaaGreatDoor
open Go.RowKit

theorem bt_app0 (a l : List UInt8) (k : Nat) (h : k < a.length) : bt (strOf (a ++ l)) k = (a.getD k 0).toNat := by
  unfold bt; rw [strOf_toList]
  simp only [List.getD]
  rw [List.getElem?_append_left h]
theorem ofNat_lt {n : Nat} (h : n < 256) : (UInt8.ofNat n).toNat = n := by rw [UInt8.toNat_ofNat']; omega

/-- A rune's bytes are read as that many. -/
theorem rl_utf (r : Nat) (h : r ≤ 1114111) (h' : r < 55296 ∨ 57344 ≤ r) (l : List UInt8) : rl (strOf (utf r ++ l)) 0 = (utf r).length ∧ 0 < (utf r).length := by
  have hz : (strOf (utf r ++ l)).size - 0 = (utf r).length + l.length := by rw [strOf_size, List.length_append]; omega
  unfold rl
  rw [hz]
  by_cases h1 : r < 128
  · have e : utf r = [UInt8.ofNat r] := by unfold utf utfZ; rw [if_pos h1]; rfl
    rw [e]
    refine ⟨?_, by simp⟩
    rw [bt_app0 _ _ 0 (by simp), rlN_one]
    · rfl
    · show (UInt8.ofNat r).toNat < 128
      rw [ofNat_lt (by omega)]; exact h1
  · by_cases h2 : r < 2048
    · have e : utf r = [UInt8.ofNat (192 + r / 64), UInt8.ofNat (128 + r % 64)] := by unfold utf utfZ; rw [if_neg h1, if_pos h2]; rfl
      rw [e]
      refine ⟨?_, by simp⟩
      rw [bt_app0 _ _ 0 (by simp), bt_app0 _ _ (0 + 1) (by simp)]
      have b0 : ([UInt8.ofNat (192 + r / 64), UInt8.ofNat (128 + r % 64)].getD 0 0).toNat = 192 + r / 64 := ofNat_lt (by omega)
      have b1 : ([UInt8.ofNat (192 + r / 64), UInt8.ofNat (128 + r % 64)].getD (0 + 1) 0).toNat = 128 + r % 64 := ofNat_lt (by omega)
      rw [b0, b1, rlN_2 (by omega) (by omega) (by omega), if_pos (by simp only [List.length_cons, List.length_nil]; omega)]
      rfl
    · by_cases h3 : r < 65536
      · have e : utf r = [UInt8.ofNat (224 + r / 4096), UInt8.ofNat (128 + r / 64 % 64), UInt8.ofNat (128 + r % 64)] := by unfold utf utfZ; rw [if_neg h1, if_neg h2, if_pos h3]; rfl
        rw [e]
        refine ⟨?_, by simp⟩
        rw [bt_app0 _ _ 0 (by simp), bt_app0 _ _ (0 + 1) (by simp), bt_app0 _ _ (0 + 2) (by simp)]
        have b0 : ([UInt8.ofNat (224 + r / 4096), UInt8.ofNat (128 + r / 64 % 64), UInt8.ofNat (128 + r % 64)].getD 0 0).toNat = 224 + r / 4096 := ofNat_lt (by omega)
        have b1 : ([UInt8.ofNat (224 + r / 4096), UInt8.ofNat (128 + r / 64 % 64), UInt8.ofNat (128 + r % 64)].getD (0 + 1) 0).toNat = 128 + r / 64 % 64 := ofNat_lt (by omega)
        have b2 : ([UInt8.ofNat (224 + r / 4096), UInt8.ofNat (128 + r / 64 % 64), UInt8.ofNat (128 + r % 64)].getD (0 + 2) 0).toNat = 128 + r % 64 := ofNat_lt (by omega)
        rw [b0, b1, b2, rlN_3 (by omega) (by omega) (by omega) (by omega), if_pos (by simp only [List.length_cons, List.length_nil]; omega)]
        rfl
      · have e : utf r = [UInt8.ofNat (240 + r / 262144), UInt8.ofNat (128 + r / 4096 % 64), UInt8.ofNat (128 + r / 64 % 64), UInt8.ofNat (128 + r % 64)] := by unfold utf utfZ; rw [if_neg h1, if_neg h2, if_neg h3]; rfl
        rw [e]
        refine ⟨?_, by simp⟩
        rw [bt_app0 _ _ 0 (by simp), bt_app0 _ _ (0 + 1) (by simp), bt_app0 _ _ (0 + 2) (by simp), bt_app0 _ _ (0 + 3) (by simp)]
        have b0 : ([UInt8.ofNat (240 + r / 262144), UInt8.ofNat (128 + r / 4096 % 64), UInt8.ofNat (128 + r / 64 % 64), UInt8.ofNat (128 + r % 64)].getD 0 0).toNat = 240 + r / 262144 := ofNat_lt (by omega)
        have b1 : ([UInt8.ofNat (240 + r / 262144), UInt8.ofNat (128 + r / 4096 % 64), UInt8.ofNat (128 + r / 64 % 64), UInt8.ofNat (128 + r % 64)].getD (0 + 1) 0).toNat = 128 + r / 4096 % 64 := ofNat_lt (by omega)
        have b2 : ([UInt8.ofNat (240 + r / 262144), UInt8.ofNat (128 + r / 4096 % 64), UInt8.ofNat (128 + r / 64 % 64), UInt8.ofNat (128 + r % 64)].getD (0 + 2) 0).toNat = 128 + r / 64 % 64 := ofNat_lt (by omega)
        have b3 : ([UInt8.ofNat (240 + r / 262144), UInt8.ofNat (128 + r / 4096 % 64), UInt8.ofNat (128 + r / 64 % 64), UInt8.ofNat (128 + r % 64)].getD (0 + 3) 0).toNat = 128 + r % 64 := ofNat_lt (by omega)
        rw [b0, b1, b2, b3, rlN_4 (by omega) (by omega) (by omega) (by omega) (by omega), if_pos (by simp only [List.length_cons, List.length_nil]; omega)]
        rfl

theorem valid_front {a l : List UInt8} (h0 : 0 < a.length) (h : rl (strOf (a ++ l)) 0 = a.length) : Lib.validD (a ++ l) = Lib.validD l := by
  have := valid_go (strOf (a ++ l)) 0 (by rw [strOf_size, List.length_append]; omega) (by rw [h]; omega)
  rw [strOf_toList, h, Nat.zero_add, List.drop_zero, List.drop_left] at this
  exact this

theorem piece_valid {s : ByteArray} {i r n : Nat} (h : piece s i = some (r, n)) (l : List UInt8) : Lib.validD (enc r ++ l) = Lib.validD l := by
  have fin : r ≤ 1114111 → (r < 55296 ∨ 57344 ≤ r) → Lib.validD (enc r ++ l) = Lib.validD l := fun h1 h2 => by
    have e : enc r = utf r := (utf_enc h1 h2).symm
    rw [e]
    obtain ⟨a, b⟩ := rl_utf r h1 h2 l
    exact valid_front b a
  unfold piece at h
  split at h
  · have := escP_ok h; exact fin this.2.2.1 this.2.2.2
  · split at h
    · cases h
    · have hi : i < s.size := bt_in (by omega)
      split at h
      · injection h with h; injection h with h1 h2
        exact fin (by omega) (by omega)
      · rename_i h8
        split at h
        · cases h
        · rename_i hr
          injection h with h; injection h with h1 h2
          have h8' : ¬ s[i].toNat < 128 := by rw [← bt_at s i hi]; exact h8
          obtain ⟨g1, g2, g3, g4⟩ := enc_multi s i hi hr h8'
          have e : enc r = (s.data.toList.drop i).take (rl s i) := by unfold enc; rw [← h1]; exact g1
          have hle := rl_le s i hi
          have hlen : ((s.data.toList.drop i).take (rl s i)).length = rl s i := by rw [List.length_take, List.length_drop, data_len]; omega
          rw [e]
          refine valid_front (by omega) ?_
          rw [hlen]
          exact rl_same (m := l) hi h8' hr (by rw [strOf_toList, List.drop_zero])

theorem strR_valid {s : ByteArray} : ∀ {i j : Nat} {l : List UInt8}, strR s i = some (l, j) → Lib.validD l = true := by
  intro i
  generalize hn : s.size - i = n
  induction n using Nat.strongRecOn generalizing i with
  | _ n ih =>
    intro j l h
    by_cases h34 : bt s i = 34
    · rw [strR_end h34] at h
      injection h with h; injection h with h1 h2
      subst h1; rfl
    · cases hp : piece s i with
      | none => rw [strR_bad h34 hp] at h; cases h
      | some p =>
        obtain ⟨r, n'⟩ := p
        have hk := piece_ok hp
        rw [strR_go h34 hp] at h
        rcases hq : strR s (i + n') with _ | ⟨l2, j2⟩
        · rw [hq] at h; cases h
        · rw [hq] at h
          injection h with h; injection h with h1 h2
          simp only at h1
          rw [← h1, piece_valid hp]
          exact ih (s.size - (i + n')) (by omega) rfl hq
theorem strQ_valid {s : ByteArray} {i j : Nat} {l : List UInt8} (h : strQ s i = some (l, j)) : Lib.validD l = true := by
  unfold strQ at h
  split at h
  · exact strR_valid h
  · cases h

theorem drop_size2 {s : ByteArray} {i : Nat} {m : List UInt8} (h : s.data.toList.drop i = m) (hm : m ≠ []) : i < s.size := by
  have := drop_size h hm
  have : 0 < m.length := by cases m with
    | nil => exact absurd rfl hm
    | cons _ _ => simp
  omega

/-- Pieces that stand for bytes are read as these bytes, whatever stands behind. -/
theorem str_at (s T : ByteArray) (m : List UInt8) : ∀ (f pos : Nat), s.size ≤ pos + f → Lib.validD (s.data.toList.drop pos) = true → ∀ j, T.data.toList.drop j = qs (s.data.toList.drop pos) ++ 34 :: m → strR T j = some (s.data.toList.drop pos, j + (qs (s.data.toList.drop pos)).length + 1)
  | f, pos, h, hv, j, hj => by
    by_cases hp : pos < s.size
    · cases f with
      | zero => omega
      | succ f =>
        have hr : ¬ rl s pos = 0 := fun e => by rw [valid_bad s pos hp e] at hv; cases hv
        have hv2 := hv
        rw [valid_go s pos hp hr] at hv2
        by_cases h8 : s[pos].toNat < 128
        · have e1 : rl s pos = 1 := by unfold rl; rw [rlN_one (by rw [bt_at s pos hp]; exact h8)]
          rw [e1] at hv2
          have hq : T.data.toList.drop j = qB s[pos] ++ (qs (s.data.toList.drop (pos + 1)) ++ 34 :: m) := by
            rw [hj, drop_at s pos hp]; simp [qs]
          obtain ⟨p1, p2⟩ := piece_q h8 hq
          have ih := str_at s T m f (pos + 1) (by omega) hv2 (j + (qB s[pos]).length) (drop_past hq)
          rw [strR_go p1 p2, ih, enc_lo h8, show UInt8.ofNat s[pos].toNat = s[pos] from UInt8.ofNat_toNat, drop_at s pos hp]
          have e2 : (qs (s[pos] :: s.data.toList.drop (pos + 1))).length = (qB s[pos]).length + (qs (s.data.toList.drop (pos + 1))).length := by simp [qs]
          rw [e2]
          simp only [Option.map_some, Option.some.injEq, Prod.mk.injEq]
          exact ⟨rfl, by omega⟩
        · obtain ⟨g1, g2, g3, g4⟩ := enc_multi s pos hp hr h8
          have hsplit := (List.take_append_drop (rl s pos) (s.data.toList.drop pos)).symm
          rw [List.drop_drop] at hsplit
          have hqs : qs (s.data.toList.drop pos) = (s.data.toList.drop pos).take (rl s pos) ++ qs (s.data.toList.drop (pos + rl s pos)) := by
            conv => lhs; rw [hsplit]
            rw [qs_app, qs_high _ g2]
          have hq : T.data.toList.drop j = (s.data.toList.drop pos).take (rl s pos) ++ (qs (s.data.toList.drop (pos + rl s pos)) ++ 34 :: m) := by
            rw [hj, hqs, List.append_assoc]
          have hle := rl_le s pos hp
          have hlen : ((s.data.toList.drop pos).take (rl s pos)).length = rl s pos := by rw [List.length_take, List.length_drop, data_len]; omega
          have hrl := rl_same hp h8 hr hq
          have ih := str_at s T m f (pos + rl s pos) (by omega) hv2 (j + rl s pos) (by have := drop_past hq; rwa [hlen] at this)
          have hjT : j < T.size := by
            have := drop_size hq (by intro e; have := congrArg List.length e; rw [List.length_append, hlen, List.length_nil] at this; omega)
            rw [List.length_append, hlen] at this; omega
          have b0 : bt T j = bt s pos := by
            have x := bt_drop T j 0
            have y := bt_drop s pos 0
            rw [Nat.add_zero] at x y
            rw [x, y, hq, take_getD _ _ _ _ (by omega) (by rw [List.length_drop, data_len]; omega)]
          have hb0 := bt_at s pos hp
          have b8 : ¬ T[j].toNat < 128 := by rw [← bt_at T j hjT]; omega
          obtain ⟨k1, k2, k3, k4⟩ := enc_multi T j hjT (by rw [hrl]; exact hr) b8
          have hp2 : piece T j = some ((Utf8.decode T j).1, rl s pos) := by
            unfold piece
            rw [if_neg (by omega), if_neg (by omega), if_neg (by omega), if_neg (by rw [hrl]; exact hr), hrl]
          rw [strR_go (by omega) hp2, ih]
          unfold enc
          rw [k1, hq, hrl, hqs]
          simp only [Option.map_some, Option.some.injEq, Prod.mk.injEq]
          refine ⟨?_, by rw [List.length_append, hlen]; omega⟩
          conv => rhs; rw [hsplit]
          rw [List.take_append_of_le_length (by omega), List.take_of_length_le (by omega)]
    · rw [drop_end s pos hp] at hj ⊢
      have b0 := bt_drop T j 0
      rw [hj] at b0
      change bt T j = 34 at b0
      rw [strR_end b0]
      rfl

/-- A quoted text in a text is read back. -/
theorem strQ_at (l : List UInt8) (T : ByteArray) (m : List UInt8) (hv : Lib.validD l = true) (j : Nat) (hj : T.data.toList.drop j = quoted l ++ m) : strQ T j = some (l, j + (quoted l).length) := by
  have hj' : T.data.toList.drop j = 34 :: (qs l ++ 34 :: m) := by rw [hj]; simp [quoted]
  have b : bt T j = 34 := by have := bt_drop T j 0; rw [hj'] at this; exact this
  have h := str_at (strOf l) T m l.length 0 (by rw [strOf_size]; omega) (by rw [strOf_toList]; exact hv) (j + 1) (by
    have := drop_past (m := [34]) (n := qs l ++ 34 :: m) hj'
    rw [strOf_toList]; exact this)
  rw [strOf_toList, List.drop_zero] at h
  unfold strQ
  rw [if_pos b, h]
  have e : (quoted l).length = (qs l).length + 2 := by simp [quoted]
  rw [e]
  congr 2
  omega

mutual
/-- A tree whose strings are valid UTF-8 and whose numbers are such texts as are read. -/
def okV : JV → Prop
  | .nul => True
  | .tt => True
  | .ff => True
  | .num l => ∃ (c : UInt8) (r : List UInt8), l = c :: r ∧ (c.toNat = 45 ∨ isDg c.toNat = true) ∧ ∀ b ∈ r, isDg b.toNat = true
  | .str l => Lib.validD l = true
  | .arr l => okL l
  | .obj m => okM m
def okL : JL → Prop
  | .nil => True
  | .cons v r => okV v ∧ okL r
def okM : JM → Prop
  | .nil => True
  | .cons k v r => Lib.validD k = true ∧ okV v ∧ okM r
end
end Go.Proofs.YtcjajchfjoffnaaGreatDoor

namespace Go.Proofs.YtcjajchfjoffnaaGreatDoor
open Go.RowKit

theorem dgF_all (s : ByteArray) : ∀ f i k, i ≤ k → k < dgF s f i → isDg (bt s k) = true
  | 0, i, k, h1, h2 => by simp [dgF] at h2; omega
  | f + 1, i, k, h1, h2 => by
    rw [dgF] at h2
    split at h2
    · rename_i hd
      by_cases e : k = i
      · subst e; exact hd
      · exact dgF_all s f (i + 1) k (by omega) h2
    · omega
theorem dg_all {s : ByteArray} {i k : Nat} (h1 : i ≤ k) (h2 : k < dg s i) : isDg (bt s k) = true := dgF_all s _ i k h1 h2
theorem cutB_at {s : ByteArray} {i j : Nat} {c : UInt8} (h : c ∈ cutB s i j) : ∃ k, i ≤ k ∧ k < j ∧ c.toNat = bt s k := by
  unfold cutB at h
  obtain ⟨n, hn, rfl⟩ := List.getElem_of_mem h
  rw [List.length_take, List.length_drop] at hn
  refine ⟨i + n, by omega, by omega, ?_⟩
  unfold bt
  rw [data_len] at hn
  have hk : i + n < s.data.size := by show i + n < s.size; omega
  simp only [List.getD, List.getElem_take, List.getElem_drop, Array.getElem_toList, Array.getElem?_toList]
  rw [Array.getElem?_eq_getElem hk]
  rfl
theorem cutB_head {s : ByteArray} {i j : Nat} (h : i < j) (hi : i < s.size) : cutB s i j = s.data.toList.getD i 0 :: cutB s (i + 1) j := by
  unfold cutB
  rw [drop_at s i hi, show j - i = (j - (i + 1)) + 1 by omega, List.take_succ_cons]
  congr 1
  rw [List.getD, List.getElem?_eq_getElem (by rw [data_len]; exact hi)]
  rfl
theorem nm_form {s : ByteArray} {i j : Nat} {l : List UInt8} (h : nm s i = some (l, j)) : ∃ (c : UInt8) (r : List UInt8), l = c :: r ∧ (c.toNat = 45 ∨ isDg c.toNat = true) ∧ ∀ b ∈ r, isDg b.toNat = true := by
  have hok := nm_ok h
  unfold nm at h
  split at h
  · rename_i hd
    injection h with h; injection h with h1 h2
    have hlt : nmD s i < s.size := bt_in (by have := isDg_iff.1 hd; omega)
    have hge : i ≤ nmD s i := by unfold nmD; split <;> omega
    have hall : ∀ k, nmD s i ≤ k → k < nmE s i → isDg (bt s k) = true := fun k h1 h2 => by
      unfold nmE at h2
      split at h2
      · have : k = nmD s i := by omega
        rw [this]; exact hd
      · exact dg_all h1 h2
    have hraw : ∃ (c : UInt8) (r : List UInt8), cutB s i (nmE s i) = c :: r ∧ (c.toNat = 45 ∨ isDg c.toNat = true) ∧ ∀ b ∈ r, isDg b.toNat = true := by
      refine ⟨_, _, cutB_head (by omega) (by omega), ?_, fun b hb => ?_⟩
      · by_cases h45 : bt s i = 45
        · exact .inl h45
        · right
          have e : nmD s i = i := by unfold nmD; rw [if_neg h45]
          rw [e] at hd; exact hd
      · obtain ⟨k, k1, k2, k3⟩ := cutB_at hb
        rw [k3]
        refine hall k ?_ k2
        unfold nmD; split <;> omega
    unfold norm0 at h1
    split at h1
    · exact ⟨48, [], h1.symm, .inr rfl, fun b hb => by simp at hb⟩
    · obtain ⟨c, r, e, a, b⟩ := hraw
      exact ⟨c, r, by rw [← h1, e], a, b⟩
  · cases h

theorem p_okV (s : ByteArray) : ∀ f i, (∀ v j, pv s f i = some (v, j) → okV v) ∧ (∀ l j, pa s f i = some (l, j) → okL l) ∧ (∀ m j, po s f i = some (m, j) → okM m)
  | 0, i => ⟨fun v j h => by simp [pv] at h, fun v j h => by simp [pa] at h, fun v j h => by simp [po] at h⟩
  | f + 1, i => by
    refine ⟨fun v j h => ?_, fun l j h => ?_, fun m j h => ?_⟩
    · rw [pv] at h
      split at h
      · split at h
        · injection h with h; injection h with hv h; subst hv; rw [okV, okL]; trivial
        · simp only [Option.map_eq_some_iff] at h
          obtain ⟨⟨l, k⟩, hk, h⟩ := h
          injection h with hv h
          subst hv; rw [okV]; exact (p_okV s f (sk s (i + 1))).2.1 l k hk
      · split at h
        · split at h
          · injection h with h; injection h with hv h; subst hv; rw [okV, okM]; trivial
          · simp only [Option.map_eq_some_iff] at h
            obtain ⟨⟨l, k⟩, hk, h⟩ := h
            injection h with hv h
            subst hv; rw [okV]; exact (p_okV s f (sk s (i + 1))).2.2 l k hk
        · split at h
          · simp only [Option.map_eq_some_iff] at h
            obtain ⟨⟨l, k⟩, hk, h⟩ := h
            injection h with hv h
            subst hv; rw [okV]; exact strQ_valid hk
          · split at h
            · injection h with h; injection h with hv h; subst hv; rw [okV]; trivial
            · split at h
              · injection h with h; injection h with hv h; subst hv; rw [okV]; trivial
              · split at h
                · injection h with h; injection h with hv h; subst hv; rw [okV]; trivial
                · simp only [Option.map_eq_some_iff] at h
                  obtain ⟨⟨l, k⟩, hk, h⟩ := h
                  injection h with hv h
                  subst hv; rw [okV]; exact nm_form hk
    · rw [pa] at h
      simp only [Option.bind_eq_some_iff] at h
      obtain ⟨⟨v, k⟩, hk, h⟩ := h
      have h1 := (p_okV s f i).1 v k hk
      simp only at h
      split at h
      · injection h with h; injection h with hv h; subst hv; rw [okL, okL]; exact ⟨h1, trivial⟩
      · split at h
        · simp only [Option.map_eq_some_iff] at h
          obtain ⟨⟨l, n⟩, hn, h⟩ := h
          injection h with hv h
          subst hv; rw [okL]; exact ⟨h1, (p_okV s f _).2.1 l n hn⟩
        · cases h
    · rw [po] at h
      simp only [Option.bind_eq_some_iff] at h
      obtain ⟨⟨key, a⟩, ha, h⟩ := h
      have h0 := strQ_valid ha
      simp only at h
      split at h
      · simp only [Option.bind_eq_some_iff] at h
        obtain ⟨⟨v, k⟩, hk, h⟩ := h
        have h1 := (p_okV s f _).1 v k hk
        simp only at h
        split at h
        · injection h with h; injection h with hv h; subst hv; rw [okM, okM]; exact ⟨h0, h1, trivial⟩
        · split at h
          · simp only [Option.map_eq_some_iff] at h
            obtain ⟨⟨l, n⟩, hn, h⟩ := h
            injection h with hv h
            subst hv; rw [okM]; exact ⟨h0, h1, (p_okV s f _).2.2 l n hn⟩
          · cases h
      · cases h
theorem val_okV {s : ByteArray} {i j : Nat} {v : JV} (h : val s i = some (v, j)) : okV v := (p_okV s _ i).1 v j h

mutual
theorem dep_cnt : ∀ v : JV, depV v ≤ cntV v ∧ 1 ≤ depV v
  | .nul => ⟨Nat.le_refl _, Nat.le_refl _⟩
  | .tt => ⟨Nat.le_refl _, Nat.le_refl _⟩
  | .ff => ⟨Nat.le_refl _, Nat.le_refl _⟩
  | .num _ => ⟨Nat.le_refl _, Nat.le_refl _⟩
  | .str _ => ⟨Nat.le_refl _, Nat.le_refl _⟩
  | .arr l => by rw [depV, cntV]; have := dep_cntL l; omega
  | .obj m => by rw [depV, cntV]; have := dep_cntM m; omega
theorem dep_cntL : ∀ l : JL, depL l ≤ cntL l
  | .nil => Nat.le_refl _
  | .cons v r => by rw [depL, cntL]; have := dep_cntL r; have := dep_cnt v; omega
theorem dep_cntM : ∀ m : JM, depM m ≤ cntM m
  | .nil => Nat.le_refl _
  | .cons k v r => by rw [depM, cntM]; have := dep_cntM r; have := dep_cnt v; omega
end
end Go.Proofs.YtcjajchfjoffnaaGreatDoor

namespace Go.Proofs.YtcjajchfjoffnaaGreatDoor
open Go.RowKit

theorem strR_len {s : ByteArray} : ∀ {i j : Nat} {l : List UInt8}, strR s i = some (l, j) → l.length + 4 * (i + 1) ≤ 4 * j := by
  intro i
  generalize hn : s.size - i = n
  induction n using Nat.strongRecOn generalizing i with
  | _ n ih =>
    intro j l h
    by_cases h34 : bt s i = 34
    · rw [strR_end h34] at h
      injection h with h; injection h with h1 h2
      subst h1; simp; omega
    · cases hp : piece s i with
      | none => rw [strR_bad h34 hp] at h; cases h
      | some p =>
        obtain ⟨r, n'⟩ := p
        have hk := piece_ok hp
        have he := enc_le r
        rw [strR_go h34 hp] at h
        rcases hq : strR s (i + n') with _ | ⟨l2, j2⟩
        · rw [hq] at h; cases h
        · rw [hq] at h
          injection h with h; injection h with h1 h2
          have := ih (s.size - (i + n')) (by omega) rfl hq
          subst h1
          simp only [List.length_append]
          simp only at h2
          omega
theorem strQ_len {s : ByteArray} {i j : Nat} {l : List UInt8} (h : strQ s i = some (l, j)) : l.length + 4 * (i + 2) ≤ 4 * j := by
  unfold strQ at h
  split at h
  · have := strR_len h; omega
  · cases h
theorem quoted_len (l : List UInt8) : (quoted l).length ≤ 6 * l.length + 2 := by
  have := qs_le l
  unfold quoted; simp only [List.length_cons, List.length_append, List.length_nil]; omega
theorem nm_len {s : ByteArray} {i j : Nat} {l : List UInt8} (h : nm s i = some (l, j)) : l.length + i ≤ j := by
  have hk := nm_ok h
  unfold nm at h
  split at h
  · injection h with h; injection h with h1 h2
    subst h1; subst h2
    unfold norm0 cutB
    split
    · simp; omega
    · rw [List.length_take, List.length_drop, data_len]; omega
  · cases h

def sumT (l : List (List UInt8 × List UInt8)) : Nat := (l.map fun p => (memT p).length + 1).sum
theorem sumT_ins (p : List UInt8 × List UInt8) : ∀ l, sumT (insR p l) = (memT p).length + 1 + sumT l
  | [] => by simp [insR, sumT]
  | q :: r => by
    have := sumT_ins p r
    unfold insR
    split
    · simp [sumT] at *; omega
    · simp [sumT]
theorem sumT_fold : ∀ (l acc : List (List UInt8 × List UInt8)), sumT (l.foldl (fun acc p => insR p acc) acc) = sumT l + sumT acc
  | [], acc => by simp [sumT]
  | p :: l, acc => by
    rw [List.foldl_cons, sumT_fold l, sumT_ins]
    simp [sumT]; omega
theorem sumT_rev (l : List (List UInt8 × List UInt8)) : sumT l.reverse = sumT l := by
  unfold sumT; rw [List.map_reverse, List.sum_reverse]
theorem sumT_isort (l : List (List UInt8 × List UInt8)) : sumT (isort l) = sumT l := by
  unfold isort; rw [sumT_rev, sumT_fold]; simp [sumT]
theorem joinT_len : ∀ l : List (List UInt8), (joinT l).length = (l.map fun t => t.length + 1).sum
  | [] => rfl
  | t :: r => by simp [joinT, joinT_len r]; omega
theorem joinC_len (l : List (List UInt8)) : (joinC l).length ≤ (l.map fun t => t.length + 1).sum := by
  cases l with
  | nil => simp [joinC]
  | cons t r => simp [joinC, joinT_len]
theorem mkO_len (l : List (List UInt8 × List UInt8)) : (mkO (isort l)).length ≤ sumT l + 2 := by
  have h := joinC_len ((isort l).map memT)
  rw [List.map_map] at h
  have e : ((isort l).map ((fun t => t.length + 1) ∘ memT)).sum = sumT l := by rw [← sumT_isort l]; rfl
  rw [e] at h
  unfold mkO
  simp only [List.length_cons, List.length_append, List.length_nil]; omega

theorem p_len (s : ByteArray) : ∀ f i, (∀ v j, pv s f i = some (v, j) → (ct v).length ≤ 30 * (j - i)) ∧ (∀ l j, pa s f i = some (l, j) → ((ctL l).map fun t => t.length + 1).sum + 2 ≤ 30 * (j - i)) ∧ (∀ m j, po s f i = some (m, j) → sumT (ctM m) + 2 ≤ 30 * (j - i))
  | 0, i => ⟨fun v j h => by simp [pv] at h, fun v j h => by simp [pa] at h, fun v j h => by simp [po] at h⟩
  | f + 1, i => by
    refine ⟨fun v j h => ?_, fun l j h => ?_, fun m j h => ?_⟩
    · have hok := (p_ok s (f + 1) i).1 v j h
      rw [pv] at h
      have g := sk_ge s (i + 1)
      split at h
      · split at h
        · injection h with h; injection h with h0 h
          subst h0
          simp [ct, ctL, mkA, joinC]; omega
        · simp only [Option.map_eq_some_iff] at h
          obtain ⟨⟨l, k⟩, hk, h⟩ := h
          injection h with h0 h
          have h1 := (p_len s f (sk s (i + 1))).2.1 l k hk
          have h2 := (p_ok s f (sk s (i + 1))).2.1 l k hk
          have h3 := joinC_len (ctL l)
          subst h0
          simp only [ct, mkA, List.length_cons, List.length_append, List.length_nil]
          simp only at h; omega
      · split at h
        · split at h
          · injection h with h; injection h with h0 h
            subst h0
            simp [ct, ctM, mkO, isort, joinC]; omega
          · simp only [Option.map_eq_some_iff] at h
            obtain ⟨⟨l, k⟩, hk, h⟩ := h
            injection h with h0 h
            have h1 := (p_len s f (sk s (i + 1))).2.2 l k hk
            have h2 := (p_ok s f (sk s (i + 1))).2.2 l k hk
            have h3 := mkO_len (ctM l)
            subst h0
            simp only [ct]
            simp only at h; omega
        · split at h
          · simp only [Option.map_eq_some_iff] at h
            obtain ⟨⟨l, k⟩, hk, h⟩ := h
            injection h with h0 h
            have h1 := strQ_len hk
            have h2 := quoted_len l
            subst h0
            simp only [ct]
            simp only at h; omega
          · split at h
            · injection h with h; injection h with h0 h
              subst h0; simp [ct]; omega
            · split at h
              · injection h with h; injection h with h0 h
                subst h0; simp [ct]; omega
              · split at h
                · injection h with h; injection h with h0 h
                  subst h0; simp [ct]; omega
                · simp only [Option.map_eq_some_iff] at h
                  obtain ⟨⟨l, k⟩, hk, h⟩ := h
                  injection h with h0 h
                  have h1 := nm_len hk
                  subst h0
                  simp only [ct]
                  simp only at h; omega
    · rw [pa] at h
      simp only [Option.bind_eq_some_iff] at h
      obtain ⟨⟨v, k⟩, hk, h⟩ := h
      have h1 := (p_ok s f i).1 v k hk
      have h1' := (p_len s f i).1 v k hk
      have g1 := sk_ge s k
      simp only at h
      split at h
      · injection h with h; injection h with h0 h
        subst h0
        simp [ctL]; omega
      · split at h
        · simp only [Option.map_eq_some_iff] at h
          obtain ⟨⟨l, n⟩, hn, h⟩ := h
          injection h with h0 h
          have h2 := (p_ok s f _).2.1 l n hn
          have h2' := (p_len s f _).2.1 l n hn
          have g2 := sk_ge s (sk s k + 1)
          subst h0
          simp only [ctL, List.map_cons, List.sum_cons]
          simp only at h; omega
        · cases h
    · rw [po] at h
      simp only [Option.bind_eq_some_iff] at h
      obtain ⟨⟨key, a⟩, ha, h⟩ := h
      have h0 := strQ_ok ha
      have h0' := strQ_len ha
      have hq := quoted_len key
      simp only at h
      split at h
      · simp only [Option.bind_eq_some_iff] at h
        obtain ⟨⟨v, k⟩, hk, h⟩ := h
        have h1 := (p_ok s f _).1 v k hk
        have h1' := (p_len s f _).1 v k hk
        have g0 := sk_ge s a
        have g3 := sk_ge s (sk s a + 1)
        have g1 := sk_ge s k
        simp only at h
        split at h
        · injection h with h; injection h with h0 h
          subst h0
          simp [ctM, sumT, memT]; omega
        · split at h
          · simp only [Option.map_eq_some_iff] at h
            obtain ⟨⟨l, n⟩, hn, h⟩ := h
            injection h with h0 h
            have h2 := (p_ok s f _).2.2 l n hn
            have h2' := (p_len s f _).2.2 l n hn
            have g2 := sk_ge s (sk s k + 1)
            subst h0
            have e : sumT (ctM (.cons key v l)) = (memT (key, ct v)).length + 1 + sumT (ctM l) := by simp [ctM, sumT]
            have e2 : (memT (key, ct v)).length = (quoted key).length + 1 + (ct v).length := by simp [memT]; omega
            simp only at h ⊢
            omega
          · cases h
      · cases h
theorem val_len {s : ByteArray} {i j : Nat} {v : JV} (h : val s i = some (v, j)) : (ct v).length ≤ 30 * (j - i) := (p_len s _ i).1 v j h
end Go.Proofs.YtcjajchfjoffnaaGreatDoor
