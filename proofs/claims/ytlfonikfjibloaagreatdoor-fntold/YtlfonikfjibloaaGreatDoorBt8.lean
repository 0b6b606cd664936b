import Derived.Deep.LoopGhost
import Derived.Test.YtlfonikfjibloaaGreatDoorBt6
import Derived.Test.YtlfonikfjibloaaGreatDoorBt1
import Derived.Laws.DeepStrings4
namespace Go.Proofs.YtlfonikfjibloaaGreatDoor
open Go.RowKit

/-- The first place from i on that holds no blank. -/
def skF (s : ByteArray) : Nat → Nat → Nat
  | 0, i => i
  | f + 1, i => if bt s i = 32 ∨ bt s i = 9 ∨ bt s i = 10 ∨ bt s i = 13 then skF s f (i + 1) else i
def sk (s : ByteArray) (i : Nat) : Nat := skF s (s.size - i) i
theorem sk_on {s : ByteArray} {i : Nat} (h : bt s i = 32 ∨ bt s i = 9 ∨ bt s i = 10 ∨ bt s i = 13) : sk s i = sk s (i + 1) := by
  have hi : i < s.size := bt_in (by omega)
  unfold sk
  rw [show s.size - i = (s.size - (i + 1)) + 1 by omega, skF, if_pos h]
theorem sk_off {s : ByteArray} {i : Nat} (h : ¬ (bt s i = 32 ∨ bt s i = 9 ∨ bt s i = 10 ∨ bt s i = 13)) : sk s i = i := by
  unfold sk
  cases s.size - i with
  | zero => rfl
  | succ f => rw [skF, if_neg h]
theorem skF_le (s : ByteArray) : ∀ f i, i + f ≤ s.size → i ≤ skF s f i ∧ skF s f i ≤ i + f
  | 0, i, _ => ⟨Nat.le_refl _, Nat.le_refl _⟩
  | f + 1, i, h => by
    rw [skF]
    split
    · have := skF_le s f (i + 1) (by omega); omega
    · omega
theorem sk_le {s : ByteArray} {i : Nat} (h : i ≤ s.size) : i ≤ sk s i ∧ sk s i ≤ s.size := by
  have := skF_le s (s.size - i) i (by omega)
  unfold sk; omega
theorem sk_past {s : ByteArray} {i : Nat} (h : s.size ≤ i) : sk s i = i := by
  unfold sk; rw [show s.size - i = 0 by omega]; rfl
theorem sk_end (s : ByteArray) (i : Nat) : ¬ (bt s (sk s i) = 32 ∨ bt s (sk s i) = 9 ∨ bt s (sk s i) = 10 ∨ bt s (sk s i) = 13) := by
  generalize hn : s.size - i = n
  induction n generalizing i with
  | zero => rw [sk_past (by omega), bt_out s i (by omega)]; omega
  | succ n ih =>
    by_cases h : bt s i = 32 ∨ bt s i = 9 ∨ bt s i = 10 ∨ bt s i = 13
    · rw [sk_on h]; exact ih (i + 1) (by omega)
    · rw [sk_off h]; exact h

set_option maxHeartbeats 1600000 in
theorem skipBlanks_walk (rb : Nat) (s : ByteArray) (i : Nat) (tb kt : Bool) (w : World) (h : Rdr rb s i tb kt w) (hs : s.size ≤ 1048576) (hi : i ≤ s.size) :
    Calls Tryz.prog 153 #[.pointer (some ⟨rb, 0, none⟩)] w fun e w' => e = .returned (.tuple #[]) ∧ Rdr rb s (sk s i) tb kt w' ∧ KB rb w w' := by
  have R0 := hide h
  clear h
  go_enter Tryz.func153, Tryz.ntmps153
  go_wp2_with fail
  go_loopg [] (s.size - i) (fun g wr => ∃ j : Nat, g = s.size - j ∧ j ≤ s.size ∧ Rdr rb s j tb kt wr ∧ KB rb w wr ∧ sk s i = sk s j)
  case atStart => exact ⟨i, rfl, hi, unhide R0, KB.refl _ _, rfl⟩
  case round =>
    obtain ⟨j, hg, hj, hr, hk, hst⟩ := hrel
    have HR := hide hr
    have HST := hide hst
    clear hr hst R0
    have HY : Hid (∀ (c : Nat) wa, c ≠ 0 → bt s j = c → Rdr rb s j tb kt wa → Calls Tryz.prog 198 #[.pointer (some ⟨rb, 0, none⟩), .int .u8 c] wa fun e w' => e = .returned (.bool true) ∧ Rdr rb s (j + 1) tb kt w' ∧ KB rb wa w') := fun c wa h0 hc hr => skip_yes rb s j tb kt wa hr hs c hc (bt_in (by omega))
    have HN : Hid (∀ (c : Nat) wa, bt s j ≠ c → Rdr rb s j tb kt wa → Calls Tryz.prog 198 #[.pointer (some ⟨rb, 0, none⟩), .int .u8 c] wa fun e w' => e = .returned (.bool false) ∧ Rdr rb s j tb kt w' ∧ KB rb wa w') := fun c wa hc hr => skip_no rb s j tb kt wa hr hj c (.inl hc)
    by_cases c1 : bt s j = 32
    · have HX : Hid (sk s i = sk s (j + 1)) := by show _ = _; rw [unhide HST, sk_on (.inl c1)]
      have hlt : j < s.size := bt_in (by omega)
      go_wp2_with fail
      refine (unhide HY 32 _ (by decide) c1 (unhide HR)).mono ?_
      rintro e w2 ⟨rfl, r2, k2⟩
      have R2 := hide r2
      clear r2
      go_wp2
      go_roundg (s.size - (j + 1))
      case rel => exact ⟨j + 1, rfl, by omega, unhide R2, hk.trans k2, unhide HX⟩
      case measure => omega
    by_cases c2 : bt s j = 9
    · have HX : Hid (sk s i = sk s (j + 1)) := by show _ = _; rw [unhide HST, sk_on (.inr (.inl c2))]
      have hlt : j < s.size := bt_in (by omega)
      go_wp2_with fail
      refine (unhide HN 32 _ c1 (unhide HR)).mono ?_
      rintro e w2 ⟨rfl, r2, k2⟩
      have R2 := hide r2
      clear r2
      go_wp2_with fail
      refine (unhide HY 9 _ (by decide) c2 (unhide R2)).mono ?_
      rintro e w3 ⟨rfl, r3, k3⟩
      have R3 := hide r3
      clear r3
      go_wp2
      go_roundg (s.size - (j + 1))
      case rel => exact ⟨j + 1, rfl, by omega, unhide R3, (hk.trans k2).trans k3, unhide HX⟩
      case measure => omega
    by_cases c3 : bt s j = 10
    · have HX : Hid (sk s i = sk s (j + 1)) := by show _ = _; rw [unhide HST, sk_on (.inr (.inr (.inl c3)))]
      have hlt : j < s.size := bt_in (by omega)
      go_wp2_with fail
      refine (unhide HN 32 _ c1 (unhide HR)).mono ?_
      rintro e w2 ⟨rfl, r2, k2⟩
      have R2 := hide r2
      clear r2
      go_wp2_with fail
      refine (unhide HN 9 _ c2 (unhide R2)).mono ?_
      rintro e w3 ⟨rfl, r3, k3⟩
      have R3 := hide r3
      clear r3
      go_wp2_with fail
      refine (unhide HY 10 _ (by decide) c3 (unhide R3)).mono ?_
      rintro e w4 ⟨rfl, r4, k4⟩
      have R4 := hide r4
      clear r4
      go_wp2
      go_roundg (s.size - (j + 1))
      case rel => exact ⟨j + 1, rfl, by omega, unhide R4, ((hk.trans k2).trans k3).trans k4, unhide HX⟩
      case measure => omega
    go_wp2_with fail
    refine (unhide HN 32 _ c1 (unhide HR)).mono ?_
    rintro e w2 ⟨rfl, r2, k2⟩
    have R2 := hide r2
    clear r2
    go_wp2_with fail
    refine (unhide HN 9 _ c2 (unhide R2)).mono ?_
    rintro e w3 ⟨rfl, r3, k3⟩
    have R3 := hide r3
    clear r3
    go_wp2_with fail
    refine (unhide HN 10 _ c3 (unhide R3)).mono ?_
    rintro e w4 ⟨rfl, r4, k4⟩
    have R4 := hide r4
    clear r4
    by_cases c4 : bt s j = 13
    · have HX : Hid (sk s i = sk s (j + 1)) := by show _ = _; rw [unhide HST, sk_on (.inr (.inr (.inr c4)))]
      have hlt : j < s.size := bt_in (by omega)
      go_wp2_with fail
      refine (unhide HY 13 _ (by decide) c4 (unhide R4)).mono ?_
      rintro e w5 ⟨rfl, r5, k5⟩
      have R5 := hide r5
      clear r5
      go_wp2
      go_roundg (s.size - (j + 1))
      case rel => exact ⟨j + 1, rfl, by omega, unhide R5, (((hk.trans k2).trans k3).trans k4).trans k5, unhide HX⟩
      case measure => omega
    · have HX : Hid (sk s i = j) := by show _ = _; rw [unhide HST, sk_off (by omega)]
      go_wp2_with fail
      refine (unhide HN 13 _ c4 (unhide R4)).mono ?_
      rintro e w5 ⟨rfl, r5, k5⟩
      have R5 := hide r5
      clear r5
      go_wp2
      go_end0
      exact ⟨rfl, by rw [unhide HX]; exact unhide R5, (((hk.trans k2).trans k3).trans k4).trans k5⟩

set_option maxHeartbeats 800000 in
theorem peek_walk (rb : Nat) (s : ByteArray) (i : Nat) (tb kt : Bool) (w : World) (h : Rdr rb s i tb kt w) (hi : i ≤ s.size) :
    Calls Tryz.prog 199 #[.pointer (some ⟨rb, 0, none⟩)] w fun e w' => e = .returned (.int .u8 (bt s i)) ∧ Rdr rb s i tb kt w' ∧ KB rb w w' := by
  have c0 := h.text
  have c1 := h.at
  have H := hide h
  clear h
  by_cases hi' : i = s.size
  · have hne : ((i : Int) == (s.size : Int)) = true := by rw [beq_iff_eq]; omega
    have HB := hide (bt_out s i (by omega))
    go_enter Tryz.func199, Tryz.ntmps199
    go_wp2_with fail
    go_quiet (fail)
    go_wp2
    go_ret
    exact ⟨by rw [unhide HB]; rfl, (unhide H).drewN _, (KB.refl rb w).drewN _⟩
  · have h0 : i < s.size := by omega
    have hne : ((i : Int) == (s.size : Int)) = false := by rw [beq_eq_false_iff_ne]; omega
    have HB := hide (bt_at s i h0)
    go_enter Tryz.func199, Tryz.ntmps199
    go_wp2_with fail
    go_quiet (fail)
    go_wp2_with fail
    go_quiet (fail)
    go_wp2
    go_ret
    exact ⟨by rw [unhide HB]; rfl, ((unhide H).drewN _).drewN _, ((KB.refl rb w).drewN _).drewN _⟩
end Go.Proofs.YtlfonikfjibloaaGreatDoor

namespace Go.Proofs.YtlfonikfjibloaaGreatDoor
open Go.RowKit

mutual
/-- A value of JSON as it was read: numbers as their canonical texts, members in the text's order, a key twice where it came twice. -/
inductive JV where
  | nul | tt | ff
  | num (l : List UInt8)
  | str (l : List UInt8)
  | arr (l : JL)
  | obj (m : JM)
inductive JL where
  | nil
  | cons (v : JV) (r : JL)
inductive JM where
  | nil
  | cons (k : List UInt8) (v : JV) (r : JM)
end

def isDg (b : Nat) : Bool := decide (48 ≤ b) && decide (b ≤ 57)
theorem isDg_iff {b : Nat} : isDg b = true ↔ 48 ≤ b ∧ b ≤ 57 := by simp [isDg]
/-- The first place from i on that holds no digit. -/
def dgF (s : ByteArray) : Nat → Nat → Nat
  | 0, i => i
  | f + 1, i => if isDg (bt s i) = true then dgF s f (i + 1) else i
def dg (s : ByteArray) (i : Nat) : Nat := dgF s (s.size - i) i
theorem dg_on {s : ByteArray} {i : Nat} (h : isDg (bt s i) = true) : dg s i = dg s (i + 1) := by
  have hi : i < s.size := bt_in (by have := isDg_iff.1 h; omega)
  unfold dg
  rw [show s.size - i = (s.size - (i + 1)) + 1 by omega, dgF, if_pos h]
theorem dg_off {s : ByteArray} {i : Nat} (h : ¬ isDg (bt s i) = true) : dg s i = i := by
  unfold dg
  cases s.size - i with
  | zero => rfl
  | succ f => rw [dgF, if_neg h]
theorem dgF_le (s : ByteArray) : ∀ f i, i + f ≤ s.size → i ≤ dgF s f i ∧ dgF s f i ≤ i + f
  | 0, i, _ => ⟨Nat.le_refl _, Nat.le_refl _⟩
  | f + 1, i, h => by
    rw [dgF]
    split
    · have := dgF_le s f (i + 1) (by omega); omega
    · omega
theorem dg_le {s : ByteArray} {i : Nat} (h : i ≤ s.size) : i ≤ dg s i ∧ dg s i ≤ s.size := by
  have := dgF_le s (s.size - i) i (by omega)
  unfold dg; omega

/-- The bytes from i to j. -/
def cutB (s : ByteArray) (i j : Nat) : List UInt8 := (s.data.toList.drop i).take (j - i)
/-- Where a number's digits begin and end. -/
def nmD (s : ByteArray) (i : Nat) : Nat := if bt s i = 45 then i + 1 else i
def nmE (s : ByteArray) (i : Nat) : Nat := if bt s (nmD s i) = 48 then nmD s i + 1 else dg s (nmD s i)
def norm0 (l : List UInt8) : List UInt8 := if l = [45, 48] then [48] else l
def nm (s : ByteArray) (i : Nat) : Option (List UInt8 × Nat) := if isDg (bt s (nmD s i)) = true then some (norm0 (cutB s i (nmE s i)), nmE s i) else none
theorem nm_ok {s : ByteArray} {i j : Nat} {l : List UInt8} (h : nm s i = some (l, j)) : i < j ∧ j ≤ s.size := by
  unfold nm at h
  split at h
  · rename_i hd
    injection h with h; injection h with h1 h2
    subst h2
    have hlt : nmD s i < s.size := bt_in (by have := isDg_iff.1 hd; omega)
    have hge : i ≤ nmD s i := by unfold nmD; split <;> omega
    unfold nmE
    split
    · omega
    · rw [dg_on hd]
      have := dg_le (s := s) (i := nmD s i + 1) (by omega)
      omega
  · cases h
theorem strR_ok {s : ByteArray} : ∀ {i j : Nat} {l : List UInt8}, strR s i = some (l, j) → i < j ∧ j ≤ s.size := by
  intro i
  generalize hn : s.size - i = n
  induction n using Nat.strongRecOn generalizing i with
  | _ n ih =>
    intro j l h
    by_cases h34 : bt s i = 34
    · rw [strR_end h34] at h
      injection h with h; injection h with h1 h2
      have := bt_in (s := s) (i := i) (by omega)
      omega
    · cases hp : piece s i with
      | none => rw [strR_bad h34 hp] at h; cases h
      | some p =>
        obtain ⟨r, n'⟩ := p
        have hk := piece_ok hp
        rw [strR_go h34 hp] at h
        rcases hq : strR s (i + n') with _ | ⟨l2, j2⟩
        · rw [hq] at h; cases h
        · rw [hq] at h
          injection h with h; injection h with h1 h2
          have := ih (s.size - (i + n')) (by omega) rfl hq
          omega
theorem strQ_ok {s : ByteArray} {i j : Nat} {l : List UInt8} (h : strQ s i = some (l, j)) : i + 1 < j ∧ j ≤ s.size := by
  unfold strQ at h
  split at h
  · have := strR_ok h; omega
  · cases h

def wNull (s : ByteArray) (i : Nat) : Bool := bt s i == 110 && bt s (i + 1) == 117 && bt s (i + 2) == 108 && bt s (i + 3) == 108
def wTrue (s : ByteArray) (i : Nat) : Bool := bt s i == 116 && bt s (i + 1) == 114 && bt s (i + 2) == 117 && bt s (i + 3) == 101
def wFalse (s : ByteArray) (i : Nat) : Bool := bt s i == 102 && bt s (i + 1) == 97 && bt s (i + 2) == 108 && bt s (i + 3) == 115 && bt s (i + 4) == 101

mutual
/-- A value whose first byte stands at place i, and the place behind it. -/
def pv (s : ByteArray) : Nat → Nat → Option (JV × Nat)
  | 0, _ => none
  | f + 1, i =>
    if bt s i = 91 then (if bt s (sk s (i + 1)) = 93 then some (.arr .nil, sk s (i + 1) + 1) else (pa s f (sk s (i + 1))).map fun q => (.arr q.1, q.2))
    else if bt s i = 123 then (if bt s (sk s (i + 1)) = 125 then some (.obj .nil, sk s (i + 1) + 1) else (po s f (sk s (i + 1))).map fun q => (.obj q.1, q.2))
    else if bt s i = 34 then (strQ s i).map fun q => (.str q.1, q.2)
    else if wNull s i = true then some (.nul, i + 4)
    else if wTrue s i = true then some (.tt, i + 4)
    else if wFalse s i = true then some (.ff, i + 5)
    else (nm s i).map fun q => (.num q.1, q.2)
/-- The items from place i on, up to the bracket that closes. -/
def pa (s : ByteArray) : Nat → Nat → Option (JL × Nat)
  | 0, _ => none
  | f + 1, i => (pv s f i).bind fun q =>
    if bt s (sk s q.2) = 93 then some (.cons q.1 .nil, sk s q.2 + 1)
    else if bt s (sk s q.2) = 44 then (pa s f (sk s (sk s q.2 + 1))).map fun r => (.cons q.1 r.1, r.2)
    else none
/-- The members from place i on, up to the bracket that closes. -/
def po (s : ByteArray) : Nat → Nat → Option (JM × Nat)
  | 0, _ => none
  | f + 1, i => (strQ s i).bind fun k =>
    if bt s (sk s k.2) = 58 then (pv s f (sk s (sk s k.2 + 1))).bind fun q =>
      if bt s (sk s q.2) = 125 then some (.cons k.1 q.1 .nil, sk s q.2 + 1)
      else if bt s (sk s q.2) = 44 then (po s f (sk s (sk s q.2 + 1))).map fun r => (.cons k.1 q.1 r.1, r.2)
      else none
    else none
end
end Go.Proofs.YtlfonikfjibloaaGreatDoor

namespace Go.Proofs.YtlfonikfjibloaaGreatDoor
open Go.RowKit

theorem sk_ge (s : ByteArray) (i : Nat) : i ≤ sk s i := by
  rcases Nat.le_total i s.size with h | h
  · exact (sk_le h).1
  · rw [sk_past h]; exact Nat.le_refl _
theorem wNull_in {s : ByteArray} {i : Nat} (h : wNull s i = true) : i + 4 ≤ s.size := by
  simp [wNull] at h
  have := bt_in (s := s) (i := i + 3) (by omega); omega
theorem wTrue_in {s : ByteArray} {i : Nat} (h : wTrue s i = true) : i + 4 ≤ s.size := by
  simp [wTrue] at h
  have := bt_in (s := s) (i := i + 3) (by omega); omega
theorem wFalse_in {s : ByteArray} {i : Nat} (h : wFalse s i = true) : i + 5 ≤ s.size := by
  simp [wFalse] at h
  have := bt_in (s := s) (i := i + 4) (by omega); omega

theorem p_ok (s : ByteArray) : ∀ f i, (∀ v j, pv s f i = some (v, j) → i < j ∧ j ≤ s.size) ∧ (∀ l j, pa s f i = some (l, j) → i < j ∧ j ≤ s.size) ∧ (∀ m j, po s f i = some (m, j) → i < j ∧ j ≤ s.size)
  | 0, i => ⟨fun v j h => by simp [pv] at h, fun v j h => by simp [pa] at h, fun v j h => by simp [po] at h⟩
  | f + 1, i => by
    refine ⟨fun v j h => ?_, fun l j h => ?_, fun m j h => ?_⟩
    · rw [pv] at h
      have g := sk_ge s (i + 1)
      split at h
      · split at h
        · have := bt_in (s := s) (i := sk s (i + 1)) (by omega)
          injection h with h; injection h with _ h; omega
        · simp only [Option.map_eq_some_iff] at h
          obtain ⟨⟨l, k⟩, hk, h⟩ := h
          injection h with _ h
          have := (p_ok s f (sk s (i + 1))).2.1 l k hk
          simp only at h; omega
      · split at h
        · split at h
          · have := bt_in (s := s) (i := sk s (i + 1)) (by omega)
            injection h with h; injection h with _ h; omega
          · simp only [Option.map_eq_some_iff] at h
            obtain ⟨⟨l, k⟩, hk, h⟩ := h
            injection h with _ h
            have := (p_ok s f (sk s (i + 1))).2.2 l k hk
            simp only at h; omega
        · split at h
          · simp only [Option.map_eq_some_iff] at h
            obtain ⟨⟨l, k⟩, hk, h⟩ := h
            injection h with _ h
            have := strQ_ok hk
            simp only at h; omega
          · split at h
            · rename_i hw
              have := wNull_in hw
              injection h with h; injection h with _ h; omega
            · split at h
              · rename_i hw
                have := wTrue_in hw
                injection h with h; injection h with _ h; omega
              · split at h
                · rename_i hw
                  have := wFalse_in hw
                  injection h with h; injection h with _ h; omega
                · simp only [Option.map_eq_some_iff] at h
                  obtain ⟨⟨l, k⟩, hk, h⟩ := h
                  injection h with _ h
                  have := nm_ok hk
                  simp only at h; omega
    · rw [pa] at h
      simp only [Option.bind_eq_some_iff] at h
      obtain ⟨⟨v, k⟩, hk, h⟩ := h
      have h1 := (p_ok s f i).1 v k hk
      have g1 := sk_ge s k
      simp only at h
      split at h
      · have := bt_in (s := s) (i := sk s k) (by omega)
        injection h with h; injection h with _ h; omega
      · split at h
        · simp only [Option.map_eq_some_iff] at h
          obtain ⟨⟨l, n⟩, hn, h⟩ := h
          injection h with _ h
          have := (p_ok s f _).2.1 l n hn
          have g2 := sk_ge s (sk s k + 1)
          simp only at h; omega
        · cases h
    · rw [po] at h
      simp only [Option.bind_eq_some_iff] at h
      obtain ⟨⟨key, a⟩, ha, h⟩ := h
      have h0 := strQ_ok ha
      simp only at h
      split at h
      · simp only [Option.bind_eq_some_iff] at h
        obtain ⟨⟨v, k⟩, hk, h⟩ := h
        have h1 := (p_ok s f _).1 v k hk
        have g0 := sk_ge s a
        have g3 := sk_ge s (sk s a + 1)
        have g1 := sk_ge s k
        simp only at h
        split at h
        · have := bt_in (s := s) (i := sk s k) (by omega)
          injection h with h; injection h with _ h; omega
        · split at h
          · simp only [Option.map_eq_some_iff] at h
            obtain ⟨⟨l, n⟩, hn, h⟩ := h
            injection h with _ h
            have := (p_ok s f _).2.2 l n hn
            have g2 := sk_ge s (sk s k + 1)
            simp only at h; omega
          · cases h
      · cases h

theorem p_same (s : ByteArray) : ∀ f g i, (2 * (s.size - i) + 1 ≤ f → 2 * (s.size - i) + 1 ≤ g → pv s f i = pv s g i) ∧ (2 * (s.size - i) + 2 ≤ f → 2 * (s.size - i) + 2 ≤ g → pa s f i = pa s g i ∧ po s f i = po s g i)
  | 0, g, i => ⟨fun h _ => by omega, fun h _ => by omega⟩
  | f + 1, 0, i => ⟨fun _ h => by omega, fun _ h => by omega⟩
  | f + 1, g + 1, i => by
    refine ⟨fun hf hg => ?_, fun hf hg => ⟨?_, ?_⟩⟩
    · rw [pv, pv]
      have g0 := sk_ge s (i + 1)
      by_cases c1 : bt s i = 91
      · have hi := bt_in (s := s) (i := i) (by omega)
        rw [if_pos c1, if_pos c1, ((p_same s f g (sk s (i + 1))).2 (by omega) (by omega)).1]
      · rw [if_neg c1, if_neg c1]
        by_cases c2 : bt s i = 123
        · have hi := bt_in (s := s) (i := i) (by omega)
          rw [if_pos c2, if_pos c2, ((p_same s f g (sk s (i + 1))).2 (by omega) (by omega)).2]
        · rw [if_neg c2, if_neg c2]
    · rw [pa, pa, (p_same s f g i).1 (by omega) (by omega)]
      cases hk : pv s g i with
      | none => rfl
      | some q =>
        obtain ⟨v, k⟩ := q
        have h1 := (p_ok s g i).1 v k hk
        have g1 := sk_ge s k
        have g2 := sk_ge s (sk s k + 1)
        simp only [Option.bind_some]
        rw [((p_same s f g (sk s (sk s k + 1))).2 (by omega) (by omega)).1]
    · rw [po, po]
      cases ha : strQ s i with
      | none => rfl
      | some q =>
        obtain ⟨key, a⟩ := q
        have h0 := strQ_ok ha
        have ga := sk_ge s a
        have gb := sk_ge s (sk s a + 1)
        simp only [Option.bind_some]
        rw [(p_same s f g (sk s (sk s a + 1))).1 (by omega) (by omega)]
        cases hk : pv s g (sk s (sk s a + 1)) with
        | none => rfl
        | some q =>
          obtain ⟨v, k⟩ := q
          have h1 := (p_ok s g _).1 v k hk
          have g1 := sk_ge s k
          have g2 := sk_ge s (sk s k + 1)
          simp only [Option.bind_some]
          rw [((p_same s f g (sk s (sk s k + 1))).2 (by omega) (by omega)).2]

def val (s : ByteArray) (i : Nat) : Option (JV × Nat) := pv s (2 * (s.size - i) + 1) i
def elems (s : ByteArray) (i : Nat) : Option (JL × Nat) := pa s (2 * (s.size - i) + 2) i
def mems (s : ByteArray) (i : Nat) : Option (JM × Nat) := po s (2 * (s.size - i) + 2) i
theorem val_ok {s : ByteArray} {i j : Nat} {v : JV} (h : val s i = some (v, j)) : i < j ∧ j ≤ s.size := (p_ok s _ i).1 v j h
theorem elems_ok {s : ByteArray} {i j : Nat} {v : JL} (h : elems s i = some (v, j)) : i < j ∧ j ≤ s.size := (p_ok s _ i).2.1 v j h
theorem mems_ok {s : ByteArray} {i j : Nat} {v : JM} (h : mems s i = some (v, j)) : i < j ∧ j ≤ s.size := (p_ok s _ i).2.2 v j h

theorem val_arr {s : ByteArray} {i : Nat} (h : bt s i = 91) : val s i = if bt s (sk s (i + 1)) = 93 then some (.arr .nil, sk s (i + 1) + 1) else (elems s (sk s (i + 1))).map fun q => (.arr q.1, q.2) := by
  have hi := bt_in (s := s) (i := i) (by omega)
  have g := sk_ge s (i + 1)
  unfold val elems
  rw [pv, if_pos h, ((p_same s (2 * (s.size - i)) (2 * (s.size - sk s (i + 1)) + 2) (sk s (i + 1))).2 (by omega) (by omega)).1]
theorem val_obj {s : ByteArray} {i : Nat} (h : bt s i = 123) : val s i = if bt s (sk s (i + 1)) = 125 then some (.obj .nil, sk s (i + 1) + 1) else (mems s (sk s (i + 1))).map fun q => (.obj q.1, q.2) := by
  have hi := bt_in (s := s) (i := i) (by omega)
  have g := sk_ge s (i + 1)
  unfold val mems
  rw [pv, if_neg (by omega), if_pos h, ((p_same s (2 * (s.size - i)) (2 * (s.size - sk s (i + 1)) + 2) (sk s (i + 1))).2 (by omega) (by omega)).2]
theorem val_str {s : ByteArray} {i : Nat} (h : bt s i = 34) : val s i = (strQ s i).map fun q => (.str q.1, q.2) := by
  unfold val
  rw [pv, if_neg (by omega), if_neg (by omega), if_pos h]
theorem val_else {s : ByteArray} {i : Nat} (h1 : bt s i ≠ 91) (h2 : bt s i ≠ 123) (h3 : bt s i ≠ 34) : val s i =
    if wNull s i = true then some (.nul, i + 4) else if wTrue s i = true then some (.tt, i + 4) else if wFalse s i = true then some (.ff, i + 5) else (nm s i).map fun q => (.num q.1, q.2) := by
  unfold val
  rw [pv, if_neg h1, if_neg h2, if_neg h3]
theorem elems_eq (s : ByteArray) (i : Nat) : elems s i = (val s i).bind fun q =>
    if bt s (sk s q.2) = 93 then some (.cons q.1 .nil, sk s q.2 + 1)
    else if bt s (sk s q.2) = 44 then (elems s (sk s (sk s q.2 + 1))).map fun r => (.cons q.1 r.1, r.2)
    else none := by
  have e : elems s i = pa s (2 * (s.size - i) + 1 + 1) i := rfl
  rw [e, pa]
  show (val s i).bind _ = _
  cases hk : val s i with
  | none => rfl
  | some q =>
    obtain ⟨v, k⟩ := q
    have h1 := val_ok hk
    have g1 := sk_ge s k
    have g2 := sk_ge s (sk s k + 1)
    simp only [Option.bind_some]
    rw [show elems s (sk s (sk s k + 1)) = pa s (2 * (s.size - i) + 1) (sk s (sk s k + 1)) from ((p_same s _ _ _).2 (by omega) (by omega)).1]
theorem mems_eq (s : ByteArray) (i : Nat) : mems s i = (strQ s i).bind fun k =>
    if bt s (sk s k.2) = 58 then (val s (sk s (sk s k.2 + 1))).bind fun q =>
      if bt s (sk s q.2) = 125 then some (.cons k.1 q.1 .nil, sk s q.2 + 1)
      else if bt s (sk s q.2) = 44 then (mems s (sk s (sk s q.2 + 1))).map fun r => (.cons k.1 q.1 r.1, r.2)
      else none
    else none := by
  have e : mems s i = po s (2 * (s.size - i) + 1 + 1) i := rfl
  rw [e, po]
  cases ha : strQ s i with
  | none => rfl
  | some q =>
    obtain ⟨key, a⟩ := q
    have h0 := strQ_ok ha
    have ga := sk_ge s a
    have gb := sk_ge s (sk s a + 1)
    simp only [Option.bind_some]
    rw [show pv s (2 * (s.size - i) + 1) (sk s (sk s a + 1)) = val s (sk s (sk s a + 1)) from (p_same s _ _ _).1 (by omega) (by omega)]
    cases hk : val s (sk s (sk s a + 1)) with
    | none => rfl
    | some q =>
      obtain ⟨v, k⟩ := q
      have h1 := val_ok hk
      have g1 := sk_ge s k
      have g2 := sk_ge s (sk s k + 1)
      simp only [Option.bind_some]
      rw [show mems s (sk s (sk s k + 1)) = po s (2 * (s.size - i) + 1) (sk s (sk s k + 1)) from ((p_same s _ _ _).2 (by omega) (by omega)).2]
end Go.Proofs.YtlfonikfjibloaaGreatDoor

namespace Go.Proofs.YtlfonikfjibloaaGreatDoor
open Go.RowKit

set_option maxHeartbeats 800000 in
theorem l1Skip_walk (s : ByteArray) (i : Nat) (w : World) (hs : s.size ≤ 1048576) :
    Calls Tryz.prog 81 #[.string s, .int .i64 i] w fun e w' => e = .returned (.int .i64 (sk s i)) ∧ w = w' := by
  go_enter Tryz.func81, Tryz.ntmps81
  go_wp2
  go_loopw [1] (fun k wr => w = wr ∧ ∃ j : Nat, k = .int .i64 (j : Int) ∧ sk s i = sk s j) (fun k _ => s.size - (intOf k).toNat)
  case atStart => exact ⟨rfl, i, rfl, rfl⟩
  case round =>
    obtain ⟨rfl, j, rfl, hst⟩ := hrel
    have HST := hide hst
    clear hst
    by_cases hin : j < s.size
    · have hinI : (j : Int) < (s.size : Int) := by omega
      have e0 := bt_at s j hin
      by_cases c : bt s j = 32 ∨ bt s j = 9 ∨ bt s j = 10 ∨ bt s j = 13
      · have HX : Hid (sk s i = sk s (j + 1)) := by show _ = _; rw [unhide HST, sk_on c]
        rw [e0] at c
        clear e0
        rcases c with c | c | c | c
        · have t1 : (s[j].toNat : Int) = 32 := by omega
          clear c
          go_wp2
          go_roundw
          case rel => exact ⟨trivial, j + 1, by go_num, unhide HX⟩
          case measure => simp [intOf]; omega
        · have t1 : (s[j].toNat : Int) = 9 := by omega
          clear c
          go_wp2
          go_roundw
          case rel => exact ⟨trivial, j + 1, by go_num, unhide HX⟩
          case measure => simp [intOf]; omega
        · have t1 : (s[j].toNat : Int) = 10 := by omega
          clear c
          go_wp2
          go_roundw
          case rel => exact ⟨trivial, j + 1, by go_num, unhide HX⟩
          case measure => simp [intOf]; omega
        · have t1 : (s[j].toNat : Int) = 13 := by omega
          clear c
          go_wp2
          go_roundw
          case rel => exact ⟨trivial, j + 1, by go_num, unhide HX⟩
          case measure => simp [intOf]; omega
      · have HX : Hid (sk s i = j) := by show _ = _; rw [unhide HST, sk_off c]
        have t1 : ((s[j].toNat : Int) == 32) = false := by rw [beq_eq_false_iff_ne]; omega
        have t2 : ((s[j].toNat : Int) == 9) = false := by rw [beq_eq_false_iff_ne]; omega
        have t3 : ((s[j].toNat : Int) == 10) = false := by rw [beq_eq_false_iff_ne]; omega
        have t4 : ((s[j].toNat : Int) == 13) = false := by rw [beq_eq_false_iff_ne]; omega
        clear c e0
        go_wp2
        go_ret
        exact ⟨by rw [unhide HX]; rfl, rfl⟩
    · have hinI : ¬ (j : Int) < (s.size : Int) := by omega
      have d1 : decide ((j : Int) < (s.size : Int)) = false := by simp; omega
      have HX : Hid (sk s i = j) := by show _ = _; rw [unhide HST, sk_past (by omega)]
      go_wp2
      go_ret
      exact ⟨by rw [unhide HX]; rfl, rfl⟩

set_option maxHeartbeats 800000 in
theorem l1Word_walk (s t : ByteArray) (i : Nat) (w : World) (hs : s.size ≤ 1048576) (ht : t.size ≤ 10) (hi : i ≤ s.size + 1) :
    Calls Tryz.prog 148 #[.string s, .int .i64 i, .string t] w fun e w' => e = .returned (.bool (decide (i + t.size ≤ s.size) && (s.extract i (i + t.size)).toList == t.toList)) ∧ w = w' := by
  by_cases hin : i + t.size ≤ s.size
  · have h1 : (i : Int) + (t.size : Int) ≤ (s.size : Int) := by omega
    have h2 : (i : Int) ≤ (i : Int) + (t.size : Int) := by omega
    have h3 : (0 : Int) ≤ (i : Int) := by omega
    have hd : decide (i + t.size ≤ s.size) = true := by simp; omega
    rw [hd, Bool.true_and]
    clear hd
    go_enter Tryz.func148, Tryz.ntmps148
    go_wp2
    go_ret
    exact ⟨rfl, rfl⟩
  · have h1 : ¬ (i : Int) + (t.size : Int) ≤ (s.size : Int) := by omega
    have hd : decide (i + t.size ≤ s.size) = false := by simp; omega
    rw [hd, Bool.false_and]
    clear hd
    go_enter Tryz.func148, Tryz.ntmps148
    go_wp2
    go_ret
    exact ⟨rfl, rfl⟩
end Go.Proofs.YtlfonikfjibloaaGreatDoor

namespace Go.Proofs.YtlfonikfjibloaaGreatDoor
open Go.RowKit

/-- A part put among those before it, from the end on. -/
def insR (p : List UInt8 × List UInt8) : List (List UInt8 × List UInt8) → List (List UInt8 × List UInt8)
  | [] => [p]
  | q :: r => if p.1 < q.1 then q :: insR p r else p :: q :: r
/-- Parts in order. -/
def isort (l : List (List UInt8 × List UInt8)) : List (List UInt8 × List UInt8) := (l.foldl (fun acc p => insR p acc) []).reverse
/-- The text of a part, and of an object of parts. -/
def memT (p : List UInt8 × List UInt8) : List UInt8 := quoted p.1 ++ 58 :: p.2
def joinT : List (List UInt8) → List UInt8
  | [] => []
  | t :: r => 44 :: (t ++ joinT r)
def joinC : List (List UInt8) → List UInt8
  | [] => []
  | t :: r => t ++ joinT r
def mkO (l : List (List UInt8 × List UInt8)) : List UInt8 := 123 :: (joinC (l.map memT) ++ [125])
def mkA (l : List (List UInt8)) : List UInt8 := 91 :: (joinC l ++ [93])
theorem joinT_app (a b : List (List UInt8)) : joinT (a ++ b) = joinT a ++ joinT b := by
  induction a with
  | nil => rfl
  | cons t r ih => simp [joinT, ih]
theorem joinC_snoc (a : List (List UInt8)) (t : List UInt8) : joinC (a ++ [t]) = joinC a ++ (if a = [] then t else 44 :: t) := by
  cases a with
  | nil => simp [joinC, joinT]
  | cons x r => simp [joinC, joinT_app, joinT]

/-- Whether a number's text is out of range. -/
def lim0 : List UInt8 := [57, 50, 50, 51, 51, 55, 50, 48, 51, 54, 56, 53, 52, 55, 55, 53, 56, 48, 55]
def lim1 : List UInt8 := [57, 50, 50, 51, 51, 55, 50, 48, 51, 54, 56, 53, 52, 55, 55, 53, 56, 48, 56]
def over (d lim : List UInt8) : Bool := if d.length ≠ 19 then decide (19 < d.length) else (!Op.bytesLess d lim && !(d == lim))
def tooBig : List UInt8 → Bool
  | [] => false
  | c :: r => if c = 45 then over r lim1 else over (c :: r) lim0

mutual
/-- The canonical text. -/
def ct : JV → List UInt8
  | .nul => [110, 117, 108, 108]
  | .tt => [116, 114, 117, 101]
  | .ff => [102, 97, 108, 115, 101]
  | .num l => l
  | .str l => quoted l
  | .arr l => mkA (ctL l)
  | .obj m => mkO (isort (ctM m))
def ctL : JL → List (List UInt8)
  | .nil => []
  | .cons v r => ct v :: ctL r
def ctM : JM → List (List UInt8 × List UInt8)
  | .nil => []
  | .cons k v r => (k, ct v) :: ctM r
end
mutual
/-- Whether a number is out of range. -/
def bigV : JV → Bool
  | .nul => false
  | .tt => false
  | .ff => false
  | .num l => tooBig l
  | .str _ => false
  | .arr l => bigL l
  | .obj m => bigM m
def bigL : JL → Bool
  | .nil => false
  | .cons v r => bigV v || bigL r
def bigM : JM → Bool
  | .nil => false
  | .cons _ v r => bigV v || bigM r
end
mutual
/-- Whether a key comes twice. -/
def twV : JV → Bool
  | .nul => false
  | .tt => false
  | .ff => false
  | .num _ => false
  | .str _ => false
  | .arr l => twL l
  | .obj m => twM [] m
def twL : JL → Bool
  | .nil => false
  | .cons v r => twV v || twL r
/-- .. among members, behind the keys that came before. -/
def twM : List (List UInt8) → JM → Bool
  | _, .nil => false
  | ks, .cons k v r => (twV v || ks.contains k) || twM (ks ++ [k]) r
end
mutual
def depV : JV → Nat
  | .nul => 1
  | .tt => 1
  | .ff => 1
  | .num _ => 1
  | .str _ => 1
  | .arr l => depL l + 1
  | .obj m => depM m + 1
def depL : JL → Nat
  | .nil => 0
  | .cons v r => max (depV v) (depL r)
def depM : JM → Nat
  | .nil => 0
  | .cons _ v r => max (depV v) (depM r)
end
mutual
def cntV : JV → Nat
  | .nul => 1
  | .tt => 1
  | .ff => 1
  | .num _ => 1
  | .str _ => 1
  | .arr l => cntL l + 1
  | .obj m => cntM m + 1
def cntL : JL → Nat
  | .nil => 0
  | .cons v r => cntV v + cntL r
def cntM : JM → Nat
  | .nil => 0
  | .cons _ v r => cntV v + cntM r
end
/-- Lists of items, one more at the end. -/
def JL.app : JL → JL → JL
  | .nil, b => b
  | .cons v r, b => .cons v (r.app b)
def JM.app : JM → JM → JM
  | .nil, b => b
  | .cons k v r, b => .cons k v (r.app b)
theorem JL.app_assoc : ∀ a b c : JL, (a.app b).app c = a.app (b.app c)
  | .nil, _, _ => rfl
  | .cons v r, b, c => by simp [JL.app, JL.app_assoc r b c]
theorem JM.app_assoc : ∀ a b c : JM, (a.app b).app c = a.app (b.app c)
  | .nil, _, _ => rfl
  | .cons k v r, b, c => by simp [JM.app, JM.app_assoc r b c]
theorem JL.app_nil : ∀ a : JL, a.app .nil = a
  | .nil => rfl
  | .cons v r => by simp [JL.app, JL.app_nil r]
theorem JM.app_nil : ∀ a : JM, a.app .nil = a
  | .nil => rfl
  | .cons k v r => by simp [JM.app, JM.app_nil r]
theorem ctL_app : ∀ a b : JL, ctL (a.app b) = ctL a ++ ctL b
  | .nil, b => by simp [JL.app, ctL]
  | .cons v r, b => by simp [JL.app, ctL, ctL_app r b]
theorem ctM_app : ∀ a b : JM, ctM (a.app b) = ctM a ++ ctM b
  | .nil, b => by simp [JM.app, ctM]
  | .cons k v r, b => by simp [JM.app, ctM, ctM_app r b]
theorem bigL_app : ∀ a b : JL, bigL (a.app b) = (bigL a || bigL b)
  | .nil, b => by simp [JL.app, bigL]
  | .cons v r, b => by simp [JL.app, bigL, bigL_app r b, Bool.or_assoc]
theorem bigM_app : ∀ a b : JM, bigM (a.app b) = (bigM a || bigM b)
  | .nil, b => by simp [JM.app, bigM]
  | .cons k v r, b => by simp [JM.app, bigM, bigM_app r b, Bool.or_assoc]
theorem twL_app : ∀ a b : JL, twL (a.app b) = (twL a || twL b)
  | .nil, b => by simp [JL.app, twL]
  | .cons v r, b => by simp [JL.app, twL, twL_app r b, Bool.or_assoc]
def keysM : JM → List (List UInt8)
  | .nil => []
  | .cons k _ r => k :: keysM r
theorem keysM_app : ∀ a b : JM, keysM (a.app b) = keysM a ++ keysM b
  | .nil, b => by simp [JM.app, keysM]
  | .cons k v r, b => by simp [JM.app, keysM, keysM_app r b]
theorem twM_app : ∀ (ks : List (List UInt8)) (a b : JM), twM ks (a.app b) = (twM ks a || twM (ks ++ keysM a) b)
  | ks, .nil, b => by simp [JM.app, twM, keysM]
  | ks, .cons k v r, b => by simp [JM.app, twM, keysM, twM_app (ks ++ [k]) r b, Bool.or_assoc]
theorem ctM_keys : ∀ a : JM, (ctM a).map (·.1) = keysM a
  | .nil => rfl
  | .cons k v r => by simp [ctM, keysM, ctM_keys r]
end Go.Proofs.YtlfonikfjibloaaGreatDoor

namespace Go.Proofs.YtlfonikfjibloaaGreatDoor
open Go.RowKit

theorem ex_toList (s : ByteArray) (i j : Nat) : (s.extract i j).toList = cutB s i j := by
  rw [ByteArray.toList_eq, Lib.extract_data]; rfl
theorem strOf_cut (s : ByteArray) (i j : Nat) : s.extract i j = strOf (cutB s i j) := by
  have h : (s.extract i j).data.toList = cutB s i j := by rw [Lib.extract_data]; rfl
  rw [← h]
  cases s.extract i j; simp [strOf]
theorem cut_tail (c : UInt8) (r : List UInt8) : cutB (strOf (c :: r)) 1 (r.length + 1) = r := by
  unfold cutB; rw [strOf_toList]; simp

set_option maxHeartbeats 800000 in
theorem tooBig_walk (l : List UInt8) (w : World) (h0 : l ≠ []) (hl : l.length ≤ 1048576) :
    Calls Tryz.prog 193 #[.string (strOf l)] w fun e w' => e = .returned (.bool (tooBig l)) ∧ w = w' := by
  obtain ⟨c, r, rfl⟩ : ∃ c r, l = c :: r := by cases l with | nil => exact absurd rfl h0 | cons c r => exact ⟨c, r, rfl⟩
  have hz : (strOf (c :: r)).size = r.length + 1 := by rw [strOf_size]; rfl
  have hpos : 0 < (strOf (c :: r)).size := by omega
  have hc : (strOf (c :: r))[0].toNat = c.toNat := rfl
  by_cases h45 : c = 45
  · subst h45
    have HT : Hid (tooBig (45 :: r) = over r lim1) := by show _ = _; rw [tooBig, if_pos rfl]
    have HE : Hid (((strOf (45 :: r)).extract 1 (r.length + 1)).toList = r) := by show _ = _; rw [ex_toList, cut_tail]
    have t1 : ((strOf (45 :: r))[0].toNat : Int) = 45 := by rw [hc]; rfl
    by_cases h19 : r.length = 19
    · have t2 : ((r.length : Int) != 19) = false := by rw [bne_eq_false_iff_eq]; omega
      have HT2 : Hid (tooBig (45 :: r) = (!Op.bytesLess r lim1 && !(r == lim1))) := by show _ = _; rw [unhide HT]; unfold over; rw [if_neg (by omega)]
      clear h19 hc h0
      go_enter Tryz.func193, Tryz.ntmps193
      go_wp2
      go_ret
      refine ⟨?_, rfl⟩
      rw [unhide HE, unhide HT2]; rfl
    · have t2 : ((r.length : Int) != 19) = true := by rw [bne_iff_ne]; omega
      have HT2 : Hid (tooBig (45 :: r) = decide (19 < (r.length : Int))) := by
        show _ = _; rw [unhide HT]; unfold over; rw [if_pos h19]; simp; omega
      clear h19 hc h0
      go_enter Tryz.func193, Tryz.ntmps193
      go_wp2
      go_ret
      refine ⟨?_, rfl⟩
      rw [unhide HT2]; rfl
  · have HT : Hid (tooBig (c :: r) = over (c :: r) lim0) := by show _ = _; rw [tooBig, if_neg h45]
    have HE : Hid ((strOf (c :: r)).toList = c :: r) := by show _ = _; rw [ByteArray.toList_eq, strOf_toList]
    have t1 : (((strOf (c :: r))[0].toNat : Int) == 45) = false := by
      rw [beq_eq_false_iff_ne, hc]
      intro e
      exact h45 (UInt8.toNat_inj.1 (by show c.toNat = 45; omega))
    by_cases h19 : r.length = 18
    · have t2 : ((r.length + 1 : Int) != 19) = false := by rw [bne_eq_false_iff_eq]; omega
      have HT2 : Hid (tooBig (c :: r) = (!Op.bytesLess (c :: r) lim0 && !((c :: r) == lim0))) := by show _ = _; rw [unhide HT]; unfold over; rw [if_neg (by simp; omega)]
      clear h19 hc h0
      go_enter Tryz.func193, Tryz.ntmps193
      go_wp2
      go_ret
      refine ⟨?_, rfl⟩
      rw [unhide HE, unhide HT2]; rfl
    · have t2 : ((r.length + 1 : Int) != 19) = true := by rw [bne_iff_ne]; omega
      have HT2 : Hid (tooBig (c :: r) = decide (19 < (r.length + 1 : Int))) := by
        show _ = _; rw [unhide HT]; unfold over; rw [if_pos (by simp; omega)]; simp; omega
      clear h19 hc h0
      go_enter Tryz.func193, Tryz.ntmps193
      go_wp2
      go_ret
      refine ⟨?_, rfl⟩
      rw [unhide HT2]; rfl
end Go.Proofs.YtlfonikfjibloaaGreatDoor
