import Derived.Test.YtiolpmhodbefoaaBp22
namespace Go.Proofs.Ytiolpmhodbefoaa
open Go.RowKit

theorem clo_le : ∀ (n : Nat) (l : Bs), l.length ≤ n → ∀ (o : Int) (i m : Nat), clo o i l = some m → i < m ∧ m ≤ i + l.length
  | n, [], _, o, i, m, h => by rw [clo_nil] at h; cases h
  | 0, c :: r, hl, _, _, _, _ => by simp at hl
  | n + 1, c :: r, hl, o, i, m, h => by
    have hr : r.length ≤ n := by simp at hl; omega
    rw [List.length_cons]
    by_cases hc : c = 39
    · subst hc
      rw [clo_39] at h
      cases e : sE r with
      | none => rw [e] at h; cases h
      | some t =>
        rw [e] at h
        have hlt := sE_len e
        have := clo_le n t (by omega) o _ m h
        omega
    · by_cases h0 : brkO o c = 0
      · rw [clo_hit hc h0] at h
        injection h with h
        omega
      · rw [clo_chr hc h0] at h
        have := clo_le n r hr (brkO o c) (i + 1) m h
        omega
/-- A ref under way: the steps that were read, and what is left. -/
def RefUp (s : ByteArray) (R : Option (List PStep)) (k : Nat) (acc : List PStep) : Prop := ∃ n, (dr s k).length < n ∧ R = (sSteps n (dr s k)).map (acc ++ ·)
/-- The bytes of a name's place. -/
def twS (s : ByteArray) (k : Nat) : Bs := (dr s k).takeWhile fun d => !isStop d
theorem RefUp.fin {s : ByteArray} {R : Option (List PStep)} {k : Nat} {acc : List PStep} (h : RefUp s R k acc) (hk : s.size ≤ k) : R = some acc := by
  obtain ⟨n, hn, hR⟩ := h
  obtain ⟨m, rfl⟩ : ∃ m, n = m + 1 := ⟨n - 1, by omega⟩
  rw [hR, dr_end hk, sSteps_nil]; simp
theorem RefUp.dotNo {s : ByteArray} {R : Option (List PStep)} {k : Nat} {acc : List PStep} (h : RefUp s R k acc) (hk : k < s.size) (hc : s[k] = 46) (hb : sName (twS s (k + 1)) = false) : R = none := by
  obtain ⟨n, hn, hR⟩ := h
  obtain ⟨m, rfl⟩ : ∃ m, n = m + 1 := ⟨n - 1, by omega⟩
  rw [hR, dr_at hk, sSteps_con, if_pos hc, if_neg (by unfold twS at hb; rw [hb]; decide)]; rfl
theorem RefUp.dot {s : ByteArray} {R : Option (List PStep)} {k : Nat} {acc : List PStep} (h : RefUp s R k acc) (hk : k < s.size) (hc : s[k] = 46) (hb : sName (twS s (k + 1)) = true) : RefUp s R (k + 1 + (twS s (k + 1)).length) (acc ++ [stName (twS s (k + 1))]) := by
  obtain ⟨n, hn, hR⟩ := h
  obtain ⟨m, rfl⟩ : ∃ m, n = m + 1 := ⟨n - 1, by omega⟩
  refine ⟨m, ?_, ?_⟩
  · rw [dr_len] at hn ⊢; omega
  · rw [hR, dr_at hk, sSteps_con, if_pos hc, if_pos (by unfold twS at hb; exact hb)]
    rw [← dr_dr s (k + 1) (twS s (k + 1)).length]
    show Option.map _ (Option.map _ (sSteps m ((dr s (k + 1)).drop (twS s (k + 1)).length))) = _
    cases sSteps m ((dr s (k + 1)).drop (twS s (k + 1)).length) <;> simp [twS]
theorem RefUp.other {s : ByteArray} {R : Option (List PStep)} {k : Nat} {acc : List PStep} (h : RefUp s R k acc) (hk : k < s.size) (h1 : ¬ s[k] = 46) (h2 : ¬ s[k] = 91) : R = none := by
  obtain ⟨n, hn, hR⟩ := h
  obtain ⟨m, rfl⟩ : ∃ m, n = m + 1 := ⟨n - 1, by omega⟩
  rw [hR, dr_at hk, sSteps_con, if_neg h1, if_neg h2]; rfl
/-- What a bracket's inside is. -/
def inS (s : ByteArray) (k m : Nat) : Bs := (dr s (k + 1)).take (m - 2)
theorem RefUp.brNo {s : ByteArray} {R : Option (List PStep)} {k : Nat} {acc : List PStep} (h : RefUp s R k acc) (hk : k < s.size) (hc : s[k] = 91) (hb : natO (clo 0 0 (dr s k)) < 2) : R = none := by
  obtain ⟨n, hn, hR⟩ := h
  obtain ⟨m, rfl⟩ : ∃ m, n = m + 1 := ⟨n - 1, by omega⟩
  rw [dr_at hk] at hb
  rw [hR, dr_at hk, sSteps_con, if_neg (by rw [hc]; decide), if_pos hc]
  cases e : clo 0 0 (s[k] :: dr s (k + 1)) with
  | none => rfl
  | some q =>
    rw [e] at hb
    have hb' : (q : Int) < 2 := hb
    simp only
    rw [if_pos (by omega)]; rfl
theorem RefUp.br {s : ByteArray} {R : Option (List PStep)} {k : Nat} {acc : List PStep} (h : RefUp s R k acc) (hk : k < s.size) (hc : s[k] = 91) {q : Nat} (hq : clo 0 0 (dr s k) = some q) (h2 : 2 ≤ q) : k + q ≤ s.size ∧ ((∀ hx : k + q - 1 < s.size, ¬ s[k + q - 1] = 93) → R = none) ∧ (sIn (inS s k q) = none → R = none) ∧ (∀ x, (∀ hx : k + q - 1 < s.size, s[k + q - 1] = 93) → sIn (inS s k q) = some x → RefUp s R (k + q) (acc ++ [x])) := by
  obtain ⟨n, hn, hR⟩ := h
  obtain ⟨m, rfl⟩ : ∃ m, n = m + 1 := ⟨n - 1, by omega⟩
  have hle := clo_le _ _ (Nat.le_refl _) 0 0 q hq
  rw [dr_len] at hle
  have hkq : k + q ≤ s.size := by omega
  have hx : k + q - 1 < s.size := by omega
  have hhd : ((dr s k).drop (q - 1)).head? = some s[k + q - 1] := by
    rw [dr_dr, show k + (q - 1) = k + q - 1 by omega, dr_at hx]; rfl
  have htk : ((dr s k).drop 1).take (q - 2) = inS s k q := by rw [dr_dr]; rfl
  have e0 : sSteps (m + 1) (dr s k) = if ((dr s k).drop (q - 1)).head? ≠ some 93 then none else match sIn (((dr s k).drop 1).take (q - 2)) with
      | none => none
      | some x => (sSteps m ((dr s k).drop q)).map fun p => x :: p := by
    have e1 := sSteps_con m s[k] (dr s (k + 1))
    rw [if_neg (by rw [hc]; decide), if_pos hc, ← dr_at hk, hq] at e1
    simp only at e1
    rw [if_neg (by omega)] at e1
    exact e1
  rw [hhd, htk, dr_dr] at e0
  refine ⟨hkq, fun hno => ?_, fun hno => ?_, fun x hyes hin => ?_⟩
  · rw [hR, e0, if_pos (by intro e; injection e with e; exact hno hx e)]; rfl
  · rw [hR, e0, hno]; split <;> rfl
  · refine ⟨m, by rw [dr_len] at hn ⊢; omega, ?_⟩
    rw [hR, e0, if_neg (by rw [hyes hx]; simp), hin]
    simp only
    cases sSteps m (dr s (k + q)) <;> simp
theorem RefUp.start {s : ByteArray} (h : 0 < s.size) : (¬ (s[0] = 36 ∨ s[0] = 64) → sRef s.data.toList = none) ∧ ((s[0] = 36 ∨ s[0] = 64) → ∃ R, RefUp s R 1 [] ∧ sRef s.data.toList = R.map fun p => (decide (s[0] = 36), p)) := by
  have e := dr_at h
  rw [dr_zero] at e
  have e2 : sRef s.data.toList = (if s[0] = 36 ∨ s[0] = 64 then (sSteps ((dr s 1).length + 1) (dr s 1)).map (fun p => (decide (s[0] = 36), p)) else none) := by
    rw [e]; rfl
  refine ⟨fun h1 => by rw [e2, if_neg h1], fun h1 => ⟨sSteps ((dr s 1).length + 1) (dr s 1), ⟨_, Nat.lt_succ_self _, ?_⟩, by rw [e2, if_pos h1]⟩⟩
  cases sSteps ((dr s 1).length + 1) (dr s 1) <;> simp
end Go.Proofs.Ytiolpmhodbefoaa

