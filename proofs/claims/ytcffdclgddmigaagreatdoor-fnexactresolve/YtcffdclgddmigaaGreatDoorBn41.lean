import Derived.Test.YtcffdclgddmigaaGreatDoorBn11
import Derived.Test.YtcffdclgddmigaaGreatDoorBn21
namespace Go.Proofs.YtcffdclgddmigaaGreatDoor
open Go.RowKit

/-- What digits stand for. -/
def digV (l : List UInt8) : Nat := l.foldl (fun v c => v * 10 + (c.toNat - 48)) 0
theorem digV_snoc (l : List UInt8) (c : UInt8) : digV (l ++ [c]) = digV l * 10 + (c.toNat - 48) := by unfold digV; rw [List.foldl_append]; rfl
def idxOk (t : List UInt8) : Bool := decide (1 ≤ t.length) && decide (t.length ≤ 6) && !(decide ((t.getD 0 0).toNat = 48) && decide (1 < t.length)) && t.all fun c => isDg c.toNat
/-- The index that a token is. -/
def idxT (t : List UInt8) : Option Nat := if idxOk t = true then some (digV t) else none
theorem idxOk_iff {t : List UInt8} : idxOk t = true ↔ 1 ≤ t.length ∧ t.length ≤ 6 ∧ ¬ ((t.getD 0 0).toNat = 48 ∧ 1 < t.length) ∧ ∀ c ∈ t, isDg c.toNat = true := by
  unfold idxOk
  simp only [Bool.and_eq_true, decide_eq_true_eq, Bool.not_eq_true', Bool.and_eq_false_iff, decide_eq_false_iff_not, List.all_eq_true]
  constructor
  · rintro ⟨⟨⟨a, b⟩, c⟩, d⟩
    exact ⟨a, b, fun ⟨x, y⟩ => c.elim (fun h => h x) (fun h => h y), d⟩
  · rintro ⟨a, b, c, d⟩
    refine ⟨⟨⟨a, b⟩, ?_⟩, d⟩
    by_cases h : (t.getD 0 0).toNat = 48
    · exact .inr fun y => c ⟨h, y⟩
    · exact .inl h
theorem digV_pos : ∀ (n : Nat) (t : List UInt8), t.length = n → t ≠ [] → (t.getD 0 0).toNat ≠ 48 → (∀ c ∈ t, isDg c.toNat = true) → 1 ≤ digV t := by
  intro n
  induction n with
  | zero => intro t h hn; exact absurd (List.eq_nil_of_length_eq_zero h) hn
  | succ n ih =>
    intro t h _ h0 hd
    rcases List.eq_nil_or_concat t with e | ⟨a, c, e⟩
    · subst e; simp at h
    · rw [List.concat_eq_append] at e
      subst e
      rw [digV_snoc]
      have hc := isDg_iff.1 (hd c (by simp))
      by_cases ha : a = []
      · subst ha
        have h0' : c.toNat ≠ 48 := h0
        simp [digV]; omega
      · have h1 : (a.getD 0 0).toNat ≠ 48 := by
          cases a with
          | nil => exact absurd rfl ha
          | cons x r => exact h0
        have := ih a (by simpa using h) ha h1 (fun x hx => hd x (by simp [hx]))
        omega
theorem dec_dig : ∀ (n : Nat) (t : List UInt8), t.length = n → t ≠ [] → ¬ ((t.getD 0 0).toNat = 48 ∧ 1 < t.length) → (∀ c ∈ t, isDg c.toNat = true) → decT (digV t) = t := by
  intro n
  induction n with
  | zero => intro t h hn; exact absurd (List.eq_nil_of_length_eq_zero h) hn
  | succ n ih =>
    intro t h _ h0 hd
    rcases List.eq_nil_or_concat t with e | ⟨a, c, e⟩
    · subst e; simp at h
    · rw [List.concat_eq_append] at e
      subst e
      have hc := isDg_iff.1 (hd c (by simp))
      have ec : UInt8.ofNat (48 + (c.toNat - 48)) = c := by rw [show 48 + (c.toNat - 48) = c.toNat by omega]; exact UInt8.ofNat_toNat
      rw [digV_snoc]
      by_cases ha : a = []
      · subst ha
        simp only [digV, List.foldl_nil, Nat.zero_mul, Nat.zero_add, List.nil_append]
        rw [decT_lo (by omega), ec]
      · have hal : 1 ≤ a.length := by cases a with
          | nil => exact absurd rfl ha
          | cons _ _ => simp
        have h1 : (a.getD 0 0).toNat ≠ 48 := by
          intro e
          refine h0 ⟨?_, by simp; omega⟩
          cases a with
          | nil => exact absurd rfl ha
          | cons x r => exact e
        have hda : ∀ x ∈ a, isDg x.toNat = true := fun x hx => hd x (by simp [hx])
        have hp := digV_pos _ a rfl ha h1 hda
        rw [decT_hi (by omega), show (digV a * 10 + (c.toNat - 48)) / 10 = digV a by omega, show (digV a * 10 + (c.toNat - 48)) % 10 = c.toNat - 48 by omega, decT_lo (n := c.toNat - 48) (by omega), ec]
        rw [ih a (by simpa using h) ha (fun e => h1 e.1) hda]
theorem idxT_dec {t : List UInt8} {i : Nat} (h : idxT t = some i) : decT i = t := by
  unfold idxT at h
  split at h
  · rename_i hk
    injection h with h
    subst h
    obtain ⟨a, b, c, d⟩ := idxOk_iff.1 hk
    exact dec_dig _ t rfl (by intro e; subst e; simp at a) c d
  · cases h
theorem dec_form : ∀ (n : Nat), decT n ≠ [] ∧ (∀ c ∈ decT n, isDg c.toNat = true) ∧ digV (decT n) = n ∧ ¬ (((decT n).getD 0 0).toNat = 48 ∧ 1 < (decT n).length) := by
  intro n
  induction n using Nat.strongRecOn with
  | _ n ih =>
    by_cases h : n < 10
    · rw [decT_lo h]
      have e : (UInt8.ofNat (48 + n)).toNat = 48 + n := ofNat_lt (by omega)
      refine ⟨by simp, fun c hc => ?_, ?_, by simp⟩
      · rw [List.mem_singleton] at hc; subst hc; rw [e]; exact isDg_iff.2 ⟨by omega, by omega⟩
      · simp only [digV, List.foldl_cons, List.foldl_nil, Nat.zero_mul, Nat.zero_add]; rw [e]; omega
    · obtain ⟨a1, a2, a3, a4⟩ := ih (n / 10) (by omega)
      rw [decT_hi h, decT_lo (n := n % 10) (by omega)]
      have e : (UInt8.ofNat (48 + n % 10)).toNat = 48 + n % 10 := ofNat_lt (by omega)
      refine ⟨by simp, fun c hc => ?_, ?_, ?_⟩
      · rcases List.mem_append.1 hc with hc | hc
        · exact a2 c hc
        · rw [List.mem_singleton] at hc; subst hc; rw [e]; exact isDg_iff.2 ⟨by omega, by omega⟩
      · rw [digV_snoc, a3, e]; omega
      · rintro ⟨b1, _⟩
        have hh : ((decT (n / 10) ++ [UInt8.ofNat (48 + n % 10)]).getD 0 0) = (decT (n / 10)).getD 0 0 := by
          cases hd : decT (n / 10) with
          | nil => exact absurd hd a1
          | cons x r => rfl
        rw [hh] at b1
        by_cases h10 : n / 10 < 10
        · rw [decT_lo h10] at b1
          have e2 : (UInt8.ofNat (48 + n / 10)).toNat = 48 + n / 10 := ofNat_lt (by omega)
          have : ([UInt8.ofNat (48 + n / 10)].getD 0 0).toNat = 48 + n / 10 := e2
          rw [this] at b1
          omega
        · refine a4 ⟨b1, ?_⟩
          rw [decT_hi h10, List.length_append]
          have q1 := (ih (n / 10 / 10) (by omega)).1
          have q2 : 1 ≤ (decT (n / 10 / 10)).length := by cases hq : decT (n / 10 / 10) with
            | nil => exact absurd hq q1
            | cons _ _ => simp
          rw [decT_lo (n := n / 10 % 10) (by omega)]
          simp; omega
theorem decT_inj {a b : Nat} (h : decT a = decT b) : a = b := by
  have h1 := (dec_form a).2.2.1
  have h2 := (dec_form b).2.2.1
  rw [h, h2] at h1
  exact h1.symm
/-- The value that a token leads to. -/
def childV : JV → List UInt8 → Option JV
  | .arr l, t => (idxT t).bind fun i => l.toL[i]?
  | .obj m, t => (m.toL.find? fun q => q.1 == t).map (·.2)
  | _, _ => none
def getV : JV → List (List UInt8) → Option JV
  | v, [] => some v
  | v, t :: ts => (childV v t).bind fun u => getV u ts
end Go.Proofs.YtcffdclgddmigaaGreatDoor
