import Derived.Test.YtcjajchfjoffnaaGreatDoorBp11
import Derived.Lib.ParseIntBCases
import Derived.Lib.ItoaMem
import Derived.Laws.DeepStrings4
import Derived.Test.YtcjajchfjoffnaaGreatDoorBp1
namespace Go.Proofs.YtcjajchfjoffnaaGreatDoor
open Go.RowKit

/-- A value takes as many bytes as it has values, or more. -/
theorem p_cnt (s : ByteArray) : ∀ f i, (∀ v j, pv s f i = some (v, j) → cntV v + i ≤ j) ∧ (∀ l j, pa s f i = some (l, j) → cntL l + i ≤ j) ∧ (∀ m j, po s f i = some (m, j) → cntM m + i ≤ j)
  | 0, i => ⟨fun v j h => by simp [pv] at h, fun v j h => by simp [pa] at h, fun v j h => by simp [po] at h⟩
  | f + 1, i => by
    refine ⟨fun v j h => ?_, fun l j h => ?_, fun m j h => ?_⟩
    · rw [pv] at h
      have g := sk_ge s (i + 1)
      split at h
      · split at h
        · have := bt_in (s := s) (i := sk s (i + 1)) (by omega)
          injection h with h; injection h with hv h; subst hv; (try simp only [cntV]); (try simp only [cntL]); (try simp only [cntM]); omega
        · simp only [Option.map_eq_some_iff] at h
          obtain ⟨⟨l, k⟩, hk, h⟩ := h
          injection h with hv h
          have := (p_cnt s f (sk s (i + 1))).2.1 l k hk
          subst hv; simp only at h; (try simp only [cntV]); (try simp only [cntL]); (try simp only [cntM]); omega
      · split at h
        · split at h
          · have := bt_in (s := s) (i := sk s (i + 1)) (by omega)
            injection h with h; injection h with hv h; subst hv; (try simp only [cntV]); (try simp only [cntL]); (try simp only [cntM]); omega
          · simp only [Option.map_eq_some_iff] at h
            obtain ⟨⟨l, k⟩, hk, h⟩ := h
            injection h with hv h
            have := (p_cnt s f (sk s (i + 1))).2.2 l k hk
            subst hv; simp only at h; (try simp only [cntV]); (try simp only [cntL]); (try simp only [cntM]); omega
        · split at h
          · simp only [Option.map_eq_some_iff] at h
            obtain ⟨⟨l, k⟩, hk, h⟩ := h
            injection h with hv h
            have := strQ_ok hk
            subst hv; simp only at h; (try simp only [cntV]); (try simp only [cntL]); (try simp only [cntM]); omega
          · split at h
            · rename_i hw
              have := wNull_in hw
              injection h with h; injection h with hv h; subst hv; (try simp only [cntV]); (try simp only [cntL]); (try simp only [cntM]); omega
            · split at h
              · rename_i hw
                have := wTrue_in hw
                injection h with h; injection h with hv h; subst hv; (try simp only [cntV]); (try simp only [cntL]); (try simp only [cntM]); omega
              · split at h
                · rename_i hw
                  have := wFalse_in hw
                  injection h with h; injection h with hv h; subst hv; (try simp only [cntV]); (try simp only [cntL]); (try simp only [cntM]); omega
                · simp only [Option.map_eq_some_iff] at h
                  obtain ⟨⟨l, k⟩, hk, h⟩ := h
                  injection h with hv h
                  have := nm_ok hk
                  subst hv; simp only at h; (try simp only [cntV]); (try simp only [cntL]); (try simp only [cntM]); omega
    · rw [pa] at h
      simp only [Option.bind_eq_some_iff] at h
      obtain ⟨⟨v, k⟩, hk, h⟩ := h
      have h1 := (p_cnt s f i).1 v k hk
      have g1 := sk_ge s k
      simp only at h
      split at h
      · have := bt_in (s := s) (i := sk s k) (by omega)
        injection h with h; injection h with hv h; subst hv; (try simp only [cntV]); (try simp only [cntL]); (try simp only [cntM]); omega
      · split at h
        · simp only [Option.map_eq_some_iff] at h
          obtain ⟨⟨l, n⟩, hn, h⟩ := h
          injection h with hv h
          have := (p_cnt s f _).2.1 l n hn
          have g2 := sk_ge s (sk s k + 1)
          subst hv; simp only at h; (try simp only [cntL]); (try simp only [cntM]); omega
        · cases h
    · rw [po] at h
      simp only [Option.bind_eq_some_iff] at h
      obtain ⟨⟨key, a⟩, ha, h⟩ := h
      have h0 := strQ_ok ha
      simp only at h
      split at h
      · simp only [Option.bind_eq_some_iff] at h
        obtain ⟨⟨v, k⟩, hk, h⟩ := h
        have h1 := (p_cnt s f _).1 v k hk
        have g0 := sk_ge s a
        have g3 := sk_ge s (sk s a + 1)
        have g1 := sk_ge s k
        simp only at h
        split at h
        · have := bt_in (s := s) (i := sk s k) (by omega)
          injection h with h; injection h with hv h; subst hv; (try simp only [cntV]); (try simp only [cntL]); (try simp only [cntM]); omega
        · split at h
          · simp only [Option.map_eq_some_iff] at h
            obtain ⟨⟨l, n⟩, hn, h⟩ := h
            injection h with hv h
            have := (p_cnt s f _).2.2 l n hn
            have g2 := sk_ge s (sk s k + 1)
            subst hv; simp only at h; (try simp only [cntM]); omega
          · cases h
      · cases h

theorem val_cnt {s : ByteArray} {i j : Nat} {v : JV} (h : val s i = some (v, j)) : cntV v + i ≤ j := (p_cnt s _ i).1 v j h
end Go.Proofs.YtcjajchfjoffnaaGreatDoor

namespace Go.Proofs.YtcjajchfjoffnaaGreatDoor
open Go.RowKit

/-- The one value of a text. -/
def docR (s : ByteArray) : Option JV := (val s (sk s 0)).bind fun q => if sk s q.2 = s.size then some q.1 else none
/-- What readText finds: a code, or a value. -/
def readR (s : ByteArray) : Sum Nat JV :=
  if 20000 < s.size then .inl 1 else
  match docR s with
  | none => .inl 2
  | some v => if bigV v then .inl 3 else if twV v then .inl 4 else if 100 < depV v ∨ 3000 < cntV v then .inl 5 else .inr v
theorem doc_facts {s : ByteArray} {v : JV} (h : docR s = some v) : okV v ∧ cntV v ≤ s.size ∧ (ct v).length ≤ 30 * s.size := by
  unfold docR at h
  cases hv : val s (sk s 0) with
  | none => rw [hv] at h; simp at h
  | some q =>
    obtain ⟨u, j⟩ := q
    have e : u = v := by
      rw [hv] at h
      simp only [Option.bind_some] at h
      split at h
      · injection h
      · cases h
    subst e
    have h1 := val_cnt hv
    have h2 := val_len hv
    have h3 := val_ok hv
    exact ⟨val_okV hv, by omega, by omega⟩

/-- The answers of Canon and Measure. -/
def canonV (s : ByteArray) : Value := match readR s with
  | .inl c => .tuple #[.string ⟨#[]⟩, .int .i64 (c : Int)]
  | .inr v => .tuple #[.string (strOf (ct v)), .int .i64 0]
def measV (s : ByteArray) : Value := match readR s with
  | .inl c => .tuple #[.int .i64 0, .int .i64 0, .int .i64 (c : Int)]
  | .inr v => .tuple #[.int .i64 (depV v : Int), .int .i64 (cntV v : Int), .int .i64 0]

theorem read_facts {s : ByteArray} {v : JV} (h : readR s = .inr v) : s.size ≤ 20000 ∧ docR s = some v ∧ twV v = false ∧ bigV v = false ∧ depV v ≤ 100 ∧ cntV v ≤ 3000 := by
  unfold readR at h
  split at h
  · cases h
  · rename_i hs
    cases hd : docR s with
    | none => rw [hd] at h; simp at h
    | some u =>
      rw [hd] at h
      simp only at h
      split at h
      · cases h
      · rename_i hb
        split at h
        · cases h
        · rename_i ht
          split at h
          · cases h
          · rename_i hg
            injection h with h
            subst h
            exact ⟨by omega, rfl, by simpa using ht, by simpa using hb, by omega, by omega⟩
theorem read_code {s : ByteArray} {c : Nat} (h : readR s = .inl c) : 1 ≤ c ∧ c ≤ 5 := by
  unfold readR at h
  split at h
  · injection h with h; omega
  · split at h
    · injection h with h; omega
    · split at h
      · injection h with h; omega
      · split at h
        · injection h with h; omega
        · split at h
          · injection h with h; omega
          · cases h
end Go.Proofs.YtcjajchfjoffnaaGreatDoor

namespace Go.Proofs.YtcjajchfjoffnaaGreatDoor
open Go.RowKit Go.Lib

def dV (c : UInt8) : Nat := c.toNat - 48
/-- What digits spell, behind a number. -/
def foldV (a : Nat) (d : List UInt8) : Nat := d.foldl (fun a c => a * 10 + dV c) a
def Dg (d : List UInt8) : Prop := ∀ c ∈ d, 48 ≤ c.toNat ∧ c.toNat ≤ 57
/-- Digits without a zero ahead. -/
def Num (d : List UInt8) : Prop := Dg d ∧ d ≠ [] ∧ (d = [48] ∨ ∀ c r, d = c :: r → 49 ≤ c.toNat)
theorem Dg.tail {c : UInt8} {d : List UInt8} (h : Dg (c :: d)) : Dg d := fun x hx => h x (List.mem_cons_of_mem _ hx)
theorem Dg.head {c : UInt8} {d : List UInt8} (h : Dg (c :: d)) : 48 ≤ c.toNat ∧ c.toNat ≤ 57 := h c List.mem_cons_self
theorem foldV_cons (a : Nat) (c : UInt8) (d : List UInt8) : foldV a (c :: d) = foldV (a * 10 + dV c) d := by unfold foldV; rw [List.foldl_cons]
theorem foldV_snoc (a : Nat) (d : List UInt8) (c : UInt8) : foldV a (d ++ [c]) = foldV a d * 10 + dV c := by unfold foldV; rw [List.foldl_append]; rfl
theorem foldV_ge (d : List UInt8) : ∀ a, a ≤ foldV a d := by
  induction d with
  | nil => intro a; exact Nat.le_refl _
  | cons c d ih => intro a; rw [foldV_cons]; have := ih (a * 10 + dV c); omega
theorem foldV_lin (d : List UInt8) : ∀ a, foldV a d = a * 10 ^ d.length + foldV 0 d := by
  induction d with
  | nil => intro a; simp [foldV]
  | cons c d ih =>
    intro a
    rw [foldV_cons, foldV_cons, ih (a * 10 + dV c), ih (0 * 10 + dV c), List.length_cons, Nat.pow_succ]
    rw [Nat.add_mul, Nat.zero_mul, Nat.zero_add, Nat.mul_assoc, Nat.mul_comm 10, Nat.add_assoc]
theorem foldV_lt (d : List UInt8) (h : Dg d) : foldV 0 d < 10 ^ d.length := by
  induction d with
  | nil => simp [foldV]
  | cons c d ih =>
    rw [foldV_cons, foldV_lin, List.length_cons, Nat.pow_succ]
    have h1 := ih h.tail
    have h2 := h.head
    have h3 : dV c ≤ 9 := by unfold dV; omega
    have h4 : (0 * 10 + dV c) * 10 ^ d.length ≤ 9 * 10 ^ d.length := Nat.mul_le_mul_right _ (by omega)
    omega
theorem foldV_low {c : UInt8} {d : List UInt8} (hc : 49 ≤ c.toNat) : 10 ^ d.length ≤ foldV 0 (c :: d) := by
  rw [foldV_cons, foldV_lin]
  have : 1 * 10 ^ d.length ≤ (0 * 10 + dV c) * 10 ^ d.length := Nat.mul_le_mul_right _ (by unfold dV; omega)
  omega

theorem parse_fold (d : List UInt8) (h : Dg d) : ∀ a, a ≤ 18446744073709551615 → parseUintM 18446744073709551615 a d = if foldV a d ≤ 18446744073709551615 then .ok (foldV a d) else .range := by
  induction d with
  | nil => intro a ha; rw [parseUintM]; rw [if_pos (by exact ha)]; rfl
  | cons c d ih =>
    intro a ha
    rw [parseUintM, if_pos h.head, foldV_cons]
    have hg := foldV_ge d (a * 10 + dV c)
    have e : a * 10 + (c.toNat - 48) = a * 10 + dV c := rfl
    by_cases h1 : 1844674407370955162 ≤ a
    · rw [if_pos h1, if_neg (by omega)]
    · rw [if_neg h1, e]
      by_cases h2 : 18446744073709551615 < a * 10 + dV c
      · rw [if_pos h2, if_neg (by omega)]
      · rw [if_neg h2]
        exact ih h.tail _ (by omega)

theorem less_fold : ∀ (a b : List UInt8), Dg a → Dg b → a.length = b.length → (Op.bytesLess a b = decide (foldV 0 a < foldV 0 b)) ∧ ((a == b) = decide (foldV 0 a = foldV 0 b))
  | [], [], _, _, _ => by simp [Op.bytesLess, foldV]
  | [], _ :: _, _, _, h => by simp at h
  | _ :: _, [], _, _, h => by simp at h
  | c :: a, x :: b, ha, hb, h => by
    have hl : a.length = b.length := by simpa using h
    obtain ⟨i1, i2⟩ := less_fold a b ha.tail hb.tail hl
    have a1 := foldV_lt a ha.tail
    have b1 := foldV_lt b hb.tail
    have hc := ha.head
    have hx := hb.head
    rw [foldV_cons, foldV_cons, foldV_lin a, foldV_lin b, hl]
    rw [hl] at a1
    have ec : 0 * 10 + dV c = dV c := by omega
    have ex : 0 * 10 + dV x = dV x := by omega
    rw [ec, ex]
    generalize foldV 0 a = A at *
    generalize foldV 0 b = B at *
    generalize 10 ^ b.length = P at *
    have hcx : c < x ↔ dV c < dV x := by rw [UInt8.lt_iff_toNat_lt]; unfold dV; omega
    have hce : c = x ↔ dV c = dV x := by rw [← UInt8.toNat_inj]; unfold dV; omega
    rw [Op.bytesLess]
    by_cases g1 : dV c < dV x
    · have : (dV c + 1) * P ≤ dV x * P := Nat.mul_le_mul_right _ g1
      rw [Nat.add_mul, Nat.one_mul] at this
      refine ⟨?_, ?_⟩
      · rw [decide_eq_true (hcx.2 g1), Bool.true_or, decide_eq_true (by omega)]
      · rw [decide_eq_false (by omega), beq_eq_false_iff_ne]
        intro e; injection e with e1 e2; have := hce.1 e1; omega
    · by_cases g2 : dV c = dV x
      · have hcq : (c == x) = true := by rw [beq_iff_eq]; exact hce.2 g2
        rw [decide_eq_false (fun hh => g1 (hcx.1 hh)), Bool.false_or, hcq, Bool.true_and, i1, g2]
        refine ⟨?_, ?_⟩
        · apply decide_eq_decide.2; omega
        · rw [hce.2 g2]
          rw [show ((x :: a) == (x :: b)) = (a == b) from by simp, i2]
          apply decide_eq_decide.2; omega
      · have : (dV x + 1) * P ≤ dV c * P := Nat.mul_le_mul_right _ (by omega)
        rw [Nat.add_mul, Nat.one_mul] at this
        have hcq : (c == x) = false := by rw [beq_eq_false_iff_ne]; exact fun e => g2 (hce.1 e)
        refine ⟨?_, ?_⟩
        · rw [decide_eq_false (fun hh => g1 (hcx.1 hh)), Bool.false_or, hcq, Bool.false_and, decide_eq_false (by omega)]
        · rw [decide_eq_false (by omega), beq_eq_false_iff_ne]
          intro e; injection e with e1 e2; exact g2 (hce.1 e1)

theorem Num.bounds {d : List UInt8} (h : Num d) : (d.length ≤ 18 → foldV 0 d < 1000000000000000000) ∧ (20 ≤ d.length → 10000000000000000000 ≤ foldV 0 d) := by
  obtain ⟨h1, h2, h3⟩ := h
  refine ⟨fun hl => ?_, fun hl => ?_⟩
  · have := foldV_lt d h1
    have h4 : 10 ^ d.length ≤ 10 ^ 18 := Nat.pow_le_pow_right (by decide) hl
    have h5 : (10 : Nat) ^ 18 = 1000000000000000000 := by decide
    omega
  · rcases h3 with rfl | h3
    · simp at hl
    · cases d with
      | nil => simp at hl
      | cons c r =>
        have := foldV_low (d := r) (h3 c r rfl)
        have h4 : 10 ^ 19 ≤ 10 ^ r.length := Nat.pow_le_pow_right (by decide) (by simp at hl; omega)
        have h5 : (10 : Nat) ^ 19 = 10000000000000000000 := by decide
        omega
theorem over_lim {d lim : List UInt8} {m : Nat} (h : Num d) (hl : Dg lim) (h19 : lim.length = 19) (hm : foldV 0 lim = m) (h1 : 1000000000000000000 ≤ m) (h2 : m < 10000000000000000000) : over d lim = decide (m < foldV 0 d) := by
  unfold over
  have hb := h.bounds
  by_cases hd : d.length = 19
  · rw [if_neg (by omega)]
    obtain ⟨i1, i2⟩ := less_fold d lim h.1 hl (by omega)
    rw [i1, i2, hm]
    by_cases g : m < foldV 0 d
    · rw [decide_eq_true g, decide_eq_false (by omega), decide_eq_false (by omega)]; rfl
    · rw [decide_eq_false g]
      by_cases g2 : foldV 0 d = m
      · rw [decide_eq_true g2]; simp
      · rw [decide_eq_true (show foldV 0 d < m by omega)]; rfl
  · rw [if_pos hd]
    apply decide_eq_decide.2
    constructor
    · intro g; have := hb.2 (by omega); omega
    · intro g
      rcases Nat.lt_or_ge d.length 19 with g2 | g2
      · have := hb.1 (by omega); omega
      · omega
theorem over_0 {d : List UInt8} (h : Num d) : over d lim0 = decide (9223372036854775807 < foldV 0 d) := over_lim h (by unfold Dg lim0; decide) rfl (by decide) (by decide) (by decide)
theorem over_1 {d : List UInt8} (h : Num d) : over d lim1 = decide (9223372036854775808 < foldV 0 d) := over_lim h (by unfold Dg lim1; decide) rfl (by decide) (by decide) (by decide)

theorem u8_dig {c : UInt8} (h : 48 ≤ c.toNat ∧ c.toNat ≤ 57) : UInt8.ofNat (48 + dV c) = c := by
  apply UInt8.toNat_inj.1
  rw [UInt8.toNat_ofNat']; unfold dV; omega
theorem dec_fold (n : Nat) : ∀ d : List UInt8, d.length = n → Num d → decDigits (foldV 0 d) = d := by
  induction n with
  | zero => intro d hn h; exact absurd (List.eq_nil_of_length_eq_zero hn) h.2.1
  | succ n ih =>
    intro d hn h
    obtain ⟨h1, h2, h3⟩ := h
    rcases List.eq_nil_or_concat d with e | ⟨d', c, e⟩
    · exact absurd e h2
    · rw [List.concat_eq_append] at e
      subst e
      have hc : 48 ≤ c.toNat ∧ c.toNat ≤ 57 := h1 c (by simp)
      have hv : dV c ≤ 9 := by unfold dV; omega
      rw [foldV_snoc]
      cases d' with
      | nil =>
        show decDigits (0 * 10 + dV c) = [c]
        rw [decDigits_one (by omega), show 48 + (0 * 10 + dV c) = 48 + dV c by omega, u8_dig hc]
      | cons x r =>
        have hx : 49 ≤ x.toNat := by
          rcases h3 with h3 | h3
          · simp at h3
          · exact h3 x (r ++ [c]) rfl
        have hlow := foldV_low (d := r) hx
        have hp : 0 < 10 ^ r.length := Nat.pow_pos (by decide)
        have hN : Num (x :: r) := ⟨fun y hy => h1 y (by simp at hy ⊢; rcases hy with hy | hy <;> simp [hy]), by simp, .inr (fun a b e => by injection e with e1 e2; subst e1; exact hx)⟩
        have := ih (x :: r) (by simp at hn ⊢; omega) hN
        rw [decDigits, dif_neg (by omega), show (foldV 0 (x :: r) * 10 + dV c) / 10 = foldV 0 (x :: r) by omega, show (foldV 0 (x :: r) * 10 + dV c) % 10 = dV c by omega, this, u8_dig hc]
end Go.Proofs.YtcjajchfjoffnaaGreatDoor

namespace Go.Proofs.YtcjajchfjoffnaaGreatDoor
open Go.RowKit Go.Lib

theorem cutB_cons {s : ByteArray} {i j : Nat} (hi : i < s.size) (hj : i < j) : cutB s i j = s[i] :: cutB s (i + 1) j := by
  unfold cutB
  rw [drop_at s i hi, show j - i = (j - (i + 1)) + 1 by omega, List.take_succ_cons]
theorem cutB_nil (s : ByteArray) (i : Nat) : cutB s i i = [] := by unfold cutB; simp
theorem cut_dg (s : ByteArray) : ∀ n i, s.size - i ≤ n → Dg (cutB s i (dg s i))
  | n, i, hn => by
    by_cases h : isDg (bt s i) = true
    · have hi : i < s.size := bt_in (by have := isDg_iff.1 h; omega)
      cases n with
      | zero => omega
      | succ n =>
        have h2 := dg_le (s := s) (i := i + 1) (by omega)
        rw [dg_on h, cutB_cons hi (by omega)]
        intro c hc
        rcases List.mem_cons.1 hc with rfl | hc
        · rw [bt_at s i hi] at h; exact isDg_iff.1 h
        · exact cut_dg s n (i + 1) (by omega) c hc
    · rw [dg_off h, cutB_nil]; intro c hc; cases hc
/-- The digits of a number. -/
theorem nm_digits {s : ByteArray} {i j : Nat} {l : List UInt8} (h : nm s i = some (l, j)) : j = nmE s i ∧ Num (cutB s (nmD s i) j) ∧ cutB s i j = (if bt s i = 45 then 45 :: cutB s (nmD s i) j else cutB s (nmD s i) j) ∧ l = norm0 (cutB s i j) := by
  have hk := nm_ok h
  unfold nm at h
  split at h
  · rename_i hd
    injection h with h; injection h with h1 h2
    have hdI := isDg_iff.1 hd
    have hlt : nmD s i < s.size := bt_in (by omega)
    have hbt := bt_at s (nmD s i) hlt
    subst h2
    refine ⟨rfl, ?_, ?_, h1.symm⟩
    · unfold nmE
      split
      · rename_i h48
        rw [cutB_cons hlt (by omega), cutB_nil]
        have e : s[nmD s i] = 48 := UInt8.toNat_inj.1 (by show _ = 48; omega)
        rw [e]
        exact ⟨by unfold Dg; decide, by simp, .inl rfl⟩
      · rename_i h48
        have h3 := dg_le (s := s) (i := nmD s i + 1) (by omega)
        refine ⟨cut_dg s _ _ (Nat.le_refl _), ?_, .inr ?_⟩
        · rw [dg_on hd, cutB_cons hlt (by omega)]; simp
        · intro c r e
          rw [dg_on hd, cutB_cons hlt (by omega)] at e
          injection e with e1 e2
          subst e1; omega
    · by_cases h45 : bt s i = 45
      · have hi : i < s.size := bt_in (by omega)
        have e : s[i] = 45 := UInt8.toNat_inj.1 (by show _ = 45; rw [← bt_at s i hi]; exact h45)
        have hD : nmD s i = i + 1 := by unfold nmD; rw [if_pos h45]
        rw [if_pos h45, cutB_cons hi (by omega), e, hD]
      · have hD : nmD s i = i := by unfold nmD; rw [if_neg h45]
        rw [if_neg h45, hD]
  · cases h
theorem norm0_num {d : List UInt8} (h : Num d) : norm0 d = d := by
  unfold norm0
  rw [if_neg]
  intro e
  have := h.1 45 (by rw [e]; simp)
  exact absurd this.1 (by decide)
theorem parse_num {d : List UInt8} (h : Num d) : parseUintB 64 d = if foldV 0 d ≤ 18446744073709551615 then .ok (foldV 0 d) else .range := by
  unfold parseUintB
  rw [if_neg h.2.1]
  exact parse_fold d h.1 0 (by decide)
theorem nm_parse {s : ByteArray} {i j : Nat} {l : List UInt8} (h : nm s i = some (l, j)) :
    (tooBig l = false → ∃ z : Int, parseIntB 64 (cutB s i j) = .ok z ∧ itoa z = l ∧ -9223372036854775808 ≤ z ∧ z ≤ 9223372036854775807) ∧ (tooBig l = true → parseIntB 64 (cutB s i j) = .range) := by
  obtain ⟨_, hN, hc, hl⟩ := nm_digits h
  generalize cutB s (nmD s i) j = d at *
  have hp := parse_num hN
  have hde := dec_fold d.length d rfl hN
  have p63 : (2 : Nat) ^ (64 - 1) = 9223372036854775808 := by decide
  by_cases h45 : bt s i = 45
  · rw [if_pos h45] at hc
    rw [hc] at hl ⊢
    rw [parseIntB_minus, hp]
    by_cases h0 : d = [48]
    · subst h0
      have e : l = [48] := by rw [hl]; unfold norm0; rw [if_pos rfl]
      subst e
      refine ⟨fun _ => ⟨0, by decide, by rw [show (0 : Int) = ((0 : Nat) : Int) from rfl, itoa_nonneg, decDigits_one (by decide)]; rfl, by decide, by decide⟩, fun hb => absurd hb (by decide)⟩
    · have e : l = 45 :: d := by
        rw [hl]; unfold norm0; rw [if_neg]
        intro e; injection e with _ e; exact h0 e
      subst e
      have ht : tooBig (45 :: d) = decide (9223372036854775808 < foldV 0 d) := by rw [tooBig, if_pos rfl, over_1 hN]
      rw [ht]
      have hpos : 1 ≤ foldV 0 d := by
        obtain ⟨h1, h2, h3⟩ := hN
        rcases h3 with h3 | h3
        · exact absurd h3 h0
        · cases d with
          | nil => exact absurd rfl h2
          | cons c r =>
            have := foldV_low (d := r) (h3 c r rfl)
            have hp : 0 < 10 ^ r.length := Nat.pow_pos (by decide)
            omega
      refine ⟨fun hb => ?_, fun hb => ?_⟩
      · have hb' := of_decide_eq_false hb
        rw [if_pos (by omega)]
        refine ⟨-((foldV 0 d : Nat) : Int), ?_, ?_, by omega, by omega⟩
        · show (if 2 ^ (64 - 1) < foldV 0 d then NumEnd.range else .ok (-((foldV 0 d : Nat) : Int))) = _
          rw [if_neg (by omega)]
        · rw [itoa_neg _ hpos, hde]
      · have hb' := of_decide_eq_true hb
        by_cases g : foldV 0 d ≤ 18446744073709551615
        · rw [if_pos g]
          show (if 2 ^ (64 - 1) < foldV 0 d then NumEnd.range else .ok (-((foldV 0 d : Nat) : Int))) = _
          rw [if_pos (by omega)]
        · rw [if_neg g]; rfl
  · rw [if_neg h45] at hc
    rw [hc] at hl ⊢
    rw [norm0_num hN] at hl
    subst hl
    cases hd : l with
    | nil => exact absurd hd hN.2.1
    | cons c r =>
      have hcd := hN.1 c (by rw [hd]; simp)
      rw [parseIntB_plain 64 c r (by omega) (by omega), ← hd, hp]
      have ht : tooBig l = decide (9223372036854775807 < foldV 0 l) := by
        rw [hd, tooBig, if_neg (by intro e; rw [e] at hcd; exact absurd hcd.1 (by decide)), ← hd, over_0 hN]
      rw [ht]
      refine ⟨fun hb => ?_, fun hb => ?_⟩
      · have hb' := of_decide_eq_false hb
        rw [if_pos (by omega)]
        refine ⟨((foldV 0 l : Nat) : Int), ?_, ?_, by omega, by omega⟩
        · show (if 2 ^ (64 - 1) ≤ foldV 0 l then NumEnd.range else .ok ((foldV 0 l : Nat) : Int)) = _
          rw [if_neg (by omega)]
        · rw [itoa_nonneg, hde]
      · have hb' := of_decide_eq_true hb
        by_cases g : foldV 0 l ≤ 18446744073709551615
        · rw [if_pos g]
          show (if 2 ^ (64 - 1) ≤ foldV 0 l then NumEnd.range else .ok ((foldV 0 l : Nat) : Int)) = _
          rw [if_pos (by omega)]
        · rw [if_neg g]; rfl
end Go.Proofs.YtcjajchfjoffnaaGreatDoor

namespace Go.Proofs.YtcjajchfjoffnaaGreatDoor
open Go.RowKit

set_option maxHeartbeats 800000 in
theorem l1Skip_walk (s : ByteArray) (i : Nat) (w : World) (hs : s.size ≤ 1048576) :
    Calls Tryz.prog 74 #[.string s, .int .i64 i] w fun e w' => e = .returned (.int .i64 (sk s i)) ∧ w = w' := by
  go_enter Tryz.func74, Tryz.ntmps74
  go_wp2
  go_loopw [1] (fun k wr => w = wr ∧ ∃ j : Nat, k = .int .i64 (j : Int) ∧ sk s i = sk s j) (fun k _ => s.size - (intOf k).toNat)
  case atStart => exact ⟨rfl, i, rfl, rfl⟩
  case round =>
    obtain ⟨rfl, j, rfl, hst⟩ := hrel
    have HST := hide hst
    clear hst
    by_cases hin : j < s.size
    · have hinI : (j : Int) < (s.size : Int) := by omega
      have e0 := bt_at s j hin
      by_cases c : bt s j = 32 ∨ bt s j = 9 ∨ bt s j = 10 ∨ bt s j = 13
      · have HX : Hid (sk s i = sk s (j + 1)) := by show _ = _; rw [unhide HST, sk_on c]
        rw [e0] at c
        clear e0
        rcases c with c | c | c | c
        · have t1 : (s[j].toNat : Int) = 32 := by omega
          clear c
          go_wp2
          go_roundw
          case rel => exact ⟨trivial, j + 1, by go_num, unhide HX⟩
          case measure => simp [intOf]; omega
        · have t1 : (s[j].toNat : Int) = 9 := by omega
          clear c
          go_wp2
          go_roundw
          case rel => exact ⟨trivial, j + 1, by go_num, unhide HX⟩
          case measure => simp [intOf]; omega
        · have t1 : (s[j].toNat : Int) = 10 := by omega
          clear c
          go_wp2
          go_roundw
          case rel => exact ⟨trivial, j + 1, by go_num, unhide HX⟩
          case measure => simp [intOf]; omega
        · have t1 : (s[j].toNat : Int) = 13 := by omega
          clear c
          go_wp2
          go_roundw
          case rel => exact ⟨trivial, j + 1, by go_num, unhide HX⟩
          case measure => simp [intOf]; omega
      · have HX : Hid (sk s i = j) := by show _ = _; rw [unhide HST, sk_off c]
        have t1 : ((s[j].toNat : Int) == 32) = false := by rw [beq_eq_false_iff_ne]; omega
        have t2 : ((s[j].toNat : Int) == 9) = false := by rw [beq_eq_false_iff_ne]; omega
        have t3 : ((s[j].toNat : Int) == 10) = false := by rw [beq_eq_false_iff_ne]; omega
        have t4 : ((s[j].toNat : Int) == 13) = false := by rw [beq_eq_false_iff_ne]; omega
        clear c e0
        go_wp2
        go_ret
        exact ⟨by rw [unhide HX]; rfl, rfl⟩
    · have hinI : ¬ (j : Int) < (s.size : Int) := by omega
      have d1 : decide ((j : Int) < (s.size : Int)) = false := by simp; omega
      have HX : Hid (sk s i = j) := by show _ = _; rw [unhide HST, sk_past (by omega)]
      go_wp2
      go_ret
      exact ⟨by rw [unhide HX]; rfl, rfl⟩

set_option maxHeartbeats 800000 in
theorem l1Word_walk (s t : ByteArray) (i : Nat) (w : World) (hs : s.size ≤ 1048576) (ht : t.size ≤ 10) (hi : i ≤ s.size + 1) :
    Calls Tryz.prog 122 #[.string s, .int .i64 i, .string t] w fun e w' => e = .returned (.bool (decide (i + t.size ≤ s.size) && (s.extract i (i + t.size)).toList == t.toList)) ∧ w = w' := by
  by_cases hin : i + t.size ≤ s.size
  · have h1 : (i : Int) + (t.size : Int) ≤ (s.size : Int) := by omega
    have h2 : (i : Int) ≤ (i : Int) + (t.size : Int) := by omega
    have h3 : (0 : Int) ≤ (i : Int) := by omega
    have hd : decide (i + t.size ≤ s.size) = true := by simp; omega
    rw [hd, Bool.true_and]
    clear hd
    go_enter Tryz.func122, Tryz.ntmps122
    go_wp2
    go_ret
    exact ⟨rfl, rfl⟩
  · have h1 : ¬ (i : Int) + (t.size : Int) ≤ (s.size : Int) := by omega
    have hd : decide (i + t.size ≤ s.size) = false := by simp; omega
    rw [hd, Bool.false_and]
    clear hd
    go_enter Tryz.func122, Tryz.ntmps122
    go_wp2
    go_ret
    exact ⟨rfl, rfl⟩
end Go.Proofs.YtcjajchfjoffnaaGreatDoor

namespace Go.Proofs.YtcjajchfjoffnaaGreatDoor
open Go.RowKit

theorem ex_toList (s : ByteArray) (i j : Nat) : (s.extract i j).toList = cutB s i j := by
  rw [ByteArray.toList_eq, Lib.extract_data]; rfl
theorem strOf_cut (s : ByteArray) (i j : Nat) : s.extract i j = strOf (cutB s i j) := by
  have h : (s.extract i j).data.toList = cutB s i j := by rw [Lib.extract_data]; rfl
  rw [← h]
  cases s.extract i j; simp [strOf]
theorem cut_tail (c : UInt8) (r : List UInt8) : cutB (strOf (c :: r)) 1 (r.length + 1) = r := by
  unfold cutB; rw [strOf_toList]; simp

set_option maxHeartbeats 800000 in
theorem tooBig_walk (l : List UInt8) (w : World) (h0 : l ≠ []) (hl : l.length ≤ 1048576) :
    Calls Tryz.prog 154 #[.string (strOf l)] w fun e w' => e = .returned (.bool (tooBig l)) ∧ w = w' := by
  obtain ⟨c, r, rfl⟩ : ∃ c r, l = c :: r := by cases l with | nil => exact absurd rfl h0 | cons c r => exact ⟨c, r, rfl⟩
  have hz : (strOf (c :: r)).size = r.length + 1 := by rw [strOf_size]; rfl
  have hpos : 0 < (strOf (c :: r)).size := by omega
  have hc : (strOf (c :: r))[0].toNat = c.toNat := rfl
  by_cases h45 : c = 45
  · subst h45
    have HT : Hid (tooBig (45 :: r) = over r lim1) := by show _ = _; rw [tooBig, if_pos rfl]
    have HE : Hid (((strOf (45 :: r)).extract 1 (r.length + 1)).toList = r) := by show _ = _; rw [ex_toList, cut_tail]
    have t1 : ((strOf (45 :: r))[0].toNat : Int) = 45 := by rw [hc]; rfl
    by_cases h19 : r.length = 19
    · have t2 : ((r.length : Int) != 19) = false := by rw [bne_eq_false_iff_eq]; omega
      have HT2 : Hid (tooBig (45 :: r) = (!Op.bytesLess r lim1 && !(r == lim1))) := by show _ = _; rw [unhide HT]; unfold over; rw [if_neg (by omega)]
      clear h19 hc h0
      go_enter Tryz.func154, Tryz.ntmps154
      go_wp2
      go_ret
      refine ⟨?_, rfl⟩
      rw [unhide HE, unhide HT2]; rfl
    · have t2 : ((r.length : Int) != 19) = true := by rw [bne_iff_ne]; omega
      have HT2 : Hid (tooBig (45 :: r) = decide (19 < (r.length : Int))) := by
        show _ = _; rw [unhide HT]; unfold over; rw [if_pos h19]; simp; omega
      clear h19 hc h0
      go_enter Tryz.func154, Tryz.ntmps154
      go_wp2
      go_ret
      refine ⟨?_, rfl⟩
      rw [unhide HT2]; rfl
  · have HT : Hid (tooBig (c :: r) = over (c :: r) lim0) := by show _ = _; rw [tooBig, if_neg h45]
    have HE : Hid ((strOf (c :: r)).toList = c :: r) := by show _ = _; rw [ByteArray.toList_eq, strOf_toList]
    have t1 : (((strOf (c :: r))[0].toNat : Int) == 45) = false := by
      rw [beq_eq_false_iff_ne, hc]
      intro e
      exact h45 (UInt8.toNat_inj.1 (by show c.toNat = 45; omega))
    by_cases h19 : r.length = 18
    · have t2 : ((r.length + 1 : Int) != 19) = false := by rw [bne_eq_false_iff_eq]; omega
      have HT2 : Hid (tooBig (c :: r) = (!Op.bytesLess (c :: r) lim0 && !((c :: r) == lim0))) := by show _ = _; rw [unhide HT]; unfold over; rw [if_neg (by simp; omega)]
      clear h19 hc h0
      go_enter Tryz.func154, Tryz.ntmps154
      go_wp2
      go_ret
      refine ⟨?_, rfl⟩
      rw [unhide HE, unhide HT2]; rfl
    · have t2 : ((r.length + 1 : Int) != 19) = true := by rw [bne_iff_ne]; omega
      have HT2 : Hid (tooBig (c :: r) = decide (19 < (r.length + 1 : Int))) := by
        show _ = _; rw [unhide HT]; unfold over; rw [if_pos (by simp; omega)]; simp; omega
      clear h19 hc h0
      go_enter Tryz.func154, Tryz.ntmps154
      go_wp2
      go_ret
      refine ⟨?_, rfl⟩
      rw [unhide HT2]; rfl
end Go.Proofs.YtcjajchfjoffnaaGreatDoor

namespace Go.Proofs.YtcjajchfjoffnaaGreatDoor
open Go.RowKit

theorem insR_perm (p : List UInt8 × List UInt8) : ∀ l, (insR p l).Perm (p :: l)
  | [] => List.Perm.refl _
  | q :: r => by
    unfold insR
    split
    · exact ((insR_perm p r).cons q).trans (List.Perm.swap p q r)
    · exact List.Perm.refl _
theorem fold_perm : ∀ (l acc : List (List UInt8 × List UInt8)), (l.foldl (fun acc p => insR p acc) acc).Perm (l ++ acc)
  | [], acc => List.Perm.refl _
  | p :: l, acc => by
    rw [List.foldl_cons]
    exact (fold_perm l _).trans (((insR_perm p acc).append_left l).trans (List.perm_middle))
theorem isort_perm (l : List (List UInt8 × List UInt8)) : (isort l).Perm l := by
  unfold isort
  have := fold_perm l []
  rw [List.append_nil] at this
  exact (List.reverse_perm _).trans this
theorem insR_down (p : List UInt8 × List UInt8) : ∀ l, l.Pairwise (fun a b => b.1 ≤ a.1) → (insR p l).Pairwise (fun a b => b.1 ≤ a.1)
  | [], _ => by simp [insR]
  | q :: r, h => by
    rw [List.pairwise_cons] at h
    unfold insR
    split
    · rename_i hlt
      rw [List.pairwise_cons]
      refine ⟨fun a ha => ?_, insR_down p r h.2⟩
      rcases List.mem_cons.1 ((insR_perm p r).subset ha) with rfl | ha
      · exact List.le_of_lt hlt
      · exact h.1 a ha
    · rename_i hlt
      have hqp : q.1 ≤ p.1 := List.not_lt.1 hlt
      rw [List.pairwise_cons, List.pairwise_cons]
      refine ⟨fun a ha => ?_, h⟩
      rcases List.mem_cons.1 ha with rfl | ha
      · exact hqp
      · exact List.le_trans (h.1 a ha) hqp
theorem fold_down : ∀ (l acc : List (List UInt8 × List UInt8)), acc.Pairwise (fun a b => b.1 ≤ a.1) → (l.foldl (fun acc p => insR p acc) acc).Pairwise (fun a b => b.1 ≤ a.1)
  | [], acc, h => h
  | p :: l, acc, h => by rw [List.foldl_cons]; exact fold_down l _ (insR_down p acc h)
theorem isort_up (l : List (List UInt8 × List UInt8)) : (isort l).Pairwise (fun a b => a.1 ≤ b.1) := by
  unfold isort
  rw [List.pairwise_reverse]
  exact fold_down l [] List.Pairwise.nil
/-- The keys in order. -/
theorem isort_keys {l : List (List UInt8 × List UInt8)} {ss : List (List UInt8)} (h : ss.Perm (l.map (·.1))) : ss.mergeSort (fun x y => decide (x ≤ y)) = (isort l).map (·.1) := by
  have tr : ∀ a b c : List UInt8, decide (a ≤ b) = true → decide (b ≤ c) = true → decide (a ≤ c) = true := fun a b c h1 h2 => by simp only [decide_eq_true_eq] at *; exact List.le_trans h1 h2
  have to : ∀ a b : List UInt8, (decide (a ≤ b) || decide (b ≤ a)) = true := fun a b => by simp only [Bool.or_eq_true, decide_eq_true_eq]; exact List.le_total a b
  refine List.Perm.eq_of_pairwise (le := fun a b => decide (a ≤ b) = true) (fun a b _ _ h1 h2 => ?_) (List.pairwise_mergeSort tr to ss) ?_ (((List.mergeSort_perm _ _).trans h).trans ((isort_perm l).map _).symm)
  · simp only [decide_eq_true_eq] at h1 h2
    exact List.le_antisymm h1 h2
  · rw [List.pairwise_map]
    exact (isort_up l).imp fun h => by simpa using h

def JM.toL : JM → List (List UInt8 × JV)
  | .nil => []
  | .cons k v r => (k, v) :: r.toL
theorem ctM_map : ∀ m : JM, ctM m = m.toL.map fun p => (p.1, ct p.2)
  | .nil => rfl
  | .cons k v r => by rw [ctM, JM.toL, List.map_cons, ctM_map r]
theorem keysM_map : ∀ m : JM, keysM m = m.toL.map (·.1)
  | .nil => rfl
  | .cons k v r => by rw [keysM, JM.toL, List.map_cons, keysM_map r]
theorem twM_nodup : ∀ (m : JM) (ks : List (List UInt8)), twM ks m = false → (keysM m).Nodup ∧ ∀ k ∈ keysM m, k ∉ ks
  | .nil, ks, _ => ⟨List.nodup_nil, fun k hk => by simp [keysM] at hk⟩
  | .cons k v r, ks, h => by
    rw [twM] at h
    simp only [Bool.or_eq_false_iff] at h
    obtain ⟨⟨_, h1⟩, h2⟩ := h
    obtain ⟨i1, i2⟩ := twM_nodup r (ks ++ [k]) h2
    rw [keysM, List.nodup_cons]
    refine ⟨⟨fun hk => i2 k hk (by simp), i1⟩, fun a ha => ?_⟩
    rcases List.mem_cons.1 ha with rfl | ha
    · intro hc; rw [List.contains_eq_mem, decide_eq_false_iff_not] at h1; exact h1 hc
    · intro hc; exact i2 a ha (List.mem_append_left _ hc)
end Go.Proofs.YtcjajchfjoffnaaGreatDoor

namespace Go.Proofs.YtcjajchfjoffnaaGreatDoor
open Go.RowKit

theorem qB_ge (c : UInt8) : 1 ≤ (qB c).length := by
  unfold qB
  repeat' split
  all_goals simp
theorem qs_ge (l : List UInt8) : l.length ≤ (qs l).length := by
  induction l with
  | nil => simp
  | cons c l ih =>
    have := qB_ge c
    simp only [qs, List.flatMap_cons, List.length_append, List.length_cons] at *
    omega
def JL.toL : JL → List JV
  | .nil => []
  | .cons v r => v :: r.toL
theorem ctL_map : ∀ l : JL, ctL l = l.toL.map ct
  | .nil => rfl
  | .cons v r => by rw [ctL, JL.toL, List.map_cons, ctL_map r]
theorem quoted_ge (l : List UInt8) : l.length + 2 ≤ (quoted l).length := by
  have := qs_ge l
  simp [quoted]; omega
theorem memT_parts (p : List UInt8 × List UInt8) : (memT p).length = (quoted p.1).length + 1 + p.2.length := by simp [memT]; omega

/-- The bytes of brackets with as many commas as parts need. -/
def hold (n : Nat) : Nat := 2 + (n - 1)

def dl : List JV → Nat
  | [] => 0
  | v :: r => max (depV v) (dl r)
def cl (vs : List JV) : Nat := (vs.map cntV).sum
def nl (ts : List (List UInt8)) : Nat := (ts.map List.length).sum
theorem dl_snoc (a : List JV) (v : JV) : dl (a ++ [v]) = max (dl a) (depV v) := by
  induction a with
  | nil => simp [dl]
  | cons x r ih => simp only [List.cons_append, dl, ih]; omega
theorem cl_snoc (a : List JV) (v : JV) : cl (a ++ [v]) = cl a + cntV v := by simp [cl]
theorem depL_dl : ∀ l : JL, depL l = dl l.toL
  | .nil => rfl
  | .cons v r => by rw [depL, JL.toL, dl, depL_dl r]
theorem cntL_cl : ∀ l : JL, cntL l = cl l.toL
  | .nil => rfl
  | .cons v r => by rw [cntL, JL.toL, cntL_cl r]; simp [cl]
theorem dl_take (a : List JV) (k : Nat) : dl (a.take k) ≤ dl a := by
  induction a generalizing k with
  | nil => simp
  | cons x r ih =>
    cases k with
    | zero => simp [dl]
    | succ k => simp only [List.take_succ_cons, dl]; have := ih k; omega
theorem dl_at (a : List JV) (k : Nat) (h : k < a.length) : depV a[k] ≤ dl a := by
  induction a generalizing k with
  | nil => simp at h
  | cons x r ih =>
    cases k with
    | zero => simp only [List.getElem_cons_zero, dl]; omega
    | succ k => simp only [List.getElem_cons_succ, dl]; have := ih k (by simpa using h); omega
theorem sum_take (a : List Nat) (k : Nat) : (a.take k).sum ≤ a.sum := by
  have : a.sum = (a.take k).sum + (a.drop k).sum := by rw [← List.sum_append, List.take_append_drop]
  omega
theorem sum_at (a : List Nat) (k : Nat) (h : k < a.length) : a[k] ≤ a.sum := by
  have h1 := sum_take a (k + 1)
  rw [List.take_succ_eq_append_getElem h, List.sum_append] at h1
  simp at h1; omega
theorem joinT_nl : ∀ ts : List (List UInt8), (joinT ts).length = ts.length + nl ts
  | [] => rfl
  | t :: r => by
    have := joinT_nl r
    simp [joinT, nl] at this ⊢
    omega
theorem joinC_nl (ts : List (List UInt8)) : (joinC ts).length + 2 = hold ts.length + nl ts := by
  cases ts with
  | nil => simp [joinC, hold, nl]
  | cons t r =>
    have := joinT_nl r
    simp [joinC, hold, nl] at this ⊢
    omega
theorem depM_dl : ∀ m : JM, depM m = dl (m.toL.map (·.2))
  | .nil => rfl
  | .cons k v r => by rw [depM, JM.toL, List.map_cons, dl, depM_dl r]
theorem cntM_sum : ∀ m : JM, cntM m = (m.toL.map fun q => cntV q.2).sum
  | .nil => rfl
  | .cons k v r => by rw [cntM, JM.toL, List.map_cons, List.sum_cons, cntM_sum r]
def memN (q : List UInt8 × JV) : Nat := (quoted q.1).length + 1 + (ct q.2).length
theorem ctObj_len (m : JM) : (ct (.obj m)).length = hold m.toL.length + (m.toL.map memN).sum := by
  show (mkO (isort (ctM m))).length = _
  have h := joinC_nl ((isort (ctM m)).map memT)
  have e1 : ((isort (ctM m)).map memT).length = m.toL.length := by rw [List.length_map, (isort_perm _).length_eq, ctM_map, List.length_map]
  have e2 : nl ((isort (ctM m)).map memT) = (m.toL.map memN).sum := by
    unfold nl
    have p := (((isort_perm (ctM m)).map memT).map List.length).sum_nat
    rw [p, ctM_map]
    simp only [List.map_map]
    congr 1
    apply List.map_congr_left
    intro q _
    simp only [Function.comp_apply, memN]
    exact memT_parts _
  rw [e1, e2] at h
  simp [mkO]; omega
theorem sumf_at (f : List UInt8 × JV → Nat) {qs : List (List UInt8 × JV)} {q : List UInt8 × JV} (h : q ∈ qs) : f q ≤ (qs.map f).sum := by
  obtain ⟨j, hj, rfl⟩ := List.getElem_of_mem h
  have := sum_at (qs.map f) j (by simpa using hj)
  simpa using this
end Go.Proofs.YtcjajchfjoffnaaGreatDoor

namespace Go.Proofs.YtcjajchfjoffnaaGreatDoor
open Go.RowKit

def isOp (c : Nat) : Bool := c == 91 || c == 123
def isCl (c : Nat) : Bool := c == 93 || c == 125
/-- The next place to look at. -/
def nxt (T : ByteArray) (i : Nat) : Option Nat := if bt T i = 34 then (strQ T i).map (·.2) else some (i + 1)
/-- What is open behind a byte; none where nothing was open that it could close. -/
def op1 (c op : Nat) : Option Nat := if isOp c then some (op + 1) else if isCl c then (if op = 0 then none else some (op - 1)) else some op
def stopAt (T : ByteArray) (i : Nat) : Bool := decide (i = T.size) || bt T i == 44 || bt T i == 93 || bt T i == 125
def endF (T : ByteArray) : Nat → Nat → Nat → Option Nat
  | 0, _, _ => none
  | f + 1, op, i => if i < T.size then (nxt T i).bind fun j => (op1 (bt T i) op).bind fun o => if o = 0 ∧ stopAt T j = true then some j else endF T f o j else none
def wiF (T : ByteArray) : Nat → Nat → Nat → Nat → Option Nat
  | 0, _, _, _ => none
  | f + 1, op, mo, i => if i < T.size then (nxt T i).bind fun j => (op1 (bt T i) op).bind fun o => wiF T f o (max mo o) j else some mo

section
variable {T : ByteArray}
theorem at_head {i : Nat} {c : UInt8} {m : List UInt8} (h : T.data.toList.drop i = c :: m) : i < T.size ∧ bt T i = c.toNat ∧ T.data.toList.drop (i + 1) = m := by
  refine ⟨drop_size2 h (by simp), ?_, ?_⟩
  · have := bt_drop T i 0; rw [h] at this; exact this
  · exact drop_past (m := [c]) (n := m) h
/-- What stands behind a value. -/
def Stops (m : List UInt8) : Prop := m = [] ∨ ∃ c r, m = c :: r ∧ (c.toNat = 44 ∨ c.toNat = 93 ∨ c.toNat = 125)
theorem stop_of {i : Nat} {m : List UInt8} (h : T.data.toList.drop i = m) (hi : i ≤ T.size) (hm : Stops m) : stopAt T i = true := by
  unfold stopAt
  rcases hm with rfl | ⟨c, r, rfl, hc⟩
  · have : i = T.size := by
      have := congrArg List.length h
      rw [List.length_drop, data_len, List.length_nil] at this
      omega
    simp [this]
  · obtain ⟨_, hb, _⟩ := at_head h
    rw [hb]
    rcases hc with hc | hc | hc <;> simp [hc]
theorem stop_not {i : Nat} {c : UInt8} {m : List UInt8} (h : T.data.toList.drop i = c :: m) (h1 : c.toNat ≠ 44) (h2 : c.toNat ≠ 93) (h3 : c.toNat ≠ 125) : stopAt T i = false := by
  obtain ⟨hl, hb, _⟩ := at_head h
  unfold stopAt
  rw [hb]
  simp [h1, h2, h3]; omega
def plainC (c : UInt8) : Prop := c.toNat ≠ 34 ∧ c.toNat ≠ 91 ∧ c.toNat ≠ 123 ∧ c.toNat ≠ 93 ∧ c.toNat ≠ 125
theorem op1_plain {c : UInt8} (h : plainC c) (op : Nat) : op1 c.toNat op = some op := by
  obtain ⟨_, a, b, d, e⟩ := h
  simp [op1, isOp, isCl, a, b, d, e]
theorem nxt_plain {i : Nat} {c : UInt8} (hb : bt T i = c.toNat) (h : c.toNat ≠ 34) : nxt T i = some (i + 1) := by unfold nxt; rw [if_neg (by omega)]

/-- A text that is passed over where something is open. -/
def InP (T : ByteArray) (t : List UInt8) : Prop := ∀ op i m f k, 1 ≤ op → T.data.toList.drop i = t ++ m → endF T f op (i + t.length) = some k → ∃ f', endF T f' op i = some k
def TopP (T : ByteArray) (t : List UInt8) : Prop := ∀ i m, T.data.toList.drop i = t ++ m → Stops m → ∃ f, endF T f 0 i = some (i + t.length)
theorem InP.nil : InP T [] := fun _ _ _ f _ _ _ h => ⟨f, h⟩
theorem InP.app {a b : List UInt8} (ha : InP T a) (hb : InP T b) : InP T (a ++ b) := fun op i m f k ho h he => by
  rw [List.append_assoc] at h
  rw [List.length_append, ← Nat.add_assoc] at he
  obtain ⟨f1, h1⟩ := hb op (i + a.length) m f k ho (drop_past h) he
  exact ha op i (b ++ m) f1 k ho h h1
theorem InP.one {c : UInt8} (hc : plainC c) : InP T [c] := fun op i m f k ho h he => by
  obtain ⟨hl, hb, _⟩ := at_head h
  refine ⟨f + 1, ?_⟩
  rw [endF, if_pos hl, nxt_plain hb hc.1, hb, op1_plain hc]
  simp only [Option.bind_some]
  rw [if_neg (by omega)]
  exact he
theorem InP.plain : ∀ {t : List UInt8}, (∀ c ∈ t, plainC c) → InP T t
  | [], _ => InP.nil
  | c :: _, h => InP.app (a := [c]) (InP.one (h c List.mem_cons_self)) (InP.plain fun d hd => h d (List.mem_cons_of_mem _ hd))
theorem nxt_quoted {i : Nat} {l m : List UInt8} (hv : Lib.validD l = true) (h : T.data.toList.drop i = quoted l ++ m) : i < T.size ∧ bt T i = 34 ∧ nxt T i = some (i + (quoted l).length) := by
  have h' : T.data.toList.drop i = 34 :: (qs l ++ 34 :: m) := by rw [h]; simp [quoted]
  obtain ⟨hl, hb, _⟩ := at_head h'
  refine ⟨hl, hb, ?_⟩
  unfold nxt
  rw [if_pos (by rw [hb]; rfl), strQ_at l T m hv i h]
  rfl
theorem op1_34 (op : Nat) : op1 34 op = some op := rfl
theorem InP.quoted {l : List UInt8} (hv : Lib.validD l = true) : InP T (Go.Proofs.YtcjajchfjoffnaaGreatDoor.quoted l) := fun op i m f k ho h he => by
  obtain ⟨hl, hb, hn⟩ := nxt_quoted hv h
  refine ⟨f + 1, ?_⟩
  rw [endF, if_pos hl, hn, hb, op1_34]
  simp only [Option.bind_some]
  rw [if_neg (by omega)]
  exact he
theorem TopP.quoted {l : List UInt8} (hv : Lib.validD l = true) : TopP T (Go.Proofs.YtcjajchfjoffnaaGreatDoor.quoted l) := fun i m h hs => by
  obtain ⟨hl, hb, hn⟩ := nxt_quoted hv h
  have hd := drop_past h
  have hle : i + (Go.Proofs.YtcjajchfjoffnaaGreatDoor.quoted l).length ≤ T.size := by
    have := congrArg List.length h
    rw [List.length_drop, data_len, List.length_append] at this
    omega
  refine ⟨1, ?_⟩
  rw [endF, if_pos hl, hn, hb, op1_34]
  simp only [Option.bind_some]
  rw [if_pos ⟨trivial, stop_of hd hle hs⟩]
theorem TopP.plain : ∀ {t : List UInt8}, t ≠ [] → (∀ c ∈ t, plainC c ∧ c.toNat ≠ 44) → TopP T t
  | [], h, _ => absurd rfl h
  | [c], _, hc => fun i m h hs => by
    obtain ⟨hl, hb, hd⟩ := at_head (T := T) (m := m) h
    have hp := hc c List.mem_cons_self
    refine ⟨1, ?_⟩
    rw [endF, if_pos hl, nxt_plain hb hp.1.1, hb, op1_plain hp.1]
    simp only [Option.bind_some]
    rw [if_pos ⟨trivial, stop_of hd hl hs⟩]
    rfl
  | c :: d :: r, _, hc => fun i m h hs => by
    obtain ⟨hl, hb, hd⟩ := at_head (T := T) (m := d :: r ++ m) h
    have hp := hc c List.mem_cons_self
    have hq := hc d (List.mem_cons_of_mem _ List.mem_cons_self)
    obtain ⟨f, hf⟩ := TopP.plain (t := d :: r) (by simp) (fun x hx => hc x (List.mem_cons_of_mem _ hx)) (i + 1) m hd hs
    refine ⟨f + 1, ?_⟩
    rw [endF, if_pos hl, nxt_plain hb hp.1.1, hb, op1_plain hp.1]
    simp only [Option.bind_some]
    rw [if_neg (by rw [stop_not (m := r ++ m) hd hq.2 hq.1.2.2.2.1 hq.1.2.2.2.2]; simp), hf]
    simp only [List.length_cons]
    congr 1; omega
theorem InP.wrap {t : List UInt8} {a b : UInt8} (ha : isOp a.toNat = true) (hb : isCl b.toNat = true) (ht : InP T t) : InP T (a :: (t ++ [b])) ∧ TopP T (a :: (t ++ [b])) := by
  have ha34 : a.toNat ≠ 34 := by intro e; rw [e] at ha; cases ha
  have hb34 : b.toNat ≠ 34 := by intro e; rw [e] at hb; cases hb
  have hbo : isOp b.toNat = false := by
    simp only [isCl, Bool.or_eq_true, beq_iff_eq] at hb
    rcases hb with h | h <;> simp [isOp, h]
  refine ⟨fun op i m f k ho h he => ?_, fun i m h hs => ?_⟩
  · have h0 : T.data.toList.drop i = a :: (t ++ (b :: m)) := by rw [h]; simp
    obtain ⟨hl, hba, hd⟩ := at_head h0
    obtain ⟨hl2, hbb, hd2⟩ := at_head (drop_past hd)
    have e2 : ∃ f', endF T f' (op + 1) (i + 1 + t.length) = some k := by
      refine ⟨f + 1, ?_⟩
      rw [endF, if_pos hl2, nxt_plain hbb hb34, hbb]
      simp only [Option.bind_some, op1, hbo, hb, if_true, Bool.false_eq_true, if_false]
      rw [if_neg (by omega)]
      simp only [Option.bind_some, Nat.add_sub_cancel]
      rw [if_neg (by omega)]
      rw [show i + 1 + t.length + 1 = i + (a :: (t ++ [b])).length by simp; omega]
      exact he
    obtain ⟨f2, hf2⟩ := e2
    obtain ⟨f3, hf3⟩ := ht (op + 1) (i + 1) (b :: m) f2 k (by omega) hd hf2
    refine ⟨f3 + 1, ?_⟩
    rw [endF, if_pos hl, nxt_plain hba ha34, hba]
    simp only [Option.bind_some, op1, ha, if_true]
    rw [if_neg (by omega)]
    exact hf3
  · have h0 : T.data.toList.drop i = a :: (t ++ (b :: m)) := by rw [h]; simp
    obtain ⟨hl, hba, hd⟩ := at_head h0
    obtain ⟨hl2, hbb, hd2⟩ := at_head (drop_past hd)
    have e2 : endF T 1 1 (i + 1 + t.length) = some (i + (a :: (t ++ [b])).length) := by
      rw [endF, if_pos hl2, nxt_plain hbb hb34, hbb]
      simp only [Option.bind_some, op1, hbo, hb, if_true, Bool.false_eq_true, if_false]
      rw [if_neg (by omega)]
      simp only [Option.bind_some, Nat.sub_self]
      rw [if_pos ⟨trivial, stop_of hd2 hl2 hs⟩]
      simp; omega
    obtain ⟨f3, hf3⟩ := ht 1 (i + 1) (b :: m) 1 _ (by omega) hd e2
    refine ⟨f3 + 1, ?_⟩
    rw [endF, if_pos hl, nxt_plain hba ha34, hba]
    simp only [Option.bind_some, op1, ha, if_true]
    rw [if_neg (by omega)]
    exact hf3
theorem InP.joinT : ∀ {ts : List (List UInt8)}, (∀ t ∈ ts, InP T t) → InP T (Go.Proofs.YtcjajchfjoffnaaGreatDoor.joinT ts)
  | [], _ => InP.nil
  | t :: r, h => InP.app (a := [44]) (InP.one ⟨by decide, by decide, by decide, by decide, by decide⟩) (InP.app (h t List.mem_cons_self) (InP.joinT fun x hx => h x (List.mem_cons_of_mem _ hx)))
theorem InP.joinC {ts : List (List UInt8)} (h : ∀ t ∈ ts, InP T t) : InP T (Go.Proofs.YtcjajchfjoffnaaGreatDoor.joinC ts) := by
  cases ts with
  | nil => exact InP.nil
  | cons t r => exact InP.app (h t List.mem_cons_self) (InP.joinT fun x hx => h x (List.mem_cons_of_mem _ hx))
theorem num_plain {l : List UInt8} (h : okV (.num l)) : l ≠ [] ∧ ∀ c ∈ l, plainC c ∧ c.toNat ≠ 44 := by
  rw [okV] at h
  obtain ⟨c, r, rfl, hc, hr⟩ := h
  refine ⟨by simp, fun d hd => ?_⟩
  have : d.toNat = 45 ∨ isDg d.toNat = true := by
    rcases List.mem_cons.1 hd with rfl | hd
    · exact hc
    · exact .inr (hr d hd)
  have h2 : d.toNat = 45 ∨ (48 ≤ d.toNat ∧ d.toNat ≤ 57) := this.imp id isDg_iff.1
  exact ⟨⟨by omega, by omega, by omega, by omega, by omega⟩, by omega⟩
theorem word_plain {l : List UInt8} (h : l ∈ [[110, 117, 108, 108], [116, 114, 117, 101], ([102, 97, 108, 115, 101] : List UInt8)]) : l ≠ [] ∧ ∀ c ∈ l, plainC c ∧ c.toNat ≠ 44 := by
  unfold plainC
  revert l
  decide

mutual
theorem ctP : ∀ v : JV, okV v → InP T (ct v) ∧ TopP T (ct v)
  | .nul, _ => by
    have := word_plain (l := [110, 117, 108, 108]) (by simp)
    exact ⟨InP.plain fun c hc => (this.2 c hc).1, TopP.plain this.1 this.2⟩
  | .tt, _ => by
    have := word_plain (l := [116, 114, 117, 101]) (by simp)
    exact ⟨InP.plain fun c hc => (this.2 c hc).1, TopP.plain this.1 this.2⟩
  | .ff, _ => by
    have := word_plain (l := [102, 97, 108, 115, 101]) (by simp)
    exact ⟨InP.plain fun c hc => (this.2 c hc).1, TopP.plain this.1 this.2⟩
  | .num l, h => by
    have := num_plain h
    exact ⟨InP.plain fun c hc => (this.2 c hc).1, TopP.plain this.1 this.2⟩
  | .str l, h => by
    rw [okV] at h
    exact ⟨InP.quoted h, TopP.quoted h⟩
  | .arr l, h => by
    rw [okV] at h
    exact InP.wrap rfl rfl (InP.joinC (ctLP l h))
  | .obj m, h => by
    rw [okV] at h
    refine InP.wrap rfl rfl (InP.joinC fun t ht => ?_)
    obtain ⟨p, hp, rfl⟩ := List.mem_map.1 ht
    exact ctMP m h p ((isort_perm _).subset hp)
theorem ctLP : ∀ l : JL, okL l → ∀ t ∈ ctL l, InP T t
  | .nil, _, t, ht => by simp [ctL] at ht
  | .cons v r, h, t, ht => by
    rw [okL] at h
    rw [ctL] at ht
    rcases List.mem_cons.1 ht with e | ht
    · rw [e]; exact (ctP v h.1).1
    · exact ctLP r h.2 t ht
theorem ctMP : ∀ m : JM, okM m → ∀ p ∈ ctM m, InP T (memT p)
  | .nil, _, p, hp => by simp [ctM] at hp
  | .cons k v r, h, p, hp => by
    rw [okM] at h
    rw [ctM] at hp
    rcases List.mem_cons.1 hp with e | hp
    · rw [e]
      exact InP.app (InP.quoted h.1) (InP.app (a := [58]) (InP.one ⟨by decide, by decide, by decide, by decide, by decide⟩) (ctP v h.2.1).1)
    · exact ctMP r h.2.2 p hp
end
end
end Go.Proofs.YtcjajchfjoffnaaGreatDoor
