import Derived.Test.YtiolpmhodbefoaaBp3
namespace Go.Proofs.Ytiolpmhodbefoaa
open Go.RowKit

def brkO (o : Int) (c : UInt8) : Int := if c = 40 ∨ c = 91 then o + 1 else if c = 41 ∨ c = 93 then o - 1 else o
theorem sE_len {r t : Bs} (h : sE r = some t) : t.length < r.length := by
  obtain ⟨p, rfl⟩ := sE_last h
  rw [List.length_append, List.length_cons]; omega
theorem sE_take {r t : Bs} (h : sE r = some t) : r = r.take (r.length - t.length) ++ t := by
  obtain ⟨p, rfl⟩ := sE_last h
  have e : (p ++ 39 :: t).length - t.length = p.length + 1 := by rw [List.length_append, List.length_cons]; omega
  rw [e, List.take_append]
  simp [List.take_of_length_le]
theorem sE_drop {r t : Bs} (h : sE r = some t) : r.drop (r.length - t.length) = t := by
  obtain ⟨p, rfl⟩ := sE_last h
  have e : (p ++ 39 :: t).length - t.length = p.length + 1 := by rw [List.length_append, List.length_cons]; omega
  rw [e]
  simp
/-- A text cut where a word stands outside of strings and brackets. -/
def spl (w : UInt8) (ws : Bs) (o : Int) (cur : Bs) (l : Bs) : List Bs := match l with
  | [] => [cur]
  | c :: r => if o = 0 ∧ (w :: ws).isPrefixOf (c :: r) = true then cur :: spl w ws 0 [] (r.drop ws.length)
    else if c = 39 then (match _h : sE r with
      | none => [cur ++ c :: r]
      | some t => spl w ws o (cur ++ 39 :: r.take (r.length - t.length)) t)
    else spl w ws (brkO o c) (cur ++ [c]) r
termination_by l.length
decreasing_by
  · simp only [List.length_cons, List.length_drop]; omega
  · have := sE_len _h; simp only [List.length_cons]; omega
  · simp only [List.length_cons]; omega
/-- The first place of a word outside of strings and brackets. -/
def fT (w : UInt8) (ws : Bs) (o : Int) (i : Nat) (l : Bs) : Option Nat := match l with
  | [] => none
  | c :: r => if o = 0 ∧ (w :: ws).isPrefixOf (c :: r) = true then some i
    else if c = 39 then (match h : sE r with
      | none => none
      | some t => fT w ws o (i + (r.length + 1 - t.length)) t)
    else fT w ws (brkO o c) (i + 1) r
termination_by l.length
decreasing_by
  · have := sE_len h; simp only [List.length_cons]; omega
  · simp only [List.length_cons]; omega
/-- The place behind the bracket that closes. -/
def clo (o : Int) (i : Nat) (l : Bs) : Option Nat := match l with
  | [] => none
  | c :: r => if c = 39 then (match h : sE r with
      | none => none
      | some t => clo o (i + (r.length + 1 - t.length)) t)
    else if brkO o c = 0 then some (i + 1) else clo (brkO o c) (i + 1) r
termination_by l.length
decreasing_by
  · have := sE_len h; simp only [List.length_cons]; omega
  · simp only [List.length_cons]; omega
theorem spl_nil (w : UInt8) (ws : Bs) (o : Int) (cur : Bs) : spl w ws o cur [] = [cur] := by rw [spl]
theorem spl_hit {w : UInt8} {ws : Bs} (cur r : Bs) : spl w ws 0 cur (w :: (ws ++ r)) = cur :: spl w ws 0 [] r := by
  rw [spl, if_pos ⟨rfl, by simp [List.isPrefixOf_iff_prefix, List.prefix_append]⟩]
  simp
theorem spl_str {w : UInt8} {ws : Bs} {o : Int} {cur q t : Bs} (hw : w ≠ 39) (hq : sE q = some []) : spl w ws o cur (39 :: (q ++ t)) = spl w ws o (cur ++ 39 :: q) t := by
  have h := sE_ext (t := t) hq
  rw [List.nil_append] at h
  rw [spl, if_neg (by rintro ⟨_, h2⟩; simp at h2; exact hw h2.1), if_pos rfl]
  split
  · rename_i h1; rw [h] at h1; cases h1
  · rename_i t' h1
    rw [h] at h1
    injection h1 with h1
    subst h1
    congr 3
    have e : (q ++ t).length - t.length = q.length := by rw [List.length_append]; omega
    rw [e, List.take_left]
theorem spl_chr {w : UInt8} {ws : Bs} {o : Int} {cur r : Bs} {c : UInt8} (h : o ≠ 0 ∨ w ≠ c) (hc : c ≠ 39) : spl w ws o cur (c :: r) = spl w ws (brkO o c) (cur ++ [c]) r := by
  rw [spl, if_neg, if_neg hc]
  rintro ⟨h1, h2⟩
  rcases h with h | h
  · exact h h1
  · simp at h2; exact h h2.1
theorem fT_str {w : UInt8} {ws : Bs} {o : Int} {i : Nat} {q t : Bs} (hw : w ≠ 39) (hq : sE q = some []) : fT w ws o i (39 :: (q ++ t)) = fT w ws o (i + (q.length + 1)) t := by
  have h := sE_ext (t := t) hq
  rw [List.nil_append] at h
  rw [fT, if_neg (by rintro ⟨_, h2⟩; simp at h2; exact hw h2.1), if_pos rfl]
  split
  · rename_i h1; rw [h] at h1; cases h1
  · rename_i t' h1
    rw [h] at h1
    injection h1 with h1
    subst h1
    congr 1
    rw [List.length_append]; omega
theorem fT_chr {w : UInt8} {ws : Bs} {o : Int} {i : Nat} {r : Bs} {c : UInt8} (h : o ≠ 0 ∨ w ≠ c) (hc : c ≠ 39) : fT w ws o i (c :: r) = fT w ws (brkO o c) (i + 1) r := by
  rw [fT, if_neg, if_neg hc]
  rintro ⟨h1, h2⟩
  rcases h with h | h
  · exact h h1
  · simp at h2; exact h h2.1
theorem clo_str {o : Int} {i : Nat} {q t : Bs} (hq : sE q = some []) : clo o i (39 :: (q ++ t)) = clo o (i + (q.length + 1)) t := by
  have h := sE_ext (t := t) hq
  rw [List.nil_append] at h
  rw [clo, if_pos rfl]
  split
  · rename_i h1; rw [h] at h1; cases h1
  · rename_i t' h1
    rw [h] at h1
    injection h1 with h1
    subst h1
    congr 1
    rw [List.length_append]; omega
theorem isBr_no {c : UInt8} (h : isBr c = false) : c ≠ 39 ∧ c ≠ 40 ∧ c ≠ 41 ∧ c ≠ 91 ∧ c ≠ 93 := by
  unfold isBr at h
  simp only [Bool.or_eq_false_iff, beq_eq_false_iff_ne] at h
  obtain ⟨⟨⟨⟨h1, h2⟩, h3⟩, h4⟩, h5⟩ := h
  exact ⟨h1, h2, h3, h4, h5⟩
theorem brkO_no {c : UInt8} (h : isBr c = false) (o : Int) : brkO o c = o := by
  obtain ⟨_, h2, h3, h4, h5⟩ := isBr_no h
  unfold brkO
  rw [if_neg (by simp [h2, h4]), if_neg (by simp [h3, h5])]
theorem spl_cl {w : UInt8} {ws : Bs} (hw : isBr w = false) {P : UInt8 → Bool} {x : Bs} (h : Cl P x) : ∀ (o : Int) (cur t : Bs), 0 ≤ o → (o = 0 → P w = false) → spl w ws o cur (x ++ t) = spl w ws o (cur ++ x) t := by
  obtain ⟨w1, w2, w3, w4, w5⟩ := isBr_no hw
  induction h with
  | nil => intro o cur t _ _; simp
  | @chr P c r h1 h2 _ ih =>
    intro o cur t ho hP
    rw [List.cons_append, spl_chr, brkO_no h1, ih o _ t ho hP]
    · simp
    · by_cases e : o = 0
      · right; intro e2; rw [← e2] at h2; rw [hP e] at h2; cases h2
      · exact .inl e
    · exact (isBr_no h1).1
  | @quo P q r h1 _ ih =>
    intro o cur t ho hP
    rw [List.cons_append, List.append_assoc, spl_str w1 h1, ih o _ t ho hP]
    simp
  | @par P Q x r h1 _ ih1 ih2 =>
    intro o cur t ho hP
    rw [List.cons_append, List.append_assoc, spl_chr (.inr w2) (by decide)]
    have e1 : brkO o 40 = o + 1 := rfl
    rw [e1, ih1 (o + 1) _ _ (by omega) (by intro e; omega), List.cons_append, spl_chr (.inl (by omega)) (by decide)]
    have e2 : brkO (o + 1) 41 = o := by show (if _ then _ else if _ then _ else _) = _; rw [if_neg (by decide), if_pos (by decide)]; omega
    rw [e2, ih2 o _ t ho hP]
    simp
  | @brk P Q x r h1 _ ih1 ih2 =>
    intro o cur t ho hP
    rw [List.cons_append, List.append_assoc, spl_chr (.inr w4) (by decide)]
    have e1 : brkO o 91 = o + 1 := rfl
    rw [e1, ih1 (o + 1) _ _ (by omega) (by intro e; omega), List.cons_append, spl_chr (.inl (by omega)) (by decide)]
    have e2 : brkO (o + 1) 93 = o := by show (if _ then _ else if _ then _ else _) = _; rw [if_neg (by decide), if_pos (by decide)]; omega
    rw [e2, ih2 o _ t ho hP]
    simp
theorem fT_cl {w : UInt8} {ws : Bs} (hw : isBr w = false) {P : UInt8 → Bool} {x : Bs} (h : Cl P x) : ∀ (o : Int) (i : Nat) (t : Bs), 0 ≤ o → (o = 0 → P w = false) → fT w ws o i (x ++ t) = fT w ws o (i + x.length) t := by
  obtain ⟨w1, w2, w3, w4, w5⟩ := isBr_no hw
  induction h with
  | nil => intro o i t _ _; simp
  | @chr P c r h1 h2 _ ih =>
    intro o i t ho hP
    rw [List.cons_append, fT_chr, brkO_no h1, ih o _ t ho hP]
    · rw [List.length_cons, Nat.add_assoc, Nat.add_comm 1]
    · by_cases e : o = 0
      · right; intro e2; rw [← e2] at h2; rw [hP e] at h2; cases h2
      · exact .inl e
    · exact (isBr_no h1).1
  | @quo P q r h1 _ ih =>
    intro o i t ho hP
    rw [List.cons_append, List.append_assoc, fT_str w1 h1, ih o _ t ho hP]
    rw [List.length_cons, List.length_append]; congr 1; omega
  | @par P Q x r h1 _ ih1 ih2 =>
    intro o i t ho hP
    rw [List.cons_append, List.append_assoc, fT_chr (.inr w2) (by decide)]
    have e1 : brkO o 40 = o + 1 := rfl
    rw [e1, ih1 (o + 1) _ _ (by omega) (by intro e; omega), List.cons_append, fT_chr (.inl (by omega)) (by decide)]
    have e2 : brkO (o + 1) 41 = o := by show (if _ then _ else if _ then _ else _) = _; rw [if_neg (by decide), if_pos (by decide)]; omega
    rw [e2, ih2 o _ t ho hP]
    simp only [List.length_cons, List.length_append]; congr 1; omega
  | @brk P Q x r h1 _ ih1 ih2 =>
    intro o i t ho hP
    rw [List.cons_append, List.append_assoc, fT_chr (.inr w4) (by decide)]
    have e1 : brkO o 91 = o + 1 := rfl
    rw [e1, ih1 (o + 1) _ _ (by omega) (by intro e; omega), List.cons_append, fT_chr (.inl (by omega)) (by decide)]
    have e2 : brkO (o + 1) 93 = o := by show (if _ then _ else if _ then _ else _) = _; rw [if_neg (by decide), if_pos (by decide)]; omega
    rw [e2, ih2 o _ t ho hP]
    simp only [List.length_cons, List.length_append]; congr 1; omega
theorem clo_chr {o : Int} {i : Nat} {r : Bs} {c : UInt8} (hc : c ≠ 39) (h : brkO o c ≠ 0) : clo o i (c :: r) = clo (brkO o c) (i + 1) r := by rw [clo, if_neg hc, if_neg h]
theorem clo_cl {P : UInt8 → Bool} {x : Bs} (h : Cl P x) : ∀ (o : Int) (i : Nat) (t : Bs), 1 ≤ o → clo o i (x ++ t) = clo o (i + x.length) t := by
  induction h with
  | nil => intro o i t _; simp
  | @chr P c r h1 h2 _ ih =>
    intro o i t ho
    have e := brkO_no h1 o
    rw [List.cons_append, clo_chr (isBr_no h1).1 (by omega), e, ih o _ t ho]
    rw [List.length_cons, Nat.add_assoc, Nat.add_comm 1]
  | @quo P q r h1 _ ih =>
    intro o i t ho
    rw [List.cons_append, List.append_assoc, clo_str h1, ih o _ t ho]
    rw [List.length_cons, List.length_append]; congr 1; omega
  | @par P Q x r h1 _ ih1 ih2 =>
    intro o i t ho
    have e1 : brkO o 40 = o + 1 := rfl
    have e2 : brkO (o + 1) 41 = o := by show (if _ then _ else if _ then _ else _) = _; rw [if_neg (by decide), if_pos (by decide)]; omega
    rw [List.cons_append, List.append_assoc, clo_chr (by decide) (by omega), e1, ih1 (o + 1) _ _ (by omega), List.cons_append, clo_chr (by decide) (by omega), e2, ih2 o _ t ho]
    simp only [List.length_cons, List.length_append]; congr 1; omega
  | @brk P Q x r h1 _ ih1 ih2 =>
    intro o i t ho
    have e1 : brkO o 91 = o + 1 := rfl
    have e2 : brkO (o + 1) 93 = o := by show (if _ then _ else if _ then _ else _) = _; rw [if_neg (by decide), if_pos (by decide)]; omega
    rw [List.cons_append, List.append_assoc, clo_chr (by decide) (by omega), e1, ih1 (o + 1) _ _ (by omega), List.cons_append, clo_chr (by decide) (by omega), e2, ih2 o _ t ho]
    simp only [List.length_cons, List.length_append]; congr 1; omega
/-- A bracket and what closes it. -/
theorem clo_at {P : UInt8 → Bool} {x : Bs} (h : Cl P x) {a b : UInt8} (ha : a = 40 ∨ a = 91) (hb : b = 41 ∨ b = 93) (t : Bs) : clo 0 0 (a :: (x ++ b :: t)) = some (x.length + 2) := by
  have e1 : brkO 0 a = 1 := by rcases ha with rfl | rfl <;> rfl
  have e2 : brkO 1 b = 0 := by rcases hb with rfl | rfl <;> rfl
  rw [clo_chr (by rcases ha with rfl | rfl <;> decide) (by omega), e1, clo_cl h 1 _ _ (by omega), clo, if_neg (by rcases hb with rfl | rfl <;> decide), if_pos e2]
  congr 1; omega
/-- The pieces put together again. -/
def jn (sep : Bs) : List Bs → Bs
  | [] => []
  | [p] => p
  | p :: q :: r => p ++ (sep ++ jn sep (q :: r))
theorem jn_cons {sep p : Bs} {ps : List Bs} (h : ps ≠ []) : jn sep (p :: ps) = p ++ (sep ++ jn sep ps) := by
  cases ps with
  | nil => exact absurd rfl h
  | cons q r => rw [jn]
theorem spl_jn (w : UInt8) (ws : Bs) : ∀ (l : Bs) (o : Int) (cur : Bs), spl w ws o cur l ≠ [] ∧ jn (w :: ws) (spl w ws o cur l) = cur ++ l := by
  intro l
  induction hn : l.length using Nat.strongRecOn generalizing l with
  | _ n ih =>
    intro o cur
    subst hn
    cases l with
    | nil => rw [spl_nil]; exact ⟨by simp, by simp [jn]⟩
    | cons c r =>
      rw [spl]
      split
      · rename_i h
        obtain ⟨h1, h2⟩ := ih (r.drop ws.length).length (by rw [List.length_drop, List.length_cons]; omega) (r.drop ws.length) rfl 0 []
        refine ⟨by simp, ?_⟩
        rw [jn_cons h1, h2, List.nil_append]
        congr 1
        have h3 := List.prefix_iff_eq_append.1 (List.isPrefixOf_iff_prefix.1 h.2)
        simpa using h3
      · split
        · rename_i hc
          subst hc
          split
          · exact ⟨by simp, by simp [jn]⟩
          · rename_i t ht
            obtain ⟨h1, h2⟩ := ih t.length (by have := sE_len ht; rw [List.length_cons]; omega) t rfl o (cur ++ 39 :: r.take (r.length - t.length))
            refine ⟨h1, ?_⟩
            rw [h2, List.append_assoc]
            congr 1
            rw [List.cons_append, ← sE_take ht]
        · obtain ⟨h1, h2⟩ := ih r.length (by rw [List.length_cons]; omega) r rfl (brkO o c) (cur ++ [c])
          exact ⟨h1, by rw [h2]; simp⟩
theorem fT_at {w : UInt8} {ws : Bs} : ∀ (l : Bs) (o : Int) (i c : Nat), fT w ws o i l = some c → i ≤ c ∧ c - i < l.length ∧ (w :: ws) <+: l.drop (c - i) := by
  intro l
  induction hn : l.length using Nat.strongRecOn generalizing l with
  | _ n ih =>
    intro o i c h
    subst hn
    cases l with
    | nil => rw [fT] at h; cases h
    | cons x r =>
      rw [fT] at h
      split at h
      · rename_i hp
        injection h with h
        subst h
        rw [Nat.sub_self]
        exact ⟨Nat.le_refl _, by simp, List.isPrefixOf_iff_prefix.1 hp.2⟩
      · split at h
        · split at h
          · cases h
          · rename_i t ht
            have hl := sE_len ht
            obtain ⟨h1, h2, h3⟩ := ih t.length (by rw [List.length_cons]; omega) t rfl o _ c h
            refine ⟨by omega, by rw [List.length_cons]; omega, ?_⟩
            have e : (x :: r).drop (c - i) = t.drop (c - (i + (r.length + 1 - t.length))) := by
              have e1 : c - i = (r.length + 1 - t.length) + (c - (i + (r.length + 1 - t.length))) := by omega
              rw [e1, ← List.drop_drop]
              congr 1
              have e2 : r.length + 1 - t.length = (r.length - t.length) + 1 := by omega
              rw [e2, List.drop_succ_cons]
              exact sE_drop ht
            rw [e]; exact h3
        · obtain ⟨h1, h2, h3⟩ := ih r.length (by rw [List.length_cons]; omega) r rfl _ _ c h
          refine ⟨by omega, by rw [List.length_cons]; omega, ?_⟩
          have e : c - i = (c - (i + 1)) + 1 := by omega
          rw [e, List.drop_succ_cons]; exact h3
end Go.Proofs.Ytiolpmhodbefoaa


namespace Go.Proofs.Ytiolpmhodbefoaa
open Go.RowKit

/-- A step of a ref, all its steps, a ref: as the program reads them. -/
def stName (n : Bs) : PStep := ⟨false, bsT n, 0⟩
def stIdx (i : Int) : PStep := ⟨true, ⟨#[]⟩, i⟩
def pIn (l : Bs) : Option (PStep × Bs) := match l with
  | [] => none
  | c :: _ => if c = 39 then (pStr l).map fun p => (stName p.1, p.2) else (pInt l).map fun p => (stIdx p.1, p.2)
/-- One step; none where there is no step, some none where the text is ill formed. -/
def pSteps : Nat → Bs → Option (List PStep × Bs)
  | 0, _ => none
  | n + 1, l => match l with
    | [] => some ([], [])
    | c :: r => if c = 46 then (match pName r with
        | none => none
        | some (x, t) => (pSteps n t).map fun p => (stName x :: p.1, p.2))
      else if c = 91 then (match pIn r with
        | none => none
        | some (x, t) => match t with
          | [] => none
          | d :: u => if d = 93 then (pSteps n u).map fun p => (x :: p.1, p.2) else none)
      else some ([], l)
def pRef (l : Bs) : Option ((Bool × List PStep) × Bs) := match l with
  | [] => none
  | c :: r => if c = 36 ∨ c = 64 then (pSteps (r.length + 1) r).map fun p => ((decide (c = 36), p.1), p.2) else none
/-- A ref as the model has it: its steps, of a whole text. -/
def sIn (x : Bs) : Option PStep := match sStr x with
  | some v => some (stName v)
  | none => (sInt x).map stIdx
def isStop (c : UInt8) : Bool := c == 46 || c == 91
def sSteps : Nat → Bs → Option (List PStep)
  | 0, _ => none
  | n + 1, l => match l with
    | [] => some []
    | c :: r => if c = 46 then (if sName (r.takeWhile fun d => !isStop d) = true then (sSteps n (r.drop (r.takeWhile fun d => !isStop d).length)).map fun p => stName (r.takeWhile fun d => !isStop d) :: p else none)
      else if c = 91 then (match clo 0 0 l with
        | none => none
        | some m => if m < 2 then none else if (l.drop (m - 1)).head? ≠ some 93 then none else match sIn ((l.drop 1).take (m - 2)) with
          | none => none
          | some x => (sSteps n (l.drop m)).map fun p => x :: p)
      else none
theorem sInt_con (c : UInt8) (r : Bs) : sInt (c :: r) = (if (c :: r) = [48] then some 0 else if c = 45 then (if sNat r = true then some (-(digV r : Int)) else none) else (if sNat (c :: r) = true then some (digV (c :: r) : Int) else none)) := rfl
theorem pIn_con (c : UInt8) (r : Bs) : pIn (c :: r) = (if c = 39 then (pStr (c :: r)).map (fun p => (stName p.1, p.2)) else (pInt (c :: r)).map fun p => (stIdx p.1, p.2)) := rfl
theorem sStr_int {x v : Bs} (h : sStr x = some v) : sInt x = none := by
  cases x with
  | nil => cases h
  | cons c r =>
    have h1 : (if c = 39 ∧ sE r = some [] then sD r.dropLast else none) = some v := h
    split at h1
    · rename_i hc
      obtain ⟨rfl, _⟩ := hc
      rw [sInt_con, if_neg (by intro e; injection e with e _; cases e), if_neg (by decide), if_neg]
      unfold sNat
      intro e
      simp only [Bool.and_eq_true] at e
      have := e.1.2
      rw [List.all_cons, Bool.and_eq_true] at this
      have h9 : isDg (39 : UInt8).toNat = false := by decide
      rw [h9] at this
      cases this.1
    · cases h1
theorem sInt_hd {c : UInt8} {r : Bs} {n : Int} (h : sInt (c :: r) = some n) : c = 45 ∨ isDg c.toNat = true := by
  have h1 : (if (c :: r) = [48] then some 0 else if c = 45 then (if sNat r = true then some (-(digV r : Int)) else none) else (if sNat (c :: r) = true then some (digV (c :: r) : Int) else none)) = some n := h
  split at h1
  · rename_i e
    injection e with e _
    subst e
    exact .inr (by decide)
  · split at h1
    · rename_i hc; exact .inl hc
    · split at h1
      · rename_i hs
        unfold sNat at hs
        simp only [Bool.and_eq_true] at hs
        have := hs.1.2
        rw [List.all_cons, Bool.and_eq_true] at this
        exact .inr this.1
      · cases h1
/-- The inside of a bracket. -/
theorem pIn_ext {x : Bs} {p : PStep} (h : sIn x = some p) {t : Bs} (ht : NoDg t) : pIn (x ++ t) = some (p, t) := by
  unfold sIn at h
  cases hs : sStr x with
  | some v =>
    rw [hs] at h
    injection h with h
    subst h
    have h1 := pStr_ext hs t
    cases x with
    | nil => cases hs
    | cons c r =>
      have hc : c = 39 := by
        have h2 : (if c = 39 ∧ sE r = some [] then sD r.dropLast else none) = some v := hs
        split at h2
        · rename_i h3; exact h3.1
        · cases h2
      subst hc
      rw [List.cons_append] at h1 ⊢
      rw [pIn_con, if_pos rfl, h1]; rfl
  | none =>
    rw [hs] at h
    cases hi : sInt x with
    | none => rw [hi] at h; cases h
    | some n =>
      rw [hi] at h
      injection h with h
      subst h
      have h1 := pInt_ext hi ht
      cases x with
      | nil => cases hi
      | cons c r =>
        have hc := sInt_hd hi
        rw [List.cons_append] at h1 ⊢
        rw [pIn_con, if_neg (by rintro rfl; rcases hc with hc | hc; exact absurd hc (by decide); exact absurd hc (by decide)), h1]; rfl
theorem dg_nobr {c : UInt8} (h : isDg c.toNat = true) : isBr c = false := by
  have := isDg_iff.1 h
  unfold isBr
  simp only [Bool.or_eq_false_iff, beq_eq_false_iff_ne]
  refine ⟨⟨⟨⟨?_, ?_⟩, ?_⟩, ?_⟩, ?_⟩ <;> (intro e; subst e; revert this; decide)
theorem sInt_cl {s : Bs} {n : Int} (h : sInt s = some n) {P : UInt8 → Bool} (hP : ∀ c, c = 45 ∨ isDg c.toNat = true → P c = true) : Cl P s := by
  have key : ∀ c, c = 45 ∨ isDg c.toNat = true → isBr c = false := fun c hc => by
    rcases hc with rfl | hc
    · decide
    · exact dg_nobr hc
  have hall : ∀ c ∈ s, c = 45 ∨ isDg c.toNat = true := by
    cases s with
    | nil => intro c hc; cases hc
    | cons c r =>
      have h1 : (if (c :: r) = [48] then some 0 else if c = 45 then (if sNat r = true then some (-(digV r : Int)) else none) else (if sNat (c :: r) = true then some (digV (c :: r) : Int) else none)) = some n := h
      intro d hd
      split at h1
      · rename_i e
        rw [e] at hd
        simp at hd
        subst hd
        exact .inr (by decide)
      · split at h1
        · rename_i hc
          split at h1
          · rename_i hs
            unfold sNat at hs
            simp only [Bool.and_eq_true] at hs
            rcases List.mem_cons.1 hd with rfl | hd
            · exact .inl hc
            · exact .inr (List.all_eq_true.1 hs.1.2 d hd)
          · cases h1
        · split at h1
          · rename_i hs
            unfold sNat at hs
            simp only [Bool.and_eq_true] at hs
            exact .inr (List.all_eq_true.1 hs.1.2 d hd)
          · cases h1
  apply Cl.all
  rw [List.all_eq_true]
  intro c hc
  simp [hP c (hall c hc), key c (hall c hc)]
theorem sStr_cl {s v : Bs} (h : sStr s = some v) (P : UInt8 → Bool) : Cl P s := by
  cases s with
  | nil => cases h
  | cons c r =>
    have h1 : (if c = 39 ∧ sE r = some [] then sD r.dropLast else none) = some v := h
    split at h1
    · rename_i hc
      obtain ⟨rfl, hq⟩ := hc
      have := Cl.quo (P := P) hq .nil
      rwa [List.append_nil] at this
    · cases h1
theorem pIn_some {l t : Bs} {p : PStep} (h : pIn l = some (p, t)) : ∃ x, l = x ++ t ∧ sIn x = some p ∧ Cl (fun _ => true) x := by
  cases l with
  | nil => cases h
  | cons c r =>
    have h1 : (if c = 39 then (pStr (c :: r)).map (fun p => (stName p.1, p.2)) else (pInt (c :: r)).map fun p => (stIdx p.1, p.2)) = some (p, t) := h
    split at h1
    · cases hq : pStr (c :: r) with
      | none => rw [hq] at h1; cases h1
      | some q =>
        obtain ⟨v, u⟩ := q
        rw [hq] at h1
        injection h1 with h1
        injection h1 with h2 h3
        simp only at h2 h3
        subst h2; subst h3
        obtain ⟨s, e, hs, -⟩ := pStr_some hq
        exact ⟨s, e, by unfold sIn; rw [hs], sStr_cl hs _⟩
    · cases hq : pInt (c :: r) with
      | none => rw [hq] at h1; cases h1
      | some q =>
        obtain ⟨v, u⟩ := q
        rw [hq] at h1
        injection h1 with h1
        injection h1 with h2 h3
        simp only at h2 h3
        subst h2; subst h3
        obtain ⟨s, e, hs⟩ := pInt_some hq
        refine ⟨s, e, ?_, sInt_cl hs fun _ _ => rfl⟩
        unfold sIn
        cases hx : sStr s with
        | some v' => rw [sStr_int hx] at hs; cases hs
        | none => simp only; rw [hs]; rfl
end Go.Proofs.Ytiolpmhodbefoaa

