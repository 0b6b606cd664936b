import Derived.Test.YtiolpmhodbefoaaBp2
import Derived.Test.YtiolpmhodbefoaaBp1
namespace Go.Proofs.Ytiolpmhodbefoaa
open Go.RowKit

abbrev Bs := List UInt8
def bsT (l : Bs) : ByteArray := ⟨l.toArray⟩
/-- Letters and the bytes of a name. -/
def isLet (c : UInt8) : Bool := (decide (97 ≤ c.toNat) && decide (c.toNat ≤ 122)) || (decide (65 ≤ c.toNat) && decide (c.toNat ≤ 90)) || decide (c.toNat = 95)
def isNm (c : UInt8) : Bool := isLet c || isDg c.toNat
/-- A name, as the program reads it: the longest one. -/
def pName (l : Bs) : Option (Bs × Bs) := match l with
  | [] => none
  | c :: r => if isLet c = true then some (c :: r.takeWhile isNm, r.drop (r.takeWhile isNm).length) else none
/-- A name, as the model has it: a whole text. -/
def sName (l : Bs) : Bool := match l with
  | [] => false
  | c :: r => isLet c && r.all isNm
theorem tw_app {p : UInt8 → Bool} {q : Bs} (h : q.all p = true) (r : Bs) : (q ++ r).takeWhile p = q ++ r.takeWhile p := by
  induction q with
  | nil => rfl
  | cons c q ih =>
    rw [List.all_cons, Bool.and_eq_true] at h
    rw [List.cons_append, List.takeWhile_cons, if_pos h.1, ih h.2]; rfl
theorem tw_stop {p : UInt8 → Bool} {t : Bs} (h : ∀ c r, t = c :: r → p c = false) : t.takeWhile p = [] := by
  cases t with
  | nil => rfl
  | cons c r => rw [List.takeWhile_cons, if_neg (by rw [h c r rfl]; simp)]
theorem tw_all' (p : UInt8 → Bool) (l : Bs) : (l.takeWhile p).all p = true := by
  induction l with
  | nil => rfl
  | cons c r ih =>
    rw [List.takeWhile_cons]
    split
    · rename_i h; rw [List.all_cons, h, ih]; rfl
    · rfl
theorem tw_split (p : UInt8 → Bool) (l : Bs) : l = l.takeWhile p ++ l.drop (l.takeWhile p).length := by
  induction l with
  | nil => rfl
  | cons d r ih =>
    rw [List.takeWhile_cons]
    split
    · rw [List.length_cons, List.drop_succ_cons, List.cons_append, ← ih]
    · rfl
theorem tw_next (p : UInt8 → Bool) (l : Bs) : ∀ c r, l.drop (l.takeWhile p).length = c :: r → p c = false := by
  induction l with
  | nil => intro c r h; simp at h
  | cons d q ih =>
    intro c r h
    rw [List.takeWhile_cons] at h
    split at h
    · rw [List.length_cons, List.drop_succ_cons] at h
      exact ih c r h
    · rename_i hd
      simp at h
      rw [← h.1]
      simpa using hd
/-- No byte of a name comes next. -/
def NoNm (t : Bs) : Prop := ∀ c r, t = c :: r → isNm c = false
theorem pName_ext {s : Bs} (h : sName s = true) {t : Bs} (ht : NoNm t) : pName (s ++ t) = some (s, t) := by
  cases s with
  | nil => cases h
  | cons c r =>
    unfold sName at h
    rw [Bool.and_eq_true] at h
    show (if isLet c = true then some (c :: (r ++ t).takeWhile isNm, (r ++ t).drop ((r ++ t).takeWhile isNm).length) else none) = _
    rw [if_pos h.1, tw_app h.2, tw_stop ht, List.append_nil]
    simp
theorem pName_some {l s t : Bs} (h : pName l = some (s, t)) : l = s ++ t ∧ sName s = true ∧ NoNm t := by
  cases l with
  | nil => cases h
  | cons c r =>
    have h1 : (if isLet c = true then some (c :: r.takeWhile isNm, r.drop (r.takeWhile isNm).length) else none) = some (s, t) := h
    split at h1
    · rename_i hc
      injection h1 with h1
      injection h1 with h2 h3
      subst h2; subst h3
      refine ⟨?_, ?_, tw_next isNm r⟩
      · rw [List.cons_append, ← tw_split]
      · show (isLet c && (r.takeWhile isNm).all isNm) = true
        rw [hc, tw_all']; rfl
    · cases h1
/-- A number behind its sign, a number. -/
def pNat (l : Bs) : Option (Int × Bs) := match l with
  | [] => none
  | c :: _ => if isDg c.toNat = true ∧ c ≠ 48 then some ((digV ((l.take 9).takeWhile fun c => isDg c.toNat) : Int), l.drop ((l.take 9).takeWhile fun c => isDg c.toNat).length) else none
def pInt (l : Bs) : Option (Int × Bs) := match l with
  | [] => none
  | c :: r => if c = 48 then some (0, r) else if c = 45 then (pNat r).map fun p => (-p.1, p.2) else pNat l
/-- A number as the model has it. -/
def sNat (d : Bs) : Bool := decide (1 ≤ d.length) && decide (d.length ≤ 9) && d.all (fun c => isDg c.toNat) && decide (d.head? ≠ some 48)
def sInt (l : Bs) : Option Int := match l with
  | [] => none
  | c :: r => if l = [48] then some 0 else if c = 45 then (if sNat r = true then some (-(digV r : Int)) else none) else (if sNat l = true then some (digV l : Int) else none)
/-- No digit comes next. -/
def NoDg (t : Bs) : Prop := ∀ c r, t = c :: r → isDg c.toNat = false
theorem pNat_ext {d : Bs} (h : sNat d = true) {t : Bs} (ht : NoDg t) : pNat (d ++ t) = some ((digV d : Int), t) := by
  unfold sNat at h
  simp only [Bool.and_eq_true, decide_eq_true_eq] at h
  obtain ⟨⟨⟨h1, h2⟩, h3⟩, h4⟩ := h
  cases d with
  | nil => simp at h1
  | cons c r =>
    have e : (((c :: r) ++ t).take 9).takeWhile (fun c => isDg c.toNat) = c :: r := by
      have e1 : ((c :: r) ++ t).take 9 = (c :: r) ++ t.take (9 - (c :: r).length) := by rw [List.take_append, List.take_of_length_le h2]
      rw [e1, tw_app h3, tw_stop, List.append_nil]
      intro x y hxy
      cases t with
      | nil => simp at hxy
      | cons a b =>
        cases hk : 9 - (c :: r).length with
        | zero => rw [hk] at hxy; simp at hxy
        | succ k =>
          rw [hk, List.take_succ_cons] at hxy
          injection hxy with hx _
          rw [← hx]; exact ht a b rfl
    show (if isDg c.toNat = true ∧ c ≠ 48 then _ else none) = _
    rw [if_pos ⟨by rw [List.all_cons, Bool.and_eq_true] at h3; exact h3.1, fun e => h4 (by rw [e]; rfl)⟩]
    rw [e]
    simp
theorem pNat_some {l t : Bs} {n : Int} (h : pNat l = some (n, t)) : ∃ d, l = d ++ t ∧ sNat d = true ∧ n = (digV d : Int) := by
  cases l with
  | nil => cases h
  | cons c r =>
    have h1 : (if isDg c.toNat = true ∧ c ≠ 48 then some ((digV (((c :: r).take 9).takeWhile fun c => isDg c.toNat) : Int), (c :: r).drop (((c :: r).take 9).takeWhile fun c => isDg c.toNat).length) else none) = some (n, t) := h
    split at h1
    · rename_i hc
      injection h1 with h1
      injection h1 with h2 h3
      have hd : ∃ q, ((c :: r).take 9).takeWhile (fun c => isDg c.toNat) = c :: q := by
        rw [List.take_succ_cons, List.takeWhile_cons, if_pos hc.1]; exact ⟨_, rfl⟩
      obtain ⟨q, hq⟩ := hd
      have hl : (((c :: r).take 9).takeWhile (fun c => isDg c.toNat)).length ≤ 9 := by
        have h5 : (((c :: r).take 9).takeWhile (fun c => isDg c.toNat)).length ≤ ((c :: r).take 9).length := (List.takeWhile_sublist _).length_le
        rw [List.length_take] at h5; omega
      have hp : ((c :: r).take 9).takeWhile (fun c => isDg c.toNat) = (c :: r).take (((c :: r).take 9).takeWhile (fun c => isDg c.toNat)).length := by
        have h6 := tw_split (fun c => isDg c.toNat) ((c :: r).take 9)
        have h7 := congrArg (List.take (((c :: r).take 9).takeWhile (fun c => isDg c.toNat)).length) h6
        rw [List.take_left, List.take_take, Nat.min_eq_left hl] at h7
        exact h7.symm
      refine ⟨_, ?_, ?_, h2.symm⟩
      · rw [← h3, hp]
        have h8 : ((c :: r).take (((c :: r).take 9).takeWhile (fun c => isDg c.toNat)).length).length = (((c :: r).take 9).takeWhile (fun c => isDg c.toNat)).length := by rw [← hp]
        rw [h8, List.take_append_drop]
      · unfold sNat
        rw [tw_all', decide_eq_true hl, decide_eq_true (by rw [hq]; simp), hq]
        simp [hc.2]
    · cases h1
theorem pInt_ext {s : Bs} {n : Int} (h : sInt s = some n) {t : Bs} (ht : NoDg t) : pInt (s ++ t) = some (n, t) := by
  cases s with
  | nil => cases h
  | cons c r =>
    have h1 : (if (c :: r) = [48] then some 0 else if c = 45 then (if sNat r = true then some (-(digV r : Int)) else none) else (if sNat (c :: r) = true then some (digV (c :: r) : Int) else none)) = some n := h
    show (if c = 48 then some (0, r ++ t) else if c = 45 then (pNat (r ++ t)).map (fun p => (-p.1, p.2)) else pNat (c :: (r ++ t))) = some (n, t)
    split at h1
    · rename_i e
      injection e with e1 e2
      subst e1; subst e2
      injection h1 with h1
      subst h1
      rfl
    · rename_i e
      split at h1
      · rename_i hc
        subst hc
        split at h1
        · rename_i hs
          injection h1 with h1
          subst h1
          rw [if_neg (by decide), if_pos rfl, pNat_ext hs ht]; rfl
        · cases h1
      · rename_i hc
        split at h1
        · rename_i hs
          injection h1 with h1
          subst h1
          have h48 : c ≠ 48 := by
            intro e8
            unfold sNat at hs
            simp only [Bool.and_eq_true, decide_eq_true_eq] at hs
            exact hs.2 (by rw [e8]; rfl)
          rw [if_neg h48, if_neg hc]
          exact pNat_ext hs ht
        · cases h1
theorem pInt_some {l t : Bs} {n : Int} (h : pInt l = some (n, t)) : ∃ s, l = s ++ t ∧ sInt s = some n := by
  cases l with
  | nil => cases h
  | cons c r =>
    have h1 : (if c = 48 then some (0, r) else if c = 45 then (pNat r).map (fun p => (-p.1, p.2)) else pNat (c :: r)) = some (n, t) := h
    split at h1
    · rename_i hc
      injection h1 with h1
      injection h1 with h2 h3
      subst h2; subst h3; subst hc
      exact ⟨[48], rfl, rfl⟩
    · rename_i h48
      split at h1
      · rename_i hc
        subst hc
        cases hp : pNat r with
        | none => rw [hp] at h1; cases h1
        | some p =>
          obtain ⟨m, u⟩ := p
          rw [hp] at h1
          injection h1 with h1
          injection h1 with h2 h3
          simp only at h2 h3
          subst h3
          obtain ⟨d, rfl, hd, rfl⟩ := pNat_some hp
          refine ⟨45 :: d, rfl, ?_⟩
          show (if (45 :: d) = [48] then some 0 else if (45 : UInt8) = 45 then (if sNat d = true then some (-(digV d : Int)) else none) else (if sNat (45 :: d) = true then some (digV (45 :: d) : Int) else none)) = _
          rw [if_neg (by intro e; injection e with e _; cases e), if_pos rfl, if_pos hd, h2]
      · rename_i h45
        obtain ⟨d, hl, hd, rfl⟩ := pNat_some h1
        refine ⟨d, hl, ?_⟩
        cases d with
        | nil => cases hd
        | cons x y =>
          rw [List.cons_append] at hl
          injection hl with hl _
          subst hl
          show (if (c :: y) = [48] then some 0 else if c = 45 then (if sNat y = true then some (-(digV y : Int)) else none) else (if sNat (c :: y) = true then some (digV (c :: y) : Int) else none)) = _
          rw [if_neg (by intro e; injection e with e _; exact h48 e), if_neg h45, if_pos hd]
end Go.Proofs.Ytiolpmhodbefoaa


namespace Go.Proofs.Ytiolpmhodbefoaa
open Go.RowKit

/-- What stands behind the quote: the string and what comes behind it. -/
def pQ : Bs → Option (Bs × Bs)
  | [] => none
  | c :: r => if c = 39 then some ([], r) else if c = 92 then (match r with
      | [] => none
      | d :: q => if d = 39 ∨ d = 92 then (pQ q).map fun p => (d :: p.1, p.2) else none)
    else if c.toNat < 32 then none else (pQ r).map fun p => (c :: p.1, p.2)
/-- Where a string ends, as the model finds it: what comes behind it. -/
def sE : Bs → Option Bs
  | [] => none
  | c :: r => if c = 92 then (match r with
      | [] => none
      | _ :: q => sE q)
    else if c = 39 then some r else sE r
/-- What the inside of a string stands for. -/
def sD : Bs → Option Bs
  | [] => some []
  | c :: r => if c.toNat < 32 then none else if c = 92 then (match r with
      | [] => none
      | d :: q => if d = 39 ∨ d = 92 then (sD q).map (d :: ·) else none)
    else (sD r).map (c :: ·)
def sStr (l : Bs) : Option Bs := match l with
  | [] => none
  | c :: r => if c = 39 ∧ sE r = some [] then sD r.dropLast else none
theorem pQ_con (c : UInt8) (r : Bs) : pQ (c :: r) = (if c = 39 then some ([], r) else if c = 92 then (match r with
      | [] => none
      | d :: q => if d = 39 ∨ d = 92 then (pQ q).map fun p => (d :: p.1, p.2) else none)
    else if c.toNat < 32 then none else (pQ r).map fun p => (c :: p.1, p.2)) := by rw [pQ.eq_def] <;> rfl
theorem sE_con (c : UInt8) (r : Bs) : sE (c :: r) = (if c = 92 then (match r with
      | [] => none
      | _ :: q => sE q)
    else if c = 39 then some r else sE r) := by rw [sE.eq_def] <;> rfl
theorem sD_con (c : UInt8) (r : Bs) : sD (c :: r) = (if c.toNat < 32 then none else if c = 92 then (match r with
      | [] => none
      | d :: q => if d = 39 ∨ d = 92 then (sD q).map (d :: ·) else none)
    else (sD r).map (c :: ·)) := by rw [sD.eq_def] <;> rfl
theorem sE_nil : sE [] = none := by rw [sE.eq_def]
theorem pQ_nil : pQ [] = none := by rw [pQ.eq_def]
theorem sD_nil : sD [] = some [] := by rw [sD.eq_def]
theorem sE_ext {t : Bs} : ∀ {q u : Bs}, sE q = some u → sE (q ++ t) = some (u ++ t)
  | [], u, h => by rw [sE_nil] at h; cases h
  | [c], u, h => by
    rw [sE_con] at h
    rw [List.singleton_append, sE_con]
    split at h
    · cases h
    · rename_i h1
      rw [if_neg h1]
      split at h
      · rename_i h2; rw [if_pos h2]; injection h with h; subst h; rfl
      · rw [sE_nil] at h; cases h
  | c :: d :: q, u, h => by
    rw [sE_con] at h
    rw [List.cons_append, List.cons_append, sE_con]
    split at h
    · rename_i h1
      rw [if_pos h1]
      exact sE_ext h
    · rename_i h1
      rw [if_neg h1]
      split at h
      · rename_i h2
        rw [if_pos h2]
        injection h with h; subst h; rfl
      · rename_i h2
        rw [if_neg h2]
        exact sE_ext (q := d :: q) h
/-- A string that is read ends where the model finds its end; its inside stands for the same. -/
theorem pQ_some : ∀ {l v t : Bs}, pQ l = some (v, t) → ∃ q, l = q ++ 39 :: t ∧ sE (q ++ [39]) = some [] ∧ sD q = some v
  | [], v, t, h => by rw [pQ_nil] at h; cases h
  | c :: r, v, t, h => by
    rw [pQ_con] at h
    split at h
    · rename_i hc
      injection h with h
      injection h with h1 h2
      subst h1; subst h2; subst hc
      exact ⟨[], rfl, rfl, rfl⟩
    · rename_i h39
      split at h
      · rename_i hc
        subst hc
        match r, h with
        | [], h => cases h
        | d :: q, h =>
          simp only at h
          split at h
          · rename_i hd
            cases hp : pQ q with
            | none => rw [hp] at h; cases h
            | some p =>
              obtain ⟨v', t'⟩ := p
              rw [hp] at h
              injection h with h
              injection h with h1 h2
              simp only at h1 h2
              subst h1; subst h2
              obtain ⟨q', e1, e2, e3⟩ := pQ_some hp
              refine ⟨92 :: d :: q', by rw [e1]; rfl, ?_, ?_⟩
              · rw [List.cons_append, List.cons_append, sE_con, if_pos rfl]; exact e2
              · rw [sD_con, if_neg (by decide), if_pos rfl]
                simp only
                rw [if_pos hd, e3]; rfl
          · cases h
      · rename_i h92
        split at h
        · cases h
        · rename_i hlo
          cases hp : pQ r with
          | none => rw [hp] at h; cases h
          | some p =>
            obtain ⟨v', t'⟩ := p
            rw [hp] at h
            injection h with h
            injection h with h1 h2
            simp only at h1 h2
            subst h1; subst h2
            obtain ⟨q', e1, e2, e3⟩ := pQ_some hp
            refine ⟨c :: q', by rw [e1]; rfl, ?_, ?_⟩
            · rw [List.cons_append, sE_con, if_neg h92, if_neg h39]; exact e2
            · rw [sD_con, if_neg hlo, if_neg h92, e3]; rfl
theorem pQ_ext : ∀ {q v : Bs}, sE (q ++ [39]) = some [] → sD q = some v → ∀ t, pQ (q ++ 39 :: t) = some (v, t)
  | [], v, _, h, t => by
    rw [sD_nil] at h
    injection h with h
    subst h
    rw [List.nil_append, pQ_con, if_pos rfl]
  | c :: r, v, hE, h, t => by
    rw [sD_con] at h
    rw [List.cons_append, sE_con] at hE
    rw [List.cons_append, pQ_con]
    split at h
    · cases h
    · rename_i hlo
      split at h
      · rename_i hc
        subst hc
        rw [if_pos rfl] at hE
        rw [if_neg (by decide), if_pos rfl]
        match r, h, hE with
        | [], h, _ => cases h
        | d :: q, h, hE =>
          simp only at h
          rw [List.cons_append]
          simp only
          split at h
          · rename_i hd
            rw [if_pos hd]
            cases hs : sD q with
            | none => rw [hs] at h; cases h
            | some v' =>
              rw [hs] at h
              injection h with h
              subst h
              rw [pQ_ext hE hs t]; rfl
          · cases h
      · rename_i h92
        rw [if_neg h92] at hE
        split at hE
        · rename_i h39
          injection hE with hE
          simp at hE
        · rename_i h39
          rw [if_neg h39, if_neg h92, if_neg hlo]
          cases hs : sD r with
          | none => rw [hs] at h; cases h
          | some v' =>
            rw [hs] at h
            injection h with h
            subst h
            rw [pQ_ext hE hs t]; rfl
theorem sE_last {q : Bs} : ∀ {r : Bs}, sE r = some q → ∃ p, r = p ++ 39 :: q
  | [], h => by rw [sE_nil] at h; cases h
  | [c], h => by
    rw [sE_con] at h
    split at h
    · cases h
    · split at h
      · rename_i h2; injection h with h; subst h; exact ⟨[], by rw [h2]; rfl⟩
      · rw [sE_nil] at h; cases h
  | c :: d :: r, h => by
    rw [sE_con] at h
    split at h
    · obtain ⟨p, e⟩ := sE_last h
      exact ⟨c :: d :: p, by rw [e]; rfl⟩
    · split at h
      · rename_i h2; injection h with h; exact ⟨[], by rw [h2, ← h]; rfl⟩
      · obtain ⟨p, e⟩ := sE_last (r := d :: r) h
        exact ⟨c :: p, by rw [e]; rfl⟩
/-- A quoted text. -/
def pStr (l : Bs) : Option (Bs × Bs) := match l with
  | [] => none
  | c :: r => if c = 39 then pQ r else none
theorem pStr_ext {s v : Bs} (h : sStr s = some v) (t : Bs) : pStr (s ++ t) = some (v, t) := by
  cases s with
  | nil => cases h
  | cons c r =>
    have h1 : (if c = 39 ∧ sE r = some [] then sD r.dropLast else none) = some v := h
    split at h1
    · rename_i hc
      obtain ⟨p, hp⟩ := sE_last hc.2
      subst hp
      rw [List.dropLast_append_of_ne_nil (by simp)] at h1
      simp only [List.dropLast_singleton, List.append_nil] at h1
      show (if c = 39 then pQ ((p ++ [39]) ++ t) else none) = _
      rw [if_pos hc.1, List.append_assoc]
      exact pQ_ext hc.2 h1 t
    · cases h1
theorem pStr_some {l v t : Bs} (h : pStr l = some (v, t)) : ∃ s, l = s ++ t ∧ sStr s = some v ∧ ∃ q, s = 39 :: q ∧ sE q = some [] := by
  cases l with
  | nil => cases h
  | cons c r =>
    have h1 : (if c = 39 then pQ r else none) = some (v, t) := h
    split at h1
    · rename_i hc
      subst hc
      obtain ⟨q, rfl, e2, e3⟩ := pQ_some h1
      refine ⟨39 :: (q ++ [39]), by simp, ?_, _, rfl, e2⟩
      show (if (39 : UInt8) = 39 ∧ sE (q ++ [39]) = some [] then sD (q ++ [39]).dropLast else none) = _
      rw [if_pos ⟨rfl, e2⟩, List.dropLast_append_of_ne_nil (by simp)]
      simp only [List.dropLast_singleton, List.append_nil]
      exact e3
    · cases h1
/-- A text whose strings and brackets close; the bytes outside of them are of a kind. -/
def isBr (c : UInt8) : Bool := c == 39 || c == 40 || c == 41 || c == 91 || c == 93
inductive Cl : (UInt8 → Bool) → Bs → Prop
  | nil {P : UInt8 → Bool} : Cl P []
  | chr {P : UInt8 → Bool} {c : UInt8} {r : Bs} : isBr c = false → P c = true → Cl P r → Cl P (c :: r)
  | quo {P : UInt8 → Bool} {q r : Bs} : sE q = some [] → Cl P r → Cl P (39 :: (q ++ r))
  | par {P Q : UInt8 → Bool} {x r : Bs} : Cl Q x → Cl P r → Cl P (40 :: (x ++ 41 :: r))
  | brk {P Q : UInt8 → Bool} {x r : Bs} : Cl Q x → Cl P r → Cl P (91 :: (x ++ 93 :: r))
theorem Cl.app {P : UInt8 → Bool} {a b : Bs} (h : Cl P a) (k : Cl P b) : Cl P (a ++ b) := by
  induction h with
  | nil => exact k
  | chr h1 h2 _ ih => exact .chr h1 h2 (ih k)
  | @quo _ q r h1 _ ih => rw [List.cons_append, List.append_assoc]; exact .quo h1 (ih k)
  | @par _ _ x r h1 _ _ ih => rw [List.cons_append, List.append_assoc]; exact .par h1 (ih k)
  | @brk _ _ x r h1 _ _ ih => rw [List.cons_append, List.append_assoc]; exact .brk h1 (ih k)
theorem Cl.mono {P P' : UInt8 → Bool} (hp : ∀ c, P c = true → P' c = true) {a : Bs} (h : Cl P a) : Cl P' a := by
  induction h with
  | nil => exact .nil
  | chr h1 h2 _ ih => exact .chr h1 (hp _ h2) (ih hp)
  | quo h1 _ ih => exact .quo h1 (ih hp)
  | par h1 _ _ ih => exact .par h1 (ih hp)
  | brk h1 _ _ ih => exact .brk h1 (ih hp)
theorem Cl.all {P : UInt8 → Bool} {a : Bs} (h : a.all (fun c => P c && !isBr c) = true) : Cl P a := by
  induction a with
  | nil => exact .nil
  | cons c r ih =>
    rw [List.all_cons, Bool.and_eq_true] at h
    simp only [Bool.and_eq_true, Bool.not_eq_true'] at h
    exact .chr h.1.2 h.1.1 (ih h.2)
end Go.Proofs.Ytiolpmhodbefoaa

