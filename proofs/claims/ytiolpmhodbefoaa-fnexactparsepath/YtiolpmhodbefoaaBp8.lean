import Derived.Test.YtiolpmhodbefoaaBp7
namespace Go.Proofs.Ytiolpmhodbefoaa
open Go.RowKit

/-- A sign or a digit. -/
def isI (c : UInt8) : Bool := c == 45 || isDg c.toNat
theorem isI_br {c : UInt8} (h : isI c = true) : isBr c = false := by
  unfold isI at h
  rw [Bool.or_eq_true] at h
  rcases h with h | h
  · rw [beq_iff_eq] at h; subst h; decide
  · cases hb : isBr c with
    | false => rfl
    | true =>
      exfalso
      unfold isBr at hb
      simp only [Bool.or_eq_true, beq_iff_eq] at hb
      rcases hb with (((rfl | rfl) | rfl) | rfl) | rfl <;> exact absurd h (by decide)
theorem isI_no {c : UInt8} (h : isI c = true ∨ c = 58) : c ≠ 39 ∧ c ≠ 42 ∧ c ≠ 63 := by
  rcases h with h | rfl
  · refine ⟨?_, ?_, ?_⟩ <;> rintro rfl <;> exact absurd h (by decide)
  · exact ⟨by decide, by decide, by decide⟩
theorem cl_I {p : Bs} (h : p.all isI = true) : Cl isI p := Cl.all (by
  rw [List.all_eq_true] at h ⊢
  intro c hc
  rw [h c hc, isI_br (h c hc)]; rfl)
theorem sNat_all {d : Bs} (h : sNat d = true) : d ≠ [] ∧ d.all isI = true := by
  unfold sNat at h
  simp only [Bool.and_eq_true, decide_eq_true_eq] at h
  refine ⟨by rintro rfl; exact absurd h.1.1.1 (by decide), ?_⟩
  have h3 := h.1.2
  rw [List.all_eq_true] at h3 ⊢
  intro c hc
  unfold isI
  rw [h3 c hc, Bool.or_true]
theorem sInt_all {s : Bs} {n : Int} (h : sInt s = some n) : s ≠ [] ∧ s.all isI = true := by
  cases s with
  | nil => cases h
  | cons c r =>
    refine ⟨List.cons_ne_nil _ _, ?_⟩
    have h1 : (if (c :: r) = [48] then some 0 else if c = 45 then (if sNat r = true then some (-(digV r : Int)) else none) else (if sNat (c :: r) = true then some (digV (c :: r) : Int) else none)) = some n := h
    split at h1
    · rename_i he; rw [he]; decide
    · split at h1
      · rename_i hc
        subst hc
        split at h1
        · rename_i hd
          rw [List.all_cons, (sNat_all hd).2]; decide
        · cases h1
      · split at h1
        · rename_i hd; exact (sNat_all hd).2
        · cases h1
/-- A number, or none. -/
def pMI (l : Bs) : Option ((Bool × Int) × Bs) := match l with
  | [] => some ((false, 0), [])
  | c :: r => if isI c = true then (pInt (c :: r)).map fun p => ((true, p.1), p.2) else some ((false, 0), c :: r)
def sMI (p : Bs) : Option (Bool × Int) := match p with
  | [] => some (false, 0)
  | c :: r => (sInt (c :: r)).map fun n => (true, n)
def NoI (t : Bs) : Prop := ∀ c r, t = c :: r → isI c = false
theorem NoI.dg {t : Bs} (h : NoI t) : NoDg t := fun c r e => by
  have := h c r e
  unfold isI at this
  rw [Bool.or_eq_false_iff] at this
  exact this.2
theorem mi_ext {p : Bs} {x : Bool × Int} (h : sMI p = some x) {t : Bs} (ht : NoI t) : pMI (p ++ t) = some (x, t) := by
  cases p with
  | nil =>
    have h1 : some (false, (0 : Int)) = some x := h
    injection h1 with h1
    subst h1
    cases t with
    | nil => rfl
    | cons c r =>
      show (if isI c = true then (pInt (c :: r)).map (fun p => ((true, p.1), p.2)) else some ((false, 0), c :: r)) = _
      rw [ht c r rfl, if_neg (by decide)]
  | cons c r =>
    have h1 : (sInt (c :: r)).map (fun n => (true, n)) = some x := h
    cases hs : sInt (c :: r) with
    | none => rw [hs] at h1; cases h1
    | some n =>
      rw [hs] at h1
      injection h1 with h1
      subst h1
      have ha := (sInt_all hs).2
      rw [List.all_cons, Bool.and_eq_true] at ha
      show (if isI c = true then (pInt (c :: r ++ t)).map (fun p => ((true, p.1), p.2)) else some ((false, 0), c :: r ++ t)) = _
      rw [if_pos ha.1, pInt_ext hs ht.dg]; rfl
theorem mi_got {l t : Bs} {x : Bool × Int} (h : pMI l = some (x, t)) : ∃ p, l = p ++ t ∧ sMI p = some x ∧ p.all isI = true ∧ (x.1 = false → p = []) ∧ (x.1 = true → p ≠ [] ∧ sInt p = some x.2) := by
  cases l with
  | nil =>
    have h1 : some (((false, (0 : Int)), ([] : Bs))) = some (x, t) := h
    injection h1 with h1
    injection h1 with h1 h2
    subst h1; subst h2
    exact ⟨[], rfl, rfl, rfl, fun _ => rfl, fun h => by cases h⟩
  | cons c r =>
    have h1 : (if isI c = true then (pInt (c :: r)).map (fun p => ((true, p.1), p.2)) else some ((false, 0), c :: r)) = some (x, t) := h
    split at h1
    · cases hp : pInt (c :: r) with
      | none => rw [hp] at h1; cases h1
      | some q =>
        obtain ⟨n, u⟩ := q
        rw [hp] at h1
        injection h1 with h1
        injection h1 with h2 h3
        have h3' : u = t := h3
        subst h3'; subst h2
        obtain ⟨s, e, hs⟩ := pInt_some hp
        refine ⟨s, e, ?_, (sInt_all hs).2, fun h => (by cases h), fun _ => ⟨(sInt_all hs).1, hs⟩⟩
        cases s with
        | nil => cases hs
        | cons a b =>
          show (sInt (a :: b)).map _ = _
          rw [hs]; rfl
    · injection h1 with h1
      injection h1 with h1 h2
      subst h1; subst h2
      exact ⟨[], rfl, rfl, rfl, fun _ => rfl, fun h => by cases h⟩
def nameS (v : Bs) : PSel := ⟨1, bsT v, false, false, false, 0, 0, 0, []⟩
def allS : PSel := ⟨2, ⟨#[]⟩, false, false, false, 0, 0, 0, []⟩
def idxS (n : Int) : PSel := ⟨3, ⟨#[]⟩, false, false, false, n, 0, 0, []⟩
def slcS (a b c : Bool × Int) : PSel := ⟨4, ⟨#[]⟩, a.1, b.1, c.1, a.2, b.2, c.2, []⟩
def filS (o : List PFOp) : PSel := ⟨5, ⟨#[]⟩, false, false, false, 0, 0, 0, o⟩
/-- An index or a slice. -/
def pIS (l : Bs) : Option (PSel × Bs) := match pMI l with
  | none => none
  | some (a, t) => if a.1 = true ∧ t.head? ≠ some 58 then some (idxS a.2, t)
    else match t with
      | [] => none
      | d :: u => if d = 58 then (match pMI u with
          | none => none
          | some (b, v) => match v with
            | [] => some (slcS a b (false, 0), [])
            | e :: w => if e = 58 then (match pMI w with
                | none => none
                | some (c, z) => some (slcS a b c, z)) else some (slcS a b (false, 0), e :: w)) else none
abbrev XS := PSel × Nat
def pSel (n : Nat) (l : Bs) : Option (XS × Bs) := match l with
  | [] => none
  | c :: r => if c = 39 then (pStr (c :: r)).map fun p => ((nameS p.1, 0), p.2)
    else if c = 42 then some ((allS, 0), r)
    else if c = 63 then (pCd n r).map fun p => ((filS p.1.1, p.1.2), p.2)
    else (pIS (c :: r)).map fun p => ((p.1, 0), p.2)
theorem pSel_con (n : Nat) (c : UInt8) (r : Bs) : pSel n (c :: r) = (if c = 39 then (pStr (c :: r)).map (fun p => ((nameS p.1, 0), p.2))
    else if c = 42 then some ((allS, 0), r)
    else if c = 63 then (pCd n r).map (fun p => ((filS p.1.1, p.1.2), p.2))
    else (pIS (c :: r)).map fun p => ((p.1, 0), p.2)) := rfl
def sSlc (s : Bs) : Option PSel := match spl 58 [] 0 [] s with
  | [p, q] => (match sMI p, sMI q with
    | some a, some b => some (slcS a b (false, 0))
    | _, _ => none)
  | [p, q, w] => (match sMI p, sMI q, sMI w with
    | some a, some b, some c => some (slcS a b c)
    | _, _, _ => none)
  | _ => none
def sSel (n : Nat) (s : Bs) : Option XS := if s = [42] then some (allS, 0)
  else if s.head? = some 63 then (sCdOf (sPr n) s.tail).map fun p => (filS p.1, p.2)
  else match sStr s with
    | some v => some (nameS v, 0)
    | none => match sInt s with
      | some m => some (idxS m, 0)
      | none => (sSlc s).map fun x => (x, 0)
def E3 (c : UInt8) : Bool := c == 93 || c == 44
def EndS (t : Bs) : Prop := ∀ c r, t = c :: r → E3 c = true
theorem E3_ch {c : UInt8} (h : E3 c = true) : E2 c = true ∧ isI c = false ∧ c ≠ 58 := by
  unfold E3 at h
  simp only [Bool.or_eq_true, beq_iff_eq] at h
  rcases h with rfl | rfl <;> exact ⟨by decide, by decide, by decide⟩
theorem EndS.noI {t : Bs} (h : EndS t) : NoI t := fun c r e => (E3_ch (h c r e)).2.1
theorem EndS.no58 {t : Bs} (h : EndS t) : t.head? ≠ some 58 := by
  cases t with
  | nil => intro e; cases e
  | cons c r =>
    intro e
    injection e with e
    exact (E3_ch (h c r rfl)).2.2 e
theorem noI_58 (r : Bs) : NoI (58 :: r) := fun c q e => by injection e with e _; rw [← e]; decide
def P3 (c : UInt8) : Bool := P2 c || c == 63 || c == 42 || c == 58 || isI c
theorem P3_I (c : UInt8) (h : isI c = true) : P3 c = true := by unfold P3; rw [h, Bool.or_true]
theorem pIS_idx {p : Bs} {n : Int} (h : sInt p = some n) {t : Bs} (ht : NoI t) (h58 : t.head? ≠ some 58) : pIS (p ++ t) = some (idxS n, t) := by
  have hm : sMI p = some (true, n) := by
    cases p with
    | nil => cases h
    | cons a b => show (sInt (a :: b)).map _ = _; rw [h]; rfl
  unfold pIS
  rw [mi_ext hm ht]
  simp only
  rw [if_pos ⟨by trivial, h58⟩]
theorem pIS_two {p q : Bs} {a b : Bool × Int} (hp : sMI p = some a) (hq : sMI q = some b) {t : Bs} (ht : EndS t) : pIS (p ++ 58 :: (q ++ t)) = some (slcS a b (false, 0), t) := by
  unfold pIS
  rw [mi_ext hp (noI_58 _)]
  simp only
  rw [if_neg (fun h => h.2 rfl), if_pos (by trivial), mi_ext hq ht.noI]
  simp only
  cases t with
  | nil => rfl
  | cons c r =>
    simp only
    rw [if_neg (E3_ch (ht c r rfl)).2.2]
theorem pIS_three {p q w : Bs} {a b c : Bool × Int} (hp : sMI p = some a) (hq : sMI q = some b) (hw : sMI w = some c) {t : Bs} (ht : EndS t) : pIS (p ++ 58 :: (q ++ 58 :: (w ++ t))) = some (slcS a b c, t) := by
  unfold pIS
  rw [mi_ext hp (noI_58 _)]
  simp only
  rw [if_neg (fun h => h.2 rfl), if_pos (by trivial), mi_ext hq (noI_58 _)]
  simp only
  rw [if_pos (by trivial), mi_ext hw ht.noI]
theorem sMI_hd {p : Bs} {a : Bool × Int} (h : sMI p = some a) (r : Bs) : ∃ c q, p ++ 58 :: r = c :: q ∧ (isI c = true ∨ c = 58) := by
  cases p with
  | nil => exact ⟨58, r, rfl, .inr rfl⟩
  | cons c q =>
    refine ⟨c, _, rfl, .inl ?_⟩
    have h1 : (sInt (c :: q)).map (fun n => (true, n)) = some a := h
    cases hs : sInt (c :: q) with
    | none => rw [hs] at h1; cases h1
    | some n =>
      have := (sInt_all hs).2
      rw [List.all_cons, Bool.and_eq_true] at this
      exact this.1
theorem pSel_is {c : UInt8} (n : Nat) (r : Bs) (h : isI c = true ∨ c = 58) : pSel n (c :: r) = (pIS (c :: r)).map fun p => ((p.1, 0), p.2) := by
  obtain ⟨h1, h2, h3⟩ := isI_no h
  rw [pSel_con, if_neg h1, if_neg h2, if_neg h3]
theorem sel_ext {n : Nat} {s : Bs} {x : XS} (h : sSel n s = some x) {t : Bs} (ht : EndS t) : pSel n (s ++ t) = some (x, t) := by
  unfold sSel at h
  split at h
  · rename_i hs
    subst hs
    injection h with h
    subst h; rfl
  · split at h
    · rename_i hs
      cases s with
      | nil => cases hs
      | cons c r =>
        injection hs with hs
        subst hs
        cases hc : sCdOf (sPr n) r with
        | none => rw [List.tail_cons, hc] at h; cases h
        | some p =>
          rw [List.tail_cons, hc] at h
          injection h with h
          subst h
          rw [List.cons_append, pSel_con, if_neg (by decide), if_neg (by decide), if_pos rfl, (fit_cd n).ext hc t (fun a b e => (E3_ch (ht a b e)).1)]; rfl
    · cases hv : sStr s with
      | some v =>
        rw [hv] at h
        simp only at h
        injection h with h
        subst h
        have h1 := pStr_ext hv t
        cases s with
        | nil => cases hv
        | cons c r =>
          have hc : c = 39 := by
            have h5 : (if c = 39 ∧ sE r = some [] then sD r.dropLast else none) = some v := hv
            split at h5
            · rename_i hh; exact hh.1
            · cases h5
          subst hc
          rw [List.cons_append] at h1 ⊢
          rw [pSel_con, if_pos rfl, h1]; rfl
      | none =>
        rw [hv] at h
        simp only at h
        cases hi : sInt s with
        | some m =>
          rw [hi] at h
          simp only at h
          injection h with h
          subst h
          have h1 := pIS_idx hi ht.noI ht.no58
          have ha := sInt_all hi
          cases s with
          | nil => cases hi
          | cons c r =>
            have hc := ha.2
            rw [List.all_cons, Bool.and_eq_true] at hc
            rw [List.cons_append] at h1 ⊢
            rw [pSel_is n _ (.inl hc.1), h1]; rfl
        | none =>
          rw [hi] at h
          simp only at h
          obtain ⟨-, hj⟩ := spl_jn 58 [] s 0 []
          rw [List.nil_append] at hj
          cases hx : sSlc s with
          | none => rw [hx] at h; cases h
          | some y =>
            rw [hx] at h
            injection h with h
            subst h
            unfold sSlc at hx
            split at hx
            · rename_i p q hps
              rw [hps] at hj
              have e : s = p ++ 58 :: q := by rw [← hj]; simp [jn]
              cases ha : sMI p with
              | none => rw [ha] at hx; cases hx
              | some a =>
                cases hb : sMI q with
                | none => rw [ha, hb] at hx; cases hx
                | some b =>
                  rw [ha, hb] at hx
                  simp only at hx
                  injection hx with hx
                  subst hx
                  have h1 := pIS_two ha hb ht
                  obtain ⟨c, z, hcz, hc⟩ := sMI_hd ha (q ++ t)
                  have e2 : s ++ t = p ++ 58 :: (q ++ t) := by rw [e]; simp
                  rw [e2]
                  rw [hcz] at h1 ⊢
                  rw [pSel_is n _ hc, h1]; rfl
            · rename_i p q w hps
              rw [hps] at hj
              have e : s = p ++ 58 :: (q ++ 58 :: w) := by rw [← hj]; simp [jn]
              cases ha : sMI p with
              | none => rw [ha] at hx; cases hx
              | some a =>
                cases hb : sMI q with
                | none => rw [ha, hb] at hx; cases hx
                | some b =>
                  cases hc : sMI w with
                  | none => rw [ha, hb, hc] at hx; cases hx
                  | some c =>
                    rw [ha, hb, hc] at hx
                    simp only at hx
                    injection hx with hx
                    subst hx
                    have h1 := pIS_three ha hb hc ht
                    obtain ⟨d, z, hcz, hd⟩ := sMI_hd ha (q ++ 58 :: (w ++ t))
                    have e2 : s ++ t = p ++ 58 :: (q ++ 58 :: (w ++ t)) := by rw [e]; simp
                    rw [e2]
                    rw [hcz] at h1 ⊢
                    rw [pSel_is n _ hd, h1]; rfl
            · cases hx
end Go.Proofs.Ytiolpmhodbefoaa

