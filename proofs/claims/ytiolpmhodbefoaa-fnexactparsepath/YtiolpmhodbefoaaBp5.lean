import Derived.Test.YtiolpmhodbefoaaBp4
namespace Go.Proofs.Ytiolpmhodbefoaa
open Go.RowKit

theorem pSteps_nil (n : Nat) : pSteps (n + 1) [] = some ([], []) := by rw [pSteps]
theorem pSteps_con (n : Nat) (c : UInt8) (r : Bs) : pSteps (n + 1) (c :: r) = (if c = 46 then (match pName r with
        | none => none
        | some (x, t) => (pSteps n t).map fun p => (stName x :: p.1, p.2))
      else if c = 91 then (match pIn r with
        | none => none
        | some (x, t) => match t with
          | [] => none
          | d :: u => if d = 93 then (pSteps n u).map fun p => (x :: p.1, p.2) else none)
      else some ([], c :: r)) := by rw [pSteps.eq_def] <;> rfl
theorem sSteps_nil (n : Nat) : sSteps (n + 1) [] = some [] := by rw [sSteps]
theorem sSteps_con (n : Nat) (c : UInt8) (r : Bs) : sSteps (n + 1) (c :: r) = (if c = 46 then (if sName (r.takeWhile fun d => !isStop d) = true then (sSteps n (r.drop (r.takeWhile fun d => !isStop d).length)).map fun p => stName (r.takeWhile fun d => !isStop d) :: p else none)
      else if c = 91 then (match clo 0 0 (c :: r) with
        | none => none
        | some m => if m < 2 then none else if ((c :: r).drop (m - 1)).head? ≠ some 93 then none else match sIn (((c :: r).drop 1).take (m - 2)) with
          | none => none
          | some x => (sSteps n ((c :: r).drop m)).map fun p => x :: p)
      else none) := by rw [sSteps.eq_def] <;> rfl
/-- What may come behind a ref. -/
def RefEnd (t : Bs) : Prop := ∀ c r, t = c :: r → isStop c = false ∧ isNm c = false
theorem stop_nm {c : UInt8} (h : isStop c = true) : isNm c = false := by
  unfold isStop at h
  simp only [Bool.or_eq_true, beq_iff_eq] at h
  rcases h with rfl | rfl <;> decide
theorem nm_stop {c : UInt8} (h : isNm c = true) : isStop c = false := by
  cases hs : isStop c with
  | false => rfl
  | true => rw [stop_nm hs] at h; cases h
theorem sName_nostop {x : Bs} (h : sName x = true) : x.all (fun d => !isStop d) = true := by
  cases x with
  | nil => cases h
  | cons c r =>
    have h1 : (isLet c && r.all isNm) = true := h
    rw [Bool.and_eq_true] at h1
    rw [List.all_eq_true]
    intro d hd
    have : isNm d = true := by
      rcases List.mem_cons.1 hd with rfl | hd
      · unfold isNm; rw [h1.1]; rfl
      · exact List.all_eq_true.1 h1.2 d hd
    rw [nm_stop this]; rfl
theorem take_mid {l : Bs} {m : Nat} (h2 : ¬ m < 2) (h : ((l.drop (m - 1)).head? = some 93)) {c : UInt8} {r : Bs} (hl : l = c :: r) : l = c :: ((l.drop 1).take (m - 2) ++ 93 :: l.drop m) := by
  subst hl
  rw [List.drop_one, List.tail_cons]
  congr 1
  have e : m - 1 = (m - 2) + 1 := by omega
  rw [e, List.drop_succ_cons] at h
  cases hd : r.drop (m - 2) with
  | nil => rw [hd] at h; cases h
  | cons a b =>
    rw [hd] at h
    injection h with h
    subst h
    have e2 : (c :: r).drop m = b := by
      have : m = (m - 2) + 1 + 1 := by omega
      rw [this, List.drop_succ_cons, ← List.drop_drop, hd]; rfl
    rw [e2, ← hd, List.take_append_drop]
theorem pSteps_ext : ∀ (n : Nat) (s : Bs) (ps : List PStep), sSteps n s = some ps → ∀ (t : Bs), RefEnd t → ∀ m, s.length < m → pSteps m (s ++ t) = some (ps, t)
  | 0, s, ps, h, _, _, _, _ => by rw [sSteps] at h; cases h
  | n + 1, [], ps, h, t, ht, m, hm => by
    rw [sSteps_nil] at h
    injection h with h
    subst h
    obtain ⟨k, rfl⟩ : ∃ k, m = k + 1 := ⟨m - 1, by simp at hm; omega⟩
    rw [List.nil_append]
    cases t with
    | nil => exact pSteps_nil k
    | cons c r =>
      have := (ht c r rfl).1
      unfold isStop at this
      simp only [Bool.or_eq_false_iff, beq_eq_false_iff_ne] at this
      rw [pSteps_con, if_neg this.1, if_neg this.2]
  | n + 1, c :: r, ps, h, t, ht, m, hm => by
    obtain ⟨k, rfl⟩ : ∃ k, m = k + 1 := ⟨m - 1, by simp at hm; omega⟩
    rw [sSteps_con] at h
    rw [List.cons_append, pSteps_con]
    split at h
    · rename_i hc
      subst hc
      rw [if_pos rfl]
      split at h
      · rename_i hn
        cases hq : sSteps n (r.drop (r.takeWhile fun d => !isStop d).length) with
        | none => rw [hq] at h; cases h
        | some qs =>
          rw [hq] at h
          injection h with h
          subst h
          have e := tw_split (fun d => !isStop d) r
          have hnx : NoNm (r.drop (r.takeWhile fun d => !isStop d).length ++ t) := by
            intro a b hab
            cases hd : r.drop (r.takeWhile fun d => !isStop d).length with
            | nil => rw [hd, List.nil_append] at hab; exact (ht a b hab).2
            | cons x y =>
              rw [hd, List.cons_append] at hab
              injection hab with h1 _
              subst h1
              have := tw_next (fun d => !isStop d) r x y hd
              exact stop_nm (by simpa using this)
          have hp : pName (r ++ t) = some (r.takeWhile (fun d => !isStop d), r.drop (r.takeWhile fun d => !isStop d).length ++ t) := by
            have h5 := pName_ext hn hnx
            rw [← List.append_assoc, ← e] at h5
            exact h5
          rw [hp]
          simp only
          have ih := pSteps_ext n _ qs hq t ht k (by
            rw [List.length_drop]
            have h6 : 1 ≤ (r.takeWhile fun d => !isStop d).length := by
              cases hx : r.takeWhile (fun d => !isStop d) with
              | nil => rw [hx] at hn; cases hn
              | cons => simp
            simp at hm; omega)
          rw [ih]; rfl
      · cases h
    · rename_i h46
      split at h
      · rename_i hc
        subst hc
        rw [if_neg h46, if_pos rfl]
        cases hcl : clo 0 0 (91 :: r) with
        | none => rw [hcl] at h; cases h
        | some mm =>
          rw [hcl] at h
          simp only at h
          split at h
          · cases h
          · rename_i hm2
            split at h
            · cases h
            · rename_i hh
              have hh : ((91 :: r : Bs).drop (mm - 1)).head? = some 93 := Classical.not_not.1 hh
              have e := take_mid hm2 hh rfl
              injection e with _ e
              cases hi : sIn (((91 :: r : Bs).drop 1).take (mm - 2)) with
              | none => rw [hi] at h; cases h
              | some x =>
                rw [hi] at h
                simp only at h
                cases hq : sSteps n ((91 :: r).drop mm) with
                | none => rw [hq] at h; cases h
                | some qs =>
                  rw [hq] at h
                  injection h with h
                  subst h
                  have hp : pIn (r ++ t) = some (x, 93 :: ((91 :: r).drop mm ++ t)) := by
                    have h5 := pIn_ext hi (t := 93 :: ((91 :: r).drop mm ++ t)) (by intro a b hab; injection hab with h1 _; subst h1; decide)
                    rw [← List.cons_append, ← List.append_assoc, ← e] at h5
                    exact h5
                  rw [hp]
                  simp only
                  rw [if_pos (by trivial)]
                  have ih := pSteps_ext n _ qs hq t ht k (by rw [List.length_drop]; simp at hm ⊢; omega)
                  rw [ih]; rfl
      · cases h
/-- The bytes of a ref outside of its brackets. -/
def rfC (c : UInt8) : Bool := isNm c || c == 46 || c == 36 || c == 64
theorem sName_cl {x : Bs} (h : sName x = true) : Cl rfC x := by
  apply Cl.all
  rw [List.all_eq_true]
  intro d hd
  have h1 : isNm d = true := by
    cases x with
    | nil => cases hd
    | cons c r =>
      have h1 : (isLet c && r.all isNm) = true := h
      rw [Bool.and_eq_true] at h1
      rcases List.mem_cons.1 hd with rfl | hd
      · unfold isNm; rw [h1.1]; rfl
      · exact List.all_eq_true.1 h1.2 d hd
  have h2 : isBr d = false := by
    cases hb : isBr d with
    | false => rfl
    | true =>
      unfold isBr at hb
      simp only [Bool.or_eq_true, beq_iff_eq] at hb
      rcases hb with (((rfl | rfl) | rfl) | rfl) | rfl <;> exact absurd h1 (by decide)
  unfold rfC
  rw [h1, h2]; rfl
theorem pSteps_some : ∀ (m : Nat) (l t : Bs) (ps : List PStep), pSteps m l = some (ps, t) → ∃ s, l = s ++ t ∧ (∀ n, s.length < n → sSteps n s = some ps) ∧ Cl rfC s ∧ (∀ c r, s = c :: r → isStop c = true)
  | 0, l, t, ps, h => by rw [pSteps] at h; cases h
  | m + 1, [], t, ps, h => by
    rw [pSteps_nil] at h
    injection h with h
    injection h with h1 h2
    subst h1; subst h2
    exact ⟨[], rfl, fun n hn => by obtain ⟨k, rfl⟩ : ∃ k, n = k + 1 := ⟨n - 1, by simp at hn; omega⟩; exact sSteps_nil k, .nil, fun c r h => by cases h⟩
  | m + 1, c :: r, t, ps, h => by
    rw [pSteps_con] at h
    split at h
    · rename_i hc
      subst hc
      cases hp : pName r with
      | none => rw [hp] at h; cases h
      | some q =>
        obtain ⟨x, t1⟩ := q
        rw [hp] at h
        simp only at h
        cases hq : pSteps m t1 with
        | none => rw [hq] at h; cases h
        | some q2 =>
          obtain ⟨qs, t2⟩ := q2
          rw [hq] at h
          injection h with h
          injection h with h1 h2
          simp only at h1 h2
          subst h1; subst h2
          obtain ⟨s', e, hs, hcl, hst⟩ := pSteps_some m t1 t2 qs hq
          obtain ⟨e2, hn, _⟩ := pName_some hp
          subst e2; subst e
          refine ⟨46 :: (x ++ s'), by simp, fun n hn2 => ?_, .chr (by decide) (by decide) ((sName_cl hn).app hcl), fun c r h => by injection h with h _; subst h; rfl⟩
          obtain ⟨k, rfl⟩ : ∃ k, n = k + 1 := ⟨n - 1, by simp at hn2; omega⟩
          have e3 : (x ++ s').takeWhile (fun d => !isStop d) = x := by
            rw [tw_app (sName_nostop hn), tw_stop, List.append_nil]
            intro a b hab
            rw [hst a b hab]; rfl
          rw [sSteps_con, if_pos rfl, e3, if_pos hn]
          have e4 : (x ++ s').drop x.length = s' := by simp
          rw [e4, hs k (by simp at hn2; omega)]; rfl
    · rename_i h46
      split at h
      · rename_i hc
        subst hc
        cases hp : pIn r with
        | none => rw [hp] at h; cases h
        | some q =>
          obtain ⟨x, t1⟩ := q
          rw [hp] at h
          simp only at h
          match t1, hp, h with
          | [], _, h => cases h
          | d :: u, hp, h =>
            simp only at h
            split at h
            · rename_i hd
              subst hd
              cases hq : pSteps m u with
              | none => rw [hq] at h; cases h
              | some q2 =>
                obtain ⟨qs, t2⟩ := q2
                rw [hq] at h
                injection h with h
                injection h with h1 h2
                simp only at h1 h2
                subst h1; subst h2
                obtain ⟨s', e, hs, hcl, hst⟩ := pSteps_some m u t2 qs hq
                obtain ⟨xx, e2, hi, hxc⟩ := pIn_some hp
                subst e2; subst e
                refine ⟨91 :: (xx ++ 93 :: s'), by simp, fun n hn2 => ?_, .brk hxc hcl, fun c r h => by injection h with h _; subst h; rfl⟩
                obtain ⟨k, rfl⟩ : ∃ k, n = k + 1 := ⟨n - 1, by simp at hn2; omega⟩
                rw [sSteps_con, if_neg (by decide), if_pos rfl, clo_at hxc (.inr rfl) (.inr rfl)]
                simp only
                have e5 : (91 :: (xx ++ 93 :: s') : Bs).drop (xx.length + 2 - 1) = 93 :: s' := by
                  have : xx.length + 2 - 1 = xx.length + 1 := by omega
                  rw [this, List.drop_succ_cons]; simp
                have e6 : ((91 :: (xx ++ 93 :: s') : Bs).drop 1).take (xx.length + 2 - 2) = xx := by simp
                have e7 : (91 :: (xx ++ 93 :: s') : Bs).drop (xx.length + 2) = s' := by
                  rw [show xx.length + 2 = (xx.length + 1) + 1 from rfl, List.drop_succ_cons]; simp
                rw [if_neg (by omega), e5, if_neg (by simp), e6, hi]
                simp only
                rw [e7, hs k (by simp at hn2; omega)]; rfl
            · cases h
      · rename_i h91
        injection h with h
        injection h with h1 h2
        subst h1; subst h2
        exact ⟨[], rfl, fun n hn => by obtain ⟨k, rfl⟩ : ∃ k, n = k + 1 := ⟨n - 1, by simp at hn; omega⟩; exact sSteps_nil k, .nil, fun c r h => by cases h⟩
end Go.Proofs.Ytiolpmhodbefoaa


namespace Go.Proofs.Ytiolpmhodbefoaa
open Go.RowKit

def sRef (l : Bs) : Option (Bool × List PStep) := match l with
  | [] => none
  | c :: r => if c = 36 ∨ c = 64 then (sSteps (r.length + 1) r).map fun p => (decide (c = 36), p) else none
theorem pRef_ext {s : Bs} {x : Bool × List PStep} (h : sRef s = some x) {t : Bs} (ht : RefEnd t) : pRef (s ++ t) = some (x, t) := by
  cases s with
  | nil => cases h
  | cons c r =>
    have h1 : (if c = 36 ∨ c = 64 then (sSteps (r.length + 1) r).map (fun p => (decide (c = 36), p)) else none) = some x := h
    have e : pRef (c :: r ++ t) = (if c = 36 ∨ c = 64 then (pSteps ((r ++ t).length + 1) (r ++ t)).map (fun p => ((decide (c = 36), p.1), p.2)) else none) := rfl
    rw [e]
    split at h1
    · rename_i hc
      rw [if_pos hc]
      cases hq : sSteps (r.length + 1) r with
      | none => rw [hq] at h1; cases h1
      | some ps =>
        rw [hq] at h1
        injection h1 with h1
        subst h1
        rw [pSteps_ext _ _ _ hq t ht _ (by rw [List.length_append]; omega)]; rfl
    · cases h1
theorem pRef_some {l t : Bs} {x : Bool × List PStep} (h : pRef l = some (x, t)) : ∃ s, l = s ++ t ∧ sRef s = some x ∧ Cl rfC s ∧ ∃ c r, s = c :: r ∧ (c = 36 ∨ c = 64) := by
  cases l with
  | nil => cases h
  | cons c r =>
    have h1 : (if c = 36 ∨ c = 64 then (pSteps (r.length + 1) r).map (fun p => ((decide (c = 36), p.1), p.2)) else none) = some (x, t) := h
    split at h1
    · rename_i hc
      cases hq : pSteps (r.length + 1) r with
      | none => rw [hq] at h1; cases h1
      | some q =>
        obtain ⟨ps, u⟩ := q
        rw [hq] at h1
        injection h1 with h1
        injection h1 with h2 h3
        simp only at h2 h3
        subst h2; subst h3
        obtain ⟨s, rfl, hs, hcl, -⟩ := pSteps_some _ _ _ _ hq
        refine ⟨c :: s, rfl, ?_, .chr (by rcases hc with rfl | rfl <;> decide) (by rcases hc with rfl | rfl <;> decide) hcl, c, s, rfl, hc⟩
        show (if c = 36 ∨ c = 64 then (sSteps (s.length + 1) s).map (fun p => (decide (c = 36), p)) else none) = _
        rw [if_pos hc, hs _ (by omega)]; rfl
    · cases h1
/-- Operands. -/
def wdT : Bs := [116, 114, 117, 101]
def wdF : Bs := [102, 97, 108, 115, 101]
def wdN : Bs := [110, 117, 108, 108]
def wdL : Bs := [108, 101, 110, 103, 116, 104, 40]
def pWd (w l : Bs) : Option Bs := if w.isPrefixOf l = true then some (l.drop w.length) else none
theorem pWd_app (w t : Bs) : pWd w (w ++ t) = some t := by
  unfold pWd
  rw [if_pos (List.isPrefixOf_iff_prefix.2 (List.prefix_append w t))]
  simp
theorem pWd_some {w l t : Bs} (h : pWd w l = some t) : l = w ++ t := by
  unfold pWd at h
  split at h
  · rename_i hp
    injection h with h
    subst h
    exact (List.prefix_iff_eq_append.1 (List.isPrefixOf_iff_prefix.1 hp)).symm
  · cases h
def opI (n : Int) : PFOp := ⟨1, n, ⟨#[]⟩, false, []⟩
def opS (v : Bs) : PFOp := ⟨2, 0, bsT v, false, []⟩
def opK (k : Int) : PFOp := ⟨k, 0, ⟨#[]⟩, false, []⟩
def opR' (k : Int) (x : Bool × List PStep) : PFOp := ⟨k, 0, ⟨#[]⟩, x.1, x.2⟩
def pOpd (l : Bs) : Option (PFOp × Bs) := match l with
  | [] => none
  | c :: _ => if c = 39 then (pStr l).map fun p => (opS p.1, p.2)
    else if c = 116 then (pWd wdT l).map fun t => (opK 3, t)
    else if c = 102 then (pWd wdF l).map fun t => (opK 4, t)
    else if c = 110 then (pWd wdN l).map fun t => (opK 5, t)
    else if c = 108 then (match pWd wdL l with
      | none => none
      | some u => match pRef u with
        | none => none
        | some (x, t) => match t with
          | [] => none
          | d :: v => if d = 41 then some (opR' 7 x, v) else none)
    else if c = 64 ∨ c = 36 then (pRef l).map fun p => (opR' 6 p.1, p.2)
    else (pInt l).map fun p => (opI p.1, p.2)
theorem pOpd_con (c : UInt8) (r : Bs) : pOpd (c :: r) = (if c = 39 then (pStr (c :: r)).map (fun p => (opS p.1, p.2))
    else if c = 116 then (pWd wdT (c :: r)).map (fun t => (opK 3, t))
    else if c = 102 then (pWd wdF (c :: r)).map (fun t => (opK 4, t))
    else if c = 110 then (pWd wdN (c :: r)).map (fun t => (opK 5, t))
    else if c = 108 then (match pWd wdL (c :: r) with
      | none => none
      | some u => match pRef u with
        | none => none
        | some (x, t) => match t with
          | [] => none
          | d :: v => if d = 41 then some (opR' 7 x, v) else none)
    else if c = 64 ∨ c = 36 then (pRef (c :: r)).map (fun p => (opR' 6 p.1, p.2))
    else (pInt (c :: r)).map fun p => (opI p.1, p.2)) := rfl
/-- An operand as the model has it: a whole text. -/
def sOpd (s : Bs) : Option PFOp := match sInt s with
  | some n => some (opI n)
  | none => match sStr s with
    | some v => some (opS v)
    | none => if s = wdT then some (opK 3) else if s = wdF then some (opK 4) else if s = wdN then some (opK 5)
      else if wdL.isPrefixOf s = true ∧ s.getLast? = some 41 then (sRef ((s.drop 7).take (s.length - 8))).map (opR' 7) else (sRef s).map (opR' 6)
theorem hd_int {c : UInt8} {r : Bs} (h : ¬ (c = 45 ∨ isDg c.toNat = true)) : sInt (c :: r) = none := by
  cases hs : sInt (c :: r) with
  | none => rfl
  | some n => exact absurd (sInt_hd hs) h
theorem hd_str {c : UInt8} {r : Bs} (h : c ≠ 39) : sStr (c :: r) = none := by
  show (if c = 39 ∧ sE r = some [] then sD r.dropLast else none) = none
  rw [if_neg fun e => h e.1]
theorem nm_of_dg {c : UInt8} (h : isDg c.toNat = true) : isNm c = true := by unfold isNm; rw [h, Bool.or_true]
theorem RefEnd.dg {t : Bs} (h : RefEnd t) : NoDg t := fun c r e => by
  cases hd : isDg c.toNat with
  | false => rfl
  | true => have := (h c r e).2; rw [nm_of_dg hd] at this; cases this
theorem pOpd_ext {s : Bs} {o : PFOp} (h : sOpd s = some o) {t : Bs} (ht : RefEnd t) : pOpd (s ++ t) = some (o, t) := by
  unfold sOpd at h
  cases hi : sInt s with
  | some n =>
    rw [hi] at h
    injection h with h
    subst h
    have h1 := pInt_ext hi ht.dg
    cases s with
    | nil => cases hi
    | cons c r =>
      have hc := sInt_hd hi
      rw [List.cons_append] at h1 ⊢
      rw [pOpd_con, if_neg (by rintro rfl; revert hc; decide), if_neg (by rintro rfl; revert hc; decide), if_neg (by rintro rfl; revert hc; decide), if_neg (by rintro rfl; revert hc; decide), if_neg (by rintro rfl; revert hc; decide), if_neg (by rintro (rfl | rfl) <;> (revert hc; decide)), h1]
      rfl
  | none =>
    rw [hi] at h
    simp only at h
    cases hs : sStr s with
    | some v =>
      rw [hs] at h
      injection h with h
      subst h
      have h1 := pStr_ext hs t
      cases s with
      | nil => cases hs
      | cons c r =>
        have hc : c = 39 := by
          cases hx : decide (c = 39) with
          | true => simpa using hx
          | false => rw [hd_str (by simpa using hx)] at hs; cases hs
        subst hc
        rw [List.cons_append] at h1 ⊢
        rw [pOpd_con, if_pos rfl, h1]; rfl
    | none =>
      rw [hs] at h
      simp only at h
      split at h
      · rename_i e
        injection h with h
        subst h; subst e
        rw [show wdT ++ t = 116 :: ([114, 117, 101] ++ t) from rfl, pOpd_con, if_neg (by decide), if_pos rfl, show (116 :: ([114, 117, 101] ++ t) : Bs) = wdT ++ t from rfl, pWd_app]; rfl
      · split at h
        · rename_i e
          injection h with h
          subst h; subst e
          rw [show wdF ++ t = 102 :: ([97, 108, 115, 101] ++ t) from rfl, pOpd_con, if_neg (by decide), if_neg (by decide), if_pos rfl, show (102 :: ([97, 108, 115, 101] ++ t) : Bs) = wdF ++ t from rfl, pWd_app]; rfl
        · split at h
          · rename_i e
            injection h with h
            subst h; subst e
            rw [show wdN ++ t = 110 :: ([117, 108, 108] ++ t) from rfl, pOpd_con, if_neg (by decide), if_neg (by decide), if_neg (by decide), if_pos rfl, show (110 :: ([117, 108, 108] ++ t) : Bs) = wdN ++ t from rfl, pWd_app]; rfl
          · split at h
            · rename_i hl
              obtain ⟨h1, h2⟩ := hl
              cases hr : sRef ((s.drop 7).take (s.length - 8)) with
              | none => rw [hr] at h; cases h
              | some x =>
                rw [hr] at h
                injection h with h
                subst h
                have e1 := (List.prefix_iff_eq_append.1 (List.isPrefixOf_iff_prefix.1 h1)).symm
                have e7 : wdL.length = 7 := rfl
                rw [e7] at e1
                -- the text is the word, the ref, the bracket
                have hne : s.drop 7 ≠ [] := by
                  intro e
                  rw [e, List.append_nil] at e1
                  rw [e1] at h2
                  cases h2
                have hlast : s.drop 7 = (s.drop 7).take (s.length - 8) ++ [41] := by
                  obtain ⟨ini, hini⟩ : ∃ ini, s.drop 7 = ini ++ [41] := by
                    rcases List.eq_nil_or_concat (s.drop 7) with e | ⟨d', y, e⟩
                    · exact absurd e hne
                    · rw [List.concat_eq_append] at e
                      rw [e, ← List.append_assoc] at e1
                      rw [e1, List.getLast?_concat] at h2
                      injection h2 with h2
                      exact ⟨d', by rw [e, h2]⟩
                  have hll : ini.length = s.length - 8 := by
                    have := congrArg List.length hini
                    rw [List.length_drop, List.length_append, List.length_singleton] at this
                    omega
                  rw [hini, ← hll, List.take_left]
                generalize (s.drop 7).take (s.length - 8) = rs at *
                rw [hlast] at e1
                subst e1
                rw [show wdL ++ (rs ++ [41]) ++ t = 108 :: ([101, 110, 103, 116, 104, 40] ++ (rs ++ 41 :: t)) by simp [wdL], pOpd_con, if_neg (by decide), if_neg (by decide), if_neg (by decide), if_neg (by decide), if_pos rfl, show (108 :: ([101, 110, 103, 116, 104, 40] ++ (rs ++ 41 :: t)) : Bs) = wdL ++ (rs ++ 41 :: t) from rfl, pWd_app]
                simp only
                rw [pRef_ext hr (t := 41 :: t) (by intro a b hab; injection hab with h1 _; subst h1; exact ⟨by decide, by decide⟩)]
                simp
            · cases hr : sRef s with
              | none => rw [hr] at h; cases h
              | some x =>
                rw [hr] at h
                injection h with h
                subst h
                have h1 := pRef_ext hr ht
                cases s with
                | nil => cases hr
                | cons c r =>
                  have hc : c = 36 ∨ c = 64 := by
                    have h5 : (if c = 36 ∨ c = 64 then (sSteps (r.length + 1) r).map (fun p => (decide (c = 36), p)) else none) = some x := hr
                    split at h5
                    · assumption
                    · cases h5
                  rw [List.cons_append] at h1 ⊢
                  rw [pOpd_con, if_neg (by rintro rfl; revert hc; decide), if_neg (by rintro rfl; revert hc; decide), if_neg (by rintro rfl; revert hc; decide), if_neg (by rintro rfl; revert hc; decide), if_neg (by rintro rfl; revert hc; decide), if_pos (by rcases hc with h | h; exact .inr h; exact .inl h), h1]
                  rfl
end Go.Proofs.Ytiolpmhodbefoaa

