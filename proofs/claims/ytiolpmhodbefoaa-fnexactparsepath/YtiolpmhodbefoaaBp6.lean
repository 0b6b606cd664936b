import Derived.Test.YtiolpmhodbefoaaBp5
namespace Go.Proofs.Ytiolpmhodbefoaa
open Go.RowKit

/-- The bytes of an operand outside of strings and brackets. -/
def opC (c : UInt8) : Bool := rfC c || c == 45
theorem rf_op (c : UInt8) (h : rfC c = true) : opC c = true := by unfold opC; rw [h]; rfl
theorem opd_T : sOpd wdT = some (opK 3) := by
  unfold sOpd
  rw [show sInt wdT = none from hd_int (by decide), show sStr wdT = none from hd_str (by decide)]
  simp only
  rw [if_pos (by trivial)]
theorem opd_F : sOpd wdF = some (opK 4) := by
  unfold sOpd
  rw [show sInt wdF = none from hd_int (by decide), show sStr wdF = none from hd_str (by decide)]
  simp only
  rw [if_neg (by decide), if_pos (by trivial)]
theorem opd_N : sOpd wdN = some (opK 5) := by
  unfold sOpd
  rw [show sInt wdN = none from hd_int (by decide), show sStr wdN = none from hd_str (by decide)]
  simp only
  rw [if_neg (by decide), if_neg (by decide), if_pos (by trivial)]
theorem pOpd_some {l t : Bs} {o : PFOp} (h : pOpd l = some (o, t)) : ∃ s, l = s ++ t ∧ sOpd s = some o ∧ Cl opC s := by
  cases l with
  | nil => cases h
  | cons c r =>
    rw [pOpd_con] at h
    split at h
    · cases hq : pStr (c :: r) with
      | none => rw [hq] at h; cases h
      | some q =>
        obtain ⟨v, u⟩ := q
        rw [hq] at h
        injection h with h
        injection h with h1 h2
        simp only at h1 h2
        subst h1; subst h2
        obtain ⟨s, e, hs, -⟩ := pStr_some hq
        exact ⟨s, e, by unfold sOpd; rw [sStr_int hs, hs], sStr_cl hs _⟩
    · rename_i h39
      split at h
      · cases hq : pWd wdT (c :: r) with
        | none => rw [hq] at h; cases h
        | some u =>
          rw [hq] at h
          injection h with h
          injection h with h1 h2
          subst h1; subst h2
          exact ⟨wdT, pWd_some hq, opd_T, Cl.all (by decide)⟩
      · split at h
        · cases hq : pWd wdF (c :: r) with
          | none => rw [hq] at h; cases h
          | some u =>
            rw [hq] at h
            injection h with h
            injection h with h1 h2
            subst h1; subst h2
            exact ⟨wdF, pWd_some hq, opd_F, Cl.all (by decide)⟩
        · split at h
          · cases hq : pWd wdN (c :: r) with
            | none => rw [hq] at h; cases h
            | some u =>
              rw [hq] at h
              injection h with h
              injection h with h1 h2
              subst h1; subst h2
              exact ⟨wdN, pWd_some hq, opd_N, Cl.all (by decide)⟩
          · split at h
            · rename_i h108
              cases hq : pWd wdL (c :: r) with
              | none => rw [hq] at h; cases h
              | some u =>
                rw [hq] at h
                simp only at h
                cases hp : pRef u with
                | none => rw [hp] at h; cases h
                | some q =>
                  obtain ⟨x, t1⟩ := q
                  rw [hp] at h
                  simp only at h
                  match t1, hp, h with
                  | [], _, h => cases h
                  | d :: v, hp, h =>
                    simp only at h
                    split at h
                    · rename_i hd
                      subst hd
                      injection h with h
                      injection h with h1 h2
                      subst h1; subst h2
                      obtain ⟨rs, e, hr, hcl, -⟩ := pRef_some hp
                      subst e
                      refine ⟨wdL ++ (rs ++ [41]), ?_, ?_, ?_⟩
                      · rw [pWd_some hq]; simp
                      · have e0 : wdL ++ (rs ++ [41]) = 108 :: ([101, 110, 103, 116, 104, 40] ++ (rs ++ [41])) := rfl
                        unfold sOpd
                        rw [e0, hd_int (by decide), hd_str (by decide)]
                        simp only
                        rw [if_neg (by intro e; injection e with e _; cases e), if_neg (by intro e; injection e with e _; cases e), if_neg (by intro e; injection e with e _; cases e)]
                        rw [← e0, if_pos]
                        · have e1 : ((wdL ++ (rs ++ [41])).drop 7).take ((wdL ++ (rs ++ [41])).length - 8) = rs := by
                            have : (wdL ++ (rs ++ [41])).length - 8 = rs.length := by simp [wdL]
                            rw [this]
                            have e2 : (wdL ++ (rs ++ [41])).drop 7 = rs ++ [41] := by simp [wdL]
                            rw [e2, List.take_left]
                          rw [e1, hr]; rfl
                        · refine ⟨List.isPrefixOf_iff_prefix.2 (List.prefix_append _ _), ?_⟩
                          rw [← List.append_assoc, List.getLast?_concat]
                      · have hw : Cl opC ([108, 101, 110, 103, 116, 104] : Bs) := Cl.all (by decide)
                        have := hw.app (Cl.par (P := opC) hcl .nil)
                        have e : wdL ++ (rs ++ [41]) = ([108, 101, 110, 103, 116, 104] : Bs) ++ (40 :: (rs ++ 41 :: [])) := by simp [wdL]
                        rw [e]; exact this
                    · cases h
            · split at h
              · rename_i hc
                cases hp : pRef (c :: r) with
                | none => rw [hp] at h; cases h
                | some q =>
                  obtain ⟨x, u⟩ := q
                  rw [hp] at h
                  injection h with h
                  injection h with h1 h2
                  simp only at h1 h2
                  subst h1; subst h2
                  obtain ⟨s, e, hr, hcl, d, y, rfl, hd⟩ := pRef_some hp
                  refine ⟨d :: y, e, ?_, hcl.mono rf_op⟩
                  unfold sOpd
                  rw [hd_int (by rcases hd with rfl | rfl <;> decide), hd_str (by rcases hd with rfl | rfl <;> decide)]
                  simp only
                  rw [if_neg (by intro e; injection e with e _; rcases hd with rfl | rfl <;> cases e), if_neg (by intro e; injection e with e _; rcases hd with rfl | rfl <;> cases e), if_neg (by intro e; injection e with e _; rcases hd with rfl | rfl <;> cases e), if_neg, hr]
                  · rfl
                  · rintro ⟨e, _⟩
                    have := List.isPrefixOf_iff_prefix.1 e
                    obtain ⟨z, hz⟩ := this
                    injection hz with hz _
                    rcases hd with rfl | rfl <;> cases hz
              · cases hq : pInt (c :: r) with
                | none => rw [hq] at h; cases h
                | some q =>
                  obtain ⟨n, u⟩ := q
                  rw [hq] at h
                  injection h with h
                  injection h with h1 h2
                  simp only at h1 h2
                  subst h1; subst h2
                  obtain ⟨s, e, hs⟩ := pInt_some hq
                  refine ⟨s, e, by unfold sOpd; rw [hs], sInt_cl hs fun c hc => ?_⟩
                  unfold opC rfC
                  rcases hc with rfl | hc
                  · decide
                  · rw [nm_of_dg hc]; rfl
/-- The comparison that stands there: the longest. -/
def pCmp (l : Bs) : Option (Int × Bs) := match l with
  | [] => none
  | c :: r => if c = 61 then (match r with
      | [] => none
      | d :: q => if d = 61 then some (1, q) else none)
    else if c = 33 then (match r with
      | [] => none
      | d :: q => if d = 61 then some (2, q) else none)
    else if c = 60 then (match r with
      | [] => some (3, r)
      | d :: q => if d = 61 then some (4, q) else some (3, r))
    else if c = 62 then (match r with
      | [] => some (5, r)
      | d :: q => if d = 61 then some (6, q) else some (5, r))
    else none
def isCm (c : UInt8) : Bool := c == 61 || c == 33 || c == 60 || c == 62
theorem pCmp_hd {l t : Bs} {n : Int} (h : pCmp l = some (n, t)) : ∃ c r, l = c :: r ∧ isCm c = true ∧ t.length < l.length ∧ ∃ g, l = g ++ t := by
  cases l with
  | nil => cases h
  | cons c r =>
    refine ⟨c, r, rfl, ?_⟩
    unfold pCmp at h
    simp only at h
    split at h
    · rename_i hc; subst hc
      match r, h with
      | [], h => cases h
      | d :: q, h =>
        simp only at h
        split at h
        · injection h with h; injection h with _ h; subst h
          exact ⟨by decide, by simp; omega, [61, d], rfl⟩
        · cases h
    · split at h
      · rename_i hc; subst hc
        match r, h with
        | [], h => cases h
        | d :: q, h =>
          simp only at h
          split at h
          · injection h with h; injection h with _ h; subst h
            exact ⟨by decide, by simp; omega, [33, d], rfl⟩
          · cases h
      · split at h
        · rename_i hc; subst hc
          match r, h with
          | [], h => simp only at h; injection h with h; injection h with _ h; subst h; exact ⟨by decide, by simp, [60], rfl⟩
          | d :: q, h =>
            simp only at h
            split at h
            · injection h with h; injection h with _ h; subst h
              exact ⟨by decide, by simp; omega, [60, d], rfl⟩
            · injection h with h; injection h with _ h; subst h
              exact ⟨by decide, by simp, [60], rfl⟩
        · split at h
          · rename_i hc; subst hc
            match r, h with
            | [], h => simp only at h; injection h with h; injection h with _ h; subst h; exact ⟨by decide, by simp, [62], rfl⟩
            | d :: q, h =>
              simp only at h
              split at h
              · injection h with h; injection h with _ h; subst h
                exact ⟨by decide, by simp; omega, [62, d], rfl⟩
              · injection h with h; injection h with _ h; subst h
                exact ⟨by decide, by simp, [62], rfl⟩
          · cases h
theorem pCmp_no {l : Bs} (h : ∀ c r, l = c :: r → isCm c = false) : pCmp l = none := by
  cases hp : pCmp l with
  | none => rfl
  | some q =>
    obtain ⟨n, t⟩ := q
    obtain ⟨c, r, e, hc, -⟩ := pCmp_hd hp
    rw [h c r e] at hc
    cases hc
end Go.Proofs.Ytiolpmhodbefoaa


namespace Go.Proofs.Ytiolpmhodbefoaa
open Go.RowKit

/-- The comparison by its first two bytes: its number and its length. -/
def cmT (c d : UInt8) : Option (Int × Nat) := if c = 61 then (if d = 61 then some (1, 2) else none) else if c = 33 then (if d = 61 then some (2, 2) else none)
  else if c = 60 then (if d = 61 then some (4, 2) else some (3, 1)) else if c = 62 then (if d = 61 then some (6, 2) else some (5, 1)) else none
theorem cmT_le {c d : UInt8} {p : Int × Nat} (hm : cmT c d = some p) : p.2 ≤ 2 := by
  unfold cmT at hm
  repeat' split at hm
  all_goals (cases hm <;> decide)
theorem cmT_one {c d : UInt8} {p : Int × Nat} (hx : ¬ d = 61) (hm : cmT c d = some p) : p.2 = 1 := by
  unfold cmT at hm
  rw [if_neg hx, if_neg hx, if_neg hx, if_neg hx] at hm
  repeat' split at hm
  all_goals (cases hm <;> rfl)
theorem pCmp_two (c d : UInt8) (r : Bs) : pCmp (c :: d :: r) = (cmT c d).map fun p => (p.1, (c :: d :: r).drop p.2) := by
  unfold pCmp cmT
  simp only
  repeat' split
  all_goals rfl
def minO (a b : Option Nat) : Option Nat := match a, b with
  | none, b => b
  | a, none => a
  | some x, some y => some (if y < x then y else x)
def fCmp (s : Bs) : Option Nat := minO (minO (minO (fT 61 [61] 0 0 s) (fT 33 [61] 0 0 s)) (fT 60 [] 0 0 s)) (fT 62 [] 0 0 s)
def cmO (n : Int) : PFOp := ⟨9, n, ⟨#[]⟩, false, []⟩
def sTest (s : Bs) : Option (List PFOp) := match fCmp s with
  | none => (sRef s).map fun x => [opR' 8 x]
  | some c => match pCmp (s.drop c) with
    | none => none
    | some (n, u) => match sOpd (s.take c), sOpd u with
      | some a, some b => some [a, b, cmO n]
      | _, _ => none
def pTest (l : Bs) : Option (List PFOp × Bs) := match pOpd l with
  | none => none
  | some (a, t) => match pCmp t with
    | some (n, u) => match pOpd u with
      | none => none
      | some (b, v) => some ([a, b, cmO n], v)
    | none => if a.k = 6 then some ([{ a with k := 8 }], t) else none
/-- What may come behind a prim. -/
def isEnd (c : UInt8) : Bool := c == 38 || c == 124 || c == 41 || c == 93 || c == 44
def EndT (t : Bs) : Prop := ∀ c r, t = c :: r → isEnd c = true
theorem end_ch {c : UInt8} (h : isEnd c = true) : isStop c = false ∧ isNm c = false ∧ isCm c = false := by
  unfold isEnd at h
  simp only [Bool.or_eq_true, beq_iff_eq] at h
  rcases h with (((rfl | rfl) | rfl) | rfl) | rfl <;> exact ⟨by decide, by decide, by decide⟩
theorem EndT.ref {t : Bs} (h : EndT t) : RefEnd t := fun c r e => ⟨(end_ch (h c r e)).1, (end_ch (h c r e)).2.1⟩
theorem EndT.cmp {t : Bs} (h : EndT t) : pCmp t = none := pCmp_no fun c r e => (end_ch (h c r e)).2.2
theorem cm_ch {c : UInt8} (h : isCm c = true) : isStop c = false ∧ isNm c = false ∧ isBr c = false ∧ opC c = false := by
  unfold isCm at h
  simp only [Bool.or_eq_true, beq_iff_eq] at h
  rcases h with ((rfl | rfl) | rfl) | rfl <;> exact ⟨by decide, by decide, by decide, by decide⟩
theorem sOpd_ne {u : Bs} {b : PFOp} (h : sOpd u = some b) : u ≠ [] := by
  rintro rfl
  have : sOpd [] = none := by
    unfold sOpd
    rw [show sInt [] = none from rfl, show sStr [] = none from rfl]
    simp only
    rw [if_neg (by decide), if_neg (by decide), if_neg (by decide), if_neg (by rintro ⟨h, _⟩; cases h)]
    rfl
  rw [this] at h; cases h
theorem pCmp_ext {l u : Bs} {n : Int} (h : pCmp l = some (n, u)) (hu : u ≠ []) (t : Bs) : pCmp (l ++ t) = some (n, u ++ t) := by
  obtain ⟨c, r, rfl, hc, hl, g, hg⟩ := pCmp_hd h
  cases r with
  | nil =>
    exfalso
    cases u with
    | nil => exact hu rfl
    | cons a b => simp at hl
  | cons d q =>
    rw [pCmp_two] at h
    rw [List.cons_append, List.cons_append, pCmp_two]
    cases hm : cmT c d with
    | none => rw [hm] at h; cases h
    | some p =>
      rw [hm] at h
      injection h with h
      injection h with h1 h2
      subst h1; subst h2
      have hp : p.2 ≤ 2 := cmT_le hm
      show some (p.1, (c :: d :: (q ++ t)).drop p.2) = some (p.1, (c :: d :: q).drop p.2 ++ t)
      rw [← List.cons_append, ← List.cons_append, List.drop_append_of_le_length (by simp; omega)]
theorem pCmp_cut {g s t : Bs} {n : Int} (h : pCmp (g ++ (s ++ t)) = some (n, s ++ t)) (hs : s ≠ []) : pCmp (g ++ s) = some (n, s) := by
  obtain ⟨c, r, e, hc, hl, -⟩ := pCmp_hd h
  cases s with
  | nil => exact absurd rfl hs
  | cons x y =>
    cases g with
    | nil => simp at hl
    | cons a g' =>
      have key : ∃ d q, a :: g' ++ (x :: y) = a :: d :: q ∧ a :: g' ++ (x :: y ++ t) = a :: d :: (q ++ t) := by
        cases g' with
        | nil => exact ⟨x, y, rfl, rfl⟩
        | cons b z => exact ⟨b, z ++ x :: y, rfl, by simp⟩
      obtain ⟨d, q, e1, e2⟩ := key
      rw [e2, pCmp_two] at h
      rw [e1, pCmp_two]
      cases hm : cmT a d with
      | none => rw [hm] at h; cases h
      | some p =>
        rw [hm] at h
        injection h with h
        injection h with h1 h2
        subst h1
        have hp : p.2 ≤ 2 := cmT_le hm
        show some (p.1, (a :: d :: q).drop p.2) = some (p.1, x :: y)
        congr 2
        rw [← List.cons_append, ← List.cons_append, List.drop_append_of_le_length (by simp; omega)] at h2
        exact List.append_cancel_right h2
theorem test_ext {s : Bs} {ops : List PFOp} (h : sTest s = some ops) {t : Bs} (ht : EndT t) : pTest (s ++ t) = some (ops, t) := by
  unfold sTest at h
  unfold pTest
  cases hc : fCmp s with
  | none =>
    rw [hc] at h
    simp only at h
    cases hr : sRef s with
    | none => rw [hr] at h; cases h
    | some x =>
      rw [hr] at h
      injection h with h
      subst h
      have h1 := pRef_ext hr ht.ref
      have ho : pOpd (s ++ t) = some (opR' 6 x, t) := by
        cases s with
        | nil => cases hr
        | cons c r =>
          have hc : c = 36 ∨ c = 64 := by
            have h5 : (if c = 36 ∨ c = 64 then (sSteps (r.length + 1) r).map (fun p => (decide (c = 36), p)) else none) = some x := hr
            split at h5
            · assumption
            · cases h5
          rw [List.cons_append] at h1 ⊢
          rw [pOpd_con, if_neg (by rintro rfl; revert hc; decide), if_neg (by rintro rfl; revert hc; decide), if_neg (by rintro rfl; revert hc; decide), if_neg (by rintro rfl; revert hc; decide), if_neg (by rintro rfl; revert hc; decide), if_pos (by rcases hc with h | h; exact .inr h; exact .inl h), h1]
          rfl
      rw [ho]
      simp only
      rw [ht.cmp]
      simp only
      rw [if_pos (show (opR' 6 x).k = 6 from rfl)]; rfl
  | some c =>
    rw [hc] at h
    simp only at h
    cases hp : pCmp (s.drop c) with
    | none => rw [hp] at h; cases h
    | some q =>
      obtain ⟨n, u⟩ := q
      rw [hp] at h
      simp only at h
      cases ha : sOpd (s.take c) with
      | none => rw [ha] at h; cases h
      | some a =>
        cases hb : sOpd u with
        | none => rw [ha, hb] at h; cases h
        | some b =>
          rw [ha, hb] at h
          injection h with h
          subst h
          have e : s ++ t = s.take c ++ (s.drop c ++ t) := by rw [← List.append_assoc, List.take_append_drop]
          obtain ⟨x, y, hxy, hx, -⟩ := pCmp_hd hp
          rw [e, pOpd_ext ha (t := s.drop c ++ t) (by
            intro p q hpq
            rw [hxy, List.cons_append] at hpq
            injection hpq with h1 _
            subst h1
            exact ⟨(cm_ch hx).1, (cm_ch hx).2.1⟩)]
          simp only
          rw [pCmp_ext hp (sOpd_ne hb) t]
          simp only
          rw [pOpd_ext hb ht.ref]
/-- The bytes of a test outside of strings and brackets. -/
def tsC (c : UInt8) : Bool := opC c || isCm c
theorem minO_at {a b : Option Nat} {k : Nat} (ha : a = some k ∨ ((∀ x, a = some x → k ≤ x) ∧ b = some k)) (hb : ∀ y, b = some y → k ≤ y) : minO a b = some k := by
  rcases ha with rfl | ⟨ha, rfl⟩
  · cases b with
    | none => rfl
    | some y =>
      have := hb y rfl
      show some (if y < k then y else k) = some k
      rw [if_neg (by omega)]
  · cases a with
    | none => rfl
    | some x =>
      have := ha x rfl
      show some (if k < x then k else x) = some k
      split
      · rfl
      · congr 1; omega
theorem minO_le {a b : Option Nat} {k : Nat} (ha : ∀ x, a = some x → k ≤ x) (hb : ∀ y, b = some y → k ≤ y) : ∀ z, minO a b = some z → k ≤ z := by
  intro z hz
  cases a with
  | none => exact hb z hz
  | some x =>
    cases b with
    | none => exact ha z hz
    | some y =>
      have h1 := ha x rfl
      have h2 := hb y rfl
      have hz' : some (if y < x then y else x) = some z := hz
      injection hz' with hz'
      split at hz' <;> omega
theorem fCmp_at {s1 g s2 : Bs} (h1 : Cl opC s1) {n : Int} (hp : pCmp (g ++ s2) = some (n, s2)) : fCmp (s1 ++ (g ++ s2)) = some s1.length := by
  have key : ∀ (w : UInt8) (ws : Bs), isCm w = true → fT w ws 0 0 (s1 ++ (g ++ s2)) = fT w ws 0 s1.length (g ++ s2) := fun w ws hw => by
    have := fT_cl (w := w) (ws := ws) (cm_ch hw).2.2.1 h1 0 0 (g ++ s2) (by omega) (fun _ => (cm_ch hw).2.2.2)
    rw [this, Nat.zero_add]
  have hle : ∀ (w : UInt8) (ws : Bs) (x : Nat), fT w ws 0 s1.length (g ++ s2) = some x → s1.length ≤ x := fun w ws x h => (fT_at _ _ _ _ h).1
  obtain ⟨c, r, e, hc, -⟩ := pCmp_hd hp
  have hit : ∀ (w : UInt8) (ws : Bs), (w :: ws) <+: (g ++ s2) → fT w ws 0 s1.length (g ++ s2) = some s1.length := fun w ws h => by
    rw [e] at h ⊢
    rw [fT, if_pos ⟨rfl, List.isPrefixOf_iff_prefix.2 h⟩]
  unfold fCmp
  rw [key 61 [61] (by decide), key 33 [61] (by decide), key 60 [] (by decide), key 62 [] (by decide)]
  have l1 := hle 61 [61]
  have l2 := hle 33 [61]
  have l3 := hle 60 []
  have l4 := hle 62 []
  have hc' := hc
  unfold isCm at hc
  simp only [Bool.or_eq_true, beq_iff_eq] at hc
  rcases hc with ((rfl | rfl) | rfl) | rfl
  · have hpre : ([61, 61] : Bs) <+: g ++ s2 := by
      rw [e] at hp ⊢
      cases r with
      | nil => cases hp
      | cons d q =>
        rw [pCmp_two] at hp
        cases hd : decide (d = 61) with
        | true => simp at hd; subst hd; exact ⟨q, rfl⟩
        | false =>
          simp at hd
          unfold cmT at hp
          rw [if_pos rfl, if_neg hd] at hp
          cases hp
    have h0 := hit 61 [61] hpre
    exact minO_at (.inl (minO_at (.inl (minO_at (.inl h0) l2)) l3)) l4
  · have hpre : ([33, 61] : Bs) <+: g ++ s2 := by
      rw [e] at hp ⊢
      cases r with
      | nil => cases hp
      | cons d q =>
        rw [pCmp_two] at hp
        cases hd : decide (d = 61) with
        | true => simp at hd; subst hd; exact ⟨q, rfl⟩
        | false =>
          simp at hd
          unfold cmT at hp
          rw [if_neg (by decide), if_pos rfl, if_neg hd] at hp
          cases hp
    have h0 := hit 33 [61] hpre
    exact minO_at (.inl (minO_at (.inl (minO_at (.inr ⟨l1, h0⟩) l2)) l3)) l4
  · have h0 := hit 60 [] (by rw [e]; exact ⟨r, rfl⟩)
    exact minO_at (.inl (minO_at (.inr ⟨minO_le l1 l2, h0⟩) l3)) l4
  · have h0 := hit 62 [] (by rw [e]; exact ⟨r, rfl⟩)
    exact minO_at (.inr ⟨minO_le (minO_le l1 l2) l3, h0⟩) l4
theorem fCmp_no {s : Bs} (h : Cl opC s) : fCmp s = none := by
  have key : ∀ (w : UInt8) (ws : Bs), isCm w = true → fT w ws 0 0 s = none := fun w ws hw => by
    have := fT_cl (w := w) (ws := ws) (cm_ch hw).2.2.1 h 0 0 [] (by omega) (fun _ => (cm_ch hw).2.2.2)
    rw [List.append_nil] at this
    rw [this, fT]
  unfold fCmp
  rw [key 61 [61] (by decide), key 33 [61] (by decide), key 60 [] (by decide), key 62 [] (by decide)]
  rfl
theorem test_some {l t : Bs} {ops : List PFOp} (h : pTest l = some (ops, t)) : ∃ s, l = s ++ t ∧ sTest s = some ops ∧ Cl tsC s ∧ s ≠ [] := by
  unfold pTest at h
  cases ha : pOpd l with
  | none => rw [ha] at h; cases h
  | some q =>
    obtain ⟨a, t1⟩ := q
    rw [ha] at h
    simp only at h
    obtain ⟨s1, e1, hs1, hc1⟩ := pOpd_some ha
    subst e1
    cases hp : pCmp t1 with
    | some q2 =>
      obtain ⟨n, t2⟩ := q2
      rw [hp] at h
      simp only at h
      cases hb : pOpd t2 with
      | none => rw [hb] at h; cases h
      | some q3 =>
        obtain ⟨b, v⟩ := q3
        rw [hb] at h
        injection h with h
        injection h with h1 h2
        subst h1; subst h2
        obtain ⟨s2, e2, hs2, hc2⟩ := pOpd_some hb
        subst e2
        obtain ⟨c, r, e3, hcm, -, g, hg⟩ := pCmp_hd hp
        subst hg
        have hcut := pCmp_cut hp (sOpd_ne hs2)
        have hgc : Cl tsC g := by
          have hg2 : g.all (fun c => tsC c && !isBr c) = true := by
            rw [List.all_eq_true]
            intro d hd
            have : isCm d = true := by
              have hlen : g.length ≤ 2 := by
                cases g with
                | nil => simp
                | cons x y =>
                  cases y with
                  | nil => simp
                  | cons x' y' =>
                    rw [List.cons_append, List.cons_append, pCmp_two] at hp
                    cases hm : cmT x x' with
                    | none => rw [hm] at hp; cases hp
                    | some p =>
                      rw [hm] at hp
                      injection hp with hp
                      injection hp with _ hp
                      have hp2 : p.2 ≤ 2 := cmT_le hm
                      have := congrArg List.length hp
                      simp only [List.length_drop, List.length_cons, List.length_append] at this
                      simp only [List.length_cons]
                      omega
              match g, hlen, hd, hp, e3 with
              | [x], _, hd, hp, e3 =>
                simp at hd
                subst hd
                injection e3 with e3 _
                subst e3
                exact hcm
              | [x, x'], _, hd, hp, e3 =>
                rw [List.cons_append, List.cons_append, pCmp_two] at hp
                injection e3 with e3 _
                subst e3
                simp at hd
                rcases hd with rfl | rfl
                · exact hcm
                · cases hx : decide (d = 61) with
                  | true => simp at hx; subst hx; decide
                  | false =>
                    simp at hx
                    exfalso
                    cases hm : cmT x d with
                    | none => rw [hm] at hp; cases hp
                    | some p =>
                      rw [hm] at hp
                      injection hp with hp
                      injection hp with _ hp
                      have hp1 : p.2 = 1 := cmT_one hx hm
                      rw [hp1] at hp
                      have := congrArg List.length hp
                      simp at this
            unfold tsC
            rw [this, (cm_ch this).2.2.1]
            simp
          exact Cl.all hg2
        refine ⟨s1 ++ (g ++ s2), by simp, ?_, ?_, ?_⟩
        · unfold sTest
          rw [fCmp_at hc1 hcut]
          simp only
          rw [List.drop_left, hcut]
          simp only
          rw [List.take_left, hs1, hs2]
        · exact (hc1.mono fun c h => by unfold tsC; rw [h]; rfl).app (hgc.app (hc2.mono fun c h => by unfold tsC; rw [h]; rfl))
        · have := sOpd_ne hs1
          intro e
          exact this (List.append_eq_nil_iff.1 e).1
    | none =>
      rw [hp] at h
      simp only at h
      split at h
      · rename_i hk
        injection h with h
        injection h with h1 h2
        subst h1; subst h2
        refine ⟨s1, rfl, ?_, hc1.mono fun c h => by unfold tsC; rw [h]; rfl, sOpd_ne hs1⟩
        unfold sTest
        rw [fCmp_no hc1]
        simp only
        -- a value is a ref
        unfold sOpd at hs1
        cases hi : sInt s1 with
        | some n => rw [hi] at hs1; injection hs1 with hs1; rw [← hs1] at hk; exact absurd hk (show ¬ (1 : Int) = 6 by decide)
        | none =>
          rw [hi] at hs1
          simp only at hs1
          cases hst : sStr s1 with
          | some v => rw [hst] at hs1; injection hs1 with hs1; rw [← hs1] at hk; exact absurd hk (show ¬ (2 : Int) = 6 by decide)
          | none =>
            rw [hst] at hs1
            simp only at hs1
            split at hs1
            · injection hs1 with hs1; rw [← hs1] at hk; exact absurd hk (by decide)
            · split at hs1
              · injection hs1 with hs1; rw [← hs1] at hk; exact absurd hk (by decide)
              · split at hs1
                · injection hs1 with hs1; rw [← hs1] at hk; exact absurd hk (by decide)
                · split at hs1
                  · cases hr : sRef ((s1.drop 7).take (s1.length - 8)) with
                    | none => rw [hr] at hs1; cases hs1
                    | some x => rw [hr] at hs1; injection hs1 with hs1; rw [← hs1] at hk; exact absurd hk (show ¬ (7 : Int) = 6 by decide)
                  · cases hr : sRef s1 with
                    | none => rw [hr] at hs1; cases hs1
                    | some x =>
                      rw [hr] at hs1
                      injection hs1 with hs1
                      subst hs1
                      rfl
      · cases h
end Go.Proofs.Ytiolpmhodbefoaa

