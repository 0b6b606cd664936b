import Derived.Test.YtiolpmhodbefoaaBp9
import Derived.Test.YtiolpmhodbefoaaBp16
namespace Go.Proofs.Ytiolpmhodbefoaa
open Go.RowKit

/-! What a path holds is no more than its text can say. -/
theorem cntR_app {α : Type} (c : α → Nat) (a b : List α) : cntR c (a ++ b) = cntR c a + cntR c b := by
  unfold cntR; rw [List.map_append, List.sum_append]
theorem cntR_one {α : Type} (c : α → Nat) (a : α) : cntR c [a] = c a := by
  unfold cntR; simp
theorem cntR_cons {α : Type} (c : α → Nat) (a : α) (l : List α) : cntR c (a :: l) = c a + cntR c l := by
  unfold cntR; simp
theorem cntR_at {α : Type} (c : α → Nat) (l : List α) (j : Nat) (h : j < l.length) : c l[j] ≤ cntR c l := by
  have h1 := cnt_le (c := c) (l := l) (j := j + 1)
  rw [cnt_succ h] at h1
  omega
theorem cntR_len {α : Type} (c : α → Nat) (hc : ∀ x, 1 ≤ c x) : ∀ l : List α, l.length ≤ cntR c l
  | [] => Nat.zero_le _
  | x :: r => by
    have h1 := cntR_len c hc r
    have h2 := hc x
    rw [cntR_cons, List.length_cons]
    omega
theorem cntSts (l : List PStep) : cntR cntSt l = 3 * l.length := by
  induction l with
  | nil => rfl
  | cons m r ih => rw [cntR_cons, ih, List.length_cons]; unfold cntSt; omega
theorem pIn_w {l t : Bs} {p : PStep} (h : pIn l = some (p, t)) : t.length ≤ l.length := by
  obtain ⟨x, rfl, -⟩ := pIn_some h
  simp
theorem pSteps_w : ∀ (n : Nat) (l : Bs) (ps : List PStep) (t : Bs), pSteps n l = some (ps, t) → ps.length + t.length ≤ l.length
  | 0, l, ps, t, h => by rw [pSteps] at h; cases h
  | n + 1, [], ps, t, h => by
    rw [pSteps_nil] at h
    injection h with h
    injection h with h1 h2
    rw [← h1, ← h2]; exact Nat.le_refl _
  | n + 1, c :: r, ps, t, h => by
    rw [pSteps_con] at h
    rw [List.length_cons]
    split at h
    · cases hp : pName r with
      | none => rw [hp] at h; cases h
      | some q =>
        obtain ⟨x, u⟩ := q
        rw [hp] at h
        obtain ⟨a, ha, hf⟩ := Option.map_eq_some_iff.1 h
        obtain ⟨a1, a2⟩ := a
        injection hf with h1 h2
        have h3 := pSteps_w n u a1 a2 ha
        have h4 := pName_len hp
        rw [← h1, ← h2]
        simp only [List.length_cons]
        omega
    · split at h
      · cases hp : pIn r with
        | none => rw [hp] at h; cases h
        | some q =>
          obtain ⟨x, u⟩ := q
          rw [hp] at h
          have h4 := pIn_w hp
          cases u with
          | nil => cases h
          | cons d u =>
            simp only at h
            split at h
            · obtain ⟨a, ha, hf⟩ := Option.map_eq_some_iff.1 h
              obtain ⟨a1, a2⟩ := a
              injection hf with h1 h2
              have h3 := pSteps_w n u a1 a2 ha
              rw [← h1, ← h2]
              simp only [List.length_cons] at h4 ⊢
              omega
            · cases h
      · injection h with h
        injection h with h1 h2
        rw [← h1, ← h2]
        simp
theorem pRef_w {l t : Bs} {x : Bool × List PStep} (h : pRef l = some (x, t)) : x.2.length + t.length + 1 ≤ l.length := by
  cases l with
  | nil => cases h
  | cons c r =>
    have h0 : (if c = 36 ∨ c = 64 then (pSteps (r.length + 1) r).map fun p => ((decide (c = 36), p.1), p.2) else none) = some (x, t) := h
    split at h0
    · obtain ⟨a, ha, hf⟩ := Option.map_eq_some_iff.1 h0
      obtain ⟨a1, a2⟩ := a
      injection hf with h1 h2
      have h3 := pSteps_w _ r a1 a2 ha
      rw [← h1, ← h2, List.length_cons]
      simp only
      omega
    · cases h0
theorem pStr_w {l v t : Bs} (h : pStr l = some (v, t)) : t.length < l.length := by
  obtain ⟨s, rfl, -, q, rfl, -⟩ := pStr_some h
  simp; omega
theorem sInt_ne {s : Bs} {n : Int} (h : sInt s = some n) : 1 ≤ s.length := by
  cases s with
  | nil => cases h
  | cons c r => simp
theorem pOpd_w {l t : Bs} {o : PFOp} (h : pOpd l = some (o, t)) : o.steps.length + t.length + 1 ≤ l.length := by
  cases l with
  | nil => cases h
  | cons c r =>
    rw [pOpd_con] at h
    have wd : ∀ {w u : Bs}, pWd w (c :: r) = some u → u.length + w.length = (c :: r).length := fun hw => by
      have := pWd_some hw
      rw [this, List.length_append]; omega
    split at h
    · obtain ⟨a, ha, hf⟩ := Option.map_eq_some_iff.1 h
      injection hf with h1 h2
      have h3 := pStr_w (v := a.1) (t := a.2) ha
      rw [← h1, ← h2]
      show 0 + _ + 1 ≤ _
      omega
    · split at h
      · obtain ⟨a, ha, hf⟩ := Option.map_eq_some_iff.1 h
        injection hf with h1 h2
        have h3 := wd ha
        rw [← h1, ← h2]
        show 0 + _ + 1 ≤ _
        have : wdT.length = 4 := rfl
        omega
      · split at h
        · obtain ⟨a, ha, hf⟩ := Option.map_eq_some_iff.1 h
          injection hf with h1 h2
          have h3 := wd ha
          rw [← h1, ← h2]
          show 0 + _ + 1 ≤ _
          have : wdF.length = 5 := rfl
          omega
        · split at h
          · obtain ⟨a, ha, hf⟩ := Option.map_eq_some_iff.1 h
            injection hf with h1 h2
            have h3 := wd ha
            rw [← h1, ← h2]
            show 0 + _ + 1 ≤ _
            have : wdN.length = 4 := rfl
            omega
          · split at h
            · cases hw : pWd wdL (c :: r) with
              | none => rw [hw] at h; cases h
              | some u =>
                rw [hw] at h
                simp only at h
                have h3 := wd hw
                have h5 : wdL.length = 7 := rfl
                cases hr : pRef u with
                | none => rw [hr] at h; cases h
                | some q =>
                  obtain ⟨x, t'⟩ := q
                  rw [hr] at h
                  have h4 := pRef_w hr
                  cases t' with
                  | nil => cases h
                  | cons d v =>
                    simp only at h
                    split at h
                    · injection h with h
                      injection h with h1 h2
                      rw [← h1, ← h2]
                      show x.2.length + _ + 1 ≤ _
                      rw [List.length_cons] at h4
                      omega
                    · cases h
            · split at h
              · obtain ⟨a, ha, hf⟩ := Option.map_eq_some_iff.1 h
                injection hf with h1 h2
                have h3 := pRef_w (x := a.1) (t := a.2) ha
                rw [← h1, ← h2]
                exact h3
              · obtain ⟨a, ha, hf⟩ := Option.map_eq_some_iff.1 h
                injection hf with h1 h2
                obtain ⟨s, h3, h4⟩ := pInt_some (n := a.1) (t := a.2) ha
                have h5 := sInt_ne h4
                rw [← h1, ← h2, h3, List.length_append]
                show 0 + _ + 1 ≤ _
                omega
theorem cntFo_w {l t : Bs} {o : PFOp} (h : pOpd l = some (o, t)) : cntFo o + 7 * t.length ≤ 7 * l.length := by
  have h1 := pOpd_w h
  have h2 : cntFo o = 4 + cntR cntSt o.steps := rfl
  rw [cntSts] at h2
  omega
theorem pTest_w {l t : Bs} {ops : List PFOp} (h : pTest l = some (ops, t)) : cntR cntFo ops + 7 * t.length ≤ 7 * l.length := by
  unfold pTest at h
  cases ha : pOpd l with
  | none => rw [ha] at h; cases h
  | some q =>
    obtain ⟨a, u⟩ := q
    rw [ha] at h
    simp only at h
    have h1 := cntFo_w ha
    cases hc : pCmp u with
    | some z =>
      obtain ⟨n, v⟩ := z
      rw [hc] at h
      simp only at h
      obtain ⟨-, -, -, -, h2, -⟩ := pCmp_hd hc
      cases hb : pOpd v with
      | none => rw [hb] at h; cases h
      | some y =>
        obtain ⟨b, w⟩ := y
        rw [hb] at h
        injection h with h
        injection h with e1 e2
        have h3 := cntFo_w hb
        rw [← e1, ← e2, cntR_cons, cntR_cons, cntR_one]
        have h4 : cntFo (cmO n) = 4 := rfl
        omega
    | none =>
      rw [hc] at h
      simp only at h
      split at h
      · injection h with h
        injection h with e1 e2
        rw [← e1, ← e2, cntR_one]
        exact h1
      · cases h
/-- A reader whose answer its text pays for. -/
def LinP (f : Bs → Option (XC × Bs)) : Prop := ∀ l x t, f l = some (x, t) → cntR cntFo x.1 + 7 * t.length ≤ 7 * l.length
theorem opK_w (k : Int) : cntFo (opK k) = 4 := rfl
theorem tail_w {f : Bs → Option (XC × Bs)} (hf : LinP f) (c : UInt8) (k : Int) : ∀ (m : Nat) (x : XC) (l : Bs) (y : XC) (t : Bs), pTail f c k m x l = some (y, t) → cntR cntFo y.1 + 7 * t.length ≤ cntR cntFo x.1 + 7 * l.length
  | 0, x, l, y, t, h => by rw [pTail] at h; cases h
  | m + 1, x, [], y, t, h => by
    rw [pTail_nil] at h
    injection h with h
    injection h with h1 h2
    rw [← h1, ← h2]; exact Nat.le_refl _
  | m + 1, x, a :: r, y, t, h => by
    rw [pTail_con] at h
    split at h
    · cases r with
      | nil => cases h
      | cons b q =>
        simp only at h
        split at h
        · cases hq : f q with
          | none => rw [hq] at h; cases h
          | some z =>
            obtain ⟨z, u⟩ := z
            rw [hq] at h
            simp only at h
            have h1 := tail_w hf c k m _ _ _ _ h
            have h2 := hf q z u hq
            have h3 : cntR cntFo (joinX k x z).1 = cntR cntFo x.1 + cntR cntFo z.1 + 4 := by
              show cntR cntFo (x.1 ++ z.1 ++ [opK k]) = _
              rw [cntR_app, cntR_app, cntR_one, opK_w]
            simp only [List.length_cons]
            omega
        · cases h
    · injection h with h
      injection h with h1 h2
      rw [← h1, ← h2]; exact Nat.le_refl _
theorem many_w {f : Bs → Option (XC × Bs)} (hf : LinP f) (c : UInt8) (k : Int) : LinP (pMany f c k) := fun l y t h => by
  unfold pMany at h
  cases hl : f l with
  | none => rw [hl] at h; cases h
  | some z =>
    obtain ⟨x, u⟩ := z
    rw [hl] at h
    simp only at h
    have h1 := tail_w hf c k _ _ _ _ _ h
    have h2 := hf l x u hl
    omega
theorem pPr_w : ∀ n, LinP (pPr n)
  | 0 => fun l x t h => by cases h
  | n + 1 => fun l x t h => by
    cases l with
    | nil => rw [pPr_nil] at h; cases h
    | cons c r =>
      rw [pPr_con] at h
      split at h
      · obtain ⟨a, ha, hf⟩ := Option.map_eq_some_iff.1 h
        injection hf with h1 h2
        have h3 := pPr_w n r a.1 a.2 ha
        rw [← h1, ← h2]
        simp only
        rw [cntR_app, cntR_one, opK_w, List.length_cons]
        omega
      · split at h
        · cases hm : pMany (pMany (pPr n) 38 10) 124 11 r with
          | none => rw [hm] at h; cases h
          | some z =>
            obtain ⟨x', t'⟩ := z
            rw [hm] at h
            have h3 := many_w (many_w (pPr_w n) 38 10) 124 11 r x' t' hm
            cases t' with
            | nil => cases h
            | cons d u =>
              simp only at h
              split at h
              · injection h with h
                injection h with h1 h2
                rw [← h1, ← h2]
                simp only [List.length_cons] at h3 ⊢
                omega
              · cases h
        · obtain ⟨a, ha, hf⟩ := Option.map_eq_some_iff.1 h
          injection hf with h1 h2
          have h3 := pTest_w (ops := a.1) (t := a.2) ha
          rw [← h1, ← h2]
          exact h3
theorem pCd_w (n : Nat) : LinP (pCd n) := many_w (many_w (pPr_w n) 38 10) 124 11
theorem selNo (s : PSel) (h : s.cond = []) : cntSe s = 8 := by
  have h1 : cntSe s = 8 + cntR cntFo s.cond := rfl
  rw [h] at h1
  exact h1
theorem pIS_nc {l t : Bs} {s : PSel} (h : pIS l = some (s, t)) : s.cond = [] := by
  unfold pIS at h
  split at h
  · cases h
  · split at h
    · injection h with h; injection h with h _; rw [← h]; rfl
    · split at h
      · cases h
      · split at h
        · split at h
          · cases h
          · split at h
            · injection h with h; injection h with h _; rw [← h]; rfl
            · split at h
              · split at h
                · cases h
                · injection h with h; injection h with h _; rw [← h]; rfl
              · injection h with h; injection h with h _; rw [← h]; rfl
        · cases h
theorem pSel_w {n : Nat} {l t : Bs} {x : XS} (h : pSel n l = some (x, t)) : cntSe x.1 + 15 * t.length ≤ 15 * l.length := by
  have hne : t.length < l.length := by
    obtain ⟨s, rfl, -, -, h4⟩ := sel_got h
    cases s with
    | nil => exact absurd rfl h4
    | cons a b => simp; omega
  cases l with
  | nil => cases h
  | cons c r =>
    rw [pSel_con] at h
    split at h
    · obtain ⟨a, ha, hf⟩ := Option.map_eq_some_iff.1 h
      injection hf with h1 h2
      rw [← h1]
      have := selNo (nameS a.1) rfl
      simp only
      omega
    · split at h
      · injection h with h
        injection h with h1 h2
        rw [← h1]
        have := selNo allS rfl
        simp only
        omega
      · split at h
        · obtain ⟨a, ha, hf⟩ := Option.map_eq_some_iff.1 h
          injection hf with h1 h2
          have h3 := pCd_w n r a.1 a.2 ha
          rw [← h1, ← h2]
          have h4 : cntSe (filS a.1.1) = 8 + cntR cntFo a.1.1 := rfl
          rw [← h2] at hne
          simp only [List.length_cons] at hne ⊢
          omega
        · obtain ⟨a, ha, hf⟩ := Option.map_eq_some_iff.1 h
          injection hf with h1 h2
          rw [← h1]
          have := selNo a.1 (pIS_nc (t := a.2) ha)
          simp only
          omega
theorem pSMore_w (n : Nat) : ∀ (m : Nat) (x : XL) (l : Bs) (y : XL) (t : Bs), pSMore n m x l = some (y, t) → cntR cntSe y.1 + 15 * t.length ≤ cntR cntSe x.1 + 15 * l.length
  | 0, x, l, y, t, h => by rw [pSMore] at h; cases h
  | m + 1, x, [], y, t, h => by
    rw [pSMore_nil] at h
    injection h with h
    injection h with h1 h2
    rw [← h1, ← h2]; exact Nat.le_refl _
  | m + 1, x, a :: r, y, t, h => by
    rw [pSMore_con] at h
    split at h
    · cases hq : pSel n r with
      | none => rw [hq] at h; cases h
      | some z =>
        obtain ⟨z, u⟩ := z
        rw [hq] at h
        simp only at h
        have h1 := pSMore_w n m _ _ _ _ h
        have h2 := pSel_w hq
        have h3 : cntR cntSe (joinS x z).1 = cntR cntSe x.1 + cntSe z.1 := by
          show cntR cntSe (x.1 ++ [z.1]) = _
          rw [cntR_app, cntR_one]
        simp only [List.length_cons]
        omega
    · injection h with h
      injection h with h1 h2
      rw [← h1, ← h2]; exact Nat.le_refl _
theorem pBr_w {n : Nat} {l t : Bs} {x : XL} (h : pBr n l = some (x, t)) : cntR cntSe x.1 + 15 * t.length ≤ 15 * l.length := by
  unfold pBr at h
  cases hp : pSels n l with
  | none => rw [hp] at h; cases h
  | some q =>
    obtain ⟨y, u⟩ := q
    rw [hp] at h
    simp only at h
    have h0 : cntR cntSe y.1 + 15 * u.length ≤ 15 * l.length := by
      unfold pSels at hp
      cases hs : pSel n l with
      | none => rw [hs] at hp; cases hp
      | some z =>
        obtain ⟨z, v⟩ := z
        rw [hs] at hp
        simp only at hp
        have h1 := pSMore_w n _ _ _ _ _ hp
        have h2 := pSel_w hs
        simp only [cntR_one] at h1
        omega
    cases u with
    | nil => cases h
    | cons d v =>
      simp only at h
      split at h
      · injection h with h
        injection h with h1 h2
        rw [← h1, ← h2]
        simp only [List.length_cons] at h0
        omega
      · cases h
theorem segC (s : PSeg) : cntSg s = 1 + cntR cntSe s.sels := rfl
theorem nmP_w {deep : Bool} {l t : Bs} {x : XG} (h : nmP deep l = some (x, t)) : cntSg x.1 + 16 * t.length ≤ 16 * l.length := by
  have hl := nmP_len h
  have key : cntSg x.1 = 9 := by
    cases l with
    | nil => cases h
    | cons c r =>
      have h1 : (if c = 42 then some (((⟨deep, [allS]⟩, 0) : XG), r) else (pName (c :: r)).map fun p => ((⟨deep, [nameS p.1]⟩, 0), p.2)) = some (x, t) := h
      split at h1
      · injection h1 with h1
        injection h1 with h1 _
        rw [← h1]; rfl
      · obtain ⟨a, ha, hf⟩ := Option.map_eq_some_iff.1 h1
        injection hf with h1 _
        rw [← h1]; rfl
  omega
theorem brP_w {n : Nat} {deep : Bool} {r t : Bs} {x : XG} (h : brP (pBr n) deep r = some (x, t)) : cntSg x.1 + 15 * t.length ≤ 1 + 15 * r.length := by
  unfold brP at h
  obtain ⟨a, ha, hf⟩ := Option.map_eq_some_iff.1 h
  injection hf with h1 h2
  have h3 := pBr_w (x := a.1) (t := a.2) ha
  rw [← h1, ← h2, segC]
  simp only
  omega
theorem segP_w {n : Nat} {l t : Bs} {x : XG} (h : segP (pBr n) l = some (x, t)) : cntSg x.1 + 16 * t.length ≤ 16 * l.length := by
  have hl := seg_len h
  cases l with
  | nil => cases h
  | cons c r =>
    have h1 : (if c = 91 then brP (pBr n) false r else if c = 46 then dotP (pBr n) r else none) = some (x, t) := h
    rw [List.length_cons] at hl ⊢
    split at h1
    · have := brP_w h1; omega
    · split at h1
      · cases r with
        | nil => cases h1
        | cons d u =>
          rw [dotP_con] at h1
          split at h1
          · cases u with
            | nil => cases h1
            | cons e v =>
              simp only at h1
              simp only [List.length_cons] at hl ⊢
              split at h1
              · have := brP_w h1; omega
              · have := nmP_w h1
                simp only [List.length_cons] at this
                omega
          · have := nmP_w h1
            simp only [List.length_cons] at this ⊢
            omega
      · cases h1
theorem segsP_w (n : Nat) : ∀ (m : Nat) (x : XP) (l : Bs) (y : XP), segsP (pBr n) m x l = some y → cntR cntSg y.1 ≤ cntR cntSg x.1 + 16 * l.length
  | 0, x, l, y, h => by rw [segsP] at h; cases h
  | m + 1, x, [], y, h => by
    rw [segsP] at h
    injection h with h
    rw [← h]; exact Nat.le_add_right _ _
  | m + 1, x, c :: r, y, h => by
    rw [segsP] at h
    cases hq : segP (pBr n) (c :: r) with
    | none => rw [hq] at h; cases h
    | some z =>
      obtain ⟨z, u⟩ := z
      rw [hq] at h
      simp only at h
      have h1 := segsP_w n m _ _ _ h
      have h2 := segP_w hq
      have h3 : cntR cntSg (joinG x z).1 = cntR cntSg x.1 + cntSg z.1 := by
        show cntR cntSg (x.1 ++ [z.1]) = _
        rw [cntR_app, cntR_one]
      omega
theorem path_w (n : Nat) (l : Bs) : cntR cntSg (pathR (sBr n) l).1 ≤ 16000 := by
  rw [← path_same]
  unfold pathR
  split
  · exact Nat.zero_le _
  · split
    · exact Nat.zero_le _
    · rename_i c r hl
      split
      · cases hs : segsP (pBr n) (r.length + 1) ([], 0) r with
        | none => exact Nat.zero_le _
        | some x =>
          have h1 := segsP_w n _ _ _ _ hs
          have h2 : cntR cntSg (([], 0) : XP).1 = 0 := rfl
          simp only [List.length_cons] at hl
          simp only
          split
          · exact Nat.zero_le _
          · simp only
            omega
      · exact Nat.zero_le _
/-- And so are all its rows. -/
theorem path_rows {l : List PSeg} (h : cntR cntSg l ≤ 16000) : l.length ≤ 1000000000 ∧ ∀ j (hj : j < l.length), l[j].sels.length ≤ 1000000000 ∧ ∀ k (hk : k < l[j].sels.length), l[j].sels[k].cond.length ≤ 1000000000 ∧ ∀ m (hm : m < l[j].sels[k].cond.length), l[j].sels[k].cond[m].steps.length ≤ 1000000000 := by
  have c1 : ∀ x, 1 ≤ cntSg x := fun x => by rw [segC]; omega
  have c2 : ∀ x, 1 ≤ cntSe x := fun x => by have : cntSe x = 8 + cntR cntFo x.cond := rfl; omega
  have c3 : ∀ x, 1 ≤ cntFo x := fun x => by have : cntFo x = 4 + cntR cntSt x.steps := rfl; omega
  have a0 := cntR_len cntSg c1 l
  refine ⟨by omega, fun j hj => ?_⟩
  have a1 := cntR_at cntSg l j hj
  rw [segC] at a1
  have a2 := cntR_len cntSe c2 l[j].sels
  refine ⟨by omega, fun k hk => ?_⟩
  have a3 := cntR_at cntSe l[j].sels k hk
  have a4 : cntSe l[j].sels[k] = 8 + cntR cntFo l[j].sels[k].cond := rfl
  have a5 := cntR_len cntFo c3 l[j].sels[k].cond
  refine ⟨by omega, fun m hm => ?_⟩
  have a6 := cntR_at cntFo l[j].sels[k].cond m hm
  have a7 : cntFo l[j].sels[k].cond[m] = 4 + cntR cntSt l[j].sels[k].cond[m].steps := rfl
  rw [cntSts] at a7
  omega
end Go.Proofs.Ytiolpmhodbefoaa

