import Derived.Test.YtiolpmhodbefoaaBp6
namespace Go.Proofs.Ytiolpmhodbefoaa
open Go.RowKit

abbrev XC := List PFOp × Nat
def joinX (k : Int) (x y : XC) : XC := (x.1 ++ y.1 ++ [opK k], max x.2 y.2)
/-- Several of a kind with a doubled sign between: as the program reads them. -/
def pTail (f : Bs → Option (XC × Bs)) (c : UInt8) (k : Int) : Nat → XC → Bs → Option (XC × Bs)
  | 0, _, _ => none
  | m + 1, x, t => match t with
    | [] => some (x, [])
    | a :: r => if a = c then (match r with
        | [] => none
        | b :: q => if b = c then (match f q with
            | none => none
            | some (y, u) => pTail f c k m (joinX k x y) u) else none)
      else some (x, t)
def pMany (f : Bs → Option (XC × Bs)) (c : UInt8) (k : Int) (l : Bs) : Option (XC × Bs) := match f l with
  | none => none
  | some (x, t) => pTail f c k (t.length + 1) x t
/-- And as the model has them: pieces. -/
def sMore (g : Bs → Option XC) (k : Int) : XC → List Bs → Option XC
  | x, [] => some x
  | x, p :: r => match g p with
    | none => none
    | some y => sMore g k (joinX k x y) r
def sJoin (g : Bs → Option XC) (k : Int) (ps : List Bs) : Option XC := match ps with
  | [] => none
  | p :: r => match g p with
    | none => none
    | some x => sMore g k x r
theorem pTail_nil (f : Bs → Option (XC × Bs)) (c : UInt8) (k : Int) (m : Nat) (x : XC) : pTail f c k (m + 1) x [] = some (x, []) := by rw [pTail]
theorem pTail_con (f : Bs → Option (XC × Bs)) (c : UInt8) (k : Int) (m : Nat) (x : XC) (a : UInt8) (r : Bs) : pTail f c k (m + 1) x (a :: r) = (if a = c then (match r with
        | [] => none
        | b :: q => if b = c then (match f q with
            | none => none
            | some (y, u) => pTail f c k m (joinX k x y) u) else none)
      else some (x, a :: r)) := by rw [pTail.eq_def] <;> rfl
/-- What a reader and its model have to do with each other. -/
structure Fit (f : Bs → Option (XC × Bs)) (g : Bs → Option XC) (E P : UInt8 → Bool) : Prop where
  ext : ∀ {s : Bs} {x : XC}, g s = some x → ∀ t : Bs, (∀ c r, t = c :: r → E c = true) → f (s ++ t) = some (x, t)
  got : ∀ {l t : Bs} {x : XC}, f l = some (x, t) → ∃ s, l = s ++ t ∧ g s = some x ∧ Cl P s
def cat2 (c : UInt8) (ps : List Bs) : Bs := ps.flatMap fun p => c :: c :: p
theorem jn_cat (c : UInt8) : ∀ (r : List Bs) (p : Bs), jn (c :: [c]) (p :: r) = p ++ cat2 c r
  | [], p => by simp [jn, cat2]
  | q :: r, p => by
    rw [jn, jn_cat c r q]
    unfold cat2
    simp
section
variable {f : Bs → Option (XC × Bs)} {g : Bs → Option XC} {E P : UInt8 → Bool} {c : UInt8} {k : Int}
theorem tail_ext (h : Fit f g E P) (hc : E c = true) : ∀ (ps : List Bs) (x y : XC), sMore g k x ps = some y → ∀ t : Bs, (∀ a r, t = a :: r → E a = true ∧ a ≠ c) → ∀ m, ps.length < m → pTail f c k m x (cat2 c ps ++ t) = some (y, t)
  | [], x, y, hs, t, ht, m, hm => by
    rw [sMore] at hs
    injection hs with hs
    subst hs
    obtain ⟨j, rfl⟩ : ∃ j, m = j + 1 := ⟨m - 1, by simp at hm; omega⟩
    show pTail f c k (j + 1) x t = _
    cases t with
    | nil => exact pTail_nil f c k j x
    | cons a r => rw [pTail_con, if_neg (ht a r rfl).2]
  | p :: r, x, y, hs, t, ht, m, hm => by
    rw [sMore] at hs
    obtain ⟨j, rfl⟩ : ∃ j, m = j + 1 := ⟨m - 1, by simp at hm; omega⟩
    cases hg : g p with
    | none => rw [hg] at hs; cases hs
    | some z =>
      rw [hg] at hs
      simp only at hs
      have e : cat2 c (p :: r) ++ t = c :: c :: (p ++ (cat2 c r ++ t)) := by simp [cat2]
      rw [e, pTail_con, if_pos rfl]
      simp only
      rw [if_pos (by trivial)]
      have hf := h.ext hg (cat2 c r ++ t) (by
        intro a b hab
        cases r with
        | nil => exact (ht a b hab).1
        | cons q r' =>
          have : cat2 c (q :: r') ++ t = c :: (c :: (q ++ (cat2 c r' ++ t))) := by simp [cat2]
          rw [this] at hab
          injection hab with h1 _
          rw [← h1]; exact hc)
      rw [hf]
      simp only
      exact tail_ext h hc r _ y hs t ht j (by simp at hm; omega)
theorem cat2_len (c : UInt8) : ∀ ps : List Bs, ps.length ≤ (cat2 c ps).length
  | [] => by simp
  | p :: r => by
    have := cat2_len c r
    have e : cat2 c (p :: r) = c :: c :: (p ++ cat2 c r) := by simp [cat2]
    rw [e]; simp; omega
theorem tail_some (h : Fit f g E P) : ∀ (m : Nat) (x y : XC) (t0 t : Bs), pTail f c k m x t0 = some (y, t) → ∃ qs, t0 = cat2 c qs ++ t ∧ sMore g k x qs = some y ∧ ∀ q ∈ qs, Cl P q
  | 0, x, y, t0, t, hs => by rw [pTail] at hs; cases hs
  | m + 1, x, y, [], t, hs => by
    rw [pTail_nil] at hs
    injection hs with hs
    injection hs with h1 h2
    subst h1; subst h2
    exact ⟨[], rfl, rfl, fun q hq => by cases hq⟩
  | m + 1, x, y, a :: r, t, hs => by
    rw [pTail_con] at hs
    split at hs
    · rename_i ha
      subst a
      match r, hs with
      | [], hs => cases hs
      | b :: q, hs =>
        simp only at hs
        split at hs
        · rename_i hb
          subst b
          cases hf : f q with
          | none => rw [hf] at hs; cases hs
          | some z =>
            obtain ⟨z, u⟩ := z
            rw [hf] at hs
            simp only at hs
            obtain ⟨p, e, hg, hcl⟩ := h.got hf
            obtain ⟨qs, e2, hm, hq⟩ := tail_some h m _ y u t hs
            subst e2; subst e
            refine ⟨p :: qs, by simp [cat2], ?_, fun q hq2 => ?_⟩
            · rw [sMore, hg]; exact hm
            · rcases List.mem_cons.1 hq2 with rfl | hq2
              · exact hcl
              · exact hq q hq2
        · cases hs
    · injection hs with hs
      injection hs with h1 h2
      subst h1; subst h2
      exact ⟨[], rfl, rfl, fun q hq => by cases hq⟩
theorem spl_cat (hw : isBr c = false) (hP : P c = false) : ∀ (qs : List Bs) (p cur : Bs), Cl P p → (∀ q ∈ qs, Cl P q) → spl c [c] 0 cur (p ++ cat2 c qs) = (cur ++ p) :: qs
  | [], p, cur, hp, _ => by
    show spl c [c] 0 cur (p ++ []) = _
    rw [spl_cl hw hp 0 cur [] (by omega) (fun _ => hP), spl_nil]
  | q :: qs, p, cur, hp, hq => by
    have e : cat2 c (q :: qs) = c :: ([c] ++ (q ++ cat2 c qs)) := by simp [cat2]
    rw [e, spl_cl hw hp 0 cur _ (by omega) (fun _ => hP), spl_hit, spl_cat hw hP qs q [] (hq q List.mem_cons_self) (fun x hx => hq x (List.mem_cons_of_mem _ hx)), List.nil_append]
/-- Many of a kind fit again. -/
theorem Fit.many (h : Fit f g E P) (hc : E c = true) (hw : isBr c = false) (hP : P c = false) {E' P' : UInt8 → Bool} (hE' : ∀ a, E' a = true → E a = true ∧ a ≠ c) (hP' : ∀ a, P a = true ∨ a = c → P' a = true) :
    Fit (pMany f c k) (fun s => sJoin g k (spl c [c] 0 [] s)) E' P' := by
  refine ⟨fun {s x} hs t ht => ?_, fun {l t x} hl => ?_⟩
  · obtain ⟨h1, h2⟩ := spl_jn c [c] s 0 []
    rw [List.nil_append] at h2
    cases hps : spl c [c] 0 [] s with
    | nil => exact absurd hps h1
    | cons p r =>
      have hs' : sJoin g k (spl c [c] 0 [] s) = some x := hs
      rw [hps] at hs' h2
      unfold sJoin at hs'
      simp only at hs'
      rw [jn_cat] at h2
      cases hg : g p with
      | none => rw [hg] at hs'; cases hs'
      | some z =>
        rw [hg] at hs'
        simp only at hs'
        unfold pMany
        have ht2 : ∀ a r, t = a :: r → E a = true ∧ a ≠ c := fun a r e => hE' a (ht a r e)
        have hf := h.ext hg (cat2 c r ++ t) (by
          intro a b hab
          cases r with
          | nil => exact (ht2 a b hab).1
          | cons q r' =>
            have : cat2 c (q :: r') ++ t = c :: (c :: (q ++ (cat2 c r' ++ t))) := by simp [cat2]
            rw [this] at hab
            injection hab with h1 _
            rw [← h1]; exact hc)
        rw [← h2, List.append_assoc, hf]
        simp only
        exact tail_ext h hc r z x hs' t ht2 _ (by rw [List.length_append]; have := cat2_len c r; omega)
  · unfold pMany at hl
    cases hf : f l with
    | none => rw [hf] at hl; cases hl
    | some z =>
      obtain ⟨z, u⟩ := z
      rw [hf] at hl
      simp only at hl
      obtain ⟨p, e, hg, hcl⟩ := h.got hf
      obtain ⟨qs, e2, hm, hq⟩ := tail_some h _ _ _ _ _ hl
      subst e2; subst e
      refine ⟨p ++ cat2 c qs, by simp, ?_, ?_⟩
      · show sJoin g k (spl c [c] 0 [] (p ++ cat2 c qs)) = some x
        rw [spl_cat hw hP qs p [] hcl hq, List.nil_append]
        unfold sJoin
        simp only
        rw [hg]
        exact hm
      · have hmono : ∀ {q : Bs}, Cl P q → Cl P' q := fun h => h.mono fun a ha => hP' a (.inl ha)
        have hcat : ∀ qs : List Bs, (∀ q ∈ qs, Cl P q) → Cl P' (cat2 c qs) := by
          intro qs
          induction qs with
          | nil => intro _; exact .nil
          | cons q r ih =>
            intro hq
            have e : cat2 c (q :: r) = c :: c :: (q ++ cat2 c r) := by simp [cat2]
            rw [e]
            exact .chr hw (hP' c (.inr rfl)) (.chr hw (hP' c (.inr rfl)) ((hmono (hq q List.mem_cons_self)).app (ih fun x hx => hq x (List.mem_cons_of_mem _ hx))))
        exact (hmono hcl).app (hcat qs hq)
end
/-- Prims, conjs, conds, as the program reads them. -/
def pPr : Nat → Bs → Option (XC × Bs)
  | 0, _ => none
  | n + 1, l => match l with
    | [] => (pTest l).map fun p => ((p.1, 0), p.2)
    | c :: r => if c = 33 then (pPr n r).map fun p => ((p.1.1 ++ [opK 12], p.1.2 + 1), p.2)
      else if c = 40 then (match pMany (pMany (pPr n) 38 10) 124 11 r with
        | none => none
        | some (x, t) => match t with
          | [] => none
          | d :: u => if d = 41 then some ((x.1, x.2 + 1), u) else none)
      else (pTest l).map fun p => ((p.1, 0), p.2)
def pCj (n : Nat) : Bs → Option (XC × Bs) := pMany (pPr n) 38 10
def pCd (n : Nat) : Bs → Option (XC × Bs) := pMany (pCj n) 124 11
/-- And as the model has them. -/
def sCdOf (g : Bs → Option XC) (s : Bs) : Option XC := sJoin (fun q => sJoin g 10 (spl 38 [38] 0 [] q)) 11 (spl 124 [124] 0 [] s)
def sPr : Nat → Bs → Option XC
  | 0, _ => none
  | n + 1, s => match s with
    | [] => (sTest s).map fun o => (o, 0)
    | c :: r => if c = 33 then (sPr n r).map fun p => (p.1 ++ [opK 12], p.2 + 1)
      else if c = 40 ∧ clo 0 0 s = some s.length ∧ r.getLast? = some 41 then (sCdOf (sPr n) r.dropLast).map fun p => (p.1, p.2 + 1)
      else (sTest s).map fun o => (o, 0)
end Go.Proofs.Ytiolpmhodbefoaa


namespace Go.Proofs.Ytiolpmhodbefoaa
open Go.RowKit

theorem pOpd_no {c : UInt8} (r : Bs) (h : c = 33 ∨ c = 40) : pOpd (c :: r) = none := by
  rcases h with rfl | rfl
  · rw [pOpd_con, if_neg (by decide), if_neg (by decide), if_neg (by decide), if_neg (by decide), if_neg (by decide), if_neg (by decide)]
    rw [show pInt (33 :: r) = none from rfl]; rfl
  · rw [pOpd_con, if_neg (by decide), if_neg (by decide), if_neg (by decide), if_neg (by decide), if_neg (by decide), if_neg (by decide)]
    rw [show pInt (40 :: r) = none from rfl]; rfl
theorem pTest_no {c : UInt8} (r : Bs) (h : c = 33 ∨ c = 40) : pTest (c :: r) = none := by
  unfold pTest; rw [pOpd_no r h]
theorem sTest_hd {c : UInt8} {r : Bs} {o : List PFOp} (h : sTest (c :: r) = some o) : c ≠ 33 ∧ c ≠ 40 := by
  have h1 := test_ext h (t := []) (fun _ _ e => by cases e)
  rw [List.append_nil] at h1
  constructor
  · rintro rfl; rw [pTest_no r (.inl rfl)] at h1; cases h1
  · rintro rfl; rw [pTest_no r (.inr rfl)] at h1; cases h1
theorem sTest_nil : sTest [] = none := by
  cases h : sTest [] with
  | none => rfl
  | some o =>
    have h1 := test_ext h (t := []) (fun _ _ e => by cases e)
    cases h1
def E1 (c : UInt8) : Bool := c == 124 || c == 41 || c == 93 || c == 44
def E2 (c : UInt8) : Bool := c == 41 || c == 93 || c == 44
def P1 (c : UInt8) : Bool := tsC c || c == 38
def P2 (c : UInt8) : Bool := P1 c || c == 124
theorem Fit.cj {f : Bs → Option (XC × Bs)} {g : Bs → Option XC} (h : Fit f g isEnd tsC) : Fit (pMany f 38 10) (fun s => sJoin g 10 (spl 38 [38] 0 [] s)) E1 P1 :=
  h.many (by decide) (by decide) (by decide) (fun a ha => by
    unfold E1 at ha
    simp only [Bool.or_eq_true, beq_iff_eq] at ha
    rcases ha with ((rfl | rfl) | rfl) | rfl <;> exact ⟨by decide, by decide⟩) (fun a ha => by
    unfold P1
    rcases ha with ha | rfl
    · rw [ha]; rfl
    · decide)
theorem Fit.cd {f : Bs → Option (XC × Bs)} {g : Bs → Option XC} (h : Fit f g E1 P1) : Fit (pMany f 124 11) (fun s => sJoin g 11 (spl 124 [124] 0 [] s)) E2 P2 :=
  h.many (by decide) (by decide) (by decide) (fun a ha => by
    unfold E2 at ha
    simp only [Bool.or_eq_true, beq_iff_eq] at ha
    rcases ha with (rfl | rfl) | rfl <;> exact ⟨by decide, by decide⟩) (fun a ha => by
    unfold P2
    rcases ha with ha | rfl
    · rw [ha]; rfl
    · decide)
theorem pPr_nil (n : Nat) : pPr (n + 1) [] = none := rfl
theorem pPr_con (n : Nat) (c : UInt8) (r : Bs) : pPr (n + 1) (c :: r) = (if c = 33 then (pPr n r).map (fun p => ((p.1.1 ++ [opK 12], p.1.2 + 1), p.2))
      else if c = 40 then (match pMany (pMany (pPr n) 38 10) 124 11 r with
        | none => none
        | some (x, t) => match t with
          | [] => none
          | d :: u => if d = 41 then some ((x.1, x.2 + 1), u) else none)
      else (pTest (c :: r)).map fun p => ((p.1, 0), p.2)) := by rw [pPr.eq_def] <;> rfl
theorem sPr_nil (n : Nat) : sPr (n + 1) [] = none := by
  rw [sPr.eq_def]
  show (sTest []).map _ = none
  rw [sTest_nil]; rfl
theorem sPr_con (n : Nat) (c : UInt8) (r : Bs) : sPr (n + 1) (c :: r) = (if c = 33 then (sPr n r).map (fun p => (p.1 ++ [opK 12], p.2 + 1))
      else if c = 40 ∧ clo 0 0 (c :: r) = some (c :: r).length ∧ r.getLast? = some 41 then (sCdOf (sPr n) r.dropLast).map (fun p => (p.1, p.2 + 1))
      else (sTest (c :: r)).map fun o => (o, 0)) := by rw [sPr.eq_def]
theorem fit_pr : ∀ n : Nat, Fit (pPr n) (sPr n) isEnd tsC
  | 0 => by
    refine ⟨fun {s x} h t ht => ?_, fun {l t x} h => ?_⟩
    · cases h
    · cases h
  | n + 1 => by
    have ih := fit_pr n
    have cd := ih.cj.cd
    refine ⟨fun {s x} hs t ht => ?_, fun {l t x} hl => ?_⟩
    · cases s with
      | nil => rw [sPr_nil] at hs; cases hs
      | cons c r =>
        rw [sPr_con] at hs
        rw [List.cons_append, pPr_con]
        split at hs
        · rename_i hc
          rw [if_pos hc]
          cases hg : sPr n r with
          | none => rw [hg] at hs; cases hs
          | some p =>
            rw [hg] at hs
            injection hs with hs
            rw [ih.ext hg t ht]
            subst hs; rfl
        · rename_i hc
          rw [if_neg hc]
          split at hs
          · rename_i hp
            rw [if_pos hp.1]
            cases hg : sCdOf (sPr n) r.dropLast with
            | none => rw [hg] at hs; cases hs
            | some p =>
              rw [hg] at hs
              injection hs with hs
              have hr : r = r.dropLast ++ [41] := by
                have hne : r ≠ [] := by rintro rfl; cases hp.2.2
                have h1 := List.dropLast_concat_getLast hne
                rw [List.getLast?_eq_some_getLast hne] at hp
                injection hp.2.2 with h2
                rw [h2] at h1
                exact h1.symm
              have h1 := cd.ext (s := r.dropLast) (x := p) hg (41 :: t) (fun a b e => by injection e with e _; rw [← e]; decide)
              have e : r ++ t = r.dropLast ++ 41 :: t := by
                conv => lhs; rw [hr]
                simp
              rw [e, h1]
              subst hs
              simp only
              rw [if_pos (by trivial)]
          · cases hg : sTest (c :: r) with
            | none => rw [hg] at hs; cases hs
            | some o =>
              rw [hg] at hs
              injection hs with hs
              rw [if_neg (sTest_hd hg).2, ← List.cons_append, test_ext hg ht]
              subst hs; rfl
    · cases l with
      | nil => rw [pPr_nil] at hl; cases hl
      | cons c r =>
        rw [pPr_con] at hl
        split at hl
        · rename_i hc
          subst hc
          cases hg : pPr n r with
          | none => rw [hg] at hl; cases hl
          | some p =>
            rw [hg] at hl
            injection hl with hl
            obtain ⟨p, u⟩ := p
            injection hl with h1 h2
            have h2' : u = t := h2
            subst h2'
            obtain ⟨s, e, hs, hcl⟩ := ih.got hg
            refine ⟨33 :: s, by rw [e]; rfl, ?_, .chr (by decide) (by decide) hcl⟩
            rw [sPr_con, if_pos rfl, hs, ← h1]; rfl
        · rename_i hc
          split at hl
          · rename_i hp
            subst hp
            cases hg : pMany (pMany (pPr n) 38 10) 124 11 r with
            | none => rw [hg] at hl; cases hl
            | some p =>
              obtain ⟨p, u⟩ := p
              rw [hg] at hl
              simp only at hl
              cases u with
              | nil => cases hl
              | cons d v =>
                simp only at hl
                split at hl
                · rename_i hd
                  subst hd
                  injection hl with hl
                  injection hl with h1 h2
                  subst h2
                  obtain ⟨s, e, hs, hcl⟩ := cd.got hg
                  refine ⟨40 :: (s ++ [41]), by rw [e]; simp, ?_, .par hcl .nil⟩
                  have hs' : sCdOf (sPr n) s = some p := hs
                  rw [sPr_con, if_neg (by decide), if_pos ⟨rfl, by rw [clo_at hcl (.inl rfl) (.inl rfl)]; simp, by simp⟩, List.dropLast_concat, hs', ← h1]; rfl
                · cases hl
          · rename_i hp
            cases hg : pTest (c :: r) with
            | none => rw [hg] at hl; cases hl
            | some q =>
              obtain ⟨o, u⟩ := q
              rw [hg] at hl
              injection hl with hl
              injection hl with h1 h2
              have h2' : u = t := h2
              subst h2'
              obtain ⟨s, e, hs, hcl, hne⟩ := test_some hg
              refine ⟨s, e, ?_, hcl⟩
              cases s with
              | nil => exact absurd rfl hne
              | cons a b =>
                have ha : c = a := by injection e
                subst ha
                rw [sPr_con, if_neg hc, if_neg (fun h => hp h.1), hs, ← h1]; rfl
theorem fit_cd (n : Nat) : Fit (pCd n) (sCdOf (sPr n)) E2 P2 := (fit_pr n).cj.cd
end Go.Proofs.Ytiolpmhodbefoaa

