import Derived.Test.YtiolpmhodbefoaaBp8
namespace Go.Proofs.Ytiolpmhodbefoaa
open Go.RowKit

theorem all_no58 (p q : Bs) : sInt (p ++ 58 :: q) = none := by
  cases hs : sInt (p ++ 58 :: q) with
  | none => rfl
  | some n =>
    have := (sInt_all hs).2
    rw [List.all_append, List.all_cons, Bool.and_eq_true, Bool.and_eq_true] at this
    exact absurd this.2.1 (by decide)
theorem spl_one {p : Bs} (h : p.all isI = true) : spl 58 [] 0 [] p = [p] := by
  have := spl_cl (w := 58) (ws := []) (by decide) (cl_I h) 0 [] [] (by omega) (fun _ => by decide)
  rw [List.append_nil] at this
  rw [this, spl_nil, List.nil_append]
theorem spl_58 {p : Bs} (h : p.all isI = true) (q : Bs) : spl 58 [] 0 [] (p ++ 58 :: q) = p :: spl 58 [] 0 [] q := by
  rw [spl_cl (w := 58) (ws := []) (by decide) (cl_I h) 0 [] (58 :: q) (by omega) (fun _ => by decide), List.nil_append]
  exact spl_hit (w := 58) (ws := []) p q
theorem sSel_is {n : Nat} {c : UInt8} {r : Bs} (h : isI c = true ∨ c = 58) : sSel n (c :: r) = (match sInt (c :: r) with
      | some m => some (idxS m, 0)
      | none => (sSlc (c :: r)).map fun x => (x, 0)) := by
  obtain ⟨h1, h2, h3⟩ := isI_no h
  unfold sSel
  rw [if_neg (by intro e; injection e with e _; exact h2 e), if_neg (by intro e; injection e with e; exact h3 e), hd_str h1]
  cases sInt (c :: r) <;> rfl
theorem cl_P3 {p : Bs} (h : p.all isI = true) : Cl P3 p := (cl_I h).mono P3_I
theorem is_got {n : Nat} {l t : Bs} {x : PSel} (h : pIS l = some (x, t)) : ∃ s, l = s ++ t ∧ sSel n s = some (x, 0) ∧ Cl P3 s ∧ s ≠ [] := by
  unfold pIS at h
  cases hm : pMI l with
  | none => rw [hm] at h; cases h
  | some q =>
    obtain ⟨a, u⟩ := q
    rw [hm] at h
    simp only at h
    obtain ⟨p, e, hp, hall, h0, h1⟩ := mi_got hm
    subst e
    split at h
    · rename_i ha
      injection h with h
      injection h with h2 h3
      subst h2; subst h3
      obtain ⟨hne, hi⟩ := h1 ha.1
      refine ⟨p, rfl, ?_, cl_P3 hall, hne⟩
      cases p with
      | nil => exact absurd rfl hne
      | cons c r =>
        rw [List.all_cons, Bool.and_eq_true] at hall
        rw [sSel_is (.inl hall.1), hi]
    · cases u with
      | nil => cases h
      | cons d v =>
        simp only at h
        split at h
        · rename_i hd
          subst hd
          cases hm2 : pMI v with
          | none => rw [hm2] at h; cases h
          | some q2 =>
            obtain ⟨b, u2⟩ := q2
            rw [hm2] at h
            simp only at h
            obtain ⟨p2, e2, hp2, hall2, -, -⟩ := mi_got hm2
            subst e2
            have two : ∀ y : PSel, y = slcS a b (false, 0) → sSel n (p ++ 58 :: p2) = some (y, 0) ∧ Cl P3 (p ++ 58 :: p2) ∧ p ++ 58 :: p2 ≠ [] := by
              rintro y rfl
              obtain ⟨c, z, hcz, hc⟩ := sMI_hd hp p2
              refine ⟨?_, (cl_P3 hall).app (.chr (by decide) (by decide) (cl_P3 hall2)), by simp⟩
              have hi := all_no58 p p2
              have hs : sSlc (p ++ 58 :: p2) = some (slcS a b (false, 0)) := by
                unfold sSlc
                rw [spl_58 hall, spl_one hall2]
                simp only
                rw [hp, hp2]
              rw [hcz] at hi hs ⊢
              rw [sSel_is hc, hi]
              simp only
              rw [hs]; rfl
            cases u2 with
            | nil =>
              injection h with h
              injection h with h2 h3
              subst h3
              obtain ⟨k1, k2, k3⟩ := two x h2.symm
              exact ⟨_, by simp, k1, k2, k3⟩
            | cons e w =>
              simp only at h
              split at h
              · rename_i he
                subst he
                cases hm3 : pMI w with
                | none => rw [hm3] at h; cases h
                | some q3 =>
                  obtain ⟨b3, u3⟩ := q3
                  rw [hm3] at h
                  simp only at h
                  obtain ⟨p3, e3, hp3, hall3, -, -⟩ := mi_got hm3
                  subst e3
                  injection h with h
                  injection h with h2 h3
                  subst h2; subst h3
                  obtain ⟨c, z, hcz, hc⟩ := sMI_hd hp (p2 ++ 58 :: p3)
                  refine ⟨p ++ 58 :: (p2 ++ 58 :: p3), by simp, ?_, (cl_P3 hall).app (.chr (by decide) (by decide) ((cl_P3 hall2).app (.chr (by decide) (by decide) (cl_P3 hall3)))), by simp⟩
                  have hi := all_no58 p (p2 ++ 58 :: p3)
                  have hs : sSlc (p ++ 58 :: (p2 ++ 58 :: p3)) = some (slcS a b b3) := by
                    unfold sSlc
                    rw [spl_58 hall, spl_58 hall2, spl_one hall3]
                    simp only
                    rw [hp, hp2, hp3]
                  rw [hcz] at hi hs ⊢
                  rw [sSel_is hc, hi]
                  simp only
                  rw [hs]; rfl
              · injection h with h
                injection h with h2 h3
                subst h3
                obtain ⟨k1, k2, k3⟩ := two x h2.symm
                exact ⟨_, by simp, k1, k2, k3⟩
        · cases h
theorem P3_2 (c : UInt8) (h : P2 c = true) : P3 c = true := by unfold P3; rw [h]; rfl
theorem sel_got {n : Nat} {l t : Bs} {x : XS} (h : pSel n l = some (x, t)) : ∃ s, l = s ++ t ∧ sSel n s = some x ∧ Cl P3 s ∧ s ≠ [] := by
  cases l with
  | nil => cases h
  | cons c r =>
    rw [pSel_con] at h
    split at h
    · rename_i hc
      cases hv : pStr (c :: r) with
      | none => rw [hv] at h; cases h
      | some q =>
        obtain ⟨v, u⟩ := q
        rw [hv] at h
        injection h with h
        injection h with h1 h2
        have h2' : u = t := h2
        subst h2'; subst h1
        obtain ⟨s, e, hs, q, hq, hE⟩ := pStr_some hv
        refine ⟨s, e, ?_, ?_, by rw [hq]; simp⟩
        · unfold sSel
          rw [if_neg (by rw [hq]; intro e; injection e with e _; exact absurd e (by decide)), if_neg (by rw [hq]; intro e; injection e with e; exact absurd e (by decide)), hs]
        · rw [hq]
          have := Cl.quo (P := P3) (r := []) hE .nil
          rw [List.append_nil] at this
          exact this
    · split at h
      · rename_i hc
        subst hc
        injection h with h
        injection h with h1 h2
        subst h1; subst h2
        exact ⟨[42], rfl, rfl, .chr (by decide) (by decide) .nil, by simp⟩
      · split at h
        · rename_i hc
          subst hc
          cases hv : pCd n r with
          | none => rw [hv] at h; cases h
          | some q =>
            obtain ⟨v, u⟩ := q
            rw [hv] at h
            injection h with h
            injection h with h1 h2
            have h2' : u = t := h2
            subst h2'; subst h1
            obtain ⟨s, e, hs, hcl⟩ := (fit_cd n).got hv
            refine ⟨63 :: s, by rw [e]; rfl, ?_, .chr (by decide) (by decide) (hcl.mono P3_2), by simp⟩
            unfold sSel
            rw [if_neg (by intro e; injection e with e _; exact absurd e (by decide)), if_pos (show (63 :: s).head? = some 63 from rfl), List.tail_cons, hs]; rfl
        · cases hv : pIS (c :: r) with
          | none => rw [hv] at h; cases h
          | some q =>
            obtain ⟨v, u⟩ := q
            rw [hv] at h
            injection h with h
            injection h with h1 h2
            have h2' : u = t := h2
            subst h2'; subst h1
            exact is_got hv
/-- The selectors of a bracket. -/
abbrev XL := List PSel × Nat
def joinS (x : XL) (y : XS) : XL := (x.1 ++ [y.1], max x.2 y.2)
def pSMore (n : Nat) : Nat → XL → Bs → Option (XL × Bs)
  | 0, _, _ => none
  | m + 1, x, t => match t with
    | [] => some (x, [])
    | a :: r => if a = 44 then (match pSel n r with
        | none => none
        | some (y, u) => pSMore n m (joinS x y) u)
      else some (x, a :: r)
def pSels (n : Nat) (l : Bs) : Option (XL × Bs) := match pSel n l with
  | none => none
  | some (y, t) => pSMore n (t.length + 1) ([y.1], y.2) t
def sSMore (n : Nat) : XL → List Bs → Option XL
  | x, [] => some x
  | x, p :: r => match sSel n p with
    | none => none
    | some y => sSMore n (joinS x y) r
def sSels (n : Nat) (s : Bs) : Option XL := sSMore n ([], 0) (spl 44 [] 0 [] s)
def cat1 (ps : List Bs) : Bs := ps.flatMap fun p => 44 :: p
theorem jn_cat1 : ∀ (r : List Bs) (p : Bs), jn [44] (p :: r) = p ++ cat1 r
  | [], p => by simp [jn, cat1]
  | q :: r, p => by
    rw [jn, jn_cat1 r q]
    unfold cat1
    simp
theorem cat1_len : ∀ ps : List Bs, ps.length ≤ (cat1 ps).length
  | [] => by simp
  | p :: r => by
    have := cat1_len r
    have e : cat1 (p :: r) = 44 :: (p ++ cat1 r) := by simp [cat1]
    rw [e]; simp; omega
theorem pSMore_nil (n m : Nat) (x : XL) : pSMore n (m + 1) x [] = some (x, []) := by rw [pSMore]
theorem pSMore_con (n m : Nat) (x : XL) (a : UInt8) (r : Bs) : pSMore n (m + 1) x (a :: r) = (if a = 44 then (match pSel n r with
        | none => none
        | some (y, u) => pSMore n m (joinS x y) u)
      else some (x, a :: r)) := by rw [pSMore.eq_def]
theorem cat1_end {r : List Bs} {t : Bs} (ht : ∀ a b, t = a :: b → a = 93) : EndS (cat1 r ++ t) := by
  intro a b hab
  cases r with
  | nil => rw [ht a b hab]; decide
  | cons q r' =>
    have : cat1 (q :: r') ++ t = 44 :: (q ++ (cat1 r' ++ t)) := by simp [cat1]
    rw [this] at hab
    injection hab with h1 _
    rw [← h1]; decide
theorem smore_ext {n : Nat} : ∀ (ps : List Bs) (x y : XL), sSMore n x ps = some y → ∀ t : Bs, (∀ a b, t = a :: b → a = 93) → ∀ m, ps.length < m → pSMore n m x (cat1 ps ++ t) = some (y, t)
  | [], x, y, hs, t, ht, m, hm => by
    rw [sSMore] at hs
    injection hs with hs
    subst hs
    obtain ⟨j, rfl⟩ : ∃ j, m = j + 1 := ⟨m - 1, by simp at hm; omega⟩
    show pSMore n (j + 1) x t = _
    cases t with
    | nil => exact pSMore_nil n j x
    | cons a r => rw [pSMore_con, if_neg (by rw [ht a r rfl]; decide)]
  | p :: r, x, y, hs, t, ht, m, hm => by
    rw [sSMore] at hs
    obtain ⟨j, rfl⟩ : ∃ j, m = j + 1 := ⟨m - 1, by simp at hm; omega⟩
    cases hg : sSel n p with
    | none => rw [hg] at hs; cases hs
    | some z =>
      rw [hg] at hs
      simp only at hs
      have e : cat1 (p :: r) ++ t = 44 :: (p ++ (cat1 r ++ t)) := by simp [cat1]
      rw [e, pSMore_con, if_pos rfl, sel_ext hg (cat1_end ht)]
      simp only
      exact smore_ext r _ y hs t ht j (by simp at hm; omega)
theorem sels_ext {n : Nat} {s : Bs} {x : XL} (h : sSels n s = some x) (t : Bs) : pSels n (s ++ 93 :: t) = some (x, 93 :: t) := by
  unfold sSels at h
  obtain ⟨h1, h2⟩ := spl_jn 44 [] s 0 []
  rw [List.nil_append] at h2
  cases hps : spl 44 [] 0 [] s with
  | nil => exact absurd hps h1
  | cons p r =>
    rw [hps] at h h2
    rw [sSMore] at h
    rw [jn_cat1] at h2
    cases hg : sSel n p with
    | none => rw [hg] at h; cases h
    | some z =>
      rw [hg] at h
      simp only at h
      have ht : ∀ a b, (93 :: t : Bs) = a :: b → a = 93 := fun a b e => by injection e with e _; exact e.symm
      unfold pSels
      rw [← h2, List.append_assoc, sel_ext hg (cat1_end ht)]
      simp only
      have ez : joinS ([], 0) z = ([z.1], z.2) := by unfold joinS; simp
      rw [ez] at h
      exact smore_ext r _ x h (93 :: t) ht _ (by rw [List.length_append]; have := cat1_len r; omega)
theorem smore_got {n : Nat} : ∀ (m : Nat) (x y : XL) (t0 t : Bs), pSMore n m x t0 = some (y, t) → ∃ qs, t0 = cat1 qs ++ t ∧ sSMore n x qs = some y ∧ ∀ q ∈ qs, Cl P3 q
  | 0, x, y, t0, t, hs => by rw [pSMore] at hs; cases hs
  | m + 1, x, y, [], t, hs => by
    rw [pSMore_nil] at hs
    injection hs with hs
    injection hs with h1 h2
    subst h1; subst h2
    exact ⟨[], rfl, rfl, fun q hq => by cases hq⟩
  | m + 1, x, y, a :: r, t, hs => by
    rw [pSMore_con] at hs
    split at hs
    · rename_i ha
      subst ha
      cases hf : pSel n r with
      | none => rw [hf] at hs; cases hs
      | some z =>
        obtain ⟨z, u⟩ := z
        rw [hf] at hs
        simp only at hs
        obtain ⟨p, e, hg, hcl, -⟩ := sel_got hf
        obtain ⟨qs, e2, hm, hq⟩ := smore_got m _ y u t hs
        subst e2; subst e
        refine ⟨p :: qs, by simp [cat1], ?_, fun q hq2 => ?_⟩
        · rw [sSMore, hg]; exact hm
        · rcases List.mem_cons.1 hq2 with rfl | hq2
          · exact hcl
          · exact hq q hq2
    · injection hs with hs
      injection hs with h1 h2
      subst h1; subst h2
      exact ⟨[], rfl, rfl, fun q hq => by cases hq⟩
theorem spl_cat1 : ∀ (qs : List Bs) (p cur : Bs), Cl P3 p → (∀ q ∈ qs, Cl P3 q) → spl 44 [] 0 cur (p ++ cat1 qs) = (cur ++ p) :: qs
  | [], p, cur, hp, _ => by
    show spl 44 [] 0 cur (p ++ []) = _
    rw [spl_cl (by decide) hp 0 cur [] (by omega) (fun _ => by decide), spl_nil]
  | q :: qs, p, cur, hp, hq => by
    have e : cat1 (q :: qs) = 44 :: ([] ++ (q ++ cat1 qs)) := by simp [cat1]
    rw [e, spl_cl (by decide) hp 0 cur _ (by omega) (fun _ => by decide), spl_hit, spl_cat1 qs q [] (hq q List.mem_cons_self) (fun x hx => hq x (List.mem_cons_of_mem _ hx)), List.nil_append]
def P4 (c : UInt8) : Bool := P3 c || c == 44
theorem sels_got {n : Nat} {l t : Bs} {x : XL} (h : pSels n l = some (x, t)) : ∃ s, l = s ++ t ∧ sSels n s = some x ∧ Cl P4 s := by
  unfold pSels at h
  cases hf : pSel n l with
  | none => rw [hf] at h; cases h
  | some z =>
    obtain ⟨z, u⟩ := z
    rw [hf] at h
    simp only at h
    obtain ⟨p, e, hg, hcl, -⟩ := sel_got hf
    obtain ⟨qs, e2, hm, hq⟩ := smore_got _ _ _ _ _ h
    subst e2; subst e
    refine ⟨p ++ cat1 qs, by simp, ?_, ?_⟩
    · unfold sSels
      rw [spl_cat1 qs p [] hcl hq, List.nil_append, sSMore, hg]
      have ez : joinS ([], 0) z = ([z.1], z.2) := by unfold joinS; simp
      simp only
      rw [ez]; exact hm
    · have hmono : ∀ {q : Bs}, Cl P3 q → Cl P4 q := fun h => h.mono fun a ha => by unfold P4; rw [ha]; rfl
      have hcat : ∀ qs : List Bs, (∀ q ∈ qs, Cl P3 q) → Cl P4 (cat1 qs) := by
        intro qs
        induction qs with
        | nil => intro _; exact .nil
        | cons q r ih =>
          intro hq
          have e : cat1 (q :: r) = 44 :: (q ++ cat1 r) := by simp [cat1]
          rw [e]
          exact .chr (by decide) (by decide) ((hmono (hq q List.mem_cons_self)).app (ih fun x hx => hq x (List.mem_cons_of_mem _ hx)))
      exact (hmono hcl).app (hcat qs hq)
/-- What stands behind a bracket's opening, as the program reads it and as the model has it: the same. -/
def pBr (n : Nat) (r : Bs) : Option (XL × Bs) := match pSels n r with
  | none => none
  | some (x, t) => match t with
    | [] => none
    | d :: u => if d = 93 then some (x, u) else none
def sBr (n : Nat) (r : Bs) : Option (XL × Bs) := match clo 0 0 (91 :: r) with
  | none => none
  | some k => if 2 ≤ k ∧ (91 :: r)[k - 1]? = some 93 then (sSels n (r.take (k - 2))).map fun x => (x, r.drop (k - 1)) else none
theorem br_same (n : Nat) (r : Bs) : pBr n r = sBr n r := by
  have key : ∀ x u, pBr n r = some (x, u) ↔ sBr n r = some (x, u) := by
    intro x u
    constructor
    · intro h
      unfold pBr at h
      cases hp : pSels n r with
      | none => rw [hp] at h; cases h
      | some q =>
        obtain ⟨y, t⟩ := q
        rw [hp] at h
        simp only at h
        cases t with
        | nil => cases h
        | cons d v =>
          simp only at h
          split at h
          · rename_i hd
            subst hd
            injection h with h
            injection h with h1 h2
            subst h1; subst h2
            obtain ⟨s, e, hs, hcl⟩ := sels_got hp
            subst e
            unfold sBr
            rw [clo_at hcl (.inr rfl) (.inr rfl)]
            simp only
            have e1 : (91 :: (s ++ 93 :: v))[s.length + 2 - 1]? = some 93 := by
              show (91 :: (s ++ 93 :: v))[s.length + 1]? = some 93
              simp
            have e2 : (s ++ 93 :: v).take (s.length + 2 - 2) = s := by simp
            have e3 : (s ++ 93 :: v).drop (s.length + 2 - 1) = v := by
              show (s ++ 93 :: v).drop (s.length + 1) = v
              simp [List.drop_append]
            rw [if_pos ⟨by omega, e1⟩, e2, e3, hs]; rfl
          · cases h
    · intro h
      unfold sBr at h
      cases hc : clo 0 0 (91 :: r) with
      | none => rw [hc] at h; cases h
      | some k =>
        rw [hc] at h
        simp only at h
        split at h
        · rename_i hk
          cases hs : sSels n (r.take (k - 2)) with
          | none => rw [hs] at h; cases h
          | some y =>
            rw [hs] at h
            injection h with h
            injection h with h1 h2
            subst h1; subst h2
            obtain ⟨j, rfl⟩ : ∃ j, k = j + 2 := ⟨k - 2, by omega⟩
            have h93 : r[j]? = some 93 := by
              have := hk.2
              simpa using this
            have hr : r = r.take j ++ 93 :: r.drop (j + 1) := by
              have hj : j < r.length := by
                rcases Nat.lt_or_ge j r.length with h | h
                · exact h
                · rw [List.getElem?_eq_none h] at h93; cases h93
              rw [List.getElem?_eq_getElem hj] at h93
              injection h93 with h93
              rw [← h93, List.getElem_cons_drop, List.take_append_drop]
            have := sels_ext (n := n) (s := r.take j) hs (r.drop (j + 1))
            rw [← hr] at this
            unfold pBr
            rw [this]
            simp only
            rw [if_pos (by trivial)]; rfl
        · cases h
  cases hp : pBr n r with
  | some q => exact ((key q.1 q.2).1 hp).symm
  | none =>
    cases hs : sBr n r with
    | none => rfl
    | some q => rw [(key q.1 q.2).2 hs] at hp; cases hp
end Go.Proofs.Ytiolpmhodbefoaa


namespace Go.Proofs.Ytiolpmhodbefoaa
open Go.RowKit

/-- A segment: its bracket read by `br`. -/
abbrev XG := PSeg × Nat
def nmP (deep : Bool) (l : Bs) : Option (XG × Bs) := match l with
  | [] => none
  | c :: r => if c = 42 then some ((⟨deep, [allS]⟩, 0), r) else (pName (c :: r)).map fun p => ((⟨deep, [nameS p.1]⟩, 0), p.2)
def brP (br : Bs → Option (XL × Bs)) (deep : Bool) (r : Bs) : Option (XG × Bs) := (br r).map fun p => ((⟨deep, p.1.1⟩, p.1.2), p.2)
def dotP (br : Bs → Option (XL × Bs)) (r : Bs) : Option (XG × Bs) := match r with
  | [] => none
  | d :: u => if d = 46 then (match u with
      | [] => none
      | e :: v => if e = 91 then brP br true v else nmP true (e :: v)) else nmP false (d :: u)
theorem dotP_con (br : Bs → Option (XL × Bs)) (d : UInt8) (u : Bs) : dotP br (d :: u) = (if d = 46 then (match u with
      | [] => none
      | e :: v => if e = 91 then brP br true v else nmP true (e :: v)) else nmP false (d :: u)) := rfl
def segP (br : Bs → Option (XL × Bs)) (l : Bs) : Option (XG × Bs) := match l with
  | [] => none
  | c :: r => if c = 91 then brP br false r else if c = 46 then dotP br r else none
theorem seg_same (n : Nat) (l : Bs) : segP (pBr n) l = segP (sBr n) l := by
  rw [show pBr n = sBr n from funext (br_same n)]
/-- A rest is shorter than what was read. -/
theorem pName_len {l s t : Bs} (h : pName l = some (s, t)) : t.length < l.length := by
  obtain ⟨e, hs, -⟩ := pName_some h
  subst e
  cases s with
  | nil => cases hs
  | cons c r => simp; omega
theorem nmP_len {deep : Bool} {l t : Bs} {x : XG} (h : nmP deep l = some (x, t)) : t.length < l.length := by
  cases l with
  | nil => cases h
  | cons c r =>
    have h1 : (if c = 42 then some (((⟨deep, [allS]⟩, 0) : XG), r) else (pName (c :: r)).map fun p => ((⟨deep, [nameS p.1]⟩, 0), p.2)) = some (x, t) := h
    split at h1
    · injection h1 with h1
      injection h1 with _ h2
      subst h2; simp
    · cases hp : pName (c :: r) with
      | none => rw [hp] at h1; cases h1
      | some q =>
        rw [hp] at h1
        injection h1 with h1
        injection h1 with _ h2
        rw [← h2]
        exact pName_len (s := q.1) (t := q.2) hp
theorem pBr_len {n : Nat} {r t : Bs} {x : XL} (h : pBr n r = some (x, t)) : t.length < r.length := by
  unfold pBr at h
  cases hp : pSels n r with
  | none => rw [hp] at h; cases h
  | some q =>
    obtain ⟨y, u⟩ := q
    rw [hp] at h
    simp only at h
    obtain ⟨s, e, -, -⟩ := sels_got hp
    cases u with
    | nil => cases h
    | cons d v =>
      simp only at h
      split at h
      · injection h with h
        injection h with _ h2
        subst h2; subst e
        simp; omega
      · cases h
theorem seg_len {n : Nat} {l t : Bs} {x : XG} (h : segP (pBr n) l = some (x, t)) : t.length < l.length := by
  have hbr : ∀ {deep r}, brP (pBr n) deep r = some (x, t) → t.length < r.length := by
    intro deep r h
    unfold brP at h
    cases hp : pBr n r with
    | none => rw [hp] at h; cases h
    | some q =>
      rw [hp] at h
      injection h with h
      injection h with _ h2
      rw [← h2]
      exact pBr_len (x := q.1) (t := q.2) hp
  cases l with
  | nil => cases h
  | cons c r =>
    have h1 : (if c = 91 then brP (pBr n) false r else if c = 46 then dotP (pBr n) r else none) = some (x, t) := h
    rw [List.length_cons]
    split at h1
    · have := hbr h1; omega
    · split at h1
      · cases r with
        | nil => cases h1
        | cons d u =>
          have h2 := h1
          rw [dotP_con] at h2
          rw [List.length_cons]
          split at h2
          · cases u with
            | nil => cases h2
            | cons e v =>
              simp only at h2
              rw [List.length_cons]
              split at h2
              · have := hbr h2; omega
              · have := nmP_len h2; rw [List.length_cons] at this; omega
          · have := nmP_len h2; rw [List.length_cons] at this; omega
      · cases h1
/-- A path behind its sign. -/
abbrev XP := List PSeg × Nat
def joinG (x : XP) (y : XG) : XP := (x.1 ++ [y.1], max x.2 y.2)
def segsP (br : Bs → Option (XL × Bs)) : Nat → XP → Bs → Option XP
  | 0, _, _ => none
  | m + 1, x, l => match l with
    | [] => some x
    | c :: r => match segP br (c :: r) with
      | none => none
      | some (y, t) => segsP br m (joinG x y) t
/-- What ParsePath answers. -/
def pathR (br : Bs → Option (XL × Bs)) (l : Bs) : List PSeg × Int := if 1000 < l.length then ([], 1) else match l with
  | [] => ([], 2)
  | c :: r => if c = 36 then (match segsP br (r.length + 1) ([], 0) r with
      | none => ([], 2)
      | some x => if 50 < x.2 then ([], 3) else (x.1, 0)) else ([], 2)
theorem path_same (n : Nat) (l : Bs) : pathR (pBr n) l = pathR (sBr n) l := by
  rw [show pBr n = sBr n from funext (br_same n)]
end Go.Proofs.Ytiolpmhodbefoaa

