import Derived.Test.YtiolpmhodbefoaaSegRep
namespace Go.Proofs.Ytiolpmhodbefoaa
open Go.RowKit

/-- Kinds of a filter's operations: a value, a truth of no parts, of one, of two. -/
def isVal (k : Int) : Bool := decide (1 ≤ k) && decide (k ≤ 7)
def isTru (k : Int) : Bool := k == 8 || k == 9 || k == 10 || k == 11 || k == 12
def parts (k : Int) : Nat := if k = 9 ∨ k = 10 ∨ k = 11 then 2 else if k = 12 then 1 else 0
/-- One operation on the stack of what came out: whether each is a truth. -/
def stepS (S : List Bool) (k : Int) : Option (List Bool) :=
  if S.length < parts k then none
  else if (S.take (parts k)).all (fun t => t != (k == 9)) then some (isTru k :: S.drop (parts k)) else none
def runS : List Int → List Bool → Option (List Bool)
  | [], S => some S
  | k :: r, S => (stepS S k).bind fun S' => runS r S'
/-- Well formed: a value, or a truth. -/
inductive WF : Bool → List Int → Prop
  | val {k : Int} : isVal k = true → WF false [k]
  | ex : WF true [8]
  | cmp {l m : List Int} : WF false l → WF false m → WF true (l ++ m ++ [9])
  | two {l m : List Int} {k : Int} : k = 10 ∨ k = 11 → WF true l → WF true m → WF true (l ++ m ++ [k])
  | not {l : List Int} : WF true l → WF true (l ++ [12])
theorem runS_app (a b : List Int) (S : List Bool) : runS (a ++ b) S = (runS a S).bind fun S' => runS b S' := by
  induction a generalizing S with
  | nil => rfl
  | cons k r ih =>
    rw [List.cons_append, runS, runS]
    cases stepS S k with
    | none => rfl
    | some S' => exact ih S'
theorem isVal_tru {k : Int} (h : isVal k = true) : isTru k = false ∧ parts k = 0 ∧ k ≠ 9 := by
  unfold isVal at h
  simp only [Bool.and_eq_true, decide_eq_true_eq] at h
  refine ⟨?_, ?_, by omega⟩
  · unfold isTru
    simp only [Bool.or_eq_false_iff, beq_eq_false_iff_ne]
    omega
  · unfold parts
    rw [if_neg (by omega), if_neg (by omega)]
/-- A well formed row puts one thing more on the stack. -/
theorem WF.run {t : Bool} {l : List Int} (h : WF t l) : ∀ S, runS l S = some (t :: S) := by
  induction h with
  | val hk =>
    intro S
    obtain ⟨h1, h2, _⟩ := isVal_tru hk
    simp [runS, stepS, h1, h2]
  | ex => intro S; rfl
  | cmp _ _ i1 i2 => intro S; rw [runS_app, runS_app, i1]; simp only [Option.bind_some]; rw [i2]; rfl
  | two hk _ _ i1 i2 =>
    intro S; rw [runS_app, runS_app, i1]; simp only [Option.bind_some]; rw [i2]
    rcases hk with rfl | rfl <;> rfl
  | not _ i1 => intro S; rw [runS_app, i1]; rfl
/-- The rows of what lies on the stack, the uppermost first. -/
inductive WFs : List Bool → List Int → Prop
  | nil : WFs [] []
  | cons {t : Bool} {S : List Bool} {l m : List Int} : WF t l → WFs S m → WFs (t :: S) (m ++ l)
theorem WFs.one {S : List Bool} {m : List Int} (h : WFs S m) (hl : 1 ≤ S.length) : ∃ t S' l m', S = t :: S' ∧ m = m' ++ l ∧ WF t l ∧ WFs S' m' := by
  cases h with
  | nil => simp at hl
  | cons w h => exact ⟨_, _, _, _, rfl, rfl, w, h⟩
theorem WFs.two {S : List Bool} {m : List Int} (h : WFs S m) (hl : 2 ≤ S.length) : ∃ t1 t2 S' l1 l2 m', S = t1 :: t2 :: S' ∧ m = m' ++ l2 ++ l1 ∧ WF t1 l1 ∧ WF t2 l2 ∧ WFs S' m' := by
  obtain ⟨t1, S1, l1, m1, rfl, rfl, w1, h1⟩ := h.one (by omega)
  obtain ⟨t2, S2, l2, m2, rfl, rfl, w2, h2⟩ := h1.one (by simpa using hl)
  exact ⟨_, _, _, _, _, _, rfl, rfl, w1, w2, h2⟩
theorem WFs.step {S S' : List Bool} {m : List Int} {k : Int} (h : WFs S m) (hk : 1 ≤ k ∧ k ≤ 12) (hs : stepS S k = some S') : WFs S' (m ++ [k]) := by
  unfold stepS at hs
  split at hs
  · cases hs
  · rename_i hlen
    split at hs
    · rename_i hall
      injection hs with hs
      subst hs
      by_cases hv : isVal k = true
      · obtain ⟨h1, h2, _⟩ := isVal_tru hv
        rw [h1, h2, List.drop_zero]
        exact .cons (.val hv) h
      · have hk8 : 8 ≤ k := by
          unfold isVal at hv
          simp only [Bool.and_eq_true, decide_eq_true_eq, not_and] at hv
          have := hv hk.1
          omega
        have two : ∀ k' : Int, parts k' = 2 → k = k' → ∃ t1 t2 S'' l1 l2 m', S = t1 :: t2 :: S'' ∧ m = m' ++ l2 ++ l1 ∧ WF t1 l1 ∧ WF t2 l2 ∧ WFs S'' m' := fun k' e1 e2 => h.two (by rw [e2, e1] at hlen; omega)
        rcases (show k = 8 ∨ k = 9 ∨ k = 10 ∨ k = 11 ∨ k = 12 by omega) with e | e | e | e | e
        · subst e
          exact .cons .ex h
        · obtain ⟨t1, t2, S2, l1, l2, m', rfl, rfl, w1, w2, h2⟩ := two 9 rfl e
          subst e
          simp [parts] at hall
          obtain ⟨rfl, rfl⟩ := hall
          rw [List.append_assoc, List.append_assoc, ← List.append_assoc l2]
          exact .cons (.cmp w2 w1) h2
        · obtain ⟨t1, t2, S2, l1, l2, m', rfl, rfl, w1, w2, h2⟩ := two 10 rfl e
          subst e
          simp [parts] at hall
          obtain ⟨rfl, rfl⟩ := hall
          rw [List.append_assoc, List.append_assoc, ← List.append_assoc l2]
          exact .cons (.two (.inl rfl) w2 w1) h2
        · obtain ⟨t1, t2, S2, l1, l2, m', rfl, rfl, w1, w2, h2⟩ := two 11 rfl e
          subst e
          simp [parts] at hall
          obtain ⟨rfl, rfl⟩ := hall
          rw [List.append_assoc, List.append_assoc, ← List.append_assoc l2]
          exact .cons (.two (.inr rfl) w2 w1) h2
        · obtain ⟨t1, S2, l1, m', rfl, rfl, w1, h2⟩ := h.one (by rw [e, show parts 12 = 1 from rfl] at hlen; omega)
          subst e
          simp [parts] at hall
          subst hall
          rw [List.append_assoc]
          exact .cons (.not w1) h2
    · cases hs
theorem run_WFs : ∀ (ks : List Int), (∀ k ∈ ks, 1 ≤ k ∧ k ≤ 12) → ∀ (pre : List Int) (S0 S : List Bool), WFs S0 pre → runS ks S0 = some S → WFs S (pre ++ ks)
  | [], _, pre, S0, S, h0, h => by
    rw [runS] at h
    injection h with h
    subst h
    rw [List.append_nil]
    exact h0
  | k :: r, hk, pre, S0, S, h0, h => by
    rw [runS] at h
    obtain ⟨S1, hs, hr⟩ := Option.bind_eq_some_iff.1 h
    rw [show pre ++ k :: r = (pre ++ [k]) ++ r by simp]
    exact run_WFs r (fun x hx => hk x (List.mem_cons_of_mem _ hx)) _ S1 S (h0.step (hk k List.mem_cons_self) hs) hr
/-- What comes out as one truth is well formed, and the other way round. -/
theorem run_true (ks : List Int) (hk : ∀ k ∈ ks, 1 ≤ k ∧ k ≤ 12) : runS ks [] = some [true] ↔ WF true ks := by
  constructor
  · intro h
    have := run_WFs ks hk [] [] [true] .nil h
    rw [List.nil_append] at this
    obtain ⟨t, S', l, m', e, rfl, w, h2⟩ := this.one (by simp)
    injection e with e1 e2
    subst e1; subst e2
    cases h2
    exact w
  · intro h; exact h.run []
/-- The same, found backwards on the row turned round: what is left behind the first one. -/
def backF : Nat → List Int → Bool → Option (List Int)
  | 0, _, _ => none
  | _ + 1, [], _ => none
  | n + 1, k :: r, t =>
    if t = false then (if isVal k = true then some r else none)
    else if k = 8 then some r
    else if k = 12 then backF n r true
    else if k = 9 then (backF n r false).bind fun r' => backF n r' false
    else if k = 10 ∨ k = 11 then (backF n r true).bind fun r' => backF n r' true
    else none
theorem back_sound : ∀ (n : Nat) (rs : List Int) (t : Bool) (r' : List Int), backF n rs t = some r' → ∃ l, rs = l.reverse ++ r' ∧ WF t l
  | 0, _, _, _, h => by simp [backF] at h
  | _ + 1, [], _, _, h => by simp [backF] at h
  | n + 1, k :: r, t, r', h => by
    rw [backF] at h
    split at h
    · rename_i ht
      subst ht
      split at h
      · rename_i hv
        injection h with h
        subst h
        exact ⟨[k], rfl, .val hv⟩
      · cases h
    · rename_i ht
      have ht : t = true := by cases t <;> simp_all
      subst ht
      split at h
      · rename_i e
        injection h with h
        subst h; subst e
        exact ⟨[8], rfl, .ex⟩
      · split at h
        · rename_i e
          subst e
          obtain ⟨l, e, w⟩ := back_sound n r true r' h
          exact ⟨l ++ [12], by rw [e]; simp, .not w⟩
        · split at h
          · rename_i e
            subst e
            obtain ⟨r1, h1, h2⟩ := Option.bind_eq_some_iff.1 h
            obtain ⟨l1, e1, w1⟩ := back_sound n r false r1 h1
            obtain ⟨l2, e2, w2⟩ := back_sound n r1 false r' h2
            exact ⟨l2 ++ l1 ++ [9], by rw [e1, e2]; simp, .cmp w2 w1⟩
          · split at h
            · rename_i e
              obtain ⟨r1, h1, h2⟩ := Option.bind_eq_some_iff.1 h
              obtain ⟨l1, e1, w1⟩ := back_sound n r true r1 h1
              obtain ⟨l2, e2, w2⟩ := back_sound n r1 true r' h2
              exact ⟨l2 ++ l1 ++ [k], by rw [e1, e2]; simp, .two e w2 w1⟩
            · cases h
theorem WF.back {t : Bool} {l : List Int} (h : WF t l) : ∀ (n : Nat) (pre : List Int), l.length + pre.length ≤ n → backF n (l.reverse ++ pre) t = some pre := by
  induction h with
  | val hk =>
    intro n pre hn
    obtain ⟨m, rfl⟩ : ∃ m, n = m + 1 := ⟨n - 1, by simp at hn; omega⟩
    simp [backF, hk]
  | ex =>
    intro n pre hn
    obtain ⟨m, rfl⟩ : ∃ m, n = m + 1 := ⟨n - 1, by simp at hn; omega⟩
    simp [backF]
  | @cmp l m _ _ i1 i2 =>
    intro n pre hn
    simp only [List.length_append, List.length_cons, List.length_nil] at hn
    obtain ⟨q, rfl⟩ : ∃ q, n = q + 1 := ⟨n - 1, by omega⟩
    rw [show (l ++ m ++ [(9 : Int)]).reverse ++ pre = 9 :: (m.reverse ++ (l.reverse ++ pre)) by simp, backF]
    rw [if_neg (by simp), if_neg (by decide), if_neg (by decide), if_pos rfl, i2 q _ (by simp; omega)]
    simp only [Option.bind_some]
    exact i1 q pre (by omega)
  | @two l m k hk _ _ i1 i2 =>
    intro n pre hn
    simp only [List.length_append, List.length_cons, List.length_nil] at hn
    obtain ⟨q, rfl⟩ : ∃ q, n = q + 1 := ⟨n - 1, by omega⟩
    rw [show (l ++ m ++ [k]).reverse ++ pre = k :: (m.reverse ++ (l.reverse ++ pre)) by simp, backF]
    rw [if_neg (by simp), if_neg (by omega), if_neg (by omega), if_neg (by omega), if_pos hk, i2 q _ (by simp; omega)]
    simp only [Option.bind_some]
    exact i1 q pre (by omega)
  | @not l _ i1 =>
    intro n pre hn
    simp only [List.length_append, List.length_cons, List.length_nil] at hn
    obtain ⟨q, rfl⟩ : ∃ q, n = q + 1 := ⟨n - 1, by omega⟩
    rw [show (l ++ [(12 : Int)]).reverse ++ pre = 12 :: (l.reverse ++ pre) by simp, backF]
    rw [if_neg (by simp), if_neg (by decide), if_pos rfl]
    exact i1 q pre (by omega)
theorem back_true (ks : List Int) (n : Nat) (hn : ks.length ≤ n) : backF n ks.reverse true = some [] ↔ WF true ks := by
  constructor
  · intro h
    obtain ⟨l, e, w⟩ := back_sound n _ _ _ h
    rw [List.append_nil] at e
    rwa [List.reverse_inj.1 e]
  · intro h
    have := h.back n [] (by simpa using hn)
    rwa [List.append_nil] at this
/-- Backwards and forwards agree. -/
theorem cond_agree (ks : List Int) (hk : ∀ k ∈ ks, 1 ≤ k ∧ k ≤ 12) (n : Nat) (hn : ks.length ≤ n) : runS ks [] = some [true] ↔ backF n ks.reverse true = some [] := by
  rw [run_true ks hk, back_true ks n hn]
end Go.Proofs.Ytiolpmhodbefoaa
