import Derived.Test.YtiolpmhodbefoaaSpecPOk2
namespace Go.Proofs.Ytiolpmhodbefoaa
open Go.RowKit

/-- An operation with those that it took from the stack. -/
inductive CT where
  | mk (op : PFOp) (ps : List CT)
def CT.op : CT → PFOp
  | .mk op _ => op
def CT.ps : CT → List CT
  | .mk _ ps => ps
def CT.tru (c : CT) : Bool := isTru c.op.k
/-- One operation on the stack, the uppermost last. -/
def stepT (st : List CT) (op : PFOp) : Option (List CT) :=
  if st.length < parts op.k then none
  else if fopOk op = false then none
  else if (st.drop (st.length - parts op.k)).all (fun c => c.tru != (op.k == 9)) = true then some (st.take (st.length - parts op.k) ++ [.mk op (st.drop (st.length - parts op.k))]) else none
def runT : List PFOp → List CT → Option (List CT)
  | [], st => some st
  | o :: r, st => (stepT st o).bind fun st' => runT r st'
theorem runT_app (a b : List PFOp) (st : List CT) : runT (a ++ b) st = (runT a st).bind fun st' => runT b st' := by
  induction a generalizing st with
  | nil => rfl
  | cons k r ih =>
    rw [List.cons_append, runT, runT]
    cases stepT st k with
    | none => rfl
    | some S' => exact ih S'
theorem runT_snoc {a : List PFOp} {st st' : List CT} (h : runT a st = some st') (o : PFOp) : runT (a ++ [o]) st = stepT st' o := by
  rw [runT_app, h, Option.bind_some, runT]
  cases stepT st' o <;> rfl
def condR (ops : List PFOp) : Option CT :=
  if 1000 < ops.length then none else
  match runT ops [] with
  | some [c] => if c.tru = true then some c else none
  | _ => none
theorem stepT_len {st st' : List CT} {op : PFOp} (h : stepT st op = some st') : st'.length ≤ st.length + 1 ∧ 1 ≤ st'.length := by
  unfold stepT at h
  split at h
  · cases h
  · split at h
    · cases h
    · split at h
      · injection h with h
        subst h
        simp
      · cases h
theorem stepT_S {st : List CT} {op : PFOp} (hf : fopOk op = true) : (stepT st op).map (fun s => (s.map CT.tru).reverse) = stepS (st.map CT.tru).reverse op.k := by
  unfold stepT stepS
  rw [List.length_reverse, List.length_map]
  by_cases hl : st.length < parts op.k
  · rw [if_pos hl, if_pos hl]; rfl
  · rw [if_neg hl, if_neg hl, if_neg (by rw [hf]; simp)]
    have e1 : ((st.map CT.tru).reverse).take (parts op.k) = ((st.drop (st.length - parts op.k)).map CT.tru).reverse := by
      rw [List.take_reverse, List.length_map, List.map_drop]
    have e2 : ((st.map CT.tru).reverse).drop (parts op.k) = ((st.take (st.length - parts op.k)).map CT.tru).reverse := by
      rw [List.drop_reverse, List.length_map, List.map_take]
    rw [e1, e2, List.all_reverse, List.all_map]
    by_cases ha : (st.drop (st.length - parts op.k)).all (fun c => c.tru != (op.k == 9)) = true
    · rw [if_pos ha, if_pos (by rw [← ha]; rfl)]
      simp [CT.tru, CT.op]
    · rw [if_neg ha, if_neg (by intro h; apply ha; rw [← h]; rfl)]
      rfl
theorem runT_S : ∀ (ops : List PFOp) (st : List CT), ops.all fopOk = true → (runT ops st).map (fun s => (s.map CT.tru).reverse) = runS (ops.map (·.k)) (st.map CT.tru).reverse
  | [], st, _ => rfl
  | o :: r, st, h => by
    rw [List.all_cons, Bool.and_eq_true] at h
    rw [runT, List.map_cons, runS, ← stepT_S h.1]
    cases stepT st o with
    | none => rfl
    | some st' => exact runT_S r st' h.2
theorem runT_bad : ∀ (ops : List PFOp) (st : List CT), ops.all fopOk = false → runT ops st = none
  | [], st, h => by simp at h
  | o :: r, st, h => by
    rw [List.all_cons, Bool.and_eq_false_iff] at h
    rw [runT]
    by_cases ho : fopOk o = true
    · cases stepT st o with
      | none => rfl
      | some st' => exact runT_bad r st' (by rcases h with h | h; rw [ho] at h; cases h; exact h)
    · have : stepT st o = none := by
        unfold stepT
        split
        · rfl
        · rw [if_pos (by cases hq : fopOk o with | false => rfl | true => exact absurd hq ho)]
      rw [this]; rfl
theorem fop_k {o : PFOp} (h : fopOk o = true) : 1 ≤ o.k ∧ o.k ≤ 12 := by
  unfold fopOk at h
  simp only [Bool.and_eq_true, decide_eq_true_eq] at h
  exact ⟨h.1.1.1.1.1.1.1, h.1.1.1.1.1.1.2⟩
/-- Whether a filter's operations are valid. -/
def condOk (ops : List PFOp) : Bool := decide (ops.length ≤ 1000) && ops.all fopOk && (runS (ops.map (·.k)) [] == some [true])
theorem condR_some (ops : List PFOp) : (condR ops).isSome = condOk ops := by
  unfold condR condOk
  by_cases hl : 1000 < ops.length
  · rw [if_pos hl, decide_eq_false (by omega)]; rfl
  · rw [if_neg hl, decide_eq_true (by omega), Bool.true_and]
    cases ha : ops.all fopOk with
    | false => rw [runT_bad _ _ ha]; rfl
    | true =>
      have h := runT_S ops [] ha
      simp only [List.map_nil, List.reverse_nil] at h
      rw [← h, Bool.true_and]
      cases hr : runT ops [] with
      | none => rfl
      | some st =>
        simp only [Option.map_some]
        match st with
        | [] => rfl
        | [c] =>
          simp only [List.map_cons, List.map_nil, List.reverse_singleton]
          cases c.tru <;> rfl
        | c :: d :: r =>
          symm
          rw [Option.isSome_none, beq_eq_false_iff_ne]
          intro e
          injection e with e
          have := congrArg List.length e
          simp at this
/-- Found backwards: where what ends at a place begins. -/
def startI (n : Nat) (l : List Int) (t : Bool) : Int := match backF n l t with
  | some r => (r.length : Int)
  | none => -1
theorem back_len {n : Nat} {l : List Int} {t : Bool} {r : List Int} (h : backF n l t = some r) : r.length < l.length ∧ ∃ p, l = p ++ r := by
  obtain ⟨m, e, hw⟩ := back_sound n l t r h
  refine ⟨?_, _, e⟩
  have : m ≠ [] := by
    intro hm
    rw [hm] at hw
    have := hw.run []
    simp [runS] at this
  have : 0 < m.length := List.length_pos_iff.2 this
  rw [e]; simp; omega
theorem back_take {n i : Nat} {ks : List Int} {t : Bool} {r : List Int} (h : backF n (ks.take i).reverse t = some r) : r = (ks.take r.length).reverse ∧ r.length < i ∧ r.length < ks.length := by
  obtain ⟨h1, p, e⟩ := back_len h
  rw [List.length_reverse, List.length_take] at h1
  refine ⟨?_, by omega, by omega⟩
  have e2 : ks.take i = r.reverse ++ p.reverse := by rw [← List.reverse_append, ← e, List.reverse_reverse]
  have e3 : (ks.take i).take r.length = r.reverse := by rw [e2]; simp
  rw [List.take_take, Nat.min_eq_left (by omega)] at e3
  rw [e3, List.reverse_reverse]
theorem condOk_start (ops : List PFOp) : (decide (1 ≤ ops.length) && decide (ops.length ≤ 1000) && ops.all fopOk && (startI ops.length (ops.map (·.k)).reverse true == 0)) = condOk ops := by
  unfold condOk
  rw [Bool.eq_iff_iff]
  simp only [Bool.and_eq_true, decide_eq_true_eq, beq_iff_eq]
  constructor
  · rintro ⟨⟨⟨h1, h2⟩, h3⟩, h4⟩
    refine ⟨⟨h2, h3⟩, ?_⟩
    rw [cond_agree _ _ ops.length (by simp)]
    · unfold startI at h4
      split at h4
      · rename_i r hr
        rw [hr]
        congr 1
        exact List.eq_nil_of_length_eq_zero (by omega)
      · omega
    · intro k hk
      obtain ⟨o, ho, rfl⟩ := List.mem_map.1 hk
      exact fop_k (List.all_eq_true.1 h3 o ho)
  · rintro ⟨⟨h2, h3⟩, h4⟩
    have h5 := (cond_agree _ (fun k hk => by obtain ⟨o, ho, rfl⟩ := List.mem_map.1 hk; exact fop_k (List.all_eq_true.1 h3 o ho)) ops.length (by simp)).1 h4
    refine ⟨⟨⟨?_, h2⟩, h3⟩, ?_⟩
    · cases ops with
      | nil => simp [runS] at h4
      | cons a r => simp
    · unfold startI; rw [h5]; rfl
end Go.Proofs.Ytiolpmhodbefoaa
