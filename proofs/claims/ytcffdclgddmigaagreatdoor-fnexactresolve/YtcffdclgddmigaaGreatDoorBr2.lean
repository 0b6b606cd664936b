import Derived.Test.YtcffdclgddmigaaGreatDoorBn41
import Derived.Test.YtcffdclgddmigaaGreatDoorBn25
namespace Go.Proofs.YtcffdclgddmigaaGreatDoor
open Go.RowKit

theorem childV_arr (l : JL) (t : List UInt8) : childV (.arr l) t = (idxT t).bind fun i => l.toL[i]? := rfl
theorem childV_obj (m : JM) (t : List UInt8) : childV (.obj m) t = (m.toL.find? fun q => q.1 == t).map (·.2) := rfl
theorem getV_app : ∀ (a b : List (List UInt8)) (v : JV), getV v (a ++ b) = (getV v a).bind fun u => getV u b
  | [], b, v => rfl
  | t :: r, b, v => by
    rw [List.cons_append, getV, getV]
    cases childV v t with
    | none => rfl
    | some u => simp only [Option.bind_some]; exact getV_app r b u
theorem getV_step {v u : JV} {ts : List (List UInt8)} {k : Nat} (h : k < ts.length) (hu : getV v (ts.take k) = some u) : getV v (ts.take (k + 1)) = childV u ts[k] := by
  rw [List.take_succ_eq_append_getElem h, getV_app, hu]
  simp only [Option.bind_some, getV]
  cases childV u ts[k] <;> rfl
theorem getV_stop {v u : JV} {ts : List (List UInt8)} {k : Nat} (h : k < ts.length) (hu : getV v (ts.take k) = some u) (hc : childV u ts[k] = none) : getV v ts = none := by
  have e : ts = ts.take (k + 1) ++ ts.drop (k + 1) := (List.take_append_drop _ _).symm
  rw [e, getV_app, getV_step h hu, hc]
  rfl
theorem okL_at : ∀ (l : JL), okL l → twL l = false → ∀ v ∈ l.toL, okV v ∧ twV v = false
  | .nil, _, _, v, hv => by simp [JL.toL] at hv
  | .cons x r, h, t, v, hv => by
    rw [okL] at h
    rw [twL, Bool.or_eq_false_iff] at t
    rw [JL.toL] at hv
    rcases List.mem_cons.1 hv with e | hv
    · rw [e]; exact ⟨h.1, t.1⟩
    · exact okL_at r h.2 t.2 v hv
theorem okM_at : ∀ (m : JM) (ks : List (List UInt8)), okM m → twM ks m = false → ∀ q ∈ m.toL, okV q.2 ∧ twV q.2 = false
  | .nil, _, _, _, q, hq => by simp [JM.toL] at hq
  | .cons k x r, ks, h, t, q, hq => by
    rw [okM] at h
    rw [twM] at t
    simp only [Bool.or_eq_false_iff] at t
    rw [JM.toL] at hq
    rcases List.mem_cons.1 hq with e | hq
    · rw [e]; exact ⟨h.2.1, t.1.1⟩
    · exact okM_at r (ks ++ [k]) h.2.2 t.2 q hq
/-- A part of a tree is as good as the tree, and no longer. -/
theorem childV_ok {v u : JV} {t : List UInt8} (h : childV v t = some u) (hok : okV v) (htw : twV v = false) : okV u ∧ twV u = false ∧ (ct u).length ≤ (ct v).length ∧ cntV u ≤ cntV v := by
  cases v with
  | arr l =>
    rw [okV] at hok
    rw [twV] at htw
    rw [childV_arr] at h
    cases hi : idxT t with
    | none => rw [hi] at h; simp at h
    | some i =>
      rw [hi] at h
      simp only [Option.bind_some] at h
      obtain ⟨hl, rfl⟩ := List.getElem?_eq_some_iff.1 h
      have hm := List.getElem_mem hl
      obtain ⟨a, b⟩ := okL_at l hok htw _ hm
      refine ⟨a, b, ?_, ?_⟩
      · have hct : (ct (.arr l)).length = hold (ctL l).length + nl (ctL l) := by
          show (mkA (ctL l)).length = _
          have := joinC_nl (ctL l)
          simp [mkA]; omega
        have n1 : (ct l.toL[i]).length ≤ nl (ctL l) := by have := sum_at ((ctL l).map List.length) i (by rw [ctL_map]; simpa using hl); simpa [nl, ctL_map] using this
        omega
      · rw [cntV, cntL_cl]
        have := sum_at (l.toL.map cntV) i (by simpa using hl)
        have c1 : cntV l.toL[i] ≤ cl l.toL := by simpa [cl] using this
        omega
  | obj m =>
    rw [okV] at hok
    rw [twV] at htw
    rw [childV_obj] at h
    cases hf : m.toL.find? fun q => q.1 == t with
    | none => rw [hf] at h; simp at h
    | some q =>
      rw [hf] at h
      simp at h
      subst h
      have hm := List.mem_of_find?_eq_some hf
      obtain ⟨a, b⟩ := okM_at m [] hok htw _ hm
      refine ⟨a, b, ?_, ?_⟩
      · have hct := ctObj_len m
        have n1 := sumf_at memN hm
        simp only [memN] at n1
        omega
      · rw [cntV, cntM_sum]
        have : cntV q.2 ≤ _ := sumf_at (fun q => cntV q.2) hm
        omega
  | nul => simp [childV] at h
  | tt => simp [childV] at h
  | ff => simp [childV] at h
  | num l => simp [childV] at h
  | str l => simp [childV] at h
theorem idxF_at : ∀ (cs : List (List UInt8)) (b j : Nat) (h : j < (idxF b cs).length), (idxF b cs)[j] = (decT (b + j), cs[j]'(by rw [idxF_len] at h; exact h))
  | [], b, j, h => by simp [idxF] at h
  | t :: r, b, 0, h => rfl
  | t :: r, b, j + 1, h => by
    simp only [idxF, List.getElem_cons_succ]
    rw [idxF_at r (b + 1) j]
    rw [show b + 1 + j = b + (j + 1) by omega]
/-- What is found among the parts is the part that the token leads to. -/
theorem child_found {v : JV} {t : List UInt8} (hok : okV v) (htw : twV v = false) (hi : (∃ l, v = .arr l) → (idxT t).isSome = true) {j : Nat} (hj : j < (partsV v).length) (hk : (partsV v)[j].1 = t) : ∃ u, childV v t = some u ∧ (partsV v)[j].2 = ct u := by
  cases v with
  | arr l =>
    have hp : partsV (.arr l) = idxF 0 (ctL l) := rfl
    have hs := hi ⟨l, rfl⟩
    cases hx : idxT t with
    | none => rw [hx] at hs; simp at hs
    | some i =>
      have e1 := idxF_at (ctL l) 0 j hj
      have e2 : (partsV (.arr l))[j] = (decT (0 + j), (ctL l)[j]'(by rw [hp, idxF_len] at hj; exact hj)) := e1
      rw [e2] at hk ⊢
      simp only [Nat.zero_add] at hk ⊢
      have : j = i := decT_inj (hk.trans (idxT_dec hx).symm)
      subst this
      have hl : j < l.toL.length := by rw [hp, idxF_len, ctL_map, List.length_map] at hj; exact hj
      refine ⟨l.toL[j], ?_, ?_⟩
      · rw [childV_arr, hx]; simp [hl]
      · simp [ctL_map]
  | obj m =>
    have hm : (partsV (.obj m))[j] ∈ ctM m := (isort_perm _).subset (List.getElem_mem hj)
    generalize (partsV (.obj m))[j] = p at *
    rw [ctM_map] at hm
    obtain ⟨q, hq, rfl⟩ := List.mem_map.1 hm
    simp only at hk
    rw [twV] at htw
    have hnd : (m.toL.map (·.1)).Nodup := by rw [← keysM_map]; exact (twM_nodup m [] htw).1
    refine ⟨q.2, ?_, rfl⟩
    rw [childV_obj]
    have hf : m.toL.find? (fun q => q.1 == t) = some q := by
      have : ∀ l : List (List UInt8 × JV), (l.map (·.1)).Nodup → q ∈ l → l.find? (fun q => q.1 == t) = some q := by
        intro l
        induction l with
        | nil => intro _ h; simp at h
        | cons x r ih =>
          intro hn hin
          rw [List.map_cons, List.nodup_cons] at hn
          rw [List.find?_cons]
          rcases List.mem_cons.1 hin with e | hin
          · subst e; simp [hk]
          · have hne : (x.1 == t) = false := by
              rw [beq_eq_false_iff_ne]
              intro e
              exact hn.1 (by rw [e, ← hk]; exact List.mem_map.2 ⟨q, hin, rfl⟩)
            rw [hne]
            exact ih hn.2 hin
      exact this m.toL hnd hq
    rw [hf]; rfl
  | nul => simp [partsV] at hj
  | tt => simp [partsV] at hj
  | ff => simp [partsV] at hj
  | num l => simp [partsV] at hj
  | str l => simp [partsV] at hj
theorem child_missed {v : JV} {t : List UInt8} (h : ∀ j (hj : j < (partsV v).length), (partsV v)[j].1 ≠ t) : childV v t = none := by
  cases v with
  | arr l =>
    rw [childV_arr]
    cases hx : idxT t with
    | none => rfl
    | some i =>
      simp only [Option.bind_some]
      by_cases hl : i < l.toL.length
      · exfalso
        have hj : i < (partsV (.arr l)).length := by show i < (idxF 0 (ctL l)).length; rw [idxF_len, ctL_map, List.length_map]; exact hl
        refine h i hj ?_
        have e1 : (partsV (.arr l))[i] = _ := idxF_at (ctL l) 0 i hj
        rw [e1]
        simp only [Nat.zero_add]
        exact idxT_dec hx
      · rw [List.getElem?_eq_none (by omega)]
  | obj m =>
    rw [childV_obj]
    have hf : m.toL.find? (fun q => q.1 == t) = none := by
      rw [List.find?_eq_none]
      intro q hq e
      have hm : (q.1, ct q.2) ∈ ctM m := by rw [ctM_map]; exact List.mem_map.2 ⟨q, hq, rfl⟩
      have hp : (q.1, ct q.2) ∈ partsV (.obj m) := (isort_perm _).mem_iff.2 hm
      obtain ⟨j, hj, he⟩ := List.getElem_of_mem hp
      refine h j hj ?_
      rw [he]
      simpa using e
    rw [hf]; rfl
  | nul => rfl
  | tt => rfl
  | ff => rfl
  | num l => rfl
  | str l => rfl
end Go.Proofs.YtcffdclgddmigaaGreatDoor
