import Derived.Test.YtdbppklmmdmgjacGreatDoorBn41
import Derived.Test.YtdbppklmmdmgjacGreatDoorBn25
import Derived.Test.YtdbppklmmdmgjacGreatDoorBn1
namespace Go.Proofs.YtdbppklmmdmgjacGreatDoor
open Go.RowKit

theorem childV_arr (l : JL) (t : List UInt8) : childV (.arr l) t = (idxT t).bind fun i => l.toL[i]? := rfl
theorem childV_obj (m : JM) (t : List UInt8) : childV (.obj m) t = (m.toL.find? fun q => q.1 == t).map (·.2) := rfl
theorem getV_app : ∀ (a b : List (List UInt8)) (v : JV), getV v (a ++ b) = (getV v a).bind fun u => getV u b
  | [], b, v => rfl
  | t :: r, b, v => by
    rw [List.cons_append, getV, getV]
    cases childV v t with
    | none => rfl
    | some u => simp only [Option.bind_some]; exact getV_app r b u
theorem getV_step {v u : JV} {ts : List (List UInt8)} {k : Nat} (h : k < ts.length) (hu : getV v (ts.take k) = some u) : getV v (ts.take (k + 1)) = childV u ts[k] := by
  rw [List.take_succ_eq_append_getElem h, getV_app, hu]
  simp only [Option.bind_some, getV]
  cases childV u ts[k] <;> rfl
theorem getV_stop {v u : JV} {ts : List (List UInt8)} {k : Nat} (h : k < ts.length) (hu : getV v (ts.take k) = some u) (hc : childV u ts[k] = none) : getV v ts = none := by
  have e : ts = ts.take (k + 1) ++ ts.drop (k + 1) := (List.take_append_drop _ _).symm
  rw [e, getV_app, getV_step h hu, hc]
  rfl
theorem okL_at : ∀ (l : JL), okL l → twL l = false → ∀ v ∈ l.toL, okV v ∧ twV v = false
  | .nil, _, _, v, hv => by simp [JL.toL] at hv
  | .cons x r, h, t, v, hv => by
    rw [okL] at h
    rw [twL, Bool.or_eq_false_iff] at t
    rw [JL.toL] at hv
    rcases List.mem_cons.1 hv with e | hv
    · rw [e]; exact ⟨h.1, t.1⟩
    · exact okL_at r h.2 t.2 v hv
theorem okM_at : ∀ (m : JM) (ks : List (List UInt8)), okM m → twM ks m = false → ∀ q ∈ m.toL, okV q.2 ∧ twV q.2 = false
  | .nil, _, _, _, q, hq => by simp [JM.toL] at hq
  | .cons k x r, ks, h, t, q, hq => by
    rw [okM] at h
    rw [twM] at t
    simp only [Bool.or_eq_false_iff] at t
    rw [JM.toL] at hq
    rcases List.mem_cons.1 hq with e | hq
    · rw [e]; exact ⟨h.2.1, t.1.1⟩
    · exact okM_at r (ks ++ [k]) h.2.2 t.2 q hq
/-- A part of a tree is as good as the tree, and no longer. -/
theorem childV_ok {v u : JV} {t : List UInt8} (h : childV v t = some u) (hok : okV v) (htw : twV v = false) : okV u ∧ twV u = false ∧ (ct u).length ≤ (ct v).length ∧ cntV u ≤ cntV v := by
  cases v with
  | arr l =>
    rw [okV] at hok
    rw [twV] at htw
    rw [childV_arr] at h
    cases hi : idxT t with
    | none => rw [hi] at h; simp at h
    | some i =>
      rw [hi] at h
      simp only [Option.bind_some] at h
      obtain ⟨hl, rfl⟩ := List.getElem?_eq_some_iff.1 h
      have hm := List.getElem_mem hl
      obtain ⟨a, b⟩ := okL_at l hok htw _ hm
      refine ⟨a, b, ?_, ?_⟩
      · have hct : (ct (.arr l)).length = hold (ctL l).length + nl (ctL l) := by
          show (mkA (ctL l)).length = _
          have := joinC_nl (ctL l)
          simp [mkA]; omega
        have n1 : (ct l.toL[i]).length ≤ nl (ctL l) := by have := sum_at ((ctL l).map List.length) i (by rw [ctL_map]; simpa using hl); simpa [nl, ctL_map] using this
        omega
      · rw [cntV, cntL_cl]
        have := sum_at (l.toL.map cntV) i (by simpa using hl)
        have c1 : cntV l.toL[i] ≤ cl l.toL := by simpa [cl] using this
        omega
  | obj m =>
    rw [okV] at hok
    rw [twV] at htw
    rw [childV_obj] at h
    cases hf : m.toL.find? fun q => q.1 == t with
    | none => rw [hf] at h; simp at h
    | some q =>
      rw [hf] at h
      simp at h
      subst h
      have hm := List.mem_of_find?_eq_some hf
      obtain ⟨a, b⟩ := okM_at m [] hok htw _ hm
      refine ⟨a, b, ?_, ?_⟩
      · have hct := ctObj_len m
        have n1 := sumf_at memN hm
        simp only [memN] at n1
        omega
      · rw [cntV, cntM_sum]
        have : cntV q.2 ≤ _ := sumf_at (fun q => cntV q.2) hm
        omega
  | nul => simp [childV] at h
  | tt => simp [childV] at h
  | ff => simp [childV] at h
  | num l => simp [childV] at h
  | str l => simp [childV] at h
theorem idxF_at : ∀ (cs : List (List UInt8)) (b j : Nat) (h : j < (idxF b cs).length), (idxF b cs)[j] = (decT (b + j), cs[j]'(by rw [idxF_len] at h; exact h))
  | [], b, j, h => by simp [idxF] at h
  | t :: r, b, 0, h => rfl
  | t :: r, b, j + 1, h => by
    simp only [idxF, List.getElem_cons_succ]
    rw [idxF_at r (b + 1) j]
    rw [show b + 1 + j = b + (j + 1) by omega]
/-- What is found among the parts is the part that the token leads to. -/
theorem child_found {v : JV} {t : List UInt8} (hok : okV v) (htw : twV v = false) (hi : (∃ l, v = .arr l) → (idxT t).isSome = true) {j : Nat} (hj : j < (partsV v).length) (hk : (partsV v)[j].1 = t) : ∃ u, childV v t = some u ∧ (partsV v)[j].2 = ct u := by
  cases v with
  | arr l =>
    have hp : partsV (.arr l) = idxF 0 (ctL l) := rfl
    have hs := hi ⟨l, rfl⟩
    cases hx : idxT t with
    | none => rw [hx] at hs; simp at hs
    | some i =>
      have e1 := idxF_at (ctL l) 0 j hj
      have e2 : (partsV (.arr l))[j] = (decT (0 + j), (ctL l)[j]'(by rw [hp, idxF_len] at hj; exact hj)) := e1
      rw [e2] at hk ⊢
      simp only [Nat.zero_add] at hk ⊢
      have : j = i := decT_inj (hk.trans (idxT_dec hx).symm)
      subst this
      have hl : j < l.toL.length := by rw [hp, idxF_len, ctL_map, List.length_map] at hj; exact hj
      refine ⟨l.toL[j], ?_, ?_⟩
      · rw [childV_arr, hx]; simp [hl]
      · simp [ctL_map]
  | obj m =>
    have hm : (partsV (.obj m))[j] ∈ ctM m := (isort_perm _).subset (List.getElem_mem hj)
    generalize (partsV (.obj m))[j] = p at *
    rw [ctM_map] at hm
    obtain ⟨q, hq, rfl⟩ := List.mem_map.1 hm
    simp only at hk
    rw [twV] at htw
    have hnd : (m.toL.map (·.1)).Nodup := by rw [← keysM_map]; exact (twM_nodup m [] htw).1
    refine ⟨q.2, ?_, rfl⟩
    rw [childV_obj]
    have hf : m.toL.find? (fun q => q.1 == t) = some q := by
      have : ∀ l : List (List UInt8 × JV), (l.map (·.1)).Nodup → q ∈ l → l.find? (fun q => q.1 == t) = some q := by
        intro l
        induction l with
        | nil => intro _ h; simp at h
        | cons x r ih =>
          intro hn hin
          rw [List.map_cons, List.nodup_cons] at hn
          rw [List.find?_cons]
          rcases List.mem_cons.1 hin with e | hin
          · subst e; simp [hk]
          · have hne : (x.1 == t) = false := by
              rw [beq_eq_false_iff_ne]
              intro e
              exact hn.1 (by rw [e, ← hk]; exact List.mem_map.2 ⟨q, hin, rfl⟩)
            rw [hne]
            exact ih hn.2 hin
      exact this m.toL hnd hq
    rw [hf]; rfl
  | nul => simp [partsV] at hj
  | tt => simp [partsV] at hj
  | ff => simp [partsV] at hj
  | num l => simp [partsV] at hj
  | str l => simp [partsV] at hj
theorem child_missed {v : JV} {t : List UInt8} (h : ∀ j (hj : j < (partsV v).length), (partsV v)[j].1 ≠ t) : childV v t = none := by
  cases v with
  | arr l =>
    rw [childV_arr]
    cases hx : idxT t with
    | none => rfl
    | some i =>
      simp only [Option.bind_some]
      by_cases hl : i < l.toL.length
      · exfalso
        have hj : i < (partsV (.arr l)).length := by show i < (idxF 0 (ctL l)).length; rw [idxF_len, ctL_map, List.length_map]; exact hl
        refine h i hj ?_
        have e1 : (partsV (.arr l))[i] = _ := idxF_at (ctL l) 0 i hj
        rw [e1]
        simp only [Nat.zero_add]
        exact idxT_dec hx
      · rw [List.getElem?_eq_none (by omega)]
  | obj m =>
    rw [childV_obj]
    have hf : m.toL.find? (fun q => q.1 == t) = none := by
      rw [List.find?_eq_none]
      intro q hq e
      have hm : (q.1, ct q.2) ∈ ctM m := by rw [ctM_map]; exact List.mem_map.2 ⟨q, hq, rfl⟩
      have hp : (q.1, ct q.2) ∈ partsV (.obj m) := (isort_perm _).mem_iff.2 hm
      obtain ⟨j, hj, he⟩ := List.getElem_of_mem hp
      refine h j hj ?_
      rw [he]
      simpa using e
    rw [hf]; rfl
  | nul => rfl
  | tt => rfl
  | ff => rfl
  | num l => rfl
  | str l => rfl
end Go.Proofs.YtdbppklmmdmgjacGreatDoor

namespace Go.Proofs.YtdbppklmmdmgjacGreatDoor
open Go.RowKit

def insJ (p : List UInt8 × JV) : List (List UInt8 × JV) → List (List UInt8 × JV)
  | [] => [p]
  | q :: r => if p.1 < q.1 then q :: insJ p r else p :: q :: r
def isortJ (l : List (List UInt8 × JV)) : List (List UInt8 × JV) := (l.foldl (fun acc p => insJ p acc) []).reverse
def idxJ : Nat → List JV → List (List UInt8 × JV)
  | _, [] => []
  | b, v :: r => (decT b, v) :: idxJ (b + 1) r
/-- The parts of a value, as trees. -/
def kidsV : JV → List (List UInt8 × JV)
  | .arr l => idxJ 0 l.toL
  | .obj m => isortJ m.toL
  | _ => []
def kt (q : List UInt8 × JV) : List UInt8 × List UInt8 := (q.1, ct q.2)
theorem insJ_kt (p : List UInt8 × JV) : ∀ l : List (List UInt8 × JV), (insJ p l).map kt = insR (kt p) (l.map kt)
  | [] => rfl
  | q :: r => by
    rw [insJ, List.map_cons, insR]
    by_cases h : p.1 < q.1
    · have h' : (kt p).1 < (kt q).1 := h
      rw [if_pos h, if_pos h', List.map_cons, insJ_kt p r]
    · have h' : ¬ (kt p).1 < (kt q).1 := h
      rw [if_neg h, if_neg h', List.map_cons, List.map_cons]
theorem foldJ_kt : ∀ (l acc : List (List UInt8 × JV)), (l.foldl (fun acc p => insJ p acc) acc).map kt = (l.map kt).foldl (fun acc p => insR p acc) (acc.map kt)
  | [], acc => rfl
  | p :: l, acc => by rw [List.foldl_cons, List.map_cons, List.foldl_cons, foldJ_kt l, insJ_kt]
theorem isortJ_kt (l : List (List UInt8 × JV)) : (isortJ l).map kt = isort (l.map kt) := by
  unfold isortJ isort
  rw [List.map_reverse, foldJ_kt]
  rfl
theorem insJ_perm (p : List UInt8 × JV) : ∀ l, (insJ p l).Perm (p :: l)
  | [] => List.Perm.refl _
  | q :: r => by
    unfold insJ
    split
    · exact ((insJ_perm p r).cons q).trans (List.Perm.swap p q r)
    · exact List.Perm.refl _
theorem foldJ_perm : ∀ (l acc : List (List UInt8 × JV)), (l.foldl (fun acc p => insJ p acc) acc).Perm (l ++ acc)
  | [], acc => List.Perm.refl _
  | p :: l, acc => by
    rw [List.foldl_cons]
    exact (foldJ_perm l _).trans (((insJ_perm p acc).append_left l).trans (List.perm_middle))
theorem isortJ_perm (l : List (List UInt8 × JV)) : (isortJ l).Perm l := by
  unfold isortJ
  have := foldJ_perm l []
  rw [List.append_nil] at this
  exact (List.reverse_perm _).trans this
theorem idxJ_kt : ∀ (vs : List JV) (b : Nat), (idxJ b vs).map kt = idxF b (vs.map ct)
  | [], _ => rfl
  | v :: r, b => by rw [idxJ, List.map_cons, List.map_cons, idxF, idxJ_kt r]; rfl
theorem idxJ_len : ∀ (vs : List JV) (b : Nat), (idxJ b vs).length = vs.length
  | [], _ => rfl
  | v :: r, b => by rw [idxJ, List.length_cons, List.length_cons, idxJ_len r]
theorem idxJ_at : ∀ (vs : List JV) (b j : Nat) (h : j < (idxJ b vs).length), (idxJ b vs)[j] = (decT (b + j), vs[j]'(by rw [idxJ_len] at h; exact h))
  | [], b, j, h => by simp [idxJ] at h
  | t :: r, b, 0, h => rfl
  | t :: r, b, j + 1, h => by
    simp only [idxJ, List.getElem_cons_succ]
    rw [idxJ_at r (b + 1) j]
    rw [show b + 1 + j = b + (j + 1) by omega]
theorem idxJ_snd : ∀ (vs : List JV) (b : Nat), (idxJ b vs).map (·.2) = vs
  | [], _ => rfl
  | v :: r, b => by rw [idxJ, List.map_cons, idxJ_snd r]
theorem parts_kids (v : JV) : partsV v = (kidsV v).map kt := by
  cases v with
  | arr l => show idxF 0 (ctL l) = (idxJ 0 l.toL).map kt; rw [idxJ_kt, ctL_map]
  | obj m => show isort (ctM m) = (isortJ m.toL).map kt; rw [isortJ_kt, ctM_map]; rfl
  | nul => rfl
  | tt => rfl
  | ff => rfl
  | num l => rfl
  | str l => rfl
theorem dlK_at : ∀ (vs : List JV) (v : JV), v ∈ vs → depV v ≤ dl vs
  | [], v, h => by simp at h
  | x :: r, v, h => by
    rw [dl]
    rcases List.mem_cons.1 h with rfl | h
    · omega
    · have := dlK_at r v h; omega
/-- What holds of a part. -/
theorem kids_ok {v : JV} (hok : okV v) (htw : twV v = false) {q : List UInt8 × JV} (hq : q ∈ kidsV v) : okV q.2 ∧ twV q.2 = false ∧ depV q.2 + 1 ≤ depV v ∧ q.1.length + (ct q.2).length + 1 ≤ (ct v).length := by
  cases v with
  | arr l =>
    rw [okV] at hok
    rw [twV] at htw
    have hq' : q ∈ idxJ 0 l.toL := hq
    obtain ⟨j, hj, rfl⟩ := List.getElem_of_mem hq'
    have hl : j < l.toL.length := by rw [idxJ_len] at hj; exact hj
    rw [idxJ_at]
    simp only [Nat.zero_add]
    have hm := List.getElem_mem hl
    obtain ⟨a, b⟩ := okL_at l hok htw _ hm
    have hd := dlK_at _ _ hm
    have e := depL_dl l
    have hct : (ct (.arr l)).length = hold (ctL l).length + nl (ctL l) := by
      show (mkA (ctL l)).length = _
      have := joinC_nl (ctL l)
      simp [mkA]; omega
    have n1 : (ct l.toL[j]).length ≤ nl (ctL l) := by have := sum_at ((ctL l).map List.length) j (by rw [ctL_map]; simpa using hl); simpa [nl, ctL_map] using this
    have n2 := decT_len j
    have n3 : (ctL l).length = l.toL.length := by rw [ctL_map, List.length_map]
    refine ⟨a, b, ?_, ?_⟩
    · rw [depV]; omega
    · rw [hct]; unfold hold; omega
  | obj m =>
    rw [okV] at hok
    rw [twV] at htw
    have hm : q ∈ m.toL := (isortJ_perm _).subset hq
    obtain ⟨a, b⟩ := okM_at m [] hok htw _ hm
    have hd := dlK_at (m.toL.map (·.2)) q.2 (List.mem_map.2 ⟨q, hm, rfl⟩)
    have e := depM_dl m
    have hct := ctObj_len m
    have n1 := sumf_at memN hm
    simp only [memN] at n1
    have n2 := quoted_ge q.1
    refine ⟨a, b, ?_, ?_⟩
    · rw [depV]; omega
    · omega
  | nul => simp [kidsV] at hq
  | tt => simp [kidsV] at hq
  | ff => simp [kidsV] at hq
  | num l => simp [kidsV] at hq
  | str l => simp [kidsV] at hq
theorem kids_cnt (v : JV) : cntV v = ((kidsV v).map fun q => cntV q.2).sum + 1 := by
  cases v with
  | arr l =>
    rw [cntV, cntL_cl]
    show cl l.toL + 1 = ((idxJ 0 l.toL).map fun q => cntV q.2).sum + 1
    have e : ((idxJ 0 l.toL).map fun q => cntV q.2) = ((idxJ 0 l.toL).map (·.2)).map cntV := by rw [List.map_map]; rfl
    rw [e, idxJ_snd]; rfl
  | obj m =>
    rw [cntV, cntM_sum]
    show _ = ((isortJ m.toL).map fun q => cntV q.2).sum + 1
    rw [((isortJ_perm m.toL).map fun q => cntV q.2).sum_nat]
  | nul => rfl
  | tt => rfl
  | ff => rfl
  | num l => rfl
  | str l => rfl
/-- A pointer, one token further. -/
def ptrN (p k : List UInt8) : List UInt8 := p ++ 47 :: esc k
theorem ptrN_len (p k : List UInt8) : (ptrN p k).length ≤ p.length + 1 + 2 * k.length := by
  have := esc_le k
  simp [ptrN]; omega
/-- The places of a tree with the texts that lie there. -/
def hitF : Nat → List UInt8 → JV → List (List UInt8 × List UInt8)
  | 0, _, _ => []
  | n + 1, p, v => (p, ct v) :: (kidsV v).flatMap fun q => hitF n (ptrN p q.1) q.2
def plF (n : Nat) (p : List UInt8) (v : JV) : List (List UInt8) := (hitF n p v).map (·.1)
theorem plF_eq (n : Nat) (p : List UInt8) (v : JV) : plF (n + 1) p v = p :: (kidsV v).flatMap fun q => plF n (ptrN p q.1) q.2 := by
  unfold plF
  rw [hitF, List.map_cons, List.map_flatMap]
theorem flatK_len {α β : Type} (f : α → List β) (g : α → Nat) : ∀ l : List α, (∀ x ∈ l, (f x).length = g x) → (l.flatMap f).length = (l.map g).sum
  | [], _ => rfl
  | x :: r, h => by
    rw [List.flatMap_cons, List.length_append, List.map_cons, List.sum_cons, h x List.mem_cons_self, flatK_len f g r (fun y hy => h y (List.mem_cons_of_mem _ hy))]
theorem hitF_len : ∀ (n : Nat) (p : List UInt8) (v : JV), okV v → twV v = false → depV v ≤ n → (hitF n p v).length = cntV v
  | 0, p, v, _, _, h => by have := (dep_cnt v).2; omega
  | n + 1, p, v, h1, h2, h => by
    rw [hitF, List.length_cons, kids_cnt v]
    rw [flatK_len _ (fun q => cntV q.2) (kidsV v) (fun q hq => by
      obtain ⟨a, b, c, _⟩ := kids_ok h1 h2 hq
      exact hitF_len n _ q.2 a b (by omega))]
theorem plF_len {n : Nat} {p : List UInt8} {v : JV} (h1 : okV v) (h2 : twV v = false) (h : depV v ≤ n) : (plF n p v).length = cntV v := by
  unfold plF; rw [List.length_map, hitF_len n p v h1 h2 h]
/-- As many parts from the front. -/
theorem kids_take_cnt (v : JV) (k : Nat) : (((kidsV v).take k).map fun q => cntV q.2).sum + 1 ≤ cntV v := by
  rw [kids_cnt v]
  have e : (kidsV v) = (kidsV v).take k ++ (kidsV v).drop k := (List.take_append_drop _ _).symm
  have e2 : ((kidsV v).map fun q => cntV q.2).sum = (((kidsV v).take k).map fun q => cntV q.2).sum + (((kidsV v).drop k).map fun q => cntV q.2).sum := by
    conv => lhs; rw [e]
    rw [List.map_append, List.sum_append]
  omega
theorem flat_take {α β : Type} (f : α → List β) (l : List α) (k : Nat) (h : k < l.length) : (l.take (k + 1)).flatMap f = (l.take k).flatMap f ++ f l[k] := by
  rw [List.take_succ_eq_append_getElem h, List.flatMap_append]; simp
/-- Rows of different types lie apart. -/
theorem own_apart {w : World} {B B' e e' size size' n n' : Nat} {v v' : Value} {xs xs' : List Value} (h : w.ownsRow B e size v n xs) (h' : w.ownsRow B' e' size' v' n' xs') (hne : e ≠ e') : v.ownBlock = none ∨ v.ownBlock ≠ v'.ownBlock := by
  rcases h.2 with ⟨hv, _⟩ | ⟨g, cap, cur, hv, _, hg, _⟩
  · subst hv; exact .inl rfl
  · rcases h'.2 with ⟨hv', _⟩ | ⟨g', cap', cur', hv', _, hg', _⟩
    · subst hv; subst hv'; right; intro e; cases e
    · subst hv; subst hv'
      right
      intro e
      injection e with e
      simp only at e
      subst e
      rw [hg] at hg'
      injection hg' with e
      injection e with _ e
      exact hne e
end Go.Proofs.YtdbppklmmdmgjacGreatDoor
