import Derived.Test.YtcjajchfjoffnaaGreatDoorBe13
import Derived.Test.YtcjajchfjoffnaaGreatDoorBe11
import Derived.Test.YtcjajchfjoffnaaGreatDoorBe1
namespace Go.Proofs.YtcjajchfjoffnaaGreatDoor
open Go.RowKit

theorem childV_arr (l : JL) (t : List UInt8) : childV (.arr l) t = (idxT t).bind fun i => l.toL[i]? := rfl
theorem childV_obj (m : JM) (t : List UInt8) : childV (.obj m) t = (m.toL.find? fun q => q.1 == t).map (·.2) := rfl
theorem getV_app : ∀ (a b : List (List UInt8)) (v : JV), getV v (a ++ b) = (getV v a).bind fun u => getV u b
  | [], b, v => rfl
  | t :: r, b, v => by
    rw [List.cons_append, getV, getV]
    cases childV v t with
    | none => rfl
    | some u => simp only [Option.bind_some]; exact getV_app r b u
theorem getV_step {v u : JV} {ts : List (List UInt8)} {k : Nat} (h : k < ts.length) (hu : getV v (ts.take k) = some u) : getV v (ts.take (k + 1)) = childV u ts[k] := by
  rw [List.take_succ_eq_append_getElem h, getV_app, hu]
  simp only [Option.bind_some, getV]
  cases childV u ts[k] <;> rfl
theorem getV_stop {v u : JV} {ts : List (List UInt8)} {k : Nat} (h : k < ts.length) (hu : getV v (ts.take k) = some u) (hc : childV u ts[k] = none) : getV v ts = none := by
  have e : ts = ts.take (k + 1) ++ ts.drop (k + 1) := (List.take_append_drop _ _).symm
  rw [e, getV_app, getV_step h hu, hc]
  rfl
theorem okL_at : ∀ (l : JL), okL l → twL l = false → ∀ v ∈ l.toL, okV v ∧ twV v = false
  | .nil, _, _, v, hv => by simp [JL.toL] at hv
  | .cons x r, h, t, v, hv => by
    rw [okL] at h
    rw [twL, Bool.or_eq_false_iff] at t
    rw [JL.toL] at hv
    rcases List.mem_cons.1 hv with e | hv
    · rw [e]; exact ⟨h.1, t.1⟩
    · exact okL_at r h.2 t.2 v hv
theorem okM_at : ∀ (m : JM) (ks : List (List UInt8)), okM m → twM ks m = false → ∀ q ∈ m.toL, okV q.2 ∧ twV q.2 = false
  | .nil, _, _, _, q, hq => by simp [JM.toL] at hq
  | .cons k x r, ks, h, t, q, hq => by
    rw [okM] at h
    rw [twM] at t
    simp only [Bool.or_eq_false_iff] at t
    rw [JM.toL] at hq
    rcases List.mem_cons.1 hq with e | hq
    · rw [e]; exact ⟨h.2.1, t.1.1⟩
    · exact okM_at r (ks ++ [k]) h.2.2 t.2 q hq
/-- A part of a tree is as good as the tree, and no longer. -/
theorem childV_ok {v u : JV} {t : List UInt8} (h : childV v t = some u) (hok : okV v) (htw : twV v = false) : okV u ∧ twV u = false ∧ (ct u).length ≤ (ct v).length ∧ cntV u ≤ cntV v := by
  cases v with
  | arr l =>
    rw [okV] at hok
    rw [twV] at htw
    rw [childV_arr] at h
    cases hi : idxT t with
    | none => rw [hi] at h; simp at h
    | some i =>
      rw [hi] at h
      simp only [Option.bind_some] at h
      obtain ⟨hl, rfl⟩ := List.getElem?_eq_some_iff.1 h
      have hm := List.getElem_mem hl
      obtain ⟨a, b⟩ := okL_at l hok htw _ hm
      refine ⟨a, b, ?_, ?_⟩
      · have hct : (ct (.arr l)).length = hold (ctL l).length + nl (ctL l) := by
          show (mkA (ctL l)).length = _
          have := joinC_nl (ctL l)
          simp [mkA]; omega
        have n1 : (ct l.toL[i]).length ≤ nl (ctL l) := by have := sum_at ((ctL l).map List.length) i (by rw [ctL_map]; simpa using hl); simpa [nl, ctL_map] using this
        omega
      · rw [cntV, cntL_cl]
        have := sum_at (l.toL.map cntV) i (by simpa using hl)
        have c1 : cntV l.toL[i] ≤ cl l.toL := by simpa [cl] using this
        omega
  | obj m =>
    rw [okV] at hok
    rw [twV] at htw
    rw [childV_obj] at h
    cases hf : m.toL.find? fun q => q.1 == t with
    | none => rw [hf] at h; simp at h
    | some q =>
      rw [hf] at h
      simp at h
      subst h
      have hm := List.mem_of_find?_eq_some hf
      obtain ⟨a, b⟩ := okM_at m [] hok htw _ hm
      refine ⟨a, b, ?_, ?_⟩
      · have hct := ctObj_len m
        have n1 := sumf_at memN hm
        simp only [memN] at n1
        omega
      · rw [cntV, cntM_sum]
        have : cntV q.2 ≤ _ := sumf_at (fun q => cntV q.2) hm
        omega
  | nul => simp [childV] at h
  | tt => simp [childV] at h
  | ff => simp [childV] at h
  | num l => simp [childV] at h
  | str l => simp [childV] at h
theorem idxF_at : ∀ (cs : List (List UInt8)) (b j : Nat) (h : j < (idxF b cs).length), (idxF b cs)[j] = (decT (b + j), cs[j]'(by rw [idxF_len] at h; exact h))
  | [], b, j, h => by simp [idxF] at h
  | t :: r, b, 0, h => rfl
  | t :: r, b, j + 1, h => by
    simp only [idxF, List.getElem_cons_succ]
    rw [idxF_at r (b + 1) j]
    rw [show b + 1 + j = b + (j + 1) by omega]
/-- What is found among the parts is the part that the token leads to. -/
theorem child_found {v : JV} {t : List UInt8} (hok : okV v) (htw : twV v = false) (hi : (∃ l, v = .arr l) → (idxT t).isSome = true) {j : Nat} (hj : j < (partsV v).length) (hk : (partsV v)[j].1 = t) : ∃ u, childV v t = some u ∧ (partsV v)[j].2 = ct u := by
  cases v with
  | arr l =>
    have hp : partsV (.arr l) = idxF 0 (ctL l) := rfl
    have hs := hi ⟨l, rfl⟩
    cases hx : idxT t with
    | none => rw [hx] at hs; simp at hs
    | some i =>
      have e1 := idxF_at (ctL l) 0 j hj
      have e2 : (partsV (.arr l))[j] = (decT (0 + j), (ctL l)[j]'(by rw [hp, idxF_len] at hj; exact hj)) := e1
      rw [e2] at hk ⊢
      simp only [Nat.zero_add] at hk ⊢
      have : j = i := decT_inj (hk.trans (idxT_dec hx).symm)
      subst this
      have hl : j < l.toL.length := by rw [hp, idxF_len, ctL_map, List.length_map] at hj; exact hj
      refine ⟨l.toL[j], ?_, ?_⟩
      · rw [childV_arr, hx]; simp [hl]
      · simp [ctL_map]
  | obj m =>
    have hm : (partsV (.obj m))[j] ∈ ctM m := (isort_perm _).subset (List.getElem_mem hj)
    generalize (partsV (.obj m))[j] = p at *
    rw [ctM_map] at hm
    obtain ⟨q, hq, rfl⟩ := List.mem_map.1 hm
    simp only at hk
    rw [twV] at htw
    have hnd : (m.toL.map (·.1)).Nodup := by rw [← keysM_map]; exact (twM_nodup m [] htw).1
    refine ⟨q.2, ?_, rfl⟩
    rw [childV_obj]
    have hf : m.toL.find? (fun q => q.1 == t) = some q := by
      have : ∀ l : List (List UInt8 × JV), (l.map (·.1)).Nodup → q ∈ l → l.find? (fun q => q.1 == t) = some q := by
        intro l
        induction l with
        | nil => intro _ h; simp at h
        | cons x r ih =>
          intro hn hin
          rw [List.map_cons, List.nodup_cons] at hn
          rw [List.find?_cons]
          rcases List.mem_cons.1 hin with e | hin
          · subst e; simp [hk]
          · have hne : (x.1 == t) = false := by
              rw [beq_eq_false_iff_ne]
              intro e
              exact hn.1 (by rw [e, ← hk]; exact List.mem_map.2 ⟨q, hin, rfl⟩)
            rw [hne]
            exact ih hn.2 hin
      exact this m.toL hnd hq
    rw [hf]; rfl
  | nul => simp [partsV] at hj
  | tt => simp [partsV] at hj
  | ff => simp [partsV] at hj
  | num l => simp [partsV] at hj
  | str l => simp [partsV] at hj
theorem child_missed {v : JV} {t : List UInt8} (h : ∀ j (hj : j < (partsV v).length), (partsV v)[j].1 ≠ t) : childV v t = none := by
  cases v with
  | arr l =>
    rw [childV_arr]
    cases hx : idxT t with
    | none => rfl
    | some i =>
      simp only [Option.bind_some]
      by_cases hl : i < l.toL.length
      · exfalso
        have hj : i < (partsV (.arr l)).length := by show i < (idxF 0 (ctL l)).length; rw [idxF_len, ctL_map, List.length_map]; exact hl
        refine h i hj ?_
        have e1 : (partsV (.arr l))[i] = _ := idxF_at (ctL l) 0 i hj
        rw [e1]
        simp only [Nat.zero_add]
        exact idxT_dec hx
      · rw [List.getElem?_eq_none (by omega)]
  | obj m =>
    rw [childV_obj]
    have hf : m.toL.find? (fun q => q.1 == t) = none := by
      rw [List.find?_eq_none]
      intro q hq e
      have hm : (q.1, ct q.2) ∈ ctM m := by rw [ctM_map]; exact List.mem_map.2 ⟨q, hq, rfl⟩
      have hp : (q.1, ct q.2) ∈ partsV (.obj m) := (isort_perm _).mem_iff.2 hm
      obtain ⟨j, hj, he⟩ := List.getElem_of_mem hp
      refine h j hj ?_
      rw [he]
      simpa using e
    rw [hf]; rfl
  | nul => rfl
  | tt => rfl
  | ff => rfl
  | num l => rfl
  | str l => rfl
end Go.Proofs.YtcjajchfjoffnaaGreatDoor

namespace Go.Proofs.YtcjajchfjoffnaaGreatDoor
open Go.RowKit

def insJ (p : List UInt8 × JV) : List (List UInt8 × JV) → List (List UInt8 × JV)
  | [] => [p]
  | q :: r => if p.1 < q.1 then q :: insJ p r else p :: q :: r
def isortJ (l : List (List UInt8 × JV)) : List (List UInt8 × JV) := (l.foldl (fun acc p => insJ p acc) []).reverse
def idxJ : Nat → List JV → List (List UInt8 × JV)
  | _, [] => []
  | b, v :: r => (decT b, v) :: idxJ (b + 1) r
/-- The parts of a value, as trees. -/
def kidsV : JV → List (List UInt8 × JV)
  | .arr l => idxJ 0 l.toL
  | .obj m => isortJ m.toL
  | _ => []
def kt (q : List UInt8 × JV) : List UInt8 × List UInt8 := (q.1, ct q.2)
theorem insJ_kt (p : List UInt8 × JV) : ∀ l : List (List UInt8 × JV), (insJ p l).map kt = insR (kt p) (l.map kt)
  | [] => rfl
  | q :: r => by
    rw [insJ, List.map_cons, insR]
    by_cases h : p.1 < q.1
    · have h' : (kt p).1 < (kt q).1 := h
      rw [if_pos h, if_pos h', List.map_cons, insJ_kt p r]
    · have h' : ¬ (kt p).1 < (kt q).1 := h
      rw [if_neg h, if_neg h', List.map_cons, List.map_cons]
theorem foldJ_kt : ∀ (l acc : List (List UInt8 × JV)), (l.foldl (fun acc p => insJ p acc) acc).map kt = (l.map kt).foldl (fun acc p => insR p acc) (acc.map kt)
  | [], acc => rfl
  | p :: l, acc => by rw [List.foldl_cons, List.map_cons, List.foldl_cons, foldJ_kt l, insJ_kt]
theorem isortJ_kt (l : List (List UInt8 × JV)) : (isortJ l).map kt = isort (l.map kt) := by
  unfold isortJ isort
  rw [List.map_reverse, foldJ_kt]
  rfl
theorem insJ_perm (p : List UInt8 × JV) : ∀ l, (insJ p l).Perm (p :: l)
  | [] => List.Perm.refl _
  | q :: r => by
    unfold insJ
    split
    · exact ((insJ_perm p r).cons q).trans (List.Perm.swap p q r)
    · exact List.Perm.refl _
theorem foldJ_perm : ∀ (l acc : List (List UInt8 × JV)), (l.foldl (fun acc p => insJ p acc) acc).Perm (l ++ acc)
  | [], acc => List.Perm.refl _
  | p :: l, acc => by
    rw [List.foldl_cons]
    exact (foldJ_perm l _).trans (((insJ_perm p acc).append_left l).trans (List.perm_middle))
theorem isortJ_perm (l : List (List UInt8 × JV)) : (isortJ l).Perm l := by
  unfold isortJ
  have := foldJ_perm l []
  rw [List.append_nil] at this
  exact (List.reverse_perm _).trans this
theorem idxJ_kt : ∀ (vs : List JV) (b : Nat), (idxJ b vs).map kt = idxF b (vs.map ct)
  | [], _ => rfl
  | v :: r, b => by rw [idxJ, List.map_cons, List.map_cons, idxF, idxJ_kt r]; rfl
theorem idxJ_len : ∀ (vs : List JV) (b : Nat), (idxJ b vs).length = vs.length
  | [], _ => rfl
  | v :: r, b => by rw [idxJ, List.length_cons, List.length_cons, idxJ_len r]
theorem idxJ_at : ∀ (vs : List JV) (b j : Nat) (h : j < (idxJ b vs).length), (idxJ b vs)[j] = (decT (b + j), vs[j]'(by rw [idxJ_len] at h; exact h))
  | [], b, j, h => by simp [idxJ] at h
  | t :: r, b, 0, h => rfl
  | t :: r, b, j + 1, h => by
    simp only [idxJ, List.getElem_cons_succ]
    rw [idxJ_at r (b + 1) j]
    rw [show b + 1 + j = b + (j + 1) by omega]
theorem idxJ_snd : ∀ (vs : List JV) (b : Nat), (idxJ b vs).map (·.2) = vs
  | [], _ => rfl
  | v :: r, b => by rw [idxJ, List.map_cons, idxJ_snd r]
theorem parts_kids (v : JV) : partsV v = (kidsV v).map kt := by
  cases v with
  | arr l => show idxF 0 (ctL l) = (idxJ 0 l.toL).map kt; rw [idxJ_kt, ctL_map]
  | obj m => show isort (ctM m) = (isortJ m.toL).map kt; rw [isortJ_kt, ctM_map]; rfl
  | nul => rfl
  | tt => rfl
  | ff => rfl
  | num l => rfl
  | str l => rfl
theorem dlK_at : ∀ (vs : List JV) (v : JV), v ∈ vs → depV v ≤ dl vs
  | [], v, h => by simp at h
  | x :: r, v, h => by
    rw [dl]
    rcases List.mem_cons.1 h with rfl | h
    · omega
    · have := dlK_at r v h; omega
/-- What holds of a part. -/
theorem kids_ok {v : JV} (hok : okV v) (htw : twV v = false) {q : List UInt8 × JV} (hq : q ∈ kidsV v) : okV q.2 ∧ twV q.2 = false ∧ depV q.2 + 1 ≤ depV v ∧ q.1.length + (ct q.2).length + 1 ≤ (ct v).length := by
  cases v with
  | arr l =>
    rw [okV] at hok
    rw [twV] at htw
    have hq' : q ∈ idxJ 0 l.toL := hq
    obtain ⟨j, hj, rfl⟩ := List.getElem_of_mem hq'
    have hl : j < l.toL.length := by rw [idxJ_len] at hj; exact hj
    rw [idxJ_at]
    simp only [Nat.zero_add]
    have hm := List.getElem_mem hl
    obtain ⟨a, b⟩ := okL_at l hok htw _ hm
    have hd := dlK_at _ _ hm
    have e := depL_dl l
    have hct : (ct (.arr l)).length = hold (ctL l).length + nl (ctL l) := by
      show (mkA (ctL l)).length = _
      have := joinC_nl (ctL l)
      simp [mkA]; omega
    have n1 : (ct l.toL[j]).length ≤ nl (ctL l) := by have := sum_at ((ctL l).map List.length) j (by rw [ctL_map]; simpa using hl); simpa [nl, ctL_map] using this
    have n2 := decT_len j
    have n3 : (ctL l).length = l.toL.length := by rw [ctL_map, List.length_map]
    refine ⟨a, b, ?_, ?_⟩
    · rw [depV]; omega
    · rw [hct]; unfold hold; omega
  | obj m =>
    rw [okV] at hok
    rw [twV] at htw
    have hm : q ∈ m.toL := (isortJ_perm _).subset hq
    obtain ⟨a, b⟩ := okM_at m [] hok htw _ hm
    have hd := dlK_at (m.toL.map (·.2)) q.2 (List.mem_map.2 ⟨q, hm, rfl⟩)
    have e := depM_dl m
    have hct := ctObj_len m
    have n1 := sumf_at memN hm
    simp only [memN] at n1
    have n2 := quoted_ge q.1
    refine ⟨a, b, ?_, ?_⟩
    · rw [depV]; omega
    · omega
  | nul => simp [kidsV] at hq
  | tt => simp [kidsV] at hq
  | ff => simp [kidsV] at hq
  | num l => simp [kidsV] at hq
  | str l => simp [kidsV] at hq
theorem kids_cnt (v : JV) : cntV v = ((kidsV v).map fun q => cntV q.2).sum + 1 := by
  cases v with
  | arr l =>
    rw [cntV, cntL_cl]
    show cl l.toL + 1 = ((idxJ 0 l.toL).map fun q => cntV q.2).sum + 1
    have e : ((idxJ 0 l.toL).map fun q => cntV q.2) = ((idxJ 0 l.toL).map (·.2)).map cntV := by rw [List.map_map]; rfl
    rw [e, idxJ_snd]; rfl
  | obj m =>
    rw [cntV, cntM_sum]
    show _ = ((isortJ m.toL).map fun q => cntV q.2).sum + 1
    rw [((isortJ_perm m.toL).map fun q => cntV q.2).sum_nat]
  | nul => rfl
  | tt => rfl
  | ff => rfl
  | num l => rfl
  | str l => rfl
/-- A pointer, one token further. -/
def ptrN (p k : List UInt8) : List UInt8 := p ++ 47 :: esc k
theorem ptrN_len (p k : List UInt8) : (ptrN p k).length ≤ p.length + 1 + 2 * k.length := by
  have := esc_le k
  simp [ptrN]; omega
/-- The places of a tree with the texts that lie there. -/
def hitF : Nat → List UInt8 → JV → List (List UInt8 × List UInt8)
  | 0, _, _ => []
  | n + 1, p, v => (p, ct v) :: (kidsV v).flatMap fun q => hitF n (ptrN p q.1) q.2
def plF (n : Nat) (p : List UInt8) (v : JV) : List (List UInt8) := (hitF n p v).map (·.1)
theorem plF_eq (n : Nat) (p : List UInt8) (v : JV) : plF (n + 1) p v = p :: (kidsV v).flatMap fun q => plF n (ptrN p q.1) q.2 := by
  unfold plF
  rw [hitF, List.map_cons, List.map_flatMap]
theorem flatK_len {α β : Type} (f : α → List β) (g : α → Nat) : ∀ l : List α, (∀ x ∈ l, (f x).length = g x) → (l.flatMap f).length = (l.map g).sum
  | [], _ => rfl
  | x :: r, h => by
    rw [List.flatMap_cons, List.length_append, List.map_cons, List.sum_cons, h x List.mem_cons_self, flatK_len f g r (fun y hy => h y (List.mem_cons_of_mem _ hy))]
theorem hitF_len : ∀ (n : Nat) (p : List UInt8) (v : JV), okV v → twV v = false → depV v ≤ n → (hitF n p v).length = cntV v
  | 0, p, v, _, _, h => by have := (dep_cnt v).2; omega
  | n + 1, p, v, h1, h2, h => by
    rw [hitF, List.length_cons, kids_cnt v]
    rw [flatK_len _ (fun q => cntV q.2) (kidsV v) (fun q hq => by
      obtain ⟨a, b, c, _⟩ := kids_ok h1 h2 hq
      exact hitF_len n _ q.2 a b (by omega))]
theorem plF_len {n : Nat} {p : List UInt8} {v : JV} (h1 : okV v) (h2 : twV v = false) (h : depV v ≤ n) : (plF n p v).length = cntV v := by
  unfold plF; rw [List.length_map, hitF_len n p v h1 h2 h]
/-- As many parts from the front. -/
theorem kids_take_cnt (v : JV) (k : Nat) : (((kidsV v).take k).map fun q => cntV q.2).sum + 1 ≤ cntV v := by
  rw [kids_cnt v]
  have e : (kidsV v) = (kidsV v).take k ++ (kidsV v).drop k := (List.take_append_drop _ _).symm
  have e2 : ((kidsV v).map fun q => cntV q.2).sum = (((kidsV v).take k).map fun q => cntV q.2).sum + (((kidsV v).drop k).map fun q => cntV q.2).sum := by
    conv => lhs; rw [e]
    rw [List.map_append, List.sum_append]
  omega
theorem flat_take {α β : Type} (f : α → List β) (l : List α) (k : Nat) (h : k < l.length) : (l.take (k + 1)).flatMap f = (l.take k).flatMap f ++ f l[k] := by
  rw [List.take_succ_eq_append_getElem h, List.flatMap_append]; simp
/-- Rows of different types lie apart. -/
theorem own_apart {w : World} {B B' e e' size size' n n' : Nat} {v v' : Value} {xs xs' : List Value} (h : w.ownsRow B e size v n xs) (h' : w.ownsRow B' e' size' v' n' xs') (hne : e ≠ e') : v.ownBlock = none ∨ v.ownBlock ≠ v'.ownBlock := by
  rcases h.2 with ⟨hv, _⟩ | ⟨g, cap, cur, hv, _, hg, _⟩
  · subst hv; exact .inl rfl
  · rcases h'.2 with ⟨hv', _⟩ | ⟨g', cap', cur', hv', _, hg', _⟩
    · subst hv; subst hv'; right; intro e; cases e
    · subst hv; subst hv'
      right
      intro e
      injection e with e
      simp only at e
      subst e
      rw [hg] at hg'
      injection hg' with e
      injection e with _ e
      exact hne e
end Go.Proofs.YtcjajchfjoffnaaGreatDoor

namespace Go.Proofs.YtcjajchfjoffnaaGreatDoor
open Go.RowKit

/-- A number's canonical text. -/
def numC (l : List UInt8) : Prop := ∃ (sg ds : List UInt8) (d : UInt8), l = sg ++ d :: ds ∧ (sg = [] ∨ sg = [45]) ∧ isDg d.toNat = true ∧ (∀ b ∈ ds, isDg b.toNat = true) ∧ (d.toNat = 48 → ds = [] ∧ sg = [])
mutual
/-- A tree that its canonical text is read as, when its members are in order. -/
def rdV : JV → Prop
  | .nul => True
  | .tt => True
  | .ff => True
  | .num l => numC l
  | .str l => Lib.validD l = true
  | .arr l => rdL l
  | .obj m => rdM m
def rdL : JL → Prop
  | .nil => True
  | .cons v r => rdV v ∧ rdL r
def rdM : JM → Prop
  | .nil => True
  | .cons k v r => Lib.validD k = true ∧ rdV v ∧ rdM r
end
mutual
/-- Whether the members are in order, everywhere. -/
def srV : JV → Prop
  | .arr l => srL l
  | .obj m => srM m ∧ isort (ctM m) = ctM m
  | _ => True
def srL : JL → Prop
  | .nil => True
  | .cons v r => srV v ∧ srL r
def srM : JM → Prop
  | .nil => True
  | .cons _ v r => srV v ∧ srM r
end
theorem numC_ok {l : List UInt8} (h : numC l) : ∃ (c : UInt8) (r : List UInt8), l = c :: r ∧ (c.toNat = 45 ∨ isDg c.toNat = true) ∧ ∀ b ∈ r, isDg b.toNat = true := by
  obtain ⟨sg, ds, d, rfl, hs, hd, hds, _⟩ := h
  rcases hs with rfl | rfl
  · exact ⟨d, ds, rfl, .inr hd, hds⟩
  · refine ⟨45, d :: ds, rfl, .inl rfl, fun b hb => ?_⟩
    rcases List.mem_cons.1 hb with rfl | hb
    · exact hd
    · exact hds b hb
mutual
theorem rd_ok : ∀ v : JV, rdV v → okV v
  | .nul, _ => by rw [okV]; trivial
  | .tt, _ => by rw [okV]; trivial
  | .ff, _ => by rw [okV]; trivial
  | .num l, h => by rw [rdV] at h; rw [okV]; exact numC_ok h
  | .str l, h => by rw [rdV] at h; rw [okV]; exact h
  | .arr l, h => by rw [rdV] at h; rw [okV]; exact rd_okL l h
  | .obj m, h => by rw [rdV] at h; rw [okV]; exact rd_okM m h
theorem rd_okL : ∀ l : JL, rdL l → okL l
  | .nil, _ => by rw [okL]; trivial
  | .cons v r, h => by rw [rdL] at h; rw [okL]; exact ⟨rd_ok v h.1, rd_okL r h.2⟩
theorem rd_okM : ∀ m : JM, rdM m → okM m
  | .nil, _ => by rw [okM]; trivial
  | .cons k v r, h => by rw [rdM] at h; rw [okM]; exact ⟨h.1, rd_ok v h.2.1, rd_okM r h.2.2⟩
end
/-- Digits that end before something else. -/
theorem dg_run {T : ByteArray} : ∀ (ds m : List UInt8) (i : Nat), T.data.toList.drop i = ds ++ m → (∀ b ∈ ds, isDg b.toNat = true) → Stops m → dg T i = i + ds.length
  | [], m, i, h, _, hm => by
    rcases hm with rfl | ⟨c, r, rfl, hc⟩
    · rw [List.nil_append] at h
      have : T.size ≤ i := by
        have := List.drop_eq_nil_iff.1 h
        rw [data_len] at this; exact this
      rw [dg_off (by rw [bt_out T i this]; decide)]; rfl
    · obtain ⟨_, hb, _⟩ := at_head (T := T) h
      rw [dg_off (by rw [hb, isDg_iff]; omega)]; rfl
  | d :: ds, m, i, h, hd, hm => by
    obtain ⟨_, hb, h2⟩ := at_head (T := T) h
    rw [dg_on (by rw [hb]; exact hd d List.mem_cons_self), dg_run ds m (i + 1) h2 (fun b hb => hd b (List.mem_cons_of_mem _ hb)) hm, List.length_cons]
    omega
theorem cutB_app {T : ByteArray} {i : Nat} {l m : List UInt8} (h : T.data.toList.drop i = l ++ m) : cutB T i (i + l.length) = l := by
  unfold cutB
  rw [h, show i + l.length - i = l.length by omega, List.take_left]
theorem nm_at {T : ByteArray} {i : Nat} {l m : List UInt8} (hn : numC l) (h : T.data.toList.drop i = l ++ m) (hm : Stops m) : nm T i = some (l, i + l.length) := by
  have hc := cutB_app h
  obtain ⟨sg, ds, d, rfl, hs, hd, hds, h0⟩ := hn
  have hdv := isDg_iff.1 hd
  have key : ∀ k, nmD T i = k → T.data.toList.drop k = d :: (ds ++ m) → k + 1 + ds.length = i + (sg ++ d :: ds).length → nm T i = some (sg ++ d :: ds, i + (sg ++ d :: ds).length) := by
    intro k e1 e2 e3
    obtain ⟨_, hb, h2⟩ := at_head (T := T) e2
    have e4 : nmE T i = i + (sg ++ d :: ds).length := by
      unfold nmE
      rw [e1, hb]
      split
      · rename_i hz
        obtain ⟨q1, q2⟩ := h0 hz
        subst q1
        simp only [List.length_nil] at e3
        omega
      · rw [dg_on (by rw [hb]; exact hd), dg_run ds m (k + 1) h2 hds hm]; omega
    unfold nm
    rw [e1, hb, if_pos hd, e4, hc]
    unfold norm0
    rw [if_neg]
    intro e
    rcases hs with rfl | rfl
    · rw [List.nil_append] at e; injection e with e _; subst e; simp [isDg] at hd
    · simp only [List.cons_append, List.nil_append, List.cons.injEq, true_and] at e
      have : d.toNat = 48 := by rw [e.1]; rfl
      have := (h0 this).2
      cases this
  rcases hs with rfl | rfl
  · rw [List.nil_append] at h
    rw [List.cons_append] at h
    obtain ⟨_, hb, h2⟩ := at_head (T := T) h
    refine key i ?_ h (by simp; omega)
    unfold nmD; rw [if_neg (by omega)]
  · rw [List.cons_append, List.nil_append, List.cons_append] at h
    obtain ⟨_, hb, h2⟩ := at_head (T := T) h
    refine key (i + 1) ?_ h2 (by simp; omega)
    unfold nmD; rw [if_pos (by rw [hb]; rfl)]
/-- The first byte of a canonical text. -/
theorem ct_first {v : JV} (h : okV v) : ∃ (c : UInt8) (r : List UInt8), ct v = c :: r ∧ c.toNat ≠ 32 ∧ c.toNat ≠ 9 ∧ c.toNat ≠ 10 ∧ c.toNat ≠ 13 ∧ c.toNat ≠ 93 ∧ c.toNat ≠ 125 := by
  cases v with
  | nul => exact ⟨_, _, rfl, by decide, by decide, by decide, by decide, by decide, by decide⟩
  | tt => exact ⟨_, _, rfl, by decide, by decide, by decide, by decide, by decide, by decide⟩
  | ff => exact ⟨_, _, rfl, by decide, by decide, by decide, by decide, by decide, by decide⟩
  | num l =>
    rw [okV] at h
    obtain ⟨c, r, rfl, hc, _⟩ := h
    have : c.toNat = 45 ∨ (48 ≤ c.toNat ∧ c.toNat ≤ 57) := hc.imp id isDg_iff.1
    exact ⟨c, r, rfl, by omega, by omega, by omega, by omega, by omega, by omega⟩
  | str l => exact ⟨34, _, rfl, by decide, by decide, by decide, by decide, by decide, by decide⟩
  | arr l => exact ⟨91, _, rfl, by decide, by decide, by decide, by decide, by decide, by decide⟩
  | obj m => exact ⟨123, _, rfl, by decide, by decide, by decide, by decide, by decide, by decide⟩
theorem sk_here {T : ByteArray} {i : Nat} {c : UInt8} {r : List UInt8} (h : T.data.toList.drop i = c :: r) (h1 : c.toNat ≠ 32) (h2 : c.toNat ≠ 9) (h3 : c.toNat ≠ 10) (h4 : c.toNat ≠ 13) : sk T i = i := by
  obtain ⟨_, hb, _⟩ := at_head (T := T) h
  exact sk_off (by omega)
theorem stops_more (cs : List (List UInt8)) (c : UInt8) (m : List UInt8) (hc : c.toNat = 93 ∨ c.toNat = 125) : Stops (joinT cs ++ c :: m) := by
  cases cs with
  | nil => exact .inr ⟨c, m, rfl, .inr hc⟩
  | cons t r => exact .inr ⟨44, _, rfl, .inl rfl⟩
mutual
/-- A canonical text is read as the tree that it was written of. -/
theorem rd_at {T : ByteArray} : ∀ v : JV, rdV v → srV v → ∀ i m, T.data.toList.drop i = ct v ++ m → Stops m → val T i = some (v, i + (ct v).length)
  | .nul, _, _, i, m, h, _ => by
    have h0 : T.data.toList.drop i = 110 :: 117 :: 108 :: 108 :: m := h
    obtain ⟨_, b0, h1⟩ := at_head (T := T) h0
    obtain ⟨_, b1, h2⟩ := at_head (T := T) h1
    obtain ⟨_, b2, h3⟩ := at_head (T := T) h2
    obtain ⟨_, b3, _⟩ := at_head (T := T) h3
    rw [val_else (by rw [b0]; decide) (by rw [b0]; decide) (by rw [b0]; decide), if_pos (by unfold wNull; rw [b0, b1, b2, b3]; rfl)]
    rfl
  | .tt, _, _, i, m, h, _ => by
    have h0 : T.data.toList.drop i = 116 :: 114 :: 117 :: 101 :: m := h
    obtain ⟨_, b0, h1⟩ := at_head (T := T) h0
    obtain ⟨_, b1, h2⟩ := at_head (T := T) h1
    obtain ⟨_, b2, h3⟩ := at_head (T := T) h2
    obtain ⟨_, b3, _⟩ := at_head (T := T) h3
    rw [val_else (by rw [b0]; decide) (by rw [b0]; decide) (by rw [b0]; decide), if_neg (by unfold wNull; rw [b0]; simp), if_pos (by unfold wTrue; rw [b0, b1, b2, b3]; rfl)]
    rfl
  | .ff, _, _, i, m, h, _ => by
    have h0 : T.data.toList.drop i = 102 :: 97 :: 108 :: 115 :: 101 :: m := h
    obtain ⟨_, b0, h1⟩ := at_head (T := T) h0
    obtain ⟨_, b1, h2⟩ := at_head (T := T) h1
    obtain ⟨_, b2, h3⟩ := at_head (T := T) h2
    obtain ⟨_, b3, h4⟩ := at_head (T := T) h3
    obtain ⟨_, b4, _⟩ := at_head (T := T) h4
    rw [val_else (by rw [b0]; decide) (by rw [b0]; decide) (by rw [b0]; decide), if_neg (by unfold wNull; rw [b0]; simp), if_neg (by unfold wTrue; rw [b0]; simp), if_pos (by unfold wFalse; rw [b0, b1, b2, b3, b4]; rfl)]
    rfl
  | .num l, hr, _, i, m, h, hm => by
    rw [rdV] at hr
    have hn := nm_at hr h hm
    obtain ⟨c, r, rfl, hc, _⟩ := numC_ok hr
    obtain ⟨_, b0, _⟩ := at_head (T := T) (c := c) (m := r ++ m) h
    have : c.toNat = 45 ∨ (48 ≤ c.toNat ∧ c.toNat ≤ 57) := hc.imp id isDg_iff.1
    rw [val_else (by omega) (by omega) (by omega), if_neg (by unfold wNull; simp; omega), if_neg (by unfold wTrue; simp; omega), if_neg (by unfold wFalse; simp; omega), hn]
    rfl
  | .str l, hr, _, i, m, h, _ => by
    rw [rdV] at hr
    obtain ⟨_, b0, _⟩ := at_head (T := T) (c := 34) (m := qs l ++ [34] ++ m) (by rw [h]; simp [ct, quoted])
    rw [val_str (by rw [b0]; rfl), strQ_at l T m hr i h]
    rfl
  | .arr .nil, _, _, i, m, h, _ => by
    have h0 : T.data.toList.drop i = 91 :: 93 :: m := h
    obtain ⟨_, b0, h1⟩ := at_head (T := T) h0
    obtain ⟨_, b1, _⟩ := at_head (T := T) h1
    rw [val_arr (by rw [b0]; rfl), sk_here h1 (by decide) (by decide) (by decide) (by decide), if_pos (by rw [b1]; rfl)]
    rfl
  | .arr (.cons v r), hr, hs, i, m, h, hm => by
    rw [rdV] at hr
    rw [srV] at hs
    have h0 : T.data.toList.drop i = 91 :: (joinC (ctL (.cons v r)) ++ 93 :: m) := by rw [h]; simp [ct, mkA]
    obtain ⟨_, b0, h1⟩ := at_head (T := T) h0
    have hrv := hr
    rw [rdL] at hrv
    obtain ⟨c, q, e, c1, c2, c3, c4, c5, _⟩ := ct_first (rd_ok v hrv.1)
    have h1' : T.data.toList.drop (i + 1) = c :: (q ++ (joinT (ctL r) ++ 93 :: m)) := by rw [h1, ctL, joinC, e]; simp
    obtain ⟨_, b1, _⟩ := at_head (T := T) h1'
    rw [val_arr (by rw [b0]; rfl), sk_here h1' c1 c2 c3 c4, if_neg (by rw [b1]; exact c5), rd_atL v r hr hs (i + 1) m h1]
    have e2 : (ct (.arr (.cons v r))).length = (joinC (ctL (.cons v r))).length + 2 := by simp [ct, mkA]
    rw [e2]
    simp only [Option.map_some, Option.some.injEq, Prod.mk.injEq, true_and]
    omega
  | .obj .nil, _, _, i, m, h, _ => by
    have h0 : T.data.toList.drop i = 123 :: 125 :: m := h
    obtain ⟨_, b0, h1⟩ := at_head (T := T) h0
    obtain ⟨_, b1, _⟩ := at_head (T := T) h1
    rw [val_obj (by rw [b0]; rfl), sk_here h1 (by decide) (by decide) (by decide) (by decide), if_pos (by rw [b1]; rfl)]
    rfl
  | .obj (.cons k v r), hr, hs, i, m, h, hm => by
    rw [rdV] at hr
    rw [srV] at hs
    have hc : ct (.obj (.cons k v r)) = 123 :: (joinC ((ctM (.cons k v r)).map memT) ++ [125]) := by rw [ct, hs.2]; rfl
    have h0 : T.data.toList.drop i = 123 :: (joinC ((ctM (.cons k v r)).map memT) ++ 125 :: m) := by rw [h, hc]; simp
    obtain ⟨_, b0, h1⟩ := at_head (T := T) h0
    have h1' : T.data.toList.drop (i + 1) = 34 :: (qs k ++ [34] ++ 58 :: ct v ++ (joinT ((ctM r).map memT) ++ 125 :: m)) := by rw [h1, ctM, List.map_cons, joinC]; simp [memT, quoted]
    obtain ⟨_, b1, _⟩ := at_head (T := T) h1'
    rw [val_obj (by rw [b0]; rfl), sk_here h1' (by decide) (by decide) (by decide) (by decide), if_neg (by rw [b1]; decide), rd_atM k v r hr hs.1 (i + 1) m h1]
    rw [hc]
    simp only [Option.map_some, Option.some.injEq, Prod.mk.injEq, true_and, List.length_cons, List.length_append, List.length_nil]
    omega
termination_by v => SizeOf.sizeOf v
decreasing_by all_goals simp_wf; all_goals omega
theorem rd_atL {T : ByteArray} : ∀ (v : JV) (r : JL), rdL (.cons v r) → srL (.cons v r) → ∀ i m, T.data.toList.drop i = joinC (ctL (.cons v r)) ++ 93 :: m → elems T i = some (.cons v r, i + (joinC (ctL (.cons v r))).length + 1)
  | v, .nil, hr, hs, i, m, h => by
    rw [rdL] at hr
    rw [srL] at hs
    have h' : T.data.toList.drop i = ct v ++ 93 :: m := by rw [h]; simp [ctL, joinC, joinT]
    have hv := rd_at v hr.1 hs.1 i (93 :: m) h' (.inr ⟨93, m, rfl, .inr (.inl rfl)⟩)
    have h2 : T.data.toList.drop (i + (ct v).length) = 93 :: m := drop_past h'
    obtain ⟨_, b2, _⟩ := at_head (T := T) h2
    rw [elems_eq, hv]
    simp only [Option.bind_some]
    rw [sk_here h2 (by decide) (by decide) (by decide) (by decide), if_pos (by rw [b2]; rfl)]
    simp [ctL, joinC, joinT]
  | v, .cons u r, hr, hs, i, m, h => by
    rw [rdL] at hr
    rw [srL] at hs
    have h' : T.data.toList.drop i = ct v ++ 44 :: (joinC (ctL (.cons u r)) ++ 93 :: m) := by rw [h]; simp [ctL, joinC, joinT]
    have hv := rd_at v hr.1 hs.1 i _ h' (.inr ⟨44, _, rfl, .inl rfl⟩)
    have h2 : T.data.toList.drop (i + (ct v).length) = 44 :: (joinC (ctL (.cons u r)) ++ 93 :: m) := drop_past h'
    obtain ⟨_, b2, h3⟩ := at_head (T := T) h2
    have hru := hr.2
    rw [rdL] at hru
    obtain ⟨c, q, e, c1, c2, c3, c4, _, _⟩ := ct_first (rd_ok u hru.1)
    have h3' : T.data.toList.drop (i + (ct v).length + 1) = c :: (q ++ (joinT (ctL r) ++ 93 :: m)) := by rw [h3, ctL, joinC, e]; simp
    rw [elems_eq, hv]
    simp only [Option.bind_some]
    rw [sk_here h2 (by decide) (by decide) (by decide) (by decide), if_neg (by rw [b2]; decide), if_pos (by rw [b2]; rfl), sk_here h3' c1 c2 c3 c4, rd_atL u r hr.2 hs.2 _ m h3]
    have e2 : (joinC (ctL (.cons v (.cons u r)))).length = (ct v).length + 1 + (joinC (ctL (.cons u r))).length := by simp [ctL, joinC, joinT]; omega
    rw [e2]
    simp only [Option.map_some, Option.some.injEq, Prod.mk.injEq, true_and]
    omega
termination_by v r => SizeOf.sizeOf v + SizeOf.sizeOf r
decreasing_by all_goals simp_wf; all_goals omega
theorem rd_atM {T : ByteArray} : ∀ (k : List UInt8) (v : JV) (r : JM), rdM (.cons k v r) → srM (.cons k v r) → ∀ i m, T.data.toList.drop i = joinC ((ctM (.cons k v r)).map memT) ++ 125 :: m → mems T i = some (.cons k v r, i + (joinC ((ctM (.cons k v r)).map memT)).length + 1)
  | k, v, .nil, hr, hs, i, m, h => by
    rw [rdM] at hr
    rw [srM] at hs
    have h' : T.data.toList.drop i = quoted k ++ (58 :: (ct v ++ 125 :: m)) := by rw [h]; simp [ctM, joinC, joinT, memT]
    have hk := strQ_at k T _ hr.1 i h'
    have h2 : T.data.toList.drop (i + (quoted k).length) = 58 :: (ct v ++ 125 :: m) := drop_past h'
    obtain ⟨_, b2, h3⟩ := at_head (T := T) h2
    obtain ⟨c, q, e, c1, c2, c3, c4, _, _⟩ := ct_first (rd_ok v hr.2.1)
    have h3' : T.data.toList.drop (i + (quoted k).length + 1) = c :: (q ++ 125 :: m) := by rw [h3, e]; simp
    have hv := rd_at v hr.2.1 hs.1 (i + (quoted k).length + 1) (125 :: m) h3 (.inr ⟨125, m, rfl, .inr (.inr rfl)⟩)
    have h4 : T.data.toList.drop (i + (quoted k).length + 1 + (ct v).length) = 125 :: m := drop_past h3
    obtain ⟨_, b4, _⟩ := at_head (T := T) h4
    rw [mems_eq, hk]
    simp only [Option.bind_some]
    rw [sk_here h2 (by decide) (by decide) (by decide) (by decide), if_pos (by rw [b2]; rfl), sk_here h3' c1 c2 c3 c4, hv]
    simp only [Option.bind_some]
    rw [sk_here h4 (by decide) (by decide) (by decide) (by decide), if_pos (by rw [b4]; rfl)]
    have e2 : (joinC ((ctM (.cons k v .nil)).map memT)).length = (quoted k).length + 1 + (ct v).length := by simp [ctM, joinC, joinT, memT]; omega
    rw [e2]
    simp only [Option.some.injEq, Prod.mk.injEq, true_and]
    omega
  | k, v, .cons k' u r, hr, hs, i, m, h => by
    rw [rdM] at hr
    rw [srM] at hs
    have h' : T.data.toList.drop i = quoted k ++ (58 :: (ct v ++ 44 :: (joinC ((ctM (.cons k' u r)).map memT) ++ 125 :: m))) := by rw [h]; simp [ctM, joinC, joinT, memT]
    have hk := strQ_at k T _ hr.1 i h'
    have h2 := drop_past h'
    obtain ⟨_, b2, h3⟩ := at_head (T := T) h2
    obtain ⟨c, q, e, c1, c2, c3, c4, _, _⟩ := ct_first (rd_ok v hr.2.1)
    have h3' : T.data.toList.drop (i + (quoted k).length + 1) = c :: (q ++ 44 :: (joinC ((ctM (.cons k' u r)).map memT) ++ 125 :: m)) := by rw [h3, e]; simp
    have hv := rd_at v hr.2.1 hs.1 (i + (quoted k).length + 1) _ h3 (.inr ⟨44, _, rfl, .inl rfl⟩)
    have h4 := drop_past h3
    obtain ⟨_, b4, h5⟩ := at_head (T := T) h4
    have h5' : T.data.toList.drop (i + (quoted k).length + 1 + (ct v).length + 1) = 34 :: (qs k' ++ [34] ++ 58 :: ct u ++ (joinT ((ctM r).map memT) ++ 125 :: m)) := by rw [h5, ctM, List.map_cons, joinC]; simp [memT, quoted]
    rw [mems_eq, hk]
    simp only [Option.bind_some]
    rw [sk_here h2 (by decide) (by decide) (by decide) (by decide), if_pos (by rw [b2]; rfl), sk_here h3' c1 c2 c3 c4, hv]
    simp only [Option.bind_some]
    rw [sk_here h4 (by decide) (by decide) (by decide) (by decide), if_neg (by rw [b4]; decide), if_pos (by rw [b4]; rfl), sk_here h5' (by decide) (by decide) (by decide) (by decide), rd_atM k' u r hr.2.2 hs.2 _ m h5]
    have e2 : (joinC ((ctM (.cons k v (.cons k' u r))).map memT)).length = (quoted k).length + 1 + (ct v).length + 1 + (joinC ((ctM (.cons k' u r)).map memT)).length := by simp [ctM, joinC, joinT, memT]; omega
    rw [e2]
    simp only [Option.map_some, Option.some.injEq, Prod.mk.injEq, true_and]
    omega
termination_by _ v r => SizeOf.sizeOf v + SizeOf.sizeOf r
decreasing_by all_goals simp_wf; all_goals omega
end
/-- The whole text. -/
theorem doc_ct {v : JV} (h : rdV v) (hs : srV v) : docR (strOf (ct v)) = some v := by
  obtain ⟨c, r, e, c1, c2, c3, c4, _, _⟩ := ct_first (rd_ok v h)
  have h0 : (strOf (ct v)).data.toList.drop 0 = ct v ++ [] := by rw [strOf_toList]; simp
  have h1 : (strOf (ct v)).data.toList.drop 0 = c :: r := by rw [strOf_toList]; simpa using e
  unfold docR
  rw [sk_here h1 c1 c2 c3 c4, rd_at v h hs 0 [] h0 (.inl rfl)]
  simp only [Option.bind_some, Nat.zero_add]
  rw [sk_past (by rw [strOf_size]; exact Nat.le_refl _), if_pos (strOf_size _).symm]
end Go.Proofs.YtcjajchfjoffnaaGreatDoor

namespace Go.Proofs.YtcjajchfjoffnaaGreatDoor
open Go.RowKit

theorem fold_id : ∀ (l acc : List (List UInt8 × List UInt8)), l.Pairwise (fun a b => a.1 ≤ b.1) → (∀ a ∈ acc, ∀ b ∈ l, a.1 ≤ b.1) → l.foldl (fun acc p => insR p acc) acc = l.reverse ++ acc
  | [], acc, _, _ => rfl
  | p :: l, acc, h, ha => by
    rw [List.pairwise_cons] at h
    have e : insR p acc = p :: acc := by
      cases acc with
      | nil => rfl
      | cons q r => rw [insR, if_neg (List.not_lt.2 (ha q List.mem_cons_self p List.mem_cons_self))]
    rw [List.foldl_cons, e, fold_id l (p :: acc) h.2 (fun a hm b hb => by
      rcases List.mem_cons.1 hm with rfl | hm
      · exact h.1 b hb
      · exact ha a hm b (List.mem_cons_of_mem _ hb))]
    simp
theorem isort_id {l : List (List UInt8 × List UInt8)} (h : l.Pairwise (fun a b => a.1 ≤ b.1)) : isort l = l := by
  unfold isort
  rw [fold_id l [] h (fun a ha => by simp at ha)]
  simp
theorem isort_twice (l : List (List UInt8 × List UInt8)) : isort (isort l) = isort l := isort_id (isort_up l)

def JM.ofL : List (List UInt8 × JV) → JM
  | [] => .nil
  | (k, v) :: r => .cons k v (JM.ofL r)
theorem JM.toL_ofL : ∀ l : List (List UInt8 × JV), (JM.ofL l).toL = l
  | [] => rfl
  | (k, v) :: r => by rw [JM.ofL, JM.toL, JM.toL_ofL r]
theorem rdM_iff : ∀ m : JM, rdM m ↔ ∀ q ∈ m.toL, Lib.validD q.1 = true ∧ rdV q.2
  | .nil => by rw [rdM]; simp [JM.toL]
  | .cons k v r => by rw [rdM, rdM_iff r, JM.toL]; simp [and_assoc]
theorem srM_iff : ∀ m : JM, srM m ↔ ∀ q ∈ m.toL, srV q.2
  | .nil => by rw [srM]; simp [JM.toL]
  | .cons k v r => by rw [srM, srM_iff r, JM.toL]; simp
theorem bigM_iff : ∀ m : JM, bigM m = true ↔ ∃ q ∈ m.toL, bigV q.2 = true
  | .nil => by rw [bigM]; simp [JM.toL]
  | .cons k v r => by rw [bigM, Bool.or_eq_true, bigM_iff r, JM.toL]; simp
theorem twM_iff : ∀ (m : JM) (ks : List (List UInt8)), twM ks m = false ↔ (∀ q ∈ m.toL, twV q.2 = false) ∧ (m.toL.map (·.1)).Nodup ∧ ∀ q ∈ m.toL, q.1 ∉ ks
  | .nil, ks => by rw [twM]; simp [JM.toL]
  | .cons k v r, ks => by
    rw [twM, JM.toL]
    simp only [Bool.or_eq_false_iff, twM_iff r, List.map_cons, List.nodup_cons, List.mem_cons, List.contains_eq_mem, decide_eq_false_iff_not, List.mem_append, List.mem_map]
    constructor
    · rintro ⟨⟨h1, h2⟩, h3, h4, h5⟩
      refine ⟨?_, ⟨?_, h4⟩, ?_⟩
      · rintro q (rfl | hq)
        · exact h1
        · exact h3 q hq
      · rintro ⟨q, hq, e⟩
        exact h5 q hq (.inr (by simp [e]))
      · rintro q (rfl | hq)
        · exact h2
        · exact fun hk => h5 q hq (.inl hk)
    · rintro ⟨h1, ⟨h2, h3⟩, h4⟩
      refine ⟨⟨h1 _ (.inl rfl), h4 _ (.inl rfl)⟩, fun q hq => h1 q (.inr hq), h3, fun q hq hk => ?_⟩
      rcases hk with hk | hk
      · exact h4 q (.inr hq) hk
      · simp only [List.not_mem_nil, or_false] at hk
        exact h2 ⟨q, hq, hk⟩
theorem dl_iff : ∀ (l : List JV) (n : Nat), dl l ≤ n ↔ ∀ v ∈ l, depV v ≤ n
  | [], n => by simp [dl]
  | v :: r, n => by rw [dl, Nat.max_le, dl_iff r]; simp
theorem dl_perm {a b : List JV} (h : a.Perm b) : dl a = dl b := by
  have h1 := (dl_iff b (dl b)).1 (Nat.le_refl _)
  have h2 := (dl_iff a (dl a)).1 (Nat.le_refl _)
  exact Nat.le_antisymm ((dl_iff _ _).2 fun v hv => h1 v (h.subset hv)) ((dl_iff _ _).2 fun v hv => h2 v (h.symm.subset hv))
/-- Members put in order. -/
def srtM (m : JM) : JM := JM.ofL (isortJ m.toL)
theorem srtM_perm (m : JM) : (srtM m).toL.Perm m.toL := by unfold srtM; rw [JM.toL_ofL]; exact isortJ_perm _
theorem srtM_ct (m : JM) : ctM (srtM m) = isort (ctM m) := by
  have e1 : ctM m = m.toL.map kt := ctM_map m
  have e2 : ctM (srtM m) = (srtM m).toL.map kt := ctM_map _
  rw [e1, e2]
  unfold srtM
  rw [JM.toL_ofL, isortJ_kt]
theorem bool_of {a b : Bool} (h : a = false ↔ b = false) : a = b := by
  cases a <;> cases b <;> simp at h <;> rfl
theorem srtM_facts (m : JM) : (rdM m → rdM (srtM m)) ∧ (srM m → srM (srtM m)) ∧ depM (srtM m) = depM m ∧ cntM (srtM m) = cntM m ∧ bigM (srtM m) = bigM m ∧ twM [] (srtM m) = twM [] m := by
  have p := srtM_perm m
  refine ⟨fun h => ?_, fun h => ?_, ?_, ?_, ?_, ?_⟩
  · rw [rdM_iff] at *; exact fun q hq => h q (p.subset hq)
  · rw [srM_iff] at *; exact fun q hq => h q (p.subset hq)
  · rw [depM_dl, depM_dl]; exact dl_perm (p.map _)
  · rw [cntM_sum, cntM_sum]; exact (p.map _).sum_nat
  · have : bigM (srtM m) = true ↔ bigM m = true := by
      rw [bigM_iff, bigM_iff]
      exact ⟨fun ⟨q, h1, h2⟩ => ⟨q, p.subset h1, h2⟩, fun ⟨q, h1, h2⟩ => ⟨q, p.symm.subset h1, h2⟩⟩
    exact Bool.eq_iff_iff.2 this
  · refine bool_of ?_
    rw [twM_iff, twM_iff]
    exact ⟨fun ⟨h1, h2, h3⟩ => ⟨fun q hq => h1 q (p.symm.subset hq), ((p.map _).nodup_iff).1 h2, fun q hq => h3 q (p.symm.subset hq)⟩, fun ⟨h1, h2, h3⟩ => ⟨fun q hq => h1 q (p.subset hq), ((p.map _).nodup_iff).2 h2, fun q hq => h3 q (p.subset hq)⟩⟩

mutual
/-- The tree that a canonical text is read as. -/
def nv : JV → JV
  | .arr l => .arr (nvL l)
  | .obj m => .obj (srtM (nvM m))
  | .nul => .nul
  | .tt => .tt
  | .ff => .ff
  | .num l => .num l
  | .str l => .str l
def nvL : JL → JL
  | .nil => .nil
  | .cons v r => .cons (nv v) (nvL r)
def nvM : JM → JM
  | .nil => .nil
  | .cons k v r => .cons k (nv v) (nvM r)
end
structure NF (a b : JV) : Prop where
  ct : ct a = ct b
  rd : rdV b → rdV a
  sr : srV a
  dep : depV a = depV b
  cnt : cntV a = cntV b
  big : bigV a = bigV b
  tw : twV a = twV b
theorem NF.leaf {v : JV} (h : srV v) : NF v v := ⟨rfl, id, h, rfl, rfl, rfl, rfl⟩
mutual
theorem nv_nf : ∀ v : JV, NF (nv v) v
  | .nul => by rw [nv]; exact NF.leaf (by rw [srV]; trivial; all_goals simp)
  | .tt => by rw [nv]; exact NF.leaf (by rw [srV]; trivial; all_goals simp)
  | .ff => by rw [nv]; exact NF.leaf (by rw [srV]; trivial; all_goals simp)
  | .num l => by rw [nv]; exact NF.leaf (by rw [srV]; trivial; all_goals simp)
  | .str l => by rw [nv]; exact NF.leaf (by rw [srV]; trivial; all_goals simp)
  | .arr l => by
    obtain ⟨h1, h2, h3, h4, h5, h6, h7⟩ := nv_nfL l
    rw [nv]
    exact ⟨by rw [Go.Proofs.YtcjajchfjoffnaaGreatDoor.ct, Go.Proofs.YtcjajchfjoffnaaGreatDoor.ct, h1], fun h => by rw [rdV] at *; exact h2 h, by rw [srV]; exact h3, by rw [depV, depV, h4], by rw [cntV, cntV, h5], by rw [bigV, bigV, h6], by rw [twV, twV, h7]⟩
  | .obj m => by
    obtain ⟨h1, h2, h3, h4, h5, h6, h7⟩ := nv_nfM m
    obtain ⟨g1, g2, g3, g4, g5, g6⟩ := srtM_facts (nvM m)
    rw [nv]
    exact ⟨by rw [Go.Proofs.YtcjajchfjoffnaaGreatDoor.ct, Go.Proofs.YtcjajchfjoffnaaGreatDoor.ct, srtM_ct, isort_twice, h1], fun h => by rw [rdV] at *; exact g1 (h2 h), by rw [srV, srtM_ct, isort_twice]; exact ⟨g2 h3, rfl⟩, by rw [depV, depV, g3, h4], by rw [cntV, cntV, g4, h5], by rw [bigV, bigV, g5, h6], by rw [twV, twV, g6, h7]⟩
theorem nv_nfL : ∀ l : JL, ctL (nvL l) = ctL l ∧ (rdL l → rdL (nvL l)) ∧ srL (nvL l) ∧ depL (nvL l) = depL l ∧ cntL (nvL l) = cntL l ∧ bigL (nvL l) = bigL l ∧ twL (nvL l) = twL l
  | .nil => by rw [nvL, srL]; exact ⟨rfl, id, trivial, rfl, rfl, rfl, rfl⟩
  | .cons v r => by
    have h := nv_nf v
    obtain ⟨h1, h2, h3, h4, h5, h6, h7⟩ := nv_nfL r
    rw [nvL]
    exact ⟨by rw [ctL, ctL, h.ct, h1], fun q => by rw [rdL] at *; exact ⟨h.rd q.1, h2 q.2⟩, by rw [srL]; exact ⟨h.sr, h3⟩, by rw [depL, depL, h.dep, h4], by rw [cntL, cntL, h.cnt, h5], by rw [bigL, bigL, h.big, h6], by rw [twL, twL, h.tw, h7]⟩
theorem nv_nfM : ∀ m : JM, ctM (nvM m) = ctM m ∧ (rdM m → rdM (nvM m)) ∧ srM (nvM m) ∧ depM (nvM m) = depM m ∧ cntM (nvM m) = cntM m ∧ bigM (nvM m) = bigM m ∧ ∀ ks, twM ks (nvM m) = twM ks m
  | .nil => by rw [nvM, srM]; exact ⟨rfl, id, trivial, rfl, rfl, rfl, fun _ => rfl⟩
  | .cons k v r => by
    have h := nv_nf v
    obtain ⟨h1, h2, h3, h4, h5, h6, h7⟩ := nv_nfM r
    rw [nvM]
    exact ⟨by rw [ctM, ctM, h.ct, h1], fun q => by rw [rdM] at *; exact ⟨q.1, h.rd q.2.1, h2 q.2.2⟩, by rw [srM]; exact ⟨h.sr, h3⟩, by rw [depM, depM, h.dep, h4], by rw [cntM, cntM, h.cnt, h5], by rw [bigM, bigM, h.big, h6], fun ks => by rw [twM, twM, h.tw, h7]⟩
end
/-- What a canonical text is read as. -/
theorem doc_nv {v : JV} (h : rdV v) : docR (strOf (ct v)) = some (nv v) := by
  have f := nv_nf v
  have := doc_ct (f.rd h) f.sr
  rwa [f.ct] at this
theorem readR_ct {v : JV} (h : rdV v) (hb : bigV v = false) (ht : twV v = false) : readR (strOf (ct v)) = if 20000 < (ct v).length then .inl 1 else if 100 < depV v ∨ 3000 < cntV v then .inl 5 else .inr (nv v) := by
  have f := nv_nf v
  unfold readR
  rw [strOf_size, doc_nv h]
  simp only [f.big, f.tw, f.dep, f.cnt, hb, ht]
  rfl

/-- Numbers as they are read are canonical. -/
theorem nm_numC {s : ByteArray} {i j : Nat} {l : List UInt8} (h : nm s i = some (l, j)) : numC l := by
  unfold nm at h
  split at h
  · rename_i hd
    injection h with h; injection h with h1 h2
    have hlt : nmD s i < s.size := bt_in (by have := isDg_iff.1 hd; omega)
    have hE : nmD s i < nmE s i := by
      unfold nmE
      split
      · omega
      · rw [dg_on hd]
        have := (dg_le (s := s) (i := nmD s i + 1) (by omega)).1
        omega
    have hall : ∀ k, nmD s i ≤ k → k < nmE s i → isDg (bt s k) = true := fun k h1 h2 => by
      unfold nmE at h2
      split at h2
      · have : k = nmD s i := by omega
        rw [this]; exact hd
      · exact dg_all h1 h2
    have hz : bt s (nmD s i) = 48 → cutB s (nmD s i + 1) (nmE s i) = [] := fun e => by
      unfold nmE
      rw [if_pos e]
      unfold cutB
      simp
    have hb : (s.data.toList.getD (nmD s i) 0).toNat = bt s (nmD s i) := rfl
    have hds : ∀ b ∈ cutB s (nmD s i + 1) (nmE s i), isDg b.toNat = true := fun b hb => by
      obtain ⟨k, k1, k2, k3⟩ := cutB_at hb
      rw [k3]
      exact hall k (by omega) k2
    have hcut : cutB s (nmD s i) (nmE s i) = s.data.toList.getD (nmD s i) 0 :: cutB s (nmD s i + 1) (nmE s i) := cutB_head hE hlt
    by_cases h45 : bt s i = 45
    · have e : nmD s i = i + 1 := by unfold nmD; rw [if_pos h45]
      have hraw : cutB s i (nmE s i) = [45] ++ s.data.toList.getD (nmD s i) 0 :: cutB s (nmD s i + 1) (nmE s i) := by
        rw [cutB_head (by omega) (by omega), ← e, hcut]
        have : s.data.toList.getD i 0 = 45 := UInt8.toNat_inj.1 h45
        rw [this]; rfl
      by_cases h48 : bt s (nmD s i) = 48
      · have hl : l = [48] := by
          rw [← h1, hraw, hz h48]
          have : s.data.toList.getD (nmD s i) 0 = 48 := UInt8.toNat_inj.1 h48
          rw [this]; rfl
        subst hl
        exact ⟨[], [], 48, rfl, .inl rfl, rfl, fun b hb => by simp at hb, fun _ => ⟨rfl, rfl⟩⟩
      · refine ⟨[45], _, _, ?_, .inr rfl, hd, hds, fun h => absurd h h48⟩
        rw [← h1, hraw]
        unfold norm0
        rw [if_neg]
        intro e
        simp only [List.cons_append, List.nil_append, List.cons.injEq, true_and] at e
        exact h48 (by rw [← hb, e.1]; rfl)
    · have e : nmD s i = i := by unfold nmD; rw [if_neg h45]
      refine ⟨[], cutB s (nmD s i + 1) (nmE s i), s.data.toList.getD (nmD s i) 0, ?_, .inl rfl, hd, hds, fun h => ⟨hz h, rfl⟩⟩
      rw [← h1, List.nil_append, ← hcut]
      unfold norm0
      rw [if_neg, e]
      intro e2
      have hcut' := hcut
      rw [e] at hcut'
      rw [hcut'] at e2
      injection e2 with e2 _
      exact h45 (by show (s.data.toList.getD i 0).toNat = 45; rw [e2]; rfl)
  · cases h
theorem p_rdV (s : ByteArray) : ∀ f i, (∀ v j, pv s f i = some (v, j) → rdV v) ∧ (∀ l j, pa s f i = some (l, j) → rdL l) ∧ (∀ m j, po s f i = some (m, j) → rdM m)
  | 0, i => ⟨fun v j h => by simp [pv] at h, fun v j h => by simp [pa] at h, fun v j h => by simp [po] at h⟩
  | f + 1, i => by
    refine ⟨fun v j h => ?_, fun l j h => ?_, fun m j h => ?_⟩
    · rw [pv] at h
      split at h
      · split at h
        · injection h with h; injection h with hv h; subst hv; rw [rdV, rdL]; trivial
        · simp only [Option.map_eq_some_iff] at h
          obtain ⟨⟨l, k⟩, hk, h⟩ := h
          injection h with hv h
          subst hv; rw [rdV]; exact (p_rdV s f (sk s (i + 1))).2.1 l k hk
      · split at h
        · split at h
          · injection h with h; injection h with hv h; subst hv; rw [rdV, rdM]; trivial
          · simp only [Option.map_eq_some_iff] at h
            obtain ⟨⟨l, k⟩, hk, h⟩ := h
            injection h with hv h
            subst hv; rw [rdV]; exact (p_rdV s f (sk s (i + 1))).2.2 l k hk
        · split at h
          · simp only [Option.map_eq_some_iff] at h
            obtain ⟨⟨l, k⟩, hk, h⟩ := h
            injection h with hv h
            subst hv; rw [rdV]; exact strQ_valid hk
          · split at h
            · injection h with h; injection h with hv h; subst hv; rw [rdV]; trivial
            · split at h
              · injection h with h; injection h with hv h; subst hv; rw [rdV]; trivial
              · split at h
                · injection h with h; injection h with hv h; subst hv; rw [rdV]; trivial
                · simp only [Option.map_eq_some_iff] at h
                  obtain ⟨⟨l, k⟩, hk, h⟩ := h
                  injection h with hv h
                  subst hv; rw [rdV]; exact nm_numC hk
    · rw [pa] at h
      simp only [Option.bind_eq_some_iff] at h
      obtain ⟨⟨v, k⟩, hk, h⟩ := h
      have h1 := (p_rdV s f i).1 v k hk
      simp only at h
      split at h
      · injection h with h; injection h with hv h; subst hv; rw [rdL, rdL]; exact ⟨h1, trivial⟩
      · split at h
        · simp only [Option.map_eq_some_iff] at h
          obtain ⟨⟨l, n⟩, hn, h⟩ := h
          injection h with hv h
          subst hv; rw [rdL]; exact ⟨h1, (p_rdV s f _).2.1 l n hn⟩
        · cases h
    · rw [po] at h
      simp only [Option.bind_eq_some_iff] at h
      obtain ⟨⟨key, a⟩, ha, h⟩ := h
      have h0 := strQ_valid ha
      simp only at h
      split at h
      · simp only [Option.bind_eq_some_iff] at h
        obtain ⟨⟨v, k⟩, hk, h⟩ := h
        have h1 := (p_rdV s f _).1 v k hk
        simp only at h
        split at h
        · injection h with h; injection h with hv h; subst hv; rw [rdM, rdM]; exact ⟨h0, h1, trivial⟩
        · split at h
          · simp only [Option.map_eq_some_iff] at h
            obtain ⟨⟨l, n⟩, hn, h⟩ := h
            injection h with hv h
            subst hv; rw [rdM]; exact ⟨h0, h1, (p_rdV s f _).2.2 l n hn⟩
          · cases h
      · cases h
theorem val_rdV {s : ByteArray} {i j : Nat} {v : JV} (h : val s i = some (v, j)) : rdV v := (p_rdV s _ i).1 v j h
theorem doc_rdV {s : ByteArray} {v : JV} (h : docR s = some v) : rdV v := by
  unfold docR at h
  cases hv : val s (sk s 0) with
  | none => rw [hv] at h; simp at h
  | some q =>
    obtain ⟨u, j⟩ := q
    rw [hv] at h
    simp only [Option.bind_some] at h
    split at h
    · injection h with h; subst h; exact val_rdV hv
    · cases h
end Go.Proofs.YtcjajchfjoffnaaGreatDoor

namespace Go.Proofs.YtcjajchfjoffnaaGreatDoor
open Go.RowKit

theorem lead_lo (b : Nat) : (Lib.firstT b % 8 = 2 ∨ Lib.firstT b % 8 = 3 ∨ Lib.firstT b % 8 = 4) → 128 ≤ Lib.accLo (Lib.firstT b / 16) := by
  unfold Lib.firstT
  repeat' split
  all_goals decide
theorem check_cut (n N b1 b2 b3 c1 c2 c3 sz lo hi : Nat) (hn : 1 ≤ n) (hN : n < N) (hlo : (sz = 2 ∨ sz = 3 ∨ sz = 4) → 128 ≤ lo)
    (h1 : (1 < n → b1 = c1) ∧ (n = 1 → b1 < 128)) (h2 : (2 < n → b2 = c2) ∧ (n = 2 → b2 < 128)) (h3 : (3 < n → b3 = c3) ∧ (n = 3 → b3 < 128)) :
    Lib.checkN N b1 b2 b3 sz lo hi = Lib.checkN n c1 c2 c3 sz lo hi ∧ ∀ k, Lib.checkN n c1 c2 c3 sz lo hi = some k → k ≤ n ∧ 2 ≤ k := by
  unfold Lib.checkN
  by_cases e2 : sz = 2
  · rw [if_pos e2, if_pos e2]
    have hl := hlo (.inl e2)
    by_cases q : n < 2 ∨ c1 < lo ∨ hi < c1
    · rw [if_pos q, if_pos (by omega)]
      exact ⟨rfl, fun k h => by cases h⟩
    · rw [if_neg q, if_neg (by omega)]
      exact ⟨rfl, fun k h => by injection h with h; omega⟩
  · rw [if_neg e2, if_neg e2]
    by_cases e3 : sz = 3
    · rw [if_pos e3, if_pos e3]
      have hl := hlo (.inr (.inl e3))
      by_cases q : n < 3 ∨ c1 < lo ∨ hi < c1 ∨ c2 < 128 ∨ 191 < c2
      · rw [if_pos q, if_pos (by omega)]
        exact ⟨rfl, fun k h => by cases h⟩
      · rw [if_neg q, if_neg (by omega)]
        exact ⟨rfl, fun k h => by injection h with h; omega⟩
    · rw [if_neg e3, if_neg e3]
      by_cases e4 : sz = 4
      · rw [if_pos e4, if_pos e4]
        have hl := hlo (.inr (.inr e4))
        by_cases q : n < 4 ∨ c1 < lo ∨ hi < c1 ∨ c2 < 128 ∨ 191 < c2 ∨ c3 < 128 ∨ 191 < c3
        · rw [if_pos q, if_pos (by omega)]
          exact ⟨rfl, fun k h => by cases h⟩
        · rw [if_neg q, if_neg (by omega)]
          exact ⟨rfl, fun k h => by injection h with h; omega⟩
      · rw [if_neg e4, if_neg e4]
        exact ⟨rfl, fun k h => by cases h⟩
theorem getD_cut (a b : List UInt8) (c : UInt8) (hc : c.toNat < 128) (k : Nat) : (k < a.length → ((a ++ c :: b).getD k 0).toNat = (a.getD k 0).toNat) ∧ (a.length = k → ((a ++ c :: b).getD k 0).toNat < 128) := by
  refine ⟨fun h => ?_, fun h => ?_⟩
  · simp only [List.getD]; rw [List.getElem?_append_left h]
  · subst h; simp only [List.getD]; rw [List.getElem?_append_right (Nat.le_refl _)]; simpa using hc
/-- A byte below 128 parts a text into two that are valid each for itself. -/
theorem valid_split (b : List UInt8) (c : UInt8) (hc : c.toNat < 128) : ∀ (n : Nat) (a : List UInt8), a.length ≤ n → Lib.validD (a ++ c :: b) = (Lib.validD a && Lib.validD b)
  | n, [], _ => by rw [List.nil_append, Lib.validD_cons c b hc, Lib.validD_nil]; rfl
  | 0, x :: a, h => by simp at h
  | n + 1, x :: a, h => by
    by_cases hx : x.toNat < 128
    · rw [List.cons_append, Lib.validD_cons x _ hx, Lib.validD_cons x _ hx]
      exact valid_split b c hc n a (by simpa using h)
    · have e0 : (((x :: a) ++ c :: b).getD 0 0) = x := rfl
      have e0' : ((x :: a).getD 0 0) = x := rfl
      rw [Lib.validD_lead ((x :: a) ++ c :: b) (by simp) (by rw [e0]; omega), Lib.validD_lead (x :: a) (by simp) (by rw [e0']; omega), e0, e0']
      have g1 := getD_cut (x :: a) b c hc 1
      have g2 := getD_cut (x :: a) b c hc 2
      have g3 := getD_cut (x :: a) b c hc 3
      have hN : (x :: a).length < ((x :: a) ++ c :: b).length := by rw [List.length_append, List.length_cons (a := c)]; omega
      have hn : 1 ≤ (x :: a).length := by simp
      obtain ⟨k1, k2⟩ := check_cut (x :: a).length ((x :: a) ++ c :: b).length _ _ _ _ _ _ (Lib.firstT x.toNat % 8) (Lib.accLo (Lib.firstT x.toNat / 16)) (Lib.accHi (Lib.firstT x.toNat / 16)) hn hN (lead_lo x.toNat) g1 g2 g3
      rw [k1]
      cases hk : Lib.checkN (x :: a).length ((x :: a).getD 1 0).toNat ((x :: a).getD 2 0).toNat ((x :: a).getD 3 0).toNat (Lib.firstT x.toNat % 8) (Lib.accLo (Lib.firstT x.toNat / 16)) (Lib.accHi (Lib.firstT x.toNat / 16)) with
      | none => rfl
      | some k =>
        obtain ⟨m1, m2⟩ := k2 k hk
        simp only
        rw [List.drop_append_of_le_length m1]
        exact valid_split b c hc n ((x :: a).drop k) (by rw [List.length_drop]; omega)
theorem valid_at (a b : List UInt8) (c : UInt8) (hc : c.toNat < 128) : Lib.validD (a ++ c :: b) = (Lib.validD a && Lib.validD b) := valid_split b c hc a.length a (Nat.le_refl _)
theorem hexs_asc : ∀ k : Fin 16, (hexs.getD k.val 0).toNat < 128 := by decide
theorem qB_asc {c : UInt8} (h : c.toNat < 128) : ∃ x ys, qB c = x :: ys ∧ x.toNat < 128 ∧ ∀ y ∈ ys, y.toNat < 128 := by
  unfold qB
  repeat' split
  · exact ⟨_, _, rfl, by decide, fun y hy => by simp at hy; subst hy; exact h⟩
  · exact ⟨_, _, rfl, by decide, by decide⟩
  · exact ⟨_, _, rfl, by decide, by decide⟩
  · exact ⟨_, _, rfl, by decide, by decide⟩
  · exact ⟨_, _, rfl, by decide, by decide⟩
  · exact ⟨_, _, rfl, by decide, by decide⟩
  · rename_i h32
    have k1 := hexs_asc ⟨c.toNat / 16, by omega⟩
    have k2 := hexs_asc ⟨c.toNat % 16, by omega⟩
    refine ⟨_, _, rfl, by decide, fun y hy => ?_⟩
    simp only [List.mem_cons, List.not_mem_nil, or_false] at hy
    rcases hy with rfl | rfl | rfl | rfl | rfl
    · decide
    · decide
    · decide
    · exact k1
    · exact k2
  · exact ⟨c, [], rfl, h, fun y hy => by simp at hy⟩
theorem high_run : ∀ l : List UInt8, ∃ a r : List UInt8, l = a ++ r ∧ (∀ c ∈ a, 128 ≤ c.toNat) ∧ (r = [] ∨ ∃ c b, r = c :: b ∧ c.toNat < 128)
  | [] => ⟨[], [], rfl, fun c hc => by simp at hc, .inl rfl⟩
  | x :: l => by
    by_cases hx : x.toNat < 128
    · exact ⟨[], x :: l, rfl, fun c hc => by simp at hc, .inr ⟨x, l, rfl, hx⟩⟩
    · obtain ⟨a, r, e, ha, hr⟩ := high_run l
      refine ⟨x :: a, r, by rw [e]; rfl, fun c hc => ?_, hr⟩
      rcases List.mem_cons.1 hc with rfl | hc
      · omega
      · exact ha c hc
theorem valid_qs : ∀ (n : Nat) (l : List UInt8), l.length ≤ n → Lib.validD (qs l) = Lib.validD l
  | _, [], _ => rfl
  | 0, x :: l, h => by simp at h
  | n + 1, x :: l, h => by
    obtain ⟨a, r, e, ha, hr⟩ := high_run (x :: l)
    rw [e, qs_app, qs_high a ha]
    rcases hr with rfl | ⟨c, b, rfl, hc⟩
    · rw [show qs ([] : List UInt8) = [] from rfl, List.append_nil]
    · obtain ⟨y, ys, q, hy, hys⟩ := qB_asc hc
      have eq : qs (c :: b) = y :: (ys ++ qs b) := by show qB c ++ qs b = _; rw [q]; rfl
      have hl : b.length ≤ n := by have := congrArg List.length e; rw [List.length_append, List.length_cons, List.length_cons] at this; rw [List.length_cons] at h; omega
      rw [eq, valid_at a _ y hy, valid_at a b c hc, Lib.validD_ascii ys.length (ys ++ qs b) (by rw [List.take_left]; exact hys), List.drop_left, valid_qs n b hl]
theorem valid_quoted (l : List UInt8) : Lib.validD (quoted l) = Lib.validD l := by
  unfold quoted
  rw [Lib.validD_cons 34 _ (by decide), valid_at (qs l) [] 34 (by decide), Lib.validD_nil, Bool.and_true, valid_qs l.length l (Nat.le_refl _)]
theorem valid_join : ∀ (r : List (List UInt8)) (t : List UInt8), Lib.validD (t ++ joinT r) = (Lib.validD t && r.all Lib.validD)
  | [], t => by simp [joinT]
  | u :: r, t => by rw [joinT, valid_at t _ 44 (by decide), valid_join r u, List.all_cons]
theorem valid_joinC (ts : List (List UInt8)) : Lib.validD (joinC ts) = ts.all Lib.validD := by
  cases ts with
  | nil => rfl
  | cons t r => rw [joinC, valid_join, List.all_cons]
theorem valid_mkA (ts : List (List UInt8)) : Lib.validD (mkA ts) = ts.all Lib.validD := by
  unfold mkA
  rw [Lib.validD_cons 91 _ (by decide), valid_at (joinC ts) [] 93 (by decide), Lib.validD_nil, Bool.and_true, valid_joinC]
theorem valid_mem (p : List UInt8 × List UInt8) : Lib.validD (memT p) = (Lib.validD p.1 && Lib.validD p.2) := by
  unfold memT
  rw [valid_at (quoted p.1) p.2 58 (by decide), valid_quoted]
theorem valid_mkO (ps : List (List UInt8 × List UInt8)) : Lib.validD (mkO ps) = ps.all fun p => Lib.validD p.1 && Lib.validD p.2 := by
  unfold mkO
  rw [Lib.validD_cons 123 _ (by decide), valid_at (joinC (ps.map memT)) [] 125 (by decide), Lib.validD_nil, Bool.and_true, valid_joinC, List.all_map]
  congr 1
  funext p
  exact valid_mem p
mutual
/-- A canonical text is valid. -/
theorem valid_ct : ∀ v : JV, okV v → Lib.validD (ct v) = true
  | .nul, _ => by rfl
  | .tt, _ => by rfl
  | .ff, _ => by rfl
  | .num l, h => by
    rw [okV] at h
    obtain ⟨c, r, rfl, hc, hr⟩ := h
    have hc' : c.toNat = 45 ∨ (48 ≤ c.toNat ∧ c.toNat ≤ 57) := hc.imp id isDg_iff.1
    show Lib.validD (c :: r) = true
    rw [Lib.validD_cons c r (by omega), Lib.validD_ascii r.length r (fun b hb => by have := isDg_iff.1 (hr b (List.mem_of_mem_take hb)); omega), List.drop_length, Lib.validD_nil]
  | .str l, h => by rw [okV] at h; show Lib.validD (quoted l) = true; rw [valid_quoted]; exact h
  | .arr l, h => by rw [okV] at h; show Lib.validD (mkA (ctL l)) = true; rw [valid_mkA, List.all_eq_true]; exact valid_ctL l h
  | .obj m, h => by
    rw [okV] at h
    show Lib.validD (mkO (isort (ctM m))) = true
    rw [valid_mkO, List.all_eq_true]
    exact fun p hp => valid_ctM m h p ((isort_perm _).subset hp)
theorem valid_ctL : ∀ l : JL, okL l → ∀ t ∈ ctL l, Lib.validD t = true
  | .nil, _, t, ht => by simp [ctL] at ht
  | .cons v r, h, t, ht => by
    rw [okL] at h
    rw [ctL] at ht
    rcases List.mem_cons.1 ht with rfl | ht
    · exact valid_ct v h.1
    · exact valid_ctL r h.2 t ht
theorem valid_ctM : ∀ m : JM, okM m → ∀ p ∈ ctM m, (Lib.validD p.1 && Lib.validD p.2) = true
  | .nil, _, t, ht => by simp [ctM] at ht
  | .cons k v r, h, t, ht => by
    rw [okM] at h
    rw [ctM] at ht
    rcases List.mem_cons.1 ht with rfl | ht
    · rw [Bool.and_eq_true]; exact ⟨h.1, valid_ct v h.2.1⟩
    · exact valid_ctM r h.2.2 t ht
end
end Go.Proofs.YtcjajchfjoffnaaGreatDoor
