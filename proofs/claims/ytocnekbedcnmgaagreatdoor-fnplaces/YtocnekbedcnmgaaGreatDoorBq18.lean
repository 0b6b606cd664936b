import Derived.Test.YtocnekbedcnmgaaGreatDoorBq13
import Derived.Test.YtocnekbedcnmgaaGreatDoorBq17
import Derived.Test.YtocnekbedcnmgaaGreatDoorBq5
import Derived.Test.YtocnekbedcnmgaaGreatDoorBq2
namespace Go.Proofs.YtocnekbedcnmgaaGreatDoor
open Go.RowKit

end Go.Proofs.YtocnekbedcnmgaaGreatDoor


namespace Go.Proofs.YtocnekbedcnmgaaGreatDoor
open Go.RowKit

/-- What is good of a tree is good of its parts. -/
structure GdV (v : JV) : Prop where
  rd : rdV v
  big : bigV v = false
  dep : depV v ≤ 100
  cnt : cntV v ≤ 3000
  tw : twV v = false
  ok : okV v
  len : (ct v).length ≤ 20000
theorem rdL_mem : ∀ {l : JL} {u : JV}, rdL l → bigL l = false → u ∈ l.toL → rdV u ∧ bigV u = false ∧ depV u ≤ depL l
  | .nil, u, _, _, h => by simp [JL.toL] at h
  | .cons v r, u, h1, h2, h => by
    rw [rdL] at h1
    rw [bigL, Bool.or_eq_false_iff] at h2
    rw [JL.toL, List.mem_cons] at h
    rw [depL]
    rcases h with rfl | h
    · exact ⟨h1.1, h2.1, Nat.le_max_left _ _⟩
    · obtain ⟨a, b, c⟩ := rdL_mem h1.2 h2.2 h
      exact ⟨a, b, Nat.le_trans c (Nat.le_max_right _ _)⟩
theorem rdM_mem : ∀ {l : JM} {k : List UInt8} {u : JV}, rdM l → bigM l = false → (k, u) ∈ l.toL → rdV u ∧ bigV u = false ∧ depV u ≤ depM l
  | .nil, k, u, _, _, h => by simp [JM.toL] at h
  | .cons k' v r, k, u, h1, h2, h => by
    rw [rdM] at h1
    rw [bigM, Bool.or_eq_false_iff] at h2
    rw [JM.toL, List.mem_cons] at h
    rw [depM]
    rcases h with h | h
    · injection h with _ h
      subst h
      exact ⟨h1.2.1, h2.1, Nat.le_max_left _ _⟩
    · obtain ⟨a, b, c⟩ := rdM_mem h1.2.2 h2.2 h
      exact ⟨a, b, Nat.le_trans c (Nat.le_max_right _ _)⟩
theorem GdV.child {v u : JV} {t : List UInt8} (h : GdV v) (hc : childV v t = some u) : GdV u := by
  obtain ⟨a1, a2, a3, a4⟩ := childV_ok hc h.ok h.tw
  have hl := h.len
  have hn := h.cnt
  have hd := h.dep
  have key : rdV u ∧ bigV u = false ∧ depV u ≤ depV v := by
    cases v with
    | arr l =>
      rw [childV_arr] at hc
      obtain ⟨i, _, hi⟩ := Option.bind_eq_some_iff.1 hc
      have := rdL_mem h.rd h.big (List.mem_of_getElem? hi)
      exact ⟨this.1, this.2.1, by rw [depV]; omega⟩
    | obj m =>
      rw [childV_obj] at hc
      obtain ⟨q, hq, e⟩ := Option.map_eq_some_iff.1 hc
      have := rdM_mem (k := q.1) (u := q.2) h.rd h.big (List.mem_of_find?_eq_some hq)
      rw [← e]
      exact ⟨this.1, this.2.1, by rw [depV]; omega⟩
    | _ => cases hc
  exact ⟨key.1, key.2.1, by omega, by omega, a2, a1, by omega⟩
theorem GdV.good {v : JV} (h : GdV v) : goodT (strOf (ct v)) = true := by
  rw [goodT_ct h.rd h.big h.tw]
  exact decide_eq_true ⟨h.dep, h.cnt, h.len⟩
theorem GdV.of {s : ByteArray} {v : JV} (h : readR s = .inr v) : GdV v := by
  obtain ⟨h1, h2, h3, h4, h5, h6⟩ := read_facts h
  exact ⟨doc_rdV h2, h4, h5, h6, h3, (doc_facts h2).1, by have := doc_sharp h2; omega⟩
theorem GdV.item {l : JL} {u : JV} (h : GdV (.arr l)) (hu : u ∈ l.toL) : GdV u := by
  obtain ⟨j, hj, rfl⟩ := List.mem_iff_getElem.1 hu
  have hlt : j < (idxJ 0 l.toL).length := by rw [idxJ_len]; exact hj
  have hm : (decT j, l.toL[j]) ∈ kidsV (.arr l) := by
    have e := idxJ_at l.toL 0 j hlt
    rw [Nat.zero_add] at e
    show _ ∈ idxJ 0 l.toL
    rw [← e]
    exact List.getElem_mem hlt
  obtain ⟨o1, o2, o3, o4⟩ := kids_ok h.ok h.tw hm
  simp only at o1 o2 o3 o4
  have hr := rdL_mem h.rd h.big hu
  have h1 := kids_cnt (.arr l)
  have h2 : cntV l.toL[j] ≤ _ := sumf_at (fun q => cntV q.2) hm
  have hd := h.dep
  have hc := h.cnt
  have hl := h.len
  exact ⟨hr.1, hr.2.1, by omega, by omega, o2, o1, by omega⟩
end Go.Proofs.YtocnekbedcnmgaaGreatDoor


namespace Go.Proofs.YtocnekbedcnmgaaGreatDoor
open Go.RowKit

/-- The pointer of tokens. -/
def ptrP (ts : List (List UInt8)) : List UInt8 := ptrText (ts.map baT)
theorem ptrP_snoc (ts : List (List UInt8)) (k : List UInt8) : ptrP (ts ++ [k]) = ptrN (ptrP ts) k := by
  unfold ptrP ptrText ptrN
  simp [baT]
theorem ptrP_inj {a b : List (List UInt8)} (h : ptrP a = ptrP b) : a = b := by
  have h1 := ptoks_text a
  have h2 := ptoks_text b
  unfold ptrP at h
  rw [h, h2] at h1
  exact (Option.some.inj h1).symm
/-- The tokens of the places of a tree. -/
def tkF : Nat → List (List UInt8) → JV → List (List (List UInt8))
  | 0, _, _ => []
  | n + 1, ts, v => ts :: (kidsV v).flatMap fun q => tkF n (ts ++ [q.1]) q.2
theorem plF_tk : ∀ (n : Nat) (ts : List (List UInt8)) (v : JV), plF n (ptrP ts) v = (tkF n ts v).map ptrP
  | 0, ts, v => rfl
  | n + 1, ts, v => by
    rw [plF_eq, tkF, List.map_cons, List.map_flatMap]
    congr 2
    funext q
    rw [← ptrP_snoc, plF_tk n]
theorem getV_cons (v : JV) (t : List UInt8) (ts : List (List UInt8)) : getV v (t :: ts) = (childV v t).bind fun u => getV u ts := by
  have := getV_app [t] ts v
  have e : getV v [t] = childV v t := by
    simp only [getV]
    cases childV v t <;> rfl
  rwa [e] at this
theorem GdV.kid {v : JV} {q : List UInt8 × JV} (h : GdV v) (hq : q ∈ kidsV v) : childV v q.1 = some q.2 ∧ GdV q.2 := by
  have hc := kid_child h.tw (by have := h.cnt; omega) hq
  exact ⟨hc, h.child hc⟩
/-- At every place there is a good value. -/
theorem tkF_get : ∀ (n : Nat) (ts : List (List UInt8)) (v : JV), GdV v → ∀ x ∈ tkF n ts v, ∃ us u, x = ts ++ us ∧ getV v us = some u ∧ GdV u
  | 0, ts, v, _, x, h => by simp [tkF] at h
  | n + 1, ts, v, hg, x, h => by
    rw [tkF, List.mem_cons] at h
    rcases h with rfl | h
    · exact ⟨[], v, by simp, by simp [getV], hg⟩
    · obtain ⟨q, hq, hx⟩ := List.mem_flatMap.1 h
      obtain ⟨hc, hgq⟩ := hg.kid hq
      obtain ⟨us, u, rfl, hu, hgu⟩ := tkF_get n _ q.2 hgq x hx
      exact ⟨q.1 :: us, u, by simp, by rw [getV_cons, hc]; exact hu, hgu⟩
theorem flat_nodup {α β : Type} (f : α → List β) : ∀ (l : List α), (∀ x ∈ l, (f x).Nodup) → l.Pairwise (fun x y => ∀ b ∈ f x, b ∉ f y) → (l.flatMap f).Nodup
  | [], _, _ => by simp
  | x :: r, h1, h2 => by
    rw [List.flatMap_cons, List.nodup_append]
    rw [List.pairwise_cons] at h2
    refine ⟨h1 x List.mem_cons_self, flat_nodup f r (fun y hy => h1 y (List.mem_cons_of_mem _ hy)) h2.2, fun a ha b hb e => ?_⟩
    subst e
    obtain ⟨y, hy, hay⟩ := List.mem_flatMap.1 hb
    exact h2.1 y hy a ha hay
theorem tkF_pre : ∀ (n : Nat) (ts : List (List UInt8)) (v : JV), ∀ x ∈ tkF n ts v, ∃ us, x = ts ++ us
  | 0, ts, v, x, h => by simp [tkF] at h
  | n + 1, ts, v, x, h => by
    rw [tkF, List.mem_cons] at h
    rcases h with rfl | h
    · exact ⟨[], by simp⟩
    · obtain ⟨q, hq, hx⟩ := List.mem_flatMap.1 h
      obtain ⟨us, rfl⟩ := tkF_pre n _ q.2 x hx
      exact ⟨q.1 :: us, by simp⟩
/-- No place twice. -/
theorem tkF_nodup : ∀ (n : Nat) (ts : List (List UInt8)) (v : JV), GdV v → (tkF n ts v).Nodup
  | 0, ts, v, _ => by simp [tkF]
  | n + 1, ts, v, hg => by
    rw [tkF, List.nodup_cons]
    constructor
    · intro h
      obtain ⟨q, hq, hx⟩ := List.mem_flatMap.1 h
      obtain ⟨us, e⟩ := tkF_pre n _ q.2 _ hx
      have := congrArg List.length e
      simp at this
    · refine flat_nodup _ _ (fun q hq => tkF_nodup n _ _ (hg.kid hq).2) ?_
      have hk := kids_nodup hg.tw
      unfold List.Nodup at hk
      rw [List.pairwise_map] at hk
      refine hk.imp fun {a b} hne x hx hy => hne ?_
      obtain ⟨us, e1⟩ := tkF_pre n _ _ x hx
      obtain ⟨us', e2⟩ := tkF_pre n _ _ x hy
      rw [e1, List.append_assoc, List.append_assoc] at e2
      have e3 := List.append_cancel_left e2
      injection e3
theorem insU_new {x : List UInt8} : ∀ {l : List (List UInt8)}, x ∉ l → (insU x l).length = l.length + 1
  | [], _ => rfl
  | y :: r, h => by
    rw [insU]
    split
    · rw [List.length_cons, insU_new (fun hm => h (List.mem_cons_of_mem _ hm)), List.length_cons]
    · split
      · rename_i e; exact absurd (by rw [e]; exact List.mem_cons_self) h
      · simp
theorem foldU_len : ∀ (l acc : List (List UInt8)), l.Nodup → (∀ x ∈ l, x ∉ acc) → (l.foldl (fun acc x => insU x acc) acc).length = acc.length + l.length
  | [], acc, _, _ => rfl
  | x :: l, acc, h1, h2 => by
    rw [List.nodup_cons] at h1
    rw [List.foldl_cons, foldU_len l _ h1.2 (fun y hy hm => by
      rcases mem_insU.1 hm with e | hm
      · subst e; exact h1.1 hy
      · exact h2 y (List.mem_cons_of_mem _ hy) hm), insU_new (h2 x List.mem_cons_self), List.length_cons]
    omega
theorem onceL_same {l : List (List UInt8)} (h : l.Nodup) : (onceL l).length = l.length := by
  unfold onceL
  rw [foldU_len l [] h (fun _ _ => by simp)]
  simp
theorem nodup_ptr {l : List (List (List UInt8))} (h : l.Nodup) : (l.map ptrP).Nodup := by
  unfold List.Nodup at *
  rw [List.pairwise_map]
  exact h.imp fun {a b} hne e => hne (ptrP_inj e)
/-- All that FnPlaces asks of a text that is read. -/
theorem places_all {s : ByteArray} {v : JV} (h : readR s = .inr v) :
    (ct v).length ≤ s.size ∧ readR (strOf (ct v)) = .inr (nv v) ∧ ct (nv v) = ct v ∧ (plF (depV v) [] v).length = cntV v ∧ (onceL (plF (depV v) [] v)).length = cntV v ∧
    ∀ p ∈ plF (depV v) [] v, ∃ ts u, ptoks p = some ts ∧ getV v ts = some u ∧ (∃ u', readR (strOf (ct u)) = .inr u') ∧ (p = [] → u = v) := by
  have hg := GdV.of h
  obtain ⟨h1, h2, h3, h4, h5, h6⟩ := read_facts h
  have e0 : plF (depV v) [] v = (tkF (depV v) [] v).map ptrP := plF_tk (depV v) [] v
  have hn := nodup_ptr (tkF_nodup (depV v) [] v hg)
  rw [← e0] at hn
  have hl := plF_len (n := depV v) (p := []) hg.ok hg.tw (Nat.le_refl _)
  refine ⟨doc_sharp h2, ?_, (nv_nf v).ct, hl, by rw [onceL_same hn, hl], fun p hp => ?_⟩
  · rw [readR_ct hg.rd hg.big hg.tw, if_neg (by have := hg.len; omega), if_neg (by have := hg.dep; have := hg.cnt; omega)]
  · rw [e0] at hp
    obtain ⟨x, hx, rfl⟩ := List.mem_map.1 hp
    obtain ⟨us, u, e, hu, hgu⟩ := tkF_get _ _ _ hg x hx
    rw [List.nil_append] at e
    subst e
    refine ⟨x, u, ptoks_text x, hu, ⟨nv u, ?_⟩, fun e => ?_⟩
    · rw [readR_ct hgu.rd hgu.big hgu.tw, if_neg (by have := hgu.len; omega), if_neg (by have := hgu.dep; have := hgu.cnt; omega)]
    · have : x = [] := ptrP_inj (b := []) e
      subst this
      simp [getV] at hu
      exact hu.symm
end Go.Proofs.YtocnekbedcnmgaaGreatDoor

