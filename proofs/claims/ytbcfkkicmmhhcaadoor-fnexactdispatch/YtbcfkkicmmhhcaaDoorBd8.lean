import Derived.Test.YtbcfkkicmmhhcaaDoorBd5
namespace Go.Proofs.YtbcfkkicmmhhcaaDoor
open Go.RowKit

/-- The blocks that are not older than D stand once in the list. -/
def Once (D : Nat) (bl : List Nat) : Prop := (bl.filter (fun b => decide (D ≤ b))).Nodup
theorem Once.nil (D : Nat) : Once D [] := List.nodup_nil
theorem Once.old {D : Nat} {bl : List Nat} (h : ∀ b ∈ bl, b < D) : Once D bl := by
  unfold Once
  rw [List.filter_eq_nil_iff.2 fun b hb => by have := h b hb; simp; omega]
  exact List.nodup_nil
theorem once_append {D : Nat} {a b : List Nat} : Once D (a ++ b) ↔ Once D a ∧ Once D b ∧ ∀ x ∈ a, ∀ y ∈ b, D ≤ x → x ≠ y := by
  unfold Once
  rw [List.filter_append, List.nodup_append]
  refine and_congr Iff.rfl (and_congr Iff.rfl ⟨fun h x hx y hy hD e => ?_, fun h x hx y hy e => ?_⟩)
  · subst e
    exact h x (List.mem_filter.2 ⟨hx, by simpa using hD⟩) x (List.mem_filter.2 ⟨hy, by simpa using hD⟩) rfl
  · rw [List.mem_filter] at hx hy
    exact h x hx.1 y hy.1 (by simpa using hx.2) e
theorem Once.sub {D : Nat} {a b : List Nat} (h : Once D b) (hs : a.Sublist b) : Once D a := List.Nodup.sublist (hs.filter _) h
theorem once_flat {D : Nat} {ps : List (List Value × List Nat)} : Once D (ps.flatMap (·.2)) ↔ (∀ p ∈ ps, Once D p.2) ∧ ps.Pairwise fun p q => ∀ x ∈ p.2, ∀ y ∈ q.2, D ≤ x → x ≠ y := by
  induction ps with
  | nil => simp [Once]
  | cons p r ih =>
    rw [List.flatMap_cons, once_append, ih, List.pairwise_cons]
    constructor
    · rintro ⟨h1, ⟨h2, h3⟩, h4⟩
      refine ⟨fun q hq => ?_, fun q hq x hx y hy => h4 x hx y (List.mem_flatMap.2 ⟨q, hq, hy⟩), h3⟩
      rcases List.mem_cons.1 hq with rfl | hq
      · exact h1
      · exact h2 q hq
    · rintro ⟨h1, h2, h3⟩
      refine ⟨h1 p List.mem_cons_self, ⟨fun q hq => h1 q (List.mem_cons_of_mem _ hq), h3⟩, fun x hx y hy => ?_⟩
      obtain ⟨q, hq, hy⟩ := List.mem_flatMap.1 hy
      exact h2 q hq x hx y hy

theorem once_zero {bl : List Nat} : Once 0 bl ↔ bl.Nodup := by
  unfold Once
  rw [List.filter_eq_self.2 fun b _ => by simp]
theorem orow_at {α : Type} {e : Elem α} {w : World} {g cap n : Nat} {xs : List α} {ps : List (List Value × List Nat)} (hl : ps.length = xs.length) (hE : ∀ (j : Nat) (p : List Value × List Nat) (x : α), ps[j]? = some p → xs[j]? = some x → e.E w p.1 x p.2) (ho : w.ownsRow 0 e.T e.wd (.slice (some ⟨g, 0, none⟩) n cap) xs.length (ps.flatMap (·.1))) {j : Nat} {x : α} (hx : xs[j]? = some x) :
    ∃ p, ps[j]? = some p ∧ e.E w p.1 x p.2 ∧ ∀ m u, p.1[m]? = some u → w.cell? ⟨g, j * e.wd + m, none⟩ = some u := by
  have hj : j < xs.length := (List.getElem?_eq_some_iff.1 hx).1
  have hp : ps[j]? = some ps[j] := List.getElem?_eq_getElem (by omega)
  have hwd := orow_wd hl hE
  have hn : n = xs.length := by
    rcases ho.2 with ⟨hv, h0⟩ | ⟨g', cap', cur, hv, _⟩
    · cases hv
    · injection hv
  subst hn
  refine ⟨_, hp, hE j _ x hp hx, fun m u hm => ?_⟩
  have hm' : m < e.wd := by
    have := (List.getElem?_eq_some_iff.1 hm).1
    rwa [hwd _ (List.getElem_mem (by omega))] at this
  have hlt : j * e.wd + m < xs.length * e.wd := by
    have : (j + 1) * e.wd ≤ xs.length * e.wd := Nat.mul_le_mul_right _ hj
    rw [Nat.add_mul] at this; omega
  rw [ho.cellAt _ hlt, flat_at hwd hp m hm']; exact hm
/-- The element at a place is changed with its blocks. -/
theorem ORow.swap {α : Type} {e : Elem α} {D : Nat} {w : World} {g cap n : Nat} {xs : List α} {cb : List Nat} (h : ORow e w (.slice (some ⟨g, 0, none⟩) n cap) xs ((Value.slice (some ⟨g, 0, none⟩) n cap).ownBlock.toList ++ cb)) (hd : Once D cb) {j : Nat} {x : α} (hx : xs[j]? = some x) :
    ∃ vs ib, e.E w vs x ib ∧ (∀ m u, vs[m]? = some u → w.cell? ⟨g, j * e.wd + m, none⟩ = some u) ∧ (∀ b ∈ ib, b ∈ cb) ∧ Once D ib ∧
      ∀ w' x' ib' ch, Fr ch w w' → (∀ b ∈ ch, D ≤ b ∧ b ∈ ib) → g ∉ ch → e.E w' vs x' ib' → Once D ib' → (∀ b ∈ ib', b ∈ ib ∨ w.heap.size ≤ b) →
        ∃ cb', ORow e w' (.slice (some ⟨g, 0, none⟩) n cap) (xs.set j x') ((Value.slice (some ⟨g, 0, none⟩) n cap).ownBlock.toList ++ cb') ∧ Once D cb' ∧ ∀ b ∈ cb', b ∈ cb ∨ w.heap.size ≤ b := by
  have hlt := h.lt
  obtain ⟨ps, hl, hE, ho, hb⟩ := h
  have hcb : cb = ps.flatMap (·.2) := List.append_cancel_left hb
  subst hcb
  have hj : j < xs.length := (List.getElem?_eq_some_iff.1 hx).1
  have hp : ps[j]? = some ps[j] := List.getElem?_eq_getElem (by omega)
  have hwd := orow_wd hl hE
  have hn : n = xs.length := by
    rcases ho.2 with ⟨hv, h0⟩ | ⟨g', cap', cur, hv, _⟩
    · cases hv
    · injection hv
  subst hn
  obtain ⟨hd1, hd2⟩ := once_flat.1 hd
  have hsub : ∀ p ∈ ps, ∀ b ∈ p.2, b ∈ ps.flatMap (·.2) := fun p hp b hb => List.mem_flatMap.2 ⟨p, hp, hb⟩
  have hap : ∀ (i : Nat) p, ps[i]? = some p → i ≠ j → ∀ b ∈ ps[j].2, D ≤ b → b ∉ p.2 := fun i p hpi hij b hb hDb hbp => by
    have hil : i < ps.length := (List.getElem?_eq_some_iff.1 hpi).1
    have hpe : p = ps[i] := by rw [List.getElem?_eq_getElem hil] at hpi; exact (Option.some.inj hpi).symm
    rw [List.pairwise_iff_getElem] at hd2
    rcases Nat.lt_or_ge i j with hlt | hge
    · exact hd2 i j hil (by omega) hlt b (hpe ▸ hbp) b hb hDb rfl
    · exact hd2 j i (by omega) hil (by omega) b hb b (hpe ▸ hbp) hDb rfl
  refine ⟨ps[j].1, ps[j].2, hE j _ x hp hx, ?_, hsub _ (List.getElem_mem _), hd1 _ (List.getElem_mem _), ?_⟩
  · intro m u hm
    have hm' : m < e.wd := by
      have := (List.getElem?_eq_some_iff.1 hm).1
      rwa [hwd _ (List.getElem_mem (by omega))] at this
    have hlt : j * e.wd + m < xs.length * e.wd := by
      have : (j + 1) * e.wd ≤ xs.length * e.wd := Nat.mul_le_mul_right _ hj
      rw [Nat.add_mul] at this; omega
    rw [ho.cellAt _ hlt, flat_at hwd hp m hm']; exact hm
  · intro w' x' ib' ch hfr hch hg hE' hon hib
    have hgl : g < w.heap.size := hlt g (by simp [Value.ownBlock])
    refine ⟨(ps.set j (ps[j].1, ib')).flatMap (·.2), ⟨ps.set j (ps[j].1, ib'), by simp [hl], ?_, ?_, rfl⟩, once_flat.2 ⟨?_, ?_⟩, ?_⟩
    · intro i p y hpi hy
      by_cases hij : i = j
      · subst hij
        rw [List.getElem?_set_self (by omega)] at hpi hy
        cases hpi; cases hy
        exact hE'
      · rw [List.getElem?_set_ne (by omega)] at hpi hy
        refine e.keep (hE i p y hpi hy) (hfr.kp (fun b hb => e.lt (hE i p y hpi hy) b hb) fun b hb hm => ?_)
        exact hap i p hpi hij b (hch b hm).2 (hch b hm).1 hb
    · rw [List.length_set, flat_set1 hp]
      exact own_keep ho (hfr.kp (fun b hb => by simp [Value.ownBlock] at hb; omega) fun b hb hm => by simp [Value.ownBlock] at hb; exact hg (hb ▸ hm))
    · intro p hpm
      rcases List.mem_or_eq_of_mem_set hpm with hpm | rfl
      · exact hd1 p hpm
      · exact hon
    · rw [List.pairwise_iff_getElem]
      intro i k hi hk hik a ha b hb hDa hab
      subst hab
      have hi' : i < ps.length := by simpa using hi
      have hk' : k < ps.length := by simpa using hk
      have hold : ∀ (i : Nat) (hi : i < ps.length), i ≠ j → a ∈ ps[i].2 → a ∈ ib' → False := fun i hi hij h1 h2 => by
        rcases hib a h2 with h3 | h3
        · exact hap i _ (List.getElem?_eq_getElem hi) hij a h3 hDa h1
        · have := e.lt (hE i _ (xs[i]'(by omega)) (List.getElem?_eq_getElem hi) (List.getElem?_eq_getElem (by omega))) a h1; omega
      by_cases h1 : i = j
      · subst h1
        rw [List.getElem_set_self] at ha
        rw [List.getElem_set_ne (by omega)] at hb
        exact hold k hk' (by omega) hb ha
      · rw [List.getElem_set_ne (by omega)] at ha
        by_cases h2 : k = j
        · subst h2
          rw [List.getElem_set_self] at hb
          exact hold i hi' h1 ha hb
        · rw [List.getElem_set_ne (by omega)] at hb
          rw [List.pairwise_iff_getElem] at hd2
          exact hd2 i k hi' hk' hik a ha a hb hDa rfl
    · intro b hb
      obtain ⟨p, hpm, hb⟩ := List.mem_flatMap.1 hb
      rcases List.mem_or_eq_of_mem_set hpm with hpm | rfl
      · exact .inl (hsub p hpm b hb)
      · rcases hib b hb with h1 | h1
        · exact .inl (hsub _ (List.getElem_mem _) b h1)
        · exact .inr h1
end Go.Proofs.YtbcfkkicmmhhcaaDoor
