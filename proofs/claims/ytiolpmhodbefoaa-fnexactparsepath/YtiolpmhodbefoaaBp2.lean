import Derived.Laws.OwnMore
import Derived.Below
import Derived.Deep.QuietTactic
import Derived.Test.YtiolpmhodbefoaaBp1
namespace Go.Proofs.Ytiolpmhodbefoaa
open Go.RowKit

/-- All old blocks but those of the list are kept. -/
structure Fr (bl : List Nat) (w w' : World) : Prop where
  os : w'.os = w.os
  tape : w'.tape = w.tape
  output : w'.output = w.output
  size : w.heap.size ≤ w'.heap.size
  block : ∀ k, k < w.heap.size → k ∉ bl → w'.heap[k]? = w.heap[k]?
theorem Fr.refl (bl : List Nat) (w : World) : Fr bl w w := ⟨rfl, rfl, rfl, Nat.le_refl _, fun _ _ _ => rfl⟩
theorem Fr.trans' {bl bl' : List Nat} {a b c : World} (h : Fr bl a b) (k : Fr bl' b c) (hs : ∀ i ∈ bl', i ∈ bl ∨ a.heap.size ≤ i) : Fr bl a c :=
  ⟨k.os.trans h.os, k.tape.trans h.tape, k.output.trans h.output, Nat.le_trans h.size k.size, fun i hi hn =>
    (k.block i (Nat.lt_of_lt_of_le hi h.size) (fun e => by rcases hs i e with h1 | h1; exact hn h1; omega)).trans (h.block i hi hn)⟩
theorem Fr.trans {bl : List Nat} {a b c : World} (h : Fr bl a b) (k : Fr bl b c) : Fr bl a c := h.trans' k fun _ => .inl
theorem Fr.mono {bl bl' : List Nat} {a b : World} (h : Fr bl a b) (hs : ∀ i ∈ bl, i ∈ bl') : Fr bl' a b :=
  ⟨h.os, h.tape, h.output, h.size, fun i hi hn => h.block i hi fun e => hn (hs i e)⟩
theorem Fr.of_below {bl : List Nat} {w w' : World} (h : Below w.heap.size w w') : Fr bl w w' := ⟨h.os, h.tape, h.output, h.size, fun k hk _ => h.block k hk⟩
theorem Fr.below {bl : List Nat} {B : Nat} {w w' : World} (h : Fr bl w w') (hB : ∀ b ∈ bl, B ≤ b) (hs : B ≤ w.heap.size) : Below B w w' :=
  ⟨h.os, h.tape, h.output, h.size, fun k hk => h.block k (by omega) fun e => by have := hB k e; omega⟩
theorem Fr.set {bl : List Nat} {a w : World} (h : Fr bl a w) {g : Nat} (hg : g ∈ bl) (j : Nat) (u : Value) : Fr bl a (w.setCell ⟨g, j, none⟩ u) :=
  h.trans ⟨rfl, rfl, rfl, by simp [World.setCell], fun k _ hn => Below.heap_setCell _ _ _ _ fun e => hn (e ▸ hg)⟩
theorem Fr.next {bl : List Nat} {a w w' : World} (h : Fr bl a w) (hb : Below w.heap.size w w') : Fr bl a w' := h.trans (.of_below hb)
theorem Fr.drewN {bl : List Nat} {a w : World} (h : Fr bl a w) (n : Nat) : Fr bl a (w.drewN n) := ⟨h.os, h.tape, h.output, h.size, h.block⟩
theorem Fr.drew {bl : List Nat} {a w : World} (h : Fr bl a w) : Fr bl a w.drew := ⟨h.os, h.tape, h.output, h.size, h.block⟩
/-- The blocks of the list are as they were. -/
def Kp (bl : List Nat) (w w' : World) : Prop := ∀ b ∈ bl, w'.heap[b]? = w.heap[b]?
theorem Kp.of_below {bl : List Nat} {w w' : World} (h : Below w.heap.size w w') (hl : ∀ b ∈ bl, b < w.heap.size) : Kp bl w w' := fun b hb => h.block b (hl b hb)
theorem Fr.kp {bl bl' : List Nat} {w w' : World} (h : Fr bl w w') (hl : ∀ b ∈ bl', b < w.heap.size) (hd : ∀ b ∈ bl', b ∉ bl) : Kp bl' w w' := fun b hb => h.block b (hl b hb) (hd b hb)

theorem own_keep {w w' : World} {B e size n : Nat} {v : Value} {xs : List Value} (h : w.ownsRow B e size v n xs) (hb : Kp v.ownBlock.toList w w') : w'.ownsRow B e size v n xs := by
  refine ⟨h.1, ?_⟩
  rcases h.2 with h0 | ⟨g, cap, cur, hv, hB, hg, r⟩
  · exact .inl h0
  · refine .inr ⟨g, cap, cur, hv, hB, (hb g ?_).trans hg, r⟩
    rw [hv]; simp [Value.ownBlock]

/-- What an element of a row is in memory: its cells, and the blocks of the rows in them. -/
structure Elem (α : Type) where
  T : TypeId
  wd : Nat
  E : World → List Value → α → List Nat → Prop
  len : ∀ {w vs x bl}, E w vs x bl → vs.length = wd
  lt : ∀ {w vs x bl}, E w vs x bl → ∀ b ∈ bl, b < w.heap.size
  keep : ∀ {w w' vs x bl}, E w vs x bl → Kp bl w w' → E w' vs x bl

/-- A row that the call owns: what its elements are, and the blocks of it and of the rows in it. -/
def ORow {α : Type} (e : Elem α) (w : World) (v : Value) (xs : List α) (bl : List Nat) : Prop :=
  ∃ ps : List (List Value × List Nat), ps.length = xs.length ∧ (∀ (j : Nat) (p : List Value × List Nat) (x : α), ps[j]? = some p → xs[j]? = some x → e.E w p.1 x p.2) ∧
    w.ownsRow 0 e.T e.wd v xs.length (ps.flatMap (·.1)) ∧ bl = v.ownBlock.toList ++ ps.flatMap (·.2)

theorem flat_at {ps : List (List Value × List Nat)} {wd : Nat} (h : ∀ p ∈ ps, p.1.length = wd) {j : Nat} {p : List Value × List Nat} (hj : ps[j]? = some p) (m : Nat) (hm : m < wd) : (ps.flatMap (·.1))[j * wd + m]? = p.1[m]? := by
  induction ps generalizing j with
  | nil => simp at hj
  | cons q r ih =>
    have hq := h q List.mem_cons_self
    rw [List.flatMap_cons]
    cases j with
    | zero =>
      simp at hj; subst hj
      rw [Nat.zero_mul, Nat.zero_add, List.getElem?_append_left (by omega)]
    | succ j =>
      have := ih (fun p hp => h p (List.mem_cons_of_mem _ hp)) (by simpa using hj)
      rw [List.getElem?_append_right (by rw [hq, Nat.add_mul]; omega), hq, ← this]
      congr 1
      rw [Nat.add_mul]; omega
theorem flat_len {ps : List (List Value × List Nat)} {wd : Nat} (h : ∀ p ∈ ps, p.1.length = wd) : (ps.flatMap (·.1)).length = ps.length * wd := by
  induction ps with
  | nil => simp
  | cons q r ih =>
    rw [List.flatMap_cons, List.length_append, ih (fun p hp => h p (List.mem_cons_of_mem _ hp)), h q List.mem_cons_self, List.length_cons, Nat.add_mul]; omega
theorem flat_set {ps : List (List Value × List Nat)} {wd : Nat} (h : ∀ p ∈ ps, p.1.length = wd) {j : Nat} {p : List Value × List Nat} (hj : ps[j]? = some p) (m : Nat) (hm : m < wd) (u : Value) (bl : List Nat) :
    (ps.set j (p.1.set m u, bl)).flatMap (·.1) = (ps.flatMap (·.1)).set (j * wd + m) u := by
  induction ps generalizing j with
  | nil => simp at hj
  | cons q r ih =>
    have hq := h q List.mem_cons_self
    cases j with
    | zero =>
      simp at hj; subst hj
      rw [List.set_cons_zero, List.flatMap_cons, List.flatMap_cons, Nat.zero_mul, Nat.zero_add, List.set_append_left _ _ (by omega)]
    | succ j =>
      have := ih (fun p hp => h p (List.mem_cons_of_mem _ hp)) (by simpa using hj)
      rw [List.set_cons_succ, List.flatMap_cons, List.flatMap_cons, this, List.set_append_right _ _ (by rw [hq, Nat.add_mul]; omega), hq]
      congr 2
      rw [Nat.add_mul]; omega
theorem flat_set2 {ps : List (List Value × List Nat)} {j : Nat} {p : List Value × List Nat} (hj : ps[j]? = some p) (vs : List Value) :
    (ps.set j (vs, p.2)).flatMap (·.2) = ps.flatMap (·.2) := by
  induction ps generalizing j with
  | nil => simp at hj
  | cons q r ih =>
    cases j with
    | zero => simp at hj; subst hj; rw [List.set_cons_zero, List.flatMap_cons, List.flatMap_cons]
    | succ j => rw [List.set_cons_succ, List.flatMap_cons, List.flatMap_cons, ih (by simpa using hj)]
theorem nodup_at {ps : List (List Value × List Nat)} (h : (ps.flatMap (·.2)).Nodup) {j : Nat} {p : List Value × List Nat} (hj : ps[j]? = some p) : p.2.Nodup := by
  induction ps generalizing j with
  | nil => simp at hj
  | cons q r ih =>
    rw [List.flatMap_cons, List.nodup_append] at h
    cases j with
    | zero => simp at hj; subst hj; exact h.1
    | succ j => exact ih h.2.1 (by simpa using hj)
theorem nodup_apart {ps : List (List Value × List Nat)} (h : (ps.flatMap (·.2)).Nodup) {i j : Nat} {p q : List Value × List Nat} (hi : ps[i]? = some p) (hj : ps[j]? = some q) (hij : i ≠ j) : ∀ b ∈ p.2, b ∉ q.2 := by
  induction ps generalizing i j with
  | nil => simp at hj
  | cons a r ih =>
    rw [List.flatMap_cons, List.nodup_append] at h
    cases i with
    | zero =>
      cases j with
      | zero => omega
      | succ j =>
        simp at hi; subst hi
        intro b hb hq
        exact h.2.2 b hb b (List.mem_flatMap.2 ⟨q, List.mem_of_getElem? (by simpa using hj), hq⟩) rfl
    | succ i =>
      cases j with
      | zero =>
        simp at hj; subst hj
        intro b hb hq
        exact h.2.2 b hq b (List.mem_flatMap.2 ⟨p, List.mem_of_getElem? (by simpa using hi), hb⟩) rfl
      | succ j => exact ih h.2.1 (by simpa using hi) (by simpa using hj) (by omega)

section
variable {α : Type} {e : Elem α} {w w' : World} {v : Value} {xs : List α} {bl : List Nat}

theorem orow_wd {ps : List (List Value × List Nat)} (hl : ps.length = xs.length) (h : ∀ (j : Nat) (p : List Value × List Nat) (x : α), ps[j]? = some p → xs[j]? = some x → e.E w p.1 x p.2) : ∀ p ∈ ps, p.1.length = e.wd := by
  intro p hp
  obtain ⟨j, hj, rfl⟩ := List.mem_iff_getElem.1 hp
  exact e.len (h j ps[j] (xs[j]'(by omega)) (List.getElem?_eq_getElem hj) (List.getElem?_eq_getElem (by omega)))
theorem ORow.nil (e : Elem α) (w : World) : ORow e w (.slice none 0 0) [] [] := ⟨[], rfl, fun _ _ _ h => by simp at h, w.ownsRow_nil _ _ _, rfl⟩
theorem ORow.lt (h : ORow e w v xs bl) : ∀ b ∈ bl, b < w.heap.size := by
  obtain ⟨ps, hl, hE, ho, rfl⟩ := h
  intro b hb
  rw [List.mem_append] at hb
  rcases hb with hb | hb
  · exact (ho.lt b (by simpa using hb)).2
  · obtain ⟨p, hp, hb⟩ := List.mem_flatMap.1 hb
    obtain ⟨j, hj, rfl⟩ := List.mem_iff_getElem.1 hp
    exact e.lt (hE j ps[j] (xs[j]'(by omega)) (List.getElem?_eq_getElem hj) (List.getElem?_eq_getElem (by omega))) b hb
theorem ORow.keep (h : ORow e w v xs bl) (hk : Kp bl w w') : ORow e w' v xs bl := by
  obtain ⟨ps, hl, hE, ho, rfl⟩ := h
  refine ⟨ps, hl, fun j p x hp hx => e.keep (hE j p x hp hx) fun b hb => hk b ?_, own_keep ho fun b hb => hk b ?_, rfl⟩
  · rw [List.mem_append]; exact .inr (List.mem_flatMap.2 ⟨p, List.mem_of_getElem? hp, hb⟩)
  · rw [List.mem_append]; exact .inl hb
theorem ORow.below (h : ORow e w v xs bl) (hb : Below w.heap.size w w') : ORow e w' v xs bl := h.keep (.of_below hb h.lt)
theorem ORow.form (h : ORow e w v xs bl) : ∃ a cap, v = .slice a xs.length cap ∧ (∀ g, a = some g → g = ⟨g.block, 0, none⟩ ∧ g.block ∈ bl) ∧ (0 < xs.length → ∃ g, a = some ⟨g, 0, none⟩) := by
  obtain ⟨ps, hl, hE, ho, rfl⟩ := h
  rcases ho.2 with ⟨hv, h0⟩ | ⟨g, cap, cur, hv, _⟩
  · exact ⟨none, 0, by rw [hv, h0], fun g h => (by cases h), fun h => by omega⟩
  · refine ⟨some ⟨g, 0, none⟩, cap, hv, fun g h => ?_, fun _ => ⟨g, rfl⟩⟩
    cases h
    exact ⟨rfl, by rw [hv]; simp [Value.ownBlock]⟩
/-- The element at a place: its cells and its blocks. -/
theorem ORow.at {g cap n : Nat} (h : ORow e w (.slice (some ⟨g, 0, none⟩) n cap) xs bl) {j : Nat} {x : α} (hx : xs[j]? = some x) :
    ∃ vs ib, e.E w vs x ib ∧ (∀ m u, vs[m]? = some u → w.cell? ⟨g, j * e.wd + m, none⟩ = some u ∧ w.frozen? ⟨g, j * e.wd + m, none⟩ = false) ∧ (∀ b ∈ ib, b ∈ bl) ∧ g ∈ bl ∧ (bl.Nodup → g ∉ ib ∧ ib.Nodup) := by
  obtain ⟨ps, hl, hE, ho, rfl⟩ := h
  have hj : j < xs.length := (List.getElem?_eq_some_iff.1 hx).1
  have hp : ps[j]? = some ps[j] := List.getElem?_eq_getElem (by omega)
  have hwd := orow_wd hl hE
  have hn : n = xs.length := by
    rcases ho.2 with ⟨hv, h0⟩ | ⟨g', cap', cur, hv, _⟩
    · cases hv
    · injection hv
  subst hn
  refine ⟨ps[j].1, ps[j].2, hE j _ x hp hx, ?_, ?_, ?_, ?_⟩
  · intro m u hm
    have hm' : m < e.wd := by
      have := (List.getElem?_eq_some_iff.1 hm).1
      rwa [hwd _ (List.getElem_mem (by omega))] at this
    have hlt : j * e.wd + m < xs.length * e.wd := by
      have : (j + 1) * e.wd ≤ xs.length * e.wd := Nat.mul_le_mul_right _ hj
      rw [Nat.add_mul] at this; omega
    refine ⟨?_, ho.frozenAt _⟩
    rw [ho.cellAt _ hlt, flat_at hwd hp m hm']; exact hm
  · intro b hb
    rw [List.mem_append]; exact .inr (List.mem_flatMap.2 ⟨_, List.getElem_mem (by omega), hb⟩)
  · simp [Value.ownBlock]
  · intro hd
    rw [List.nodup_append] at hd
    refine ⟨fun hg => hd.2.2 g (by simp [Value.ownBlock]) g (List.mem_flatMap.2 ⟨_, List.getElem_mem (by omega), hg⟩) rfl, ?_⟩
    exact nodup_at hd.2.1 hp
/-- One cell of an element is written. -/
theorem ORow.put {g cap n : Nat} (h : ORow e w (.slice (some ⟨g, 0, none⟩) n cap) xs bl) (hd : bl.Nodup) {j : Nat} {x : α} (hx : xs[j]? = some x) (m : Nat) (hm : m < e.wd) (u : Value) (x' : α)
    (hE : ∀ w' vs ib, e.E w' vs x ib → e.E w' (vs.set m u) x' ib) : ORow e (w.setCell ⟨g, j * e.wd + m, none⟩ u) (.slice (some ⟨g, 0, none⟩) n cap) (xs.set j x') bl := by
  obtain ⟨ps, hl, hE0, ho, rfl⟩ := h
  have hj : j < xs.length := (List.getElem?_eq_some_iff.1 hx).1
  have hp : ps[j]? = some ps[j] := List.getElem?_eq_getElem (by omega)
  have hwd := orow_wd hl hE0
  have hn : n = xs.length := by
    rcases ho.2 with ⟨hv, h0⟩ | ⟨g', cap', cur, hv, _⟩
    · cases hv
    · injection hv
  subst hn
  rw [List.nodup_append] at hd
  have hg : ∀ p ∈ ps, g ∉ p.2 := fun p hp hgp => hd.2.2 g (by simp [Value.ownBlock]) g (List.mem_flatMap.2 ⟨p, hp, hgp⟩) rfl
  have hk : ∀ p ∈ ps, Kp p.2 w (w.setCell ⟨g, j * e.wd + m, none⟩ u) := fun p hp b hb => Below.heap_setCell _ _ _ _ fun he => hg p hp (by subst he; exact hb)
  refine ⟨ps.set j (ps[j].1.set m u, ps[j].2), by simp [hl], ?_, ?_, ?_⟩
  · intro i p y hpi hy
    by_cases hij : i = j
    · subst hij
      rw [List.getElem?_set_self (by omega)] at hpi hy
      cases hpi; cases hy
      exact hE _ _ _ (e.keep (hE0 i _ x hp hx) (hk ps[i] (List.getElem_mem _)))
    · rw [List.getElem?_set_ne (by omega)] at hpi hy
      exact e.keep (hE0 i p y hpi hy) (hk _ (List.mem_of_getElem? hpi))
  · rw [List.length_set, flat_set hwd hp m hm u]
    exact (ho.stored (j * e.wd + m) u).1
  · rw [flat_set2 hp]
/-- The element at a place, whose rows are to be changed. -/
theorem ORow.inner {g cap n : Nat} (h : ORow e w (.slice (some ⟨g, 0, none⟩) n cap) xs bl) (hd : bl.Nodup) {j : Nat} {x : α} (hx : xs[j]? = some x) :
    ∃ vs ib, e.E w vs x ib ∧ (∀ m u, vs[m]? = some u → w.cell? ⟨g, j * e.wd + m, none⟩ = some u ∧ w.frozen? ⟨g, j * e.wd + m, none⟩ = false) ∧ (∀ b ∈ ib, b ∈ bl) ∧ g ∈ bl ∧ ib.Nodup ∧
      ∀ w' x', Fr ib w w' → e.E w' vs x' ib → ORow e w' (.slice (some ⟨g, 0, none⟩) n cap) (xs.set j x') bl := by
  have hlt := h.lt
  obtain ⟨ps, hl, hE, ho, rfl⟩ := h
  have hj : j < xs.length := (List.getElem?_eq_some_iff.1 hx).1
  have hp : ps[j]? = some ps[j] := List.getElem?_eq_getElem (by omega)
  have hwd := orow_wd hl hE
  have hn : n = xs.length := by
    rcases ho.2 with ⟨hv, h0⟩ | ⟨g', cap', cur, hv, _⟩
    · cases hv
    · injection hv
  subst hn
  have hd' := hd
  rw [List.nodup_append] at hd'
  have hsub : ∀ p ∈ ps, ∀ b ∈ p.2, b ∈ (Value.slice (some ⟨g, 0, none⟩) xs.length cap).ownBlock.toList ++ ps.flatMap (·.2) := fun p hp b hb => by
    rw [List.mem_append]; exact .inr (List.mem_flatMap.2 ⟨p, hp, hb⟩)
  refine ⟨ps[j].1, ps[j].2, hE j _ x hp hx, ?_, hsub _ (List.getElem_mem _), ?_, nodup_at hd'.2.1 hp, ?_⟩
  · intro m u hm
    have hm' : m < e.wd := by
      have := (List.getElem?_eq_some_iff.1 hm).1
      rwa [hwd _ (List.getElem_mem (by omega))] at this
    have hlt : j * e.wd + m < xs.length * e.wd := by
      have : (j + 1) * e.wd ≤ xs.length * e.wd := Nat.mul_le_mul_right _ hj
      rw [Nat.add_mul] at this; omega
    refine ⟨?_, ho.frozenAt _⟩
    rw [ho.cellAt _ hlt, flat_at hwd hp m hm']; exact hm
  · simp [Value.ownBlock]
  · intro w' x' hfr hE'
    have hg : g ∉ ps[j].2 := fun hgp => hd'.2.2 g (by simp [Value.ownBlock]) g (List.mem_flatMap.2 ⟨_, List.getElem_mem (by omega), hgp⟩) rfl
    refine ⟨ps, by simp [hl], ?_, ?_, rfl⟩
    · intro i p y hpi hy
      by_cases hij : i = j
      · subst hij
        rw [List.getElem?_set_self (by omega)] at hy
        rw [hp] at hpi
        cases hpi; cases hy
        exact hE'
      · rw [List.getElem?_set_ne (by omega)] at hy
        exact e.keep (hE i p y hpi hy) (hfr.kp (fun b hb => hlt b (hsub p (List.mem_of_getElem? hpi) b hb)) (nodup_apart hd'.2.1 hpi hp hij))
    · rw [List.length_set]
      exact own_keep ho (hfr.kp (fun b hb => hlt b (by rw [List.mem_append]; exact .inl hb)) (fun b hb => by simp [Value.ownBlock] at hb; rw [hb]; exact hg))
/-- One more element. -/
theorem ORow.snoc (h : ORow e w v xs bl) {v' : Value} {x : α} {vs : List Value} {ib cb : List Nat} (hc : bl = v.ownBlock.toList ++ cb) (hk : Kp cb w w')
    (ho : ∀ cs, w.ownsRow 0 e.T e.wd v xs.length cs → w'.ownsRow 0 e.T e.wd v' (xs.length + 1) (cs ++ vs)) (hE : e.E w' vs x ib) :
    ORow e w' v' (xs ++ [x]) (v'.ownBlock.toList ++ (cb ++ ib)) := by
  obtain ⟨ps, hl, hE0, ho0, hb⟩ := h
  rw [hb] at hc
  have hcb : ps.flatMap (·.2) = cb := List.append_cancel_left hc
  refine ⟨ps ++ [(vs, ib)], by simp [hl], ?_, ?_, ?_⟩
  · intro j p y hp hy
    by_cases hj : j < xs.length
    · rw [List.getElem?_append_left (by omega)] at hp hy
      exact e.keep (hE0 j p y hp hy) fun b hb => hk b (by rw [← hcb]; exact List.mem_flatMap.2 ⟨p, List.mem_of_getElem? hp, hb⟩)
    · have hy' := (List.getElem?_eq_some_iff.1 hy).1
      rw [List.length_append, List.length_singleton] at hy'
      have : j = xs.length := by omega
      subst this
      rw [← hl] at hp
      simp at hp hy
      subst hp; subst hy; exact hE
  · have := ho _ ho0
    rw [List.flatMap_append, List.length_append]
    simpa using this
  · rw [List.flatMap_append, hcb]; simp
theorem ORow.split (h : ORow e w v xs bl) : ∃ cb, bl = v.ownBlock.toList ++ cb := by
  obtain ⟨ps, _, _, _, rfl⟩ := h
  exact ⟨_, rfl⟩
theorem ORow.own (h : ORow e w v xs bl) : ∃ cs, w.ownsRow 0 e.T e.wd v xs.length cs := by
  obtain ⟨ps, _, _, ho, _⟩ := h
  exact ⟨_, ho⟩
end
end Go.Proofs.Ytiolpmhodbefoaa


namespace Go.Proofs.Ytiolpmhodbefoaa
open Go.RowKit

/-- What an element of a row that is only read is in memory. -/
structure RElem (α : Type) where
  wd : Nat
  R : World → List Value → α → Prop
  len : ∀ {w vs x}, R w vs x → vs.length = wd
  keep : ∀ {w w' vs x}, R w vs x → Below w.heap.size w w' → R w' vs x
/-- A row that is only read. -/
def RRow {α : Type} (e : RElem α) (w : World) (v : Value) (xs : List α) : Prop :=
  xs.length ≤ maxLen ∧ ∃ a cap, v = .slice a xs.length cap ∧ ∀ (j : Nat) (x : α), xs[j]? = some x → ∃ b o, a = some ⟨b, o, none⟩ ∧ ∃ vs, e.R w vs x ∧ ∀ (m : Nat) (u : Value), vs[m]? = some u → w.cell? ⟨b, o + (j * e.wd + m), none⟩ = some u
theorem RRow.below {α : Type} {e : RElem α} {w w' : World} {v : Value} {xs : List α} (h : RRow e w v xs) (hb : Below w.heap.size w w') : RRow e w' v xs := by
  obtain ⟨hl, a, cap, hv, h⟩ := h
  refine ⟨hl, a, cap, hv, fun j x hx => ?_⟩
  obtain ⟨b, o, ha, vs, hR, hc⟩ := h j x hx
  exact ⟨b, o, ha, vs, e.keep hR hb, fun m u hu => (hb.cell (p := ⟨b, o + (j * e.wd + m), none⟩) (World.block_lt_of_cell? _ _ (hc m u hu))).trans (hc m u hu)⟩
def sRE : RElem ByteArray := { wd := 1, R := fun _ vs s => vs = [.string s] ∧ s.size ≤ maxLen, len := fun h => by rw [h.1]; rfl, keep := fun h _ => h }
def strE : Elem ByteArray := { T := 9, wd := 1, E := fun _ vs s bl => vs = [.string s] ∧ bl = [], len := fun h => by rw [h.1]; rfl, lt := fun h b hb => by rw [h.2] at hb; simp at hb, keep := fun h _ => h }
/-- A row of texts that the call owns. -/
abbrev OStr (w : World) (v : Value) (ss : List ByteArray) (bl : List Nat) : Prop := ORow strE w v ss bl
theorem ostr_iff {w : World} {v : Value} {ss : List ByteArray} {bl : List Nat} : OStr w v ss bl ↔ w.ownsRow 0 9 1 v ss.length (ss.map .string) ∧ bl = v.ownBlock.toList := by
  constructor
  · rintro ⟨ps, hl, hE, ho, rfl⟩
    have h1 : ps = ss.map fun s => ([.string s], []) := by
      apply List.ext_getElem?
      intro j
      by_cases hj : j < ss.length
      · obtain ⟨h1, h2⟩ := hE j ps[j] ss[j] (List.getElem?_eq_getElem (by omega)) (List.getElem?_eq_getElem hj)
        rw [List.getElem?_eq_getElem (by omega), List.getElem?_map, List.getElem?_eq_getElem hj]
        exact congrArg some (Prod.ext h1 h2)
      · rw [List.getElem?_eq_none (by omega), List.getElem?_eq_none (by rw [List.length_map]; omega)]
    subst h1
    have e1 : ((ss.map fun s => (([.string s], []) : List Value × List Nat)).flatMap (·.1)) = ss.map .string := by
      clear hl hE ho; induction ss with
      | nil => rfl
      | cons a r ih => rw [List.map_cons, List.flatMap_cons, ih]; rfl
    have e2 : ((ss.map fun s => (([.string s], []) : List Value × List Nat)).flatMap (·.2)) = [] := by
      clear hl hE ho e1; induction ss with
      | nil => rfl
      | cons a r ih => rw [List.map_cons, List.flatMap_cons, ih]; rfl
    rw [e1] at ho; rw [e2]
    exact ⟨ho, by simp⟩
  · rintro ⟨ho, rfl⟩
    refine ⟨ss.map fun s => ([.string s], []), by simp, ?_, ?_, ?_⟩
    · intro j p x hp hx
      rw [List.getElem?_map, hx] at hp
      cases hp; exact ⟨rfl, rfl⟩
    · have e1 : ((ss.map fun s => (([.string s], []) : List Value × List Nat)).flatMap (·.1)) = ss.map .string := by
        clear ho; induction ss with
        | nil => rfl
        | cons a r ih => rw [List.map_cons, List.flatMap_cons, ih]; rfl
      rw [e1]; exact ho
    · have e2 : ((ss.map fun s => (([.string s], []) : List Value × List Nat)).flatMap (·.2)) = [] := by
        clear ho; induction ss with
        | nil => rfl
        | cons a r ih => rw [List.map_cons, List.flatMap_cons, ih]; rfl
      rw [e2]; simp
/-- A row of texts, for the walks that read one. -/
theorem OStr.ss {w : World} {v : Value} {ss : List ByteArray} {bl : List Nat} (h : OStr w v ss bl) : ∃ a g cap, v = .slice a ss.length cap ∧ SS w a g 0 ss := by
  obtain ⟨ho, _⟩ := ostr_iff.1 h
  rcases ho.2 with ⟨hv, h0⟩ | ⟨g, cap, cur, hv, hb, hg, _⟩
  · exact ⟨none, 0, 0, by rw [hv, h0], ⟨fun h => by omega, fun j hj => by omega⟩⟩
  · refine ⟨some ⟨g, 0, none⟩, g, cap, hv, ⟨fun _ => rfl, fun j hj => ?_⟩⟩
    subst hv
    rw [Nat.zero_add, ho.cellAt j (by omega)]
    simp [hj]
theorem RStr.ss {w : World} {v : Value} {ss : List ByteArray} (h : RRow sRE w v ss) : ∃ a b o cap, v = .slice a ss.length cap ∧ SS w a b o ss ∧ ss.length ≤ maxLen ∧ ∀ j, (ss.getD j ByteArray.empty).size ≤ maxLen := by
  obtain ⟨hl, a, cap, hv, h⟩ := h
  have hsz : ∀ j, (ss.getD j ByteArray.empty).size ≤ maxLen := by
    intro j
    by_cases hj : j < ss.length
    · obtain ⟨_, _, _, _, ⟨_, hR⟩, _⟩ := h j ss[j] (List.getElem?_eq_getElem hj)
      simpa [List.getD, hj] using hR
    · simp [List.getD, hj]
  by_cases h0 : 0 < ss.length
  · obtain ⟨b, o, ha, _⟩ := h 0 ss[0] (List.getElem?_eq_getElem h0)
    refine ⟨a, b, o, cap, hv, ⟨fun _ => ha, fun j hj => ?_⟩, hl, hsz⟩
    obtain ⟨b', o', ha', vs, ⟨hR, _⟩, hc⟩ := h j ss[j] (List.getElem?_eq_getElem hj)
    rw [ha] at ha'; cases ha'
    have := hc 0 (.string ss[j]) (by rw [hR]; rfl)
    simp [sRE] at this
    simpa [List.getD, hj] using this
  · exact ⟨a, 0, 0, cap, hv, ⟨fun h => absurd h h0, fun j hj => by omega⟩, hl, hsz⟩
end Go.Proofs.Ytiolpmhodbefoaa


namespace Go.Proofs.Ytiolpmhodbefoaa
open Go.RowKit

structure PStep where
  byI : Bool
  name : ByteArray
  idx : Int
structure PFOp where
  k : Int
  n : Int
  s : ByteArray
  root : Bool
  steps : List PStep
structure PSel where
  k : Int
  name : ByteArray
  hasA : Bool
  hasB : Bool
  hasC : Bool
  a : Int
  b : Int
  c : Int
  cond : List PFOp
structure PSeg where
  deep : Bool
  sels : List PSel
def stepE : Elem PStep where
  T := 94
  wd := 3
  E := fun _ vs m bl => vs = [.bool m.byI, .string m.name, .int .i64 m.idx] ∧ bl = []
  len := fun h => by rw [h.1]; rfl
  lt := fun h b hb => by rw [h.2] at hb; cases hb
  keep := fun h _ => h
def fopE : Elem PFOp where
  T := 65
  wd := 5
  E := fun w vs m bl => ∃ q, vs = [.int .i64 m.k, .int .i64 m.n, .string m.s, .bool m.root, q] ∧ ORow stepE w q m.steps bl
  len := fun h => by obtain ⟨q, h, _⟩ := h; rw [h]; rfl
  lt := fun h => by obtain ⟨q, _, h⟩ := h; exact h.lt
  keep := fun h hk => by obtain ⟨q, h1, h2⟩ := h; exact ⟨q, h1, h2.keep hk⟩
def selE : Elem PSel where
  T := 43
  wd := 9
  E := fun w vs m bl => ∃ q, vs = [.int .i64 m.k, .string m.name, .bool m.hasA, .bool m.hasB, .bool m.hasC, .int .i64 m.a, .int .i64 m.b, .int .i64 m.c, q] ∧ ORow fopE w q m.cond bl
  len := fun h => by obtain ⟨q, h, _⟩ := h; rw [h]; rfl
  lt := fun h => by obtain ⟨q, _, h⟩ := h; exact h.lt
  keep := fun h hk => by obtain ⟨q, h1, h2⟩ := h; exact ⟨q, h1, h2.keep hk⟩
def segE : Elem PSeg where
  T := 39
  wd := 2
  E := fun w vs m bl => ∃ q, vs = [.bool m.deep, q] ∧ ORow selE w q m.sels bl
  len := fun h => by obtain ⟨q, h, _⟩ := h; rw [h]; rfl
  lt := fun h => by obtain ⟨q, _, h⟩ := h; exact h.lt
  keep := fun h hk => by obtain ⟨q, h1, h2⟩ := h; exact ⟨q, h1, h2.keep hk⟩
end Go.Proofs.Ytiolpmhodbefoaa

