import Derived.Laws.OwnMore
import Derived.Below
import Derived.Deep.QuietTactic
import Derived.Test.YtiolpmhodbefoaaGreatDoorBp1
namespace Go.Proofs.YtiolpmhodbefoaaGreatDoor
open Go.RowKit

/-- All old blocks but those of the list are kept. -/
structure Fr (bl : List Nat) (w w' : World) : Prop where
  os : w'.os = w.os
  tape : w'.tape = w.tape
  output : w'.output = w.output
  size : w.heap.size ≤ w'.heap.size
  block : ∀ k, k < w.heap.size → k ∉ bl → w'.heap[k]? = w.heap[k]?
theorem Fr.refl (bl : List Nat) (w : World) : Fr bl w w := ⟨rfl, rfl, rfl, Nat.le_refl _, fun _ _ _ => rfl⟩
theorem Fr.trans' {bl bl' : List Nat} {a b c : World} (h : Fr bl a b) (k : Fr bl' b c) (hs : ∀ i ∈ bl', i ∈ bl ∨ a.heap.size ≤ i) : Fr bl a c :=
  ⟨k.os.trans h.os, k.tape.trans h.tape, k.output.trans h.output, Nat.le_trans h.size k.size, fun i hi hn =>
    (k.block i (Nat.lt_of_lt_of_le hi h.size) (fun e => by rcases hs i e with h1 | h1; exact hn h1; omega)).trans (h.block i hi hn)⟩
theorem Fr.trans {bl : List Nat} {a b c : World} (h : Fr bl a b) (k : Fr bl b c) : Fr bl a c := h.trans' k fun _ => .inl
theorem Fr.mono {bl bl' : List Nat} {a b : World} (h : Fr bl a b) (hs : ∀ i ∈ bl, i ∈ bl') : Fr bl' a b :=
  ⟨h.os, h.tape, h.output, h.size, fun i hi hn => h.block i hi fun e => hn (hs i e)⟩
theorem Fr.of_below {bl : List Nat} {w w' : World} (h : Below w.heap.size w w') : Fr bl w w' := ⟨h.os, h.tape, h.output, h.size, fun k hk _ => h.block k hk⟩
theorem Fr.below {bl : List Nat} {B : Nat} {w w' : World} (h : Fr bl w w') (hB : ∀ b ∈ bl, B ≤ b) (hs : B ≤ w.heap.size) : Below B w w' :=
  ⟨h.os, h.tape, h.output, h.size, fun k hk => h.block k (by omega) fun e => by have := hB k e; omega⟩
theorem Fr.set {bl : List Nat} {a w : World} (h : Fr bl a w) {g : Nat} (hg : g ∈ bl) (j : Nat) (u : Value) : Fr bl a (w.setCell ⟨g, j, none⟩ u) :=
  h.trans ⟨rfl, rfl, rfl, by simp [World.setCell], fun k _ hn => Below.heap_setCell _ _ _ _ fun e => hn (e ▸ hg)⟩
theorem Fr.next {bl : List Nat} {a w w' : World} (h : Fr bl a w) (hb : Below w.heap.size w w') : Fr bl a w' := h.trans (.of_below hb)
theorem Fr.drewN {bl : List Nat} {a w : World} (h : Fr bl a w) (n : Nat) : Fr bl a (w.drewN n) := ⟨h.os, h.tape, h.output, h.size, h.block⟩
theorem Fr.drew {bl : List Nat} {a w : World} (h : Fr bl a w) : Fr bl a w.drew := ⟨h.os, h.tape, h.output, h.size, h.block⟩
/-- The blocks of the list are as they were. -/
def Kp (bl : List Nat) (w w' : World) : Prop := ∀ b ∈ bl, w'.heap[b]? = w.heap[b]?
theorem Kp.of_below {bl : List Nat} {w w' : World} (h : Below w.heap.size w w') (hl : ∀ b ∈ bl, b < w.heap.size) : Kp bl w w' := fun b hb => h.block b (hl b hb)
theorem own_keep {w w' : World} {B e size n : Nat} {v : Value} {xs : List Value} (h : w.ownsRow B e size v n xs) (hb : Kp v.ownBlock.toList w w') : w'.ownsRow B e size v n xs := by
  refine ⟨h.1, ?_⟩
  rcases h.2 with h0 | ⟨g, cap, cur, hv, hB, hg, r⟩
  · exact .inl h0
  · refine .inr ⟨g, cap, cur, hv, hB, (hb g ?_).trans hg, r⟩
    rw [hv]; simp [Value.ownBlock]

/-- What an element of a row is in memory: its cells, and the blocks of the rows in them. -/
structure Elem (α : Type) where
  T : TypeId
  wd : Nat
  E : World → List Value → α → List Nat → Prop
  len : ∀ {w vs x bl}, E w vs x bl → vs.length = wd
  lt : ∀ {w vs x bl}, E w vs x bl → ∀ b ∈ bl, b < w.heap.size
  keep : ∀ {w w' vs x bl}, E w vs x bl → Kp bl w w' → E w' vs x bl

/-- A row that the call owns: what its elements are, and the blocks of it and of the rows in it. -/
def ORow {α : Type} (e : Elem α) (w : World) (v : Value) (xs : List α) (bl : List Nat) : Prop :=
  ∃ ps : List (List Value × List Nat), ps.length = xs.length ∧ (∀ (j : Nat) (p : List Value × List Nat) (x : α), ps[j]? = some p → xs[j]? = some x → e.E w p.1 x p.2) ∧
    w.ownsRow 0 e.T e.wd v xs.length (ps.flatMap (·.1)) ∧ bl = v.ownBlock.toList ++ ps.flatMap (·.2)

theorem flat_at {ps : List (List Value × List Nat)} {wd : Nat} (h : ∀ p ∈ ps, p.1.length = wd) {j : Nat} {p : List Value × List Nat} (hj : ps[j]? = some p) (m : Nat) (hm : m < wd) : (ps.flatMap (·.1))[j * wd + m]? = p.1[m]? := by
  induction ps generalizing j with
  | nil => simp at hj
  | cons q r ih =>
    have hq := h q List.mem_cons_self
    rw [List.flatMap_cons]
    cases j with
    | zero =>
      simp at hj; subst hj
      rw [Nat.zero_mul, Nat.zero_add, List.getElem?_append_left (by omega)]
    | succ j =>
      have := ih (fun p hp => h p (List.mem_cons_of_mem _ hp)) (by simpa using hj)
      rw [List.getElem?_append_right (by rw [hq, Nat.add_mul]; omega), hq, ← this]
      congr 1
      rw [Nat.add_mul]; omega
theorem flat_len {ps : List (List Value × List Nat)} {wd : Nat} (h : ∀ p ∈ ps, p.1.length = wd) : (ps.flatMap (·.1)).length = ps.length * wd := by
  induction ps with
  | nil => simp
  | cons q r ih =>
    rw [List.flatMap_cons, List.length_append, ih (fun p hp => h p (List.mem_cons_of_mem _ hp)), h q List.mem_cons_self, List.length_cons, Nat.add_mul]; omega
theorem flat_set {ps : List (List Value × List Nat)} {wd : Nat} (h : ∀ p ∈ ps, p.1.length = wd) {j : Nat} {p : List Value × List Nat} (hj : ps[j]? = some p) (m : Nat) (hm : m < wd) (u : Value) (bl : List Nat) :
    (ps.set j (p.1.set m u, bl)).flatMap (·.1) = (ps.flatMap (·.1)).set (j * wd + m) u := by
  induction ps generalizing j with
  | nil => simp at hj
  | cons q r ih =>
    have hq := h q List.mem_cons_self
    cases j with
    | zero =>
      simp at hj; subst hj
      rw [List.set_cons_zero, List.flatMap_cons, List.flatMap_cons, Nat.zero_mul, Nat.zero_add, List.set_append_left _ _ (by omega)]
    | succ j =>
      have := ih (fun p hp => h p (List.mem_cons_of_mem _ hp)) (by simpa using hj)
      rw [List.set_cons_succ, List.flatMap_cons, List.flatMap_cons, this, List.set_append_right _ _ (by rw [hq, Nat.add_mul]; omega), hq]
      congr 2
      rw [Nat.add_mul]; omega
theorem flat_set2 {ps : List (List Value × List Nat)} {j : Nat} {p : List Value × List Nat} (hj : ps[j]? = some p) (vs : List Value) :
    (ps.set j (vs, p.2)).flatMap (·.2) = ps.flatMap (·.2) := by
  induction ps generalizing j with
  | nil => simp at hj
  | cons q r ih =>
    cases j with
    | zero => simp at hj; subst hj; rw [List.set_cons_zero, List.flatMap_cons, List.flatMap_cons]
    | succ j => rw [List.set_cons_succ, List.flatMap_cons, List.flatMap_cons, ih (by simpa using hj)]
theorem nodup_at {ps : List (List Value × List Nat)} (h : (ps.flatMap (·.2)).Nodup) {j : Nat} {p : List Value × List Nat} (hj : ps[j]? = some p) : p.2.Nodup := by
  induction ps generalizing j with
  | nil => simp at hj
  | cons q r ih =>
    rw [List.flatMap_cons, List.nodup_append] at h
    cases j with
    | zero => simp at hj; subst hj; exact h.1
    | succ j => exact ih h.2.1 (by simpa using hj)
section
variable {α : Type} {e : Elem α} {w w' : World} {v : Value} {xs : List α} {bl : List Nat}

theorem orow_wd {ps : List (List Value × List Nat)} (hl : ps.length = xs.length) (h : ∀ (j : Nat) (p : List Value × List Nat) (x : α), ps[j]? = some p → xs[j]? = some x → e.E w p.1 x p.2) : ∀ p ∈ ps, p.1.length = e.wd := by
  intro p hp
  obtain ⟨j, hj, rfl⟩ := List.mem_iff_getElem.1 hp
  exact e.len (h j ps[j] (xs[j]'(by omega)) (List.getElem?_eq_getElem hj) (List.getElem?_eq_getElem (by omega)))
theorem ORow.nil (e : Elem α) (w : World) : ORow e w (.slice none 0 0) [] [] := ⟨[], rfl, fun _ _ _ h => by simp at h, w.ownsRow_nil _ _ _, rfl⟩
theorem ORow.lt (h : ORow e w v xs bl) : ∀ b ∈ bl, b < w.heap.size := by
  obtain ⟨ps, hl, hE, ho, rfl⟩ := h
  intro b hb
  rw [List.mem_append] at hb
  rcases hb with hb | hb
  · exact (ho.lt b (by simpa using hb)).2
  · obtain ⟨p, hp, hb⟩ := List.mem_flatMap.1 hb
    obtain ⟨j, hj, rfl⟩ := List.mem_iff_getElem.1 hp
    exact e.lt (hE j ps[j] (xs[j]'(by omega)) (List.getElem?_eq_getElem hj) (List.getElem?_eq_getElem (by omega))) b hb
theorem ORow.keep (h : ORow e w v xs bl) (hk : Kp bl w w') : ORow e w' v xs bl := by
  obtain ⟨ps, hl, hE, ho, rfl⟩ := h
  refine ⟨ps, hl, fun j p x hp hx => e.keep (hE j p x hp hx) fun b hb => hk b ?_, own_keep ho fun b hb => hk b ?_, rfl⟩
  · rw [List.mem_append]; exact .inr (List.mem_flatMap.2 ⟨p, List.mem_of_getElem? hp, hb⟩)
  · rw [List.mem_append]; exact .inl hb
theorem ORow.below (h : ORow e w v xs bl) (hb : Below w.heap.size w w') : ORow e w' v xs bl := h.keep (.of_below hb h.lt)
theorem ORow.form (h : ORow e w v xs bl) : ∃ a cap, v = .slice a xs.length cap ∧ (∀ g, a = some g → g = ⟨g.block, 0, none⟩ ∧ g.block ∈ bl) ∧ (0 < xs.length → ∃ g, a = some ⟨g, 0, none⟩) := by
  obtain ⟨ps, hl, hE, ho, rfl⟩ := h
  rcases ho.2 with ⟨hv, h0⟩ | ⟨g, cap, cur, hv, _⟩
  · exact ⟨none, 0, by rw [hv, h0], fun g h => (by cases h), fun h => by omega⟩
  · refine ⟨some ⟨g, 0, none⟩, cap, hv, fun g h => ?_, fun _ => ⟨g, rfl⟩⟩
    cases h
    exact ⟨rfl, by rw [hv]; simp [Value.ownBlock]⟩
/-- The element at a place: its cells and its blocks. -/
theorem ORow.at {g cap n : Nat} (h : ORow e w (.slice (some ⟨g, 0, none⟩) n cap) xs bl) {j : Nat} {x : α} (hx : xs[j]? = some x) :
    ∃ vs ib, e.E w vs x ib ∧ (∀ m u, vs[m]? = some u → w.cell? ⟨g, j * e.wd + m, none⟩ = some u ∧ w.frozen? ⟨g, j * e.wd + m, none⟩ = false) ∧ (∀ b ∈ ib, b ∈ bl) ∧ g ∈ bl ∧ (bl.Nodup → g ∉ ib ∧ ib.Nodup) := by
  obtain ⟨ps, hl, hE, ho, rfl⟩ := h
  have hj : j < xs.length := (List.getElem?_eq_some_iff.1 hx).1
  have hp : ps[j]? = some ps[j] := List.getElem?_eq_getElem (by omega)
  have hwd := orow_wd hl hE
  have hn : n = xs.length := by
    rcases ho.2 with ⟨hv, h0⟩ | ⟨g', cap', cur, hv, _⟩
    · cases hv
    · injection hv
  subst hn
  refine ⟨ps[j].1, ps[j].2, hE j _ x hp hx, ?_, ?_, ?_, ?_⟩
  · intro m u hm
    have hm' : m < e.wd := by
      have := (List.getElem?_eq_some_iff.1 hm).1
      rwa [hwd _ (List.getElem_mem (by omega))] at this
    have hlt : j * e.wd + m < xs.length * e.wd := by
      have : (j + 1) * e.wd ≤ xs.length * e.wd := Nat.mul_le_mul_right _ hj
      rw [Nat.add_mul] at this; omega
    refine ⟨?_, ho.frozenAt _⟩
    rw [ho.cellAt _ hlt, flat_at hwd hp m hm']; exact hm
  · intro b hb
    rw [List.mem_append]; exact .inr (List.mem_flatMap.2 ⟨_, List.getElem_mem (by omega), hb⟩)
  · simp [Value.ownBlock]
  · intro hd
    rw [List.nodup_append] at hd
    refine ⟨fun hg => hd.2.2 g (by simp [Value.ownBlock]) g (List.mem_flatMap.2 ⟨_, List.getElem_mem (by omega), hg⟩) rfl, ?_⟩
    exact nodup_at hd.2.1 hp
/-- One cell of an element is written. -/
theorem ORow.put {g cap n : Nat} (h : ORow e w (.slice (some ⟨g, 0, none⟩) n cap) xs bl) (hd : bl.Nodup) {j : Nat} {x : α} (hx : xs[j]? = some x) (m : Nat) (hm : m < e.wd) (u : Value) (x' : α)
    (hE : ∀ w' vs ib, e.E w' vs x ib → e.E w' (vs.set m u) x' ib) : ORow e (w.setCell ⟨g, j * e.wd + m, none⟩ u) (.slice (some ⟨g, 0, none⟩) n cap) (xs.set j x') bl := by
  obtain ⟨ps, hl, hE0, ho, rfl⟩ := h
  have hj : j < xs.length := (List.getElem?_eq_some_iff.1 hx).1
  have hp : ps[j]? = some ps[j] := List.getElem?_eq_getElem (by omega)
  have hwd := orow_wd hl hE0
  have hn : n = xs.length := by
    rcases ho.2 with ⟨hv, h0⟩ | ⟨g', cap', cur, hv, _⟩
    · cases hv
    · injection hv
  subst hn
  rw [List.nodup_append] at hd
  have hg : ∀ p ∈ ps, g ∉ p.2 := fun p hp hgp => hd.2.2 g (by simp [Value.ownBlock]) g (List.mem_flatMap.2 ⟨p, hp, hgp⟩) rfl
  have hk : ∀ p ∈ ps, Kp p.2 w (w.setCell ⟨g, j * e.wd + m, none⟩ u) := fun p hp b hb => Below.heap_setCell _ _ _ _ fun he => hg p hp (by subst he; exact hb)
  refine ⟨ps.set j (ps[j].1.set m u, ps[j].2), by simp [hl], ?_, ?_, ?_⟩
  · intro i p y hpi hy
    by_cases hij : i = j
    · subst hij
      rw [List.getElem?_set_self (by omega)] at hpi hy
      cases hpi; cases hy
      exact hE _ _ _ (e.keep (hE0 i _ x hp hx) (hk ps[i] (List.getElem_mem _)))
    · rw [List.getElem?_set_ne (by omega)] at hpi hy
      exact e.keep (hE0 i p y hpi hy) (hk _ (List.mem_of_getElem? hpi))
  · rw [List.length_set, flat_set hwd hp m hm u]
    exact (ho.stored (j * e.wd + m) u).1
  · rw [flat_set2 hp]
/-- One more element. -/
theorem ORow.snoc (h : ORow e w v xs bl) {v' : Value} {x : α} {vs : List Value} {ib cb : List Nat} (hc : bl = v.ownBlock.toList ++ cb) (hk : Kp cb w w')
    (ho : ∀ cs, w.ownsRow 0 e.T e.wd v xs.length cs → w'.ownsRow 0 e.T e.wd v' (xs.length + 1) (cs ++ vs)) (hE : e.E w' vs x ib) :
    ORow e w' v' (xs ++ [x]) (v'.ownBlock.toList ++ (cb ++ ib)) := by
  obtain ⟨ps, hl, hE0, ho0, hb⟩ := h
  rw [hb] at hc
  have hcb : ps.flatMap (·.2) = cb := List.append_cancel_left hc
  refine ⟨ps ++ [(vs, ib)], by simp [hl], ?_, ?_, ?_⟩
  · intro j p y hp hy
    by_cases hj : j < xs.length
    · rw [List.getElem?_append_left (by omega)] at hp hy
      exact e.keep (hE0 j p y hp hy) fun b hb => hk b (by rw [← hcb]; exact List.mem_flatMap.2 ⟨p, List.mem_of_getElem? hp, hb⟩)
    · have hy' := (List.getElem?_eq_some_iff.1 hy).1
      rw [List.length_append, List.length_singleton] at hy'
      have : j = xs.length := by omega
      subst this
      rw [← hl] at hp
      simp at hp hy
      subst hp; subst hy; exact hE
  · have := ho _ ho0
    rw [List.flatMap_append, List.length_append]
    simpa using this
  · rw [List.flatMap_append, hcb]; simp
theorem ORow.split (h : ORow e w v xs bl) : ∃ cb, bl = v.ownBlock.toList ++ cb := by
  obtain ⟨ps, _, _, _, rfl⟩ := h
  exact ⟨_, rfl⟩
theorem ORow.own (h : ORow e w v xs bl) : ∃ cs, w.ownsRow 0 e.T e.wd v xs.length cs := by
  obtain ⟨ps, _, _, ho, _⟩ := h
  exact ⟨_, ho⟩
end
end Go.Proofs.YtiolpmhodbefoaaGreatDoor


namespace Go.Proofs.YtiolpmhodbefoaaGreatDoor
open Go.RowKit

/-- What an element of a row that is only read is in memory. -/
structure RElem (α : Type) where
  wd : Nat
  R : World → List Value → α → Prop
  len : ∀ {w vs x}, R w vs x → vs.length = wd
  keep : ∀ {w w' vs x}, R w vs x → Below w.heap.size w w' → R w' vs x
/-- A row that is only read. -/
def RRow {α : Type} (e : RElem α) (w : World) (v : Value) (xs : List α) : Prop :=
  xs.length ≤ maxLen ∧ ∃ a cap, v = .slice a xs.length cap ∧ ∀ (j : Nat) (x : α), xs[j]? = some x → ∃ b o, a = some ⟨b, o, none⟩ ∧ ∃ vs, e.R w vs x ∧ ∀ (m : Nat) (u : Value), vs[m]? = some u → w.cell? ⟨b, o + (j * e.wd + m), none⟩ = some u
theorem RRow.below {α : Type} {e : RElem α} {w w' : World} {v : Value} {xs : List α} (h : RRow e w v xs) (hb : Below w.heap.size w w') : RRow e w' v xs := by
  obtain ⟨hl, a, cap, hv, h⟩ := h
  refine ⟨hl, a, cap, hv, fun j x hx => ?_⟩
  obtain ⟨b, o, ha, vs, hR, hc⟩ := h j x hx
  exact ⟨b, o, ha, vs, e.keep hR hb, fun m u hu => (hb.cell (p := ⟨b, o + (j * e.wd + m), none⟩) (World.block_lt_of_cell? _ _ (hc m u hu))).trans (hc m u hu)⟩
def sRE : RElem ByteArray := { wd := 1, R := fun _ vs s => vs = [.string s] ∧ s.size ≤ maxLen, len := fun h => by rw [h.1]; rfl, keep := fun h _ => h }
def strE : Elem ByteArray := { T := 9, wd := 1, E := fun _ vs s bl => vs = [.string s] ∧ bl = [], len := fun h => by rw [h.1]; rfl, lt := fun h b hb => by rw [h.2] at hb; simp at hb, keep := fun h _ => h }
/-- A row of texts that the call owns. -/
abbrev OStr (w : World) (v : Value) (ss : List ByteArray) (bl : List Nat) : Prop := ORow strE w v ss bl
theorem ostr_iff {w : World} {v : Value} {ss : List ByteArray} {bl : List Nat} : OStr w v ss bl ↔ w.ownsRow 0 9 1 v ss.length (ss.map .string) ∧ bl = v.ownBlock.toList := by
  constructor
  · rintro ⟨ps, hl, hE, ho, rfl⟩
    have h1 : ps = ss.map fun s => ([.string s], []) := by
      apply List.ext_getElem?
      intro j
      by_cases hj : j < ss.length
      · obtain ⟨h1, h2⟩ := hE j ps[j] ss[j] (List.getElem?_eq_getElem (by omega)) (List.getElem?_eq_getElem hj)
        rw [List.getElem?_eq_getElem (by omega), List.getElem?_map, List.getElem?_eq_getElem hj]
        exact congrArg some (Prod.ext h1 h2)
      · rw [List.getElem?_eq_none (by omega), List.getElem?_eq_none (by rw [List.length_map]; omega)]
    subst h1
    have e1 : ((ss.map fun s => (([.string s], []) : List Value × List Nat)).flatMap (·.1)) = ss.map .string := by
      clear hl hE ho; induction ss with
      | nil => rfl
      | cons a r ih => rw [List.map_cons, List.flatMap_cons, ih]; rfl
    have e2 : ((ss.map fun s => (([.string s], []) : List Value × List Nat)).flatMap (·.2)) = [] := by
      clear hl hE ho e1; induction ss with
      | nil => rfl
      | cons a r ih => rw [List.map_cons, List.flatMap_cons, ih]; rfl
    rw [e1] at ho; rw [e2]
    exact ⟨ho, by simp⟩
  · rintro ⟨ho, rfl⟩
    refine ⟨ss.map fun s => ([.string s], []), by simp, ?_, ?_, ?_⟩
    · intro j p x hp hx
      rw [List.getElem?_map, hx] at hp
      cases hp; exact ⟨rfl, rfl⟩
    · have e1 : ((ss.map fun s => (([.string s], []) : List Value × List Nat)).flatMap (·.1)) = ss.map .string := by
        clear ho; induction ss with
        | nil => rfl
        | cons a r ih => rw [List.map_cons, List.flatMap_cons, ih]; rfl
      rw [e1]; exact ho
    · have e2 : ((ss.map fun s => (([.string s], []) : List Value × List Nat)).flatMap (·.2)) = [] := by
        clear ho; induction ss with
        | nil => rfl
        | cons a r ih => rw [List.map_cons, List.flatMap_cons, ih]; rfl
      rw [e2]; simp
/-- A row of texts, for the walks that read one. -/
theorem OStr.ss {w : World} {v : Value} {ss : List ByteArray} {bl : List Nat} (h : OStr w v ss bl) : ∃ a g cap, v = .slice a ss.length cap ∧ SS w a g 0 ss := by
  obtain ⟨ho, _⟩ := ostr_iff.1 h
  rcases ho.2 with ⟨hv, h0⟩ | ⟨g, cap, cur, hv, hb, hg, _⟩
  · exact ⟨none, 0, 0, by rw [hv, h0], ⟨fun h => by omega, fun j hj => by omega⟩⟩
  · refine ⟨some ⟨g, 0, none⟩, g, cap, hv, ⟨fun _ => rfl, fun j hj => ?_⟩⟩
    subst hv
    rw [Nat.zero_add, ho.cellAt j (by omega)]
    simp [hj]
theorem RStr.ss {w : World} {v : Value} {ss : List ByteArray} (h : RRow sRE w v ss) : ∃ a b o cap, v = .slice a ss.length cap ∧ SS w a b o ss ∧ ss.length ≤ maxLen ∧ ∀ j, (ss.getD j ByteArray.empty).size ≤ maxLen := by
  obtain ⟨hl, a, cap, hv, h⟩ := h
  have hsz : ∀ j, (ss.getD j ByteArray.empty).size ≤ maxLen := by
    intro j
    by_cases hj : j < ss.length
    · obtain ⟨_, _, _, _, ⟨_, hR⟩, _⟩ := h j ss[j] (List.getElem?_eq_getElem hj)
      simpa [List.getD, hj] using hR
    · simp [List.getD, hj]
  by_cases h0 : 0 < ss.length
  · obtain ⟨b, o, ha, _⟩ := h 0 ss[0] (List.getElem?_eq_getElem h0)
    refine ⟨a, b, o, cap, hv, ⟨fun _ => ha, fun j hj => ?_⟩, hl, hsz⟩
    obtain ⟨b', o', ha', vs, ⟨hR, _⟩, hc⟩ := h j ss[j] (List.getElem?_eq_getElem hj)
    rw [ha] at ha'; cases ha'
    have := hc 0 (.string ss[j]) (by rw [hR]; rfl)
    simp [sRE] at this
    simpa [List.getD, hj] using this
  · exact ⟨a, 0, 0, cap, hv, ⟨fun h => absurd h h0, fun j hj => by omega⟩, hl, hsz⟩
end Go.Proofs.YtiolpmhodbefoaaGreatDoor


namespace Go.Proofs.YtiolpmhodbefoaaGreatDoor
open Go.RowKit

structure PStep where
  byI : Bool
  name : ByteArray
  idx : Int
structure PFOp where
  k : Int
  n : Int
  s : ByteArray
  root : Bool
  steps : List PStep
structure PSel where
  k : Int
  name : ByteArray
  hasA : Bool
  hasB : Bool
  hasC : Bool
  a : Int
  b : Int
  c : Int
  cond : List PFOp
structure PSeg where
  deep : Bool
  sels : List PSel
def stepR : RElem PStep where
  wd := 3
  R := fun _ vs m => vs = [.bool m.byI, .string m.name, .int .i64 m.idx] ∧ m.name.size ≤ maxLen
  len := fun h => by rw [h.1]; rfl
  keep := fun h _ => h
def stepE : Elem PStep where
  T := 131
  wd := 3
  E := fun _ vs m bl => vs = [.bool m.byI, .string m.name, .int .i64 m.idx] ∧ bl = []
  len := fun h => by rw [h.1]; rfl
  lt := fun h b hb => by rw [h.2] at hb; cases hb
  keep := fun h _ => h
def fopR : RElem PFOp where
  wd := 5
  R := fun w vs m => ∃ q, vs = [.int .i64 m.k, .int .i64 m.n, .string m.s, .bool m.root, q] ∧ m.s.size ≤ maxLen ∧ RRow stepR w q m.steps
  len := fun h => by obtain ⟨q, h, _⟩ := h; rw [h]; rfl
  keep := fun h hb => by obtain ⟨q, h1, h0, h2⟩ := h; exact ⟨q, h1, h0, h2.below hb⟩
def fopE : Elem PFOp where
  T := 68
  wd := 5
  E := fun w vs m bl => ∃ q, vs = [.int .i64 m.k, .int .i64 m.n, .string m.s, .bool m.root, q] ∧ ORow stepE w q m.steps bl
  len := fun h => by obtain ⟨q, h, _⟩ := h; rw [h]; rfl
  lt := fun h => by obtain ⟨q, _, h⟩ := h; exact h.lt
  keep := fun h hk => by obtain ⟨q, h1, h2⟩ := h; exact ⟨q, h1, h2.keep hk⟩
def selR : RElem PSel where
  wd := 9
  R := fun w vs m => ∃ q, vs = [.int .i64 m.k, .string m.name, .bool m.hasA, .bool m.hasB, .bool m.hasC, .int .i64 m.a, .int .i64 m.b, .int .i64 m.c, q] ∧ m.name.size ≤ maxLen ∧ RRow fopR w q m.cond
  len := fun h => by obtain ⟨q, h, _⟩ := h; rw [h]; rfl
  keep := fun h hb => by obtain ⟨q, h1, h0, h2⟩ := h; exact ⟨q, h1, h0, h2.below hb⟩
def selE : Elem PSel where
  T := 46
  wd := 9
  E := fun w vs m bl => ∃ q, vs = [.int .i64 m.k, .string m.name, .bool m.hasA, .bool m.hasB, .bool m.hasC, .int .i64 m.a, .int .i64 m.b, .int .i64 m.c, q] ∧ ORow fopE w q m.cond bl
  len := fun h => by obtain ⟨q, h, _⟩ := h; rw [h]; rfl
  lt := fun h => by obtain ⟨q, _, h⟩ := h; exact h.lt
  keep := fun h hk => by obtain ⟨q, h1, h2⟩ := h; exact ⟨q, h1, h2.keep hk⟩
def segR : RElem PSeg where
  wd := 2
  R := fun w vs m => ∃ q, vs = [.bool m.deep, q] ∧ RRow selR w q m.sels
  len := fun h => by obtain ⟨q, h, _⟩ := h; rw [h]; rfl
  keep := fun h hb => by obtain ⟨q, h1, h2⟩ := h; exact ⟨q, h1, h2.below hb⟩
def segE : Elem PSeg where
  T := 42
  wd := 2
  E := fun w vs m bl => ∃ q, vs = [.bool m.deep, q] ∧ ORow selE w q m.sels bl
  len := fun h => by obtain ⟨q, h, _⟩ := h; rw [h]; rfl
  lt := fun h => by obtain ⟨q, _, h⟩ := h; exact h.lt
  keep := fun h hk => by obtain ⟨q, h1, h2⟩ := h; exact ⟨q, h1, h2.keep hk⟩
end Go.Proofs.YtiolpmhodbefoaaGreatDoor


namespace Go.Proofs.YtiolpmhodbefoaaGreatDoor
open Go.RowKit

/-- Kinds of a filter's operations: a value, a truth of no parts, of one, of two. -/
def isVal (k : Int) : Bool := decide (1 ≤ k) && decide (k ≤ 7)
def isTru (k : Int) : Bool := k == 8 || k == 9 || k == 10 || k == 11 || k == 12
def parts (k : Int) : Nat := if k = 9 ∨ k = 10 ∨ k = 11 then 2 else if k = 12 then 1 else 0
/-- One operation on the stack of what came out: whether each is a truth. -/
def stepS (S : List Bool) (k : Int) : Option (List Bool) :=
  if S.length < parts k then none
  else if (S.take (parts k)).all (fun t => t != (k == 9)) then some (isTru k :: S.drop (parts k)) else none
def runS : List Int → List Bool → Option (List Bool)
  | [], S => some S
  | k :: r, S => (stepS S k).bind fun S' => runS r S'
/-- Well formed: a value, or a truth. -/
inductive WF : Bool → List Int → Prop
  | val {k : Int} : isVal k = true → WF false [k]
  | ex : WF true [8]
  | cmp {l m : List Int} : WF false l → WF false m → WF true (l ++ m ++ [9])
  | two {l m : List Int} {k : Int} : k = 10 ∨ k = 11 → WF true l → WF true m → WF true (l ++ m ++ [k])
  | not {l : List Int} : WF true l → WF true (l ++ [12])
theorem runS_app (a b : List Int) (S : List Bool) : runS (a ++ b) S = (runS a S).bind fun S' => runS b S' := by
  induction a generalizing S with
  | nil => rfl
  | cons k r ih =>
    rw [List.cons_append, runS, runS]
    cases stepS S k with
    | none => rfl
    | some S' => exact ih S'
theorem isVal_tru {k : Int} (h : isVal k = true) : isTru k = false ∧ parts k = 0 ∧ k ≠ 9 := by
  unfold isVal at h
  simp only [Bool.and_eq_true, decide_eq_true_eq] at h
  refine ⟨?_, ?_, by omega⟩
  · unfold isTru
    simp only [Bool.or_eq_false_iff, beq_eq_false_iff_ne]
    omega
  · unfold parts
    rw [if_neg (by omega), if_neg (by omega)]
/-- A well formed row puts one thing more on the stack. -/
theorem WF.run {t : Bool} {l : List Int} (h : WF t l) : ∀ S, runS l S = some (t :: S) := by
  induction h with
  | val hk =>
    intro S
    obtain ⟨h1, h2, _⟩ := isVal_tru hk
    simp [runS, stepS, h1, h2]
  | ex => intro S; rfl
  | cmp _ _ i1 i2 => intro S; rw [runS_app, runS_app, i1]; simp only [Option.bind_some]; rw [i2]; rfl
  | two hk _ _ i1 i2 =>
    intro S; rw [runS_app, runS_app, i1]; simp only [Option.bind_some]; rw [i2]
    rcases hk with rfl | rfl <;> rfl
  | not _ i1 => intro S; rw [runS_app, i1]; rfl
/-- The rows of what lies on the stack, the uppermost first. -/
inductive WFs : List Bool → List Int → Prop
  | nil : WFs [] []
  | cons {t : Bool} {S : List Bool} {l m : List Int} : WF t l → WFs S m → WFs (t :: S) (m ++ l)
theorem WFs.one {S : List Bool} {m : List Int} (h : WFs S m) (hl : 1 ≤ S.length) : ∃ t S' l m', S = t :: S' ∧ m = m' ++ l ∧ WF t l ∧ WFs S' m' := by
  cases h with
  | nil => simp at hl
  | cons w h => exact ⟨_, _, _, _, rfl, rfl, w, h⟩
theorem WFs.two {S : List Bool} {m : List Int} (h : WFs S m) (hl : 2 ≤ S.length) : ∃ t1 t2 S' l1 l2 m', S = t1 :: t2 :: S' ∧ m = m' ++ l2 ++ l1 ∧ WF t1 l1 ∧ WF t2 l2 ∧ WFs S' m' := by
  obtain ⟨t1, S1, l1, m1, rfl, rfl, w1, h1⟩ := h.one (by omega)
  obtain ⟨t2, S2, l2, m2, rfl, rfl, w2, h2⟩ := h1.one (by simpa using hl)
  exact ⟨_, _, _, _, _, _, rfl, rfl, w1, w2, h2⟩
theorem WFs.step {S S' : List Bool} {m : List Int} {k : Int} (h : WFs S m) (hk : 1 ≤ k ∧ k ≤ 12) (hs : stepS S k = some S') : WFs S' (m ++ [k]) := by
  unfold stepS at hs
  split at hs
  · cases hs
  · rename_i hlen
    split at hs
    · rename_i hall
      injection hs with hs
      subst hs
      by_cases hv : isVal k = true
      · obtain ⟨h1, h2, _⟩ := isVal_tru hv
        rw [h1, h2, List.drop_zero]
        exact .cons (.val hv) h
      · have hk8 : 8 ≤ k := by
          unfold isVal at hv
          simp only [Bool.and_eq_true, decide_eq_true_eq, not_and] at hv
          have := hv hk.1
          omega
        have two : ∀ k' : Int, parts k' = 2 → k = k' → ∃ t1 t2 S'' l1 l2 m', S = t1 :: t2 :: S'' ∧ m = m' ++ l2 ++ l1 ∧ WF t1 l1 ∧ WF t2 l2 ∧ WFs S'' m' := fun k' e1 e2 => h.two (by rw [e2, e1] at hlen; omega)
        rcases (show k = 8 ∨ k = 9 ∨ k = 10 ∨ k = 11 ∨ k = 12 by omega) with e | e | e | e | e
        · subst e
          exact .cons .ex h
        · obtain ⟨t1, t2, S2, l1, l2, m', rfl, rfl, w1, w2, h2⟩ := two 9 rfl e
          subst e
          simp [parts] at hall
          obtain ⟨rfl, rfl⟩ := hall
          rw [List.append_assoc, List.append_assoc, ← List.append_assoc l2]
          exact .cons (.cmp w2 w1) h2
        · obtain ⟨t1, t2, S2, l1, l2, m', rfl, rfl, w1, w2, h2⟩ := two 10 rfl e
          subst e
          simp [parts] at hall
          obtain ⟨rfl, rfl⟩ := hall
          rw [List.append_assoc, List.append_assoc, ← List.append_assoc l2]
          exact .cons (.two (.inl rfl) w2 w1) h2
        · obtain ⟨t1, t2, S2, l1, l2, m', rfl, rfl, w1, w2, h2⟩ := two 11 rfl e
          subst e
          simp [parts] at hall
          obtain ⟨rfl, rfl⟩ := hall
          rw [List.append_assoc, List.append_assoc, ← List.append_assoc l2]
          exact .cons (.two (.inr rfl) w2 w1) h2
        · obtain ⟨t1, S2, l1, m', rfl, rfl, w1, h2⟩ := h.one (by rw [e, show parts 12 = 1 from rfl] at hlen; omega)
          subst e
          simp [parts] at hall
          subst hall
          rw [List.append_assoc]
          exact .cons (.not w1) h2
    · cases hs
theorem run_WFs : ∀ (ks : List Int), (∀ k ∈ ks, 1 ≤ k ∧ k ≤ 12) → ∀ (pre : List Int) (S0 S : List Bool), WFs S0 pre → runS ks S0 = some S → WFs S (pre ++ ks)
  | [], _, pre, S0, S, h0, h => by
    rw [runS] at h
    injection h with h
    subst h
    rw [List.append_nil]
    exact h0
  | k :: r, hk, pre, S0, S, h0, h => by
    rw [runS] at h
    obtain ⟨S1, hs, hr⟩ := Option.bind_eq_some_iff.1 h
    rw [show pre ++ k :: r = (pre ++ [k]) ++ r by simp]
    exact run_WFs r (fun x hx => hk x (List.mem_cons_of_mem _ hx)) _ S1 S (h0.step (hk k List.mem_cons_self) hs) hr
/-- What comes out as one truth is well formed, and the other way round. -/
theorem run_true (ks : List Int) (hk : ∀ k ∈ ks, 1 ≤ k ∧ k ≤ 12) : runS ks [] = some [true] ↔ WF true ks := by
  constructor
  · intro h
    have := run_WFs ks hk [] [] [true] .nil h
    rw [List.nil_append] at this
    obtain ⟨t, S', l, m', e, rfl, w, h2⟩ := this.one (by simp)
    injection e with e1 e2
    subst e1; subst e2
    cases h2
    exact w
  · intro h; exact h.run []
/-- The same, found backwards on the row turned round: what is left behind the first one. -/
def backF : Nat → List Int → Bool → Option (List Int)
  | 0, _, _ => none
  | _ + 1, [], _ => none
  | n + 1, k :: r, t =>
    if t = false then (if isVal k = true then some r else none)
    else if k = 8 then some r
    else if k = 12 then backF n r true
    else if k = 9 then (backF n r false).bind fun r' => backF n r' false
    else if k = 10 ∨ k = 11 then (backF n r true).bind fun r' => backF n r' true
    else none
theorem back_sound : ∀ (n : Nat) (rs : List Int) (t : Bool) (r' : List Int), backF n rs t = some r' → ∃ l, rs = l.reverse ++ r' ∧ WF t l
  | 0, _, _, _, h => by simp [backF] at h
  | _ + 1, [], _, _, h => by simp [backF] at h
  | n + 1, k :: r, t, r', h => by
    rw [backF] at h
    split at h
    · rename_i ht
      subst ht
      split at h
      · rename_i hv
        injection h with h
        subst h
        exact ⟨[k], rfl, .val hv⟩
      · cases h
    · rename_i ht
      have ht : t = true := by cases t <;> simp_all
      subst ht
      split at h
      · rename_i e
        injection h with h
        subst h; subst e
        exact ⟨[8], rfl, .ex⟩
      · split at h
        · rename_i e
          subst e
          obtain ⟨l, e, w⟩ := back_sound n r true r' h
          exact ⟨l ++ [12], by rw [e]; simp, .not w⟩
        · split at h
          · rename_i e
            subst e
            obtain ⟨r1, h1, h2⟩ := Option.bind_eq_some_iff.1 h
            obtain ⟨l1, e1, w1⟩ := back_sound n r false r1 h1
            obtain ⟨l2, e2, w2⟩ := back_sound n r1 false r' h2
            exact ⟨l2 ++ l1 ++ [9], by rw [e1, e2]; simp, .cmp w2 w1⟩
          · split at h
            · rename_i e
              obtain ⟨r1, h1, h2⟩ := Option.bind_eq_some_iff.1 h
              obtain ⟨l1, e1, w1⟩ := back_sound n r true r1 h1
              obtain ⟨l2, e2, w2⟩ := back_sound n r1 true r' h2
              exact ⟨l2 ++ l1 ++ [k], by rw [e1, e2]; simp, .two e w2 w1⟩
            · cases h
theorem WF.back {t : Bool} {l : List Int} (h : WF t l) : ∀ (n : Nat) (pre : List Int), l.length + pre.length ≤ n → backF n (l.reverse ++ pre) t = some pre := by
  induction h with
  | val hk =>
    intro n pre hn
    obtain ⟨m, rfl⟩ : ∃ m, n = m + 1 := ⟨n - 1, by simp at hn; omega⟩
    simp [backF, hk]
  | ex =>
    intro n pre hn
    obtain ⟨m, rfl⟩ : ∃ m, n = m + 1 := ⟨n - 1, by simp at hn; omega⟩
    simp [backF]
  | @cmp l m _ _ i1 i2 =>
    intro n pre hn
    simp only [List.length_append, List.length_cons, List.length_nil] at hn
    obtain ⟨q, rfl⟩ : ∃ q, n = q + 1 := ⟨n - 1, by omega⟩
    rw [show (l ++ m ++ [(9 : Int)]).reverse ++ pre = 9 :: (m.reverse ++ (l.reverse ++ pre)) by simp, backF]
    rw [if_neg (by simp), if_neg (by decide), if_neg (by decide), if_pos rfl, i2 q _ (by simp; omega)]
    simp only [Option.bind_some]
    exact i1 q pre (by omega)
  | @two l m k hk _ _ i1 i2 =>
    intro n pre hn
    simp only [List.length_append, List.length_cons, List.length_nil] at hn
    obtain ⟨q, rfl⟩ : ∃ q, n = q + 1 := ⟨n - 1, by omega⟩
    rw [show (l ++ m ++ [k]).reverse ++ pre = k :: (m.reverse ++ (l.reverse ++ pre)) by simp, backF]
    rw [if_neg (by simp), if_neg (by omega), if_neg (by omega), if_neg (by omega), if_pos hk, i2 q _ (by simp; omega)]
    simp only [Option.bind_some]
    exact i1 q pre (by omega)
  | @not l _ i1 =>
    intro n pre hn
    simp only [List.length_append, List.length_cons, List.length_nil] at hn
    obtain ⟨q, rfl⟩ : ∃ q, n = q + 1 := ⟨n - 1, by omega⟩
    rw [show (l ++ [(12 : Int)]).reverse ++ pre = 12 :: (l.reverse ++ pre) by simp, backF]
    rw [if_neg (by simp), if_neg (by decide), if_pos rfl]
    exact i1 q pre (by omega)
theorem back_true (ks : List Int) (n : Nat) (hn : ks.length ≤ n) : backF n ks.reverse true = some [] ↔ WF true ks := by
  constructor
  · intro h
    obtain ⟨l, e, w⟩ := back_sound n _ _ _ h
    rw [List.append_nil] at e
    rwa [List.reverse_inj.1 e]
  · intro h
    have := h.back n [] (by simpa using hn)
    rwa [List.append_nil] at this
/-- Backwards and forwards agree. -/
theorem cond_agree (ks : List Int) (hk : ∀ k ∈ ks, 1 ≤ k ∧ k ≤ 12) (n : Nat) (hn : ks.length ≤ n) : runS ks [] = some [true] ↔ backF n ks.reverse true = some [] := by
  rw [run_true ks hk, back_true ks n hn]
end Go.Proofs.YtiolpmhodbefoaaGreatDoor


namespace Go.Proofs.YtiolpmhodbefoaaGreatDoor
open Go.RowKit

structure Msg where
  ver : Int
  ptrs : List ByteArray
  over : Bool
structure Wat where
  client : Int
  ptr : ByteArray
  cap : Int
  since : Int
  closed : Bool
  queue : List Msg
structure Nws where
  ver : Int
  ptrs : List ByteArray
structure Hb where
  watches : List Wat
  waiting : List Nws

def msgR : RElem Msg where
  wd := 3
  R := fun w vs m => ∃ q, vs = [.int .i64 m.ver, q, .bool m.over] ∧ RRow sRE w q m.ptrs
  len := fun h => by obtain ⟨q, h, _⟩ := h; rw [h]; rfl
  keep := fun h hb => by obtain ⟨q, h1, h2⟩ := h; exact ⟨q, h1, h2.below hb⟩
def nwsR : RElem Nws where
  wd := 2
  R := fun w vs m => ∃ q, vs = [.int .i64 m.ver, q] ∧ RRow sRE w q m.ptrs
  len := fun h => by obtain ⟨q, h, _⟩ := h; rw [h]; rfl
  keep := fun h hb => by obtain ⟨q, h1, h2⟩ := h; exact ⟨q, h1, h2.below hb⟩
def watR : RElem Wat where
  wd := 6
  R := fun w vs m => ∃ q, vs = [.int .i64 m.client, .string m.ptr, .int .i64 m.cap, .int .i64 m.since, .bool m.closed, q] ∧ m.ptr.size ≤ maxLen ∧ RRow msgR w q m.queue
  len := fun h => by obtain ⟨q, h, _⟩ := h; rw [h]; rfl
  keep := fun h hb => by obtain ⟨q, h1, h0, h2⟩ := h; exact ⟨q, h1, h0, h2.below hb⟩
def RHub (w : World) (v : Value) (h : Hb) : Prop := ∃ p q, v = .agg #[p, q] ∧ RRow watR w p h.watches ∧ RRow nwsR w q h.waiting
theorem RHub.below {w w' : World} {v : Value} {h : Hb} (hr : RHub w v h) (hb : Below w.heap.size w w') : RHub w' v h := by
  obtain ⟨p, q, hv, h1, h2⟩ := hr
  exact ⟨p, q, hv, h1.below hb, h2.below hb⟩

end Go.Proofs.YtiolpmhodbefoaaGreatDoor


namespace Go.Proofs.YtiolpmhodbefoaaGreatDoor
open Go.RowKit

/-- What is left of L when n is taken away, -1 when there is not so much. -/
def szI (L n : Nat) : Int := if n ≤ L then (L : Int) - n else -1
theorem szI_ok {L n : Nat} (h : n ≤ L) : szI L n = ((L - n : Nat) : Int) := by unfold szI; rw [if_pos h]; omega
theorem szI_no {L n : Nat} (h : ¬ n ≤ L) : szI L n = -1 := by unfold szI; rw [if_neg h]
theorem szI_ge (L n : Nat) : -1 ≤ szI L n := by unfold szI; split <;> omega
theorem szI_le (L n : Nat) : szI L n ≤ L := by unfold szI; split <;> omega
theorem alloc_b (w : World) (o : Obj) : Below w.heap.size w (w.alloc o) := (Below.refl _ _).alloc (Nat.le_refl _) o
theorem list2 {α : Type} {l : List α} (h : l.length = 2) : ∃ a b, l = [a, b] := by
  match l, h with
  | [a, b], _ => exact ⟨a, b, rfl⟩
theorem list3 {α : Type} {l : List α} (h : l.length = 3) : ∃ a b c, l = [a, b, c] := by
  match l, h with
  | [a, b, c], _ => exact ⟨a, b, c, rfl⟩
theorem sum_take_le (l : List Nat) (k : Nat) : (l.take k).sum ≤ l.sum := by
  have h := List.take_append_drop k l
  have : (l.take k ++ l.drop k).sum = l.sum := by rw [h]
  rw [List.sum_append] at this; omega
theorem sum_take_snoc {α : Type} (f : α → Nat) (l : List α) (k : Nat) (x : α) (h : l[k]? = some x) : ((l.take (k + 1)).map f).sum = ((l.take k).map f).sum + f x := by
  rw [List.take_add_one, h]; simp
end Go.Proofs.YtiolpmhodbefoaaGreatDoor


namespace Go.Proofs.YtiolpmhodbefoaaGreatDoor
open Go.RowKit

theorem list5 {α : Type} {l : List α} (h : l.length = 5) : ∃ a b c d e, l = [a, b, c, d, e] := by
  match l, h with
  | [a, b, c, d, e], _ => exact ⟨a, b, c, d, e, rfl⟩
theorem list9 {α : Type} {l : List α} (h : l.length = 9) : ∃ a b c d e f g i j, l = [a, b, c, d, e, f, g, i, j] := by
  match l, h with
  | [a, b, c, d, e, f, g, i, j], _ => exact ⟨a, b, c, d, e, f, g, i, j, rfl⟩
def szStep (m : PStep) : Nat := m.name.size
set_option maxRecDepth 100000 in
set_option maxHeartbeats 800000 in
theorem szStep_walk (a0 a1 a2 : Value) (m : PStep) (L : Nat) (w : World) (h : stepR.R w [a0, a1, a2] m) (hL : L ≤ 1048576) :
    Calls Tryz.prog 146 #[.agg #[a0, a1, a2], .int .i64 L] w fun e w' => e = .returned (.int .i64 (szI L (szStep m))) ∧ Below w.heap.size w w' := by
  obtain ⟨hq, h1⟩ := h
  injection hq with e0 hq; injection hq with e1 hq; injection hq with e2 hq
  subst e0; subst e1; subst e2
  clear hq
  unfold maxLen at h1
  by_cases n1 : m.name.size ≤ L
  · have hZ : szI L (szStep m) = (L : Int) - (m.name.size : Int) := by
      unfold szStep
      rw [szI_ok n1]; omega
    rw [hZ]
    clear hZ
    go_enter Tryz.func146, Tryz.ntmps146
    go_wp2
    go_ret
    exact ⟨rfl, alloc_b w _⟩
  · rw [szI_no (by unfold szStep; omega)]
    go_enter Tryz.func146, Tryz.ntmps146
    go_wp2
    go_ret
    exact ⟨rfl, alloc_b w _⟩
def szSteps (ms : List PStep) : Nat := ms.length + (ms.map szStep).sum
set_option maxRecDepth 100000 in
set_option maxHeartbeats 800000 in
theorem szSteps_walk (v : Value) (ms : List PStep) (L : Nat) (w : World) (h : RRow stepR w v ms) (hL : L ≤ 1048576) :
    Calls Tryz.prog 133 #[v, .int .i64 L] w fun e w' => e = .returned (.int .i64 (szI L (szSteps ms))) ∧ Below w.heap.size w w' := by
  have H := hide h
  obtain ⟨hm, a, cap, rfl, hrow⟩ := h
  unfold maxLen at hm
  clear hrow
  by_cases h0 : L < ms.length
  · go_enter Tryz.func133, Tryz.ntmps133
    go_wp2
    go_ret
    exact ⟨ret_int (szI_no (by unfold szSteps; omega)).symm, Below.refl _ _⟩
  · go_enter Tryz.func133, Tryz.ntmps133
    go_wp2
    go_loopw [1, 5] (fun l i wr => ∃ k : Nat, k ≤ ms.length ∧ i = .int .i64 k ∧ ms.length + ((ms.take k).map szStep).sum ≤ L ∧ l = .int .i64 ((L - (ms.length + ((ms.take k).map szStep).sum) : Nat) : Int) ∧ Below w.heap.size w wr) (fun _ i _ => ms.length - (intOf i).toNat)
    case atStart => exact ⟨0, Nat.zero_le _, rfl, by simp; omega, by simp; omega, Below.refl _ _⟩
    case round =>
      obtain ⟨k, hk, rfl, hle, rfl, hb⟩ := hrel
      by_cases hlt : k < ms.length
      · have ht := sum_take_snoc szStep ms k ms[k] (List.getElem?_eq_getElem hlt)
        have hts := sum_take_le (ms.map szStep) (k + 1)
        rw [← List.map_take] at hts
        obtain ⟨_, a', cap', he, hrow⟩ := (unhide H).below hb
        injection he with he1 he2 he3; subst he1; subst he3; clear he2
        obtain ⟨b, o, rfl, vs, hR, hc⟩ := hrow k ms[k] (List.getElem?_eq_getElem hlt)
        obtain ⟨a0, a1, a2, rfl⟩ := list3 (stepR.len hR)
        have c0 : wr.cell? ⟨b, o + k * 3, none⟩ = _ := hc 0 _ rfl
        have c1 : wr.cell? ⟨b, o + k * 3 + 1, none⟩ = _ := hc 1 _ rfl
        have c2 : wr.cell? ⟨b, o + k * 3 + 2, none⟩ = _ := hc 2 _ rfl
        have HM := hide (szStep_walk a0 a1 a2 ms[k] (L - (ms.length + ((ms.take k).map szStep).sum)) wr hR (by omega))
        clear hrow hc hR
        have HS : Hid (szSteps ms = ms.length + (ms.map szStep).sum) := rfl
        generalize (ms.map szStep).sum = T9 at *
        generalize ((ms.take k).map szStep).sum = T at *
        have hT2 : ∃ T2, ((ms.take (k + 1)).map szStep).sum = T2 := ⟨_, rfl⟩
        obtain ⟨T2, hT2⟩ := hT2
        rw [hT2] at ht hts
        have HT := hide hT2
        clear hT2
        generalize szStep ms[k] = z at *
        by_cases hn : ms.length + T + z ≤ L
        · rw [szI_ok (by omega)] at HM
          go_wp2_with fail
          refine (unhide HM).mono ?_
          rintro e w1 ⟨rfl, b1⟩
          have B1 := hide (below_next hb b1)
          clear HM b1 hb c0 c1 c2
          go_wp2
          go_roundw
          case rel => exact ⟨k + 1, by omega, by go_num, by rw [unhide HT]; omega, by rw [unhide HT]; go_num, unhide B1⟩
          case measure => simp [intOf]; omega
        · rw [szI_no (by omega)] at HM
          go_wp2_with fail
          refine (unhide HM).mono ?_
          rintro e w1 ⟨rfl, b1⟩
          have B1 := hide (below_next hb b1)
          clear HM b1 hb c0 c1 c2
          go_wp2
          go_ret
          exact ⟨ret_int (szI_no (by rw [unhide HS]; omega)).symm, unhide B1⟩
      · have hk' : k = ms.length := by omega
        subst hk'
        rw [List.take_length] at hle ⊢
        go_wp2
        go_ret
        exact ⟨ret_int (szI_ok (n := szSteps ms) hle).symm, hb⟩
def szFop (m : PFOp) : Nat := m.s.size + szSteps m.steps
set_option maxRecDepth 100000 in
set_option maxHeartbeats 800000 in
theorem szFop_walk (a0 a1 a2 a3 a4 : Value) (m : PFOp) (L : Nat) (w : World) (h : fopR.R w [a0, a1, a2, a3, a4] m) (hL : L ≤ 1048576) :
    Calls Tryz.prog 109 #[.agg #[a0, a1, a2, a3, a4], .int .i64 L] w fun e w' => e = .returned (.int .i64 (szI L (szFop m))) ∧ Below w.heap.size w w' := by
  obtain ⟨q, hq, hp, h1⟩ := h
  injection hq with e0 hq; injection hq with e1 hq; injection hq with e2 hq; injection hq with e3 hq; injection hq with e4 hq
  subst e0; subst e1; subst e2; subst e3; subst e4
  clear hq
  unfold maxLen at hp
  have H1 : Hid (∀ o, Calls _ _ _ (w.alloc o) _) := fun o => szSteps_walk a4 m.steps (L - m.s.size) _ (h1.below (alloc_b w o)) (by omega)
  clear h1
  by_cases hn : m.s.size ≤ L
  · have hZ : szI L (szFop m) = szI (L - m.s.size) (szSteps m.steps) := by
      unfold szFop
      by_cases h2 : szSteps m.steps ≤ L - m.s.size
      · rw [szI_ok h2, szI_ok (by omega)]; congr 1; omega
      · rw [szI_no h2, szI_no (by omega)]
    rw [hZ]
    clear hZ
    have hge := szI_ge (L - m.s.size) (szSteps m.steps)
    have hle := szI_le (L - m.s.size) (szSteps m.steps)
    generalize szI (L - m.s.size) (szSteps m.steps) = z at *
    have hsub : ((L - m.s.size : Nat) : Int) = (L : Int) - (m.s.size : Int) := by omega
    rw [hsub] at H1 hle
    clear hsub
    go_enter Tryz.func109, Tryz.ntmps109
    go_wp2_with fail
    refine (unhide H1 _).mono ?_
    rintro e w1 ⟨rfl, b1⟩
    have B1 := hide (below_next (alloc_b w _) b1)
    clear b1 H1
    by_cases hz : z < 0
    · have : z = -1 := by omega
      subst this
      clear hz hge hle
      go_wp2
      go_ret
      exact ⟨rfl, unhide B1⟩
    · go_wp2
      go_ret
      exact ⟨rfl, unhide B1⟩
  · rw [szI_no (by unfold szFop; omega)]
    go_enter Tryz.func109, Tryz.ntmps109
    go_wp2
    go_ret
    exact ⟨rfl, alloc_b w _⟩
def szFops (ms : List PFOp) : Nat := ms.length + (ms.map szFop).sum
set_option maxRecDepth 100000 in
set_option maxHeartbeats 800000 in
theorem szFops_walk (v : Value) (ms : List PFOp) (L : Nat) (w : World) (h : RRow fopR w v ms) (hL : L ≤ 1048576) :
    Calls Tryz.prog 86 #[v, .int .i64 L] w fun e w' => e = .returned (.int .i64 (szI L (szFops ms))) ∧ Below w.heap.size w w' := by
  have H := hide h
  obtain ⟨hm, a, cap, rfl, hrow⟩ := h
  unfold maxLen at hm
  clear hrow
  by_cases h0 : L < ms.length
  · go_enter Tryz.func86, Tryz.ntmps86
    go_wp2
    go_ret
    exact ⟨ret_int (szI_no (by unfold szFops; omega)).symm, Below.refl _ _⟩
  · go_enter Tryz.func86, Tryz.ntmps86
    go_wp2
    go_loopw [1, 5] (fun l i wr => ∃ k : Nat, k ≤ ms.length ∧ i = .int .i64 k ∧ ms.length + ((ms.take k).map szFop).sum ≤ L ∧ l = .int .i64 ((L - (ms.length + ((ms.take k).map szFop).sum) : Nat) : Int) ∧ Below w.heap.size w wr) (fun _ i _ => ms.length - (intOf i).toNat)
    case atStart => exact ⟨0, Nat.zero_le _, rfl, by simp; omega, by simp; omega, Below.refl _ _⟩
    case round =>
      obtain ⟨k, hk, rfl, hle, rfl, hb⟩ := hrel
      by_cases hlt : k < ms.length
      · have ht := sum_take_snoc szFop ms k ms[k] (List.getElem?_eq_getElem hlt)
        have hts := sum_take_le (ms.map szFop) (k + 1)
        rw [← List.map_take] at hts
        obtain ⟨_, a', cap', he, hrow⟩ := (unhide H).below hb
        injection he with he1 he2 he3; subst he1; subst he3; clear he2
        obtain ⟨b, o, rfl, vs, hR, hc⟩ := hrow k ms[k] (List.getElem?_eq_getElem hlt)
        obtain ⟨a0, a1, a2, a3, a4, rfl⟩ := list5 (fopR.len hR)
        have c0 : wr.cell? ⟨b, o + k * 5, none⟩ = _ := hc 0 _ rfl
        have c1 : wr.cell? ⟨b, o + k * 5 + 1, none⟩ = _ := hc 1 _ rfl
        have c2 : wr.cell? ⟨b, o + k * 5 + 2, none⟩ = _ := hc 2 _ rfl
        have c3 : wr.cell? ⟨b, o + k * 5 + 3, none⟩ = _ := hc 3 _ rfl
        have c4 : wr.cell? ⟨b, o + k * 5 + 4, none⟩ = _ := hc 4 _ rfl
        have HM := hide (szFop_walk a0 a1 a2 a3 a4 ms[k] (L - (ms.length + ((ms.take k).map szFop).sum)) wr hR (by omega))
        clear hrow hc hR
        have HS : Hid (szFops ms = ms.length + (ms.map szFop).sum) := rfl
        generalize (ms.map szFop).sum = T9 at *
        generalize ((ms.take k).map szFop).sum = T at *
        have hT2 : ∃ T2, ((ms.take (k + 1)).map szFop).sum = T2 := ⟨_, rfl⟩
        obtain ⟨T2, hT2⟩ := hT2
        rw [hT2] at ht hts
        have HT := hide hT2
        clear hT2
        generalize szFop ms[k] = z at *
        by_cases hn : ms.length + T + z ≤ L
        · rw [szI_ok (by omega)] at HM
          go_wp2_with fail
          refine (unhide HM).mono ?_
          rintro e w1 ⟨rfl, b1⟩
          have B1 := hide (below_next hb b1)
          clear HM b1 hb c0 c1 c2 c3 c4
          go_wp2
          go_roundw
          case rel => exact ⟨k + 1, by omega, by go_num, by rw [unhide HT]; omega, by rw [unhide HT]; go_num, unhide B1⟩
          case measure => simp [intOf]; omega
        · rw [szI_no (by omega)] at HM
          go_wp2_with fail
          refine (unhide HM).mono ?_
          rintro e w1 ⟨rfl, b1⟩
          have B1 := hide (below_next hb b1)
          clear HM b1 hb c0 c1 c2 c3 c4
          go_wp2
          go_ret
          exact ⟨ret_int (szI_no (by rw [unhide HS]; omega)).symm, unhide B1⟩
      · have hk' : k = ms.length := by omega
        subst hk'
        rw [List.take_length] at hle ⊢
        go_wp2
        go_ret
        exact ⟨ret_int (szI_ok (n := szFops ms) hle).symm, hb⟩
def szSel (m : PSel) : Nat := m.name.size + szFops m.cond
set_option maxRecDepth 100000 in
set_option maxHeartbeats 800000 in
theorem szSel_walk (a0 a1 a2 a3 a4 a5 a6 a7 a8 : Value) (m : PSel) (L : Nat) (w : World) (h : selR.R w [a0, a1, a2, a3, a4, a5, a6, a7, a8] m) (hL : L ≤ 1048576) :
    Calls Tryz.prog 61 #[.agg #[a0, a1, a2, a3, a4, a5, a6, a7, a8], .int .i64 L] w fun e w' => e = .returned (.int .i64 (szI L (szSel m))) ∧ Below w.heap.size w w' := by
  obtain ⟨q, hq, hp, h1⟩ := h
  injection hq with e0 hq; injection hq with e1 hq; injection hq with e2 hq; injection hq with e3 hq; injection hq with e4 hq; injection hq with e5 hq; injection hq with e6 hq; injection hq with e7 hq; injection hq with e8 hq
  subst e0; subst e1; subst e2; subst e3; subst e4; subst e5; subst e6; subst e7; subst e8
  clear hq
  unfold maxLen at hp
  have H1 : Hid (∀ o, Calls _ _ _ (w.alloc o) _) := fun o => szFops_walk a8 m.cond (L - m.name.size) _ (h1.below (alloc_b w o)) (by omega)
  clear h1
  by_cases hn : m.name.size ≤ L
  · have hZ : szI L (szSel m) = szI (L - m.name.size) (szFops m.cond) := by
      unfold szSel
      by_cases h2 : szFops m.cond ≤ L - m.name.size
      · rw [szI_ok h2, szI_ok (by omega)]; congr 1; omega
      · rw [szI_no h2, szI_no (by omega)]
    rw [hZ]
    clear hZ
    have hge := szI_ge (L - m.name.size) (szFops m.cond)
    have hle := szI_le (L - m.name.size) (szFops m.cond)
    generalize szI (L - m.name.size) (szFops m.cond) = z at *
    have hsub : ((L - m.name.size : Nat) : Int) = (L : Int) - (m.name.size : Int) := by omega
    rw [hsub] at H1 hle
    clear hsub
    go_enter Tryz.func61, Tryz.ntmps61
    go_wp2_with fail
    refine (unhide H1 _).mono ?_
    rintro e w1 ⟨rfl, b1⟩
    have B1 := hide (below_next (alloc_b w _) b1)
    clear b1 H1
    by_cases hz : z < 0
    · have : z = -1 := by omega
      subst this
      clear hz hge hle
      go_wp2
      go_ret
      exact ⟨rfl, unhide B1⟩
    · go_wp2
      go_ret
      exact ⟨rfl, unhide B1⟩
  · rw [szI_no (by unfold szSel; omega)]
    go_enter Tryz.func61, Tryz.ntmps61
    go_wp2
    go_ret
    exact ⟨rfl, alloc_b w _⟩
def szSels (ms : List PSel) : Nat := ms.length + (ms.map szSel).sum
set_option maxRecDepth 100000 in
set_option maxHeartbeats 800000 in
theorem szSels_walk (v : Value) (ms : List PSel) (L : Nat) (w : World) (h : RRow selR w v ms) (hL : L ≤ 1048576) :
    Calls Tryz.prog 34 #[v, .int .i64 L] w fun e w' => e = .returned (.int .i64 (szI L (szSels ms))) ∧ Below w.heap.size w w' := by
  have H := hide h
  obtain ⟨hm, a, cap, rfl, hrow⟩ := h
  unfold maxLen at hm
  clear hrow
  by_cases h0 : L < ms.length
  · go_enter Tryz.func34, Tryz.ntmps34
    go_wp2
    go_ret
    exact ⟨ret_int (szI_no (by unfold szSels; omega)).symm, Below.refl _ _⟩
  · go_enter Tryz.func34, Tryz.ntmps34
    go_wp2
    go_loopw [1, 5] (fun l i wr => ∃ k : Nat, k ≤ ms.length ∧ i = .int .i64 k ∧ ms.length + ((ms.take k).map szSel).sum ≤ L ∧ l = .int .i64 ((L - (ms.length + ((ms.take k).map szSel).sum) : Nat) : Int) ∧ Below w.heap.size w wr) (fun _ i _ => ms.length - (intOf i).toNat)
    case atStart => exact ⟨0, Nat.zero_le _, rfl, by simp; omega, by simp; omega, Below.refl _ _⟩
    case round =>
      obtain ⟨k, hk, rfl, hle, rfl, hb⟩ := hrel
      by_cases hlt : k < ms.length
      · have ht := sum_take_snoc szSel ms k ms[k] (List.getElem?_eq_getElem hlt)
        have hts := sum_take_le (ms.map szSel) (k + 1)
        rw [← List.map_take] at hts
        obtain ⟨_, a', cap', he, hrow⟩ := (unhide H).below hb
        injection he with he1 he2 he3; subst he1; subst he3; clear he2
        obtain ⟨b, o, rfl, vs, hR, hc⟩ := hrow k ms[k] (List.getElem?_eq_getElem hlt)
        obtain ⟨a0, a1, a2, a3, a4, a5, a6, a7, a8, rfl⟩ := list9 (selR.len hR)
        have c0 : wr.cell? ⟨b, o + k * 9, none⟩ = _ := hc 0 _ rfl
        have c1 : wr.cell? ⟨b, o + k * 9 + 1, none⟩ = _ := hc 1 _ rfl
        have c2 : wr.cell? ⟨b, o + k * 9 + 2, none⟩ = _ := hc 2 _ rfl
        have c3 : wr.cell? ⟨b, o + k * 9 + 3, none⟩ = _ := hc 3 _ rfl
        have c4 : wr.cell? ⟨b, o + k * 9 + 4, none⟩ = _ := hc 4 _ rfl
        have c5 : wr.cell? ⟨b, o + k * 9 + 5, none⟩ = _ := hc 5 _ rfl
        have c6 : wr.cell? ⟨b, o + k * 9 + 6, none⟩ = _ := hc 6 _ rfl
        have c7 : wr.cell? ⟨b, o + k * 9 + 7, none⟩ = _ := hc 7 _ rfl
        have c8 : wr.cell? ⟨b, o + k * 9 + 8, none⟩ = _ := hc 8 _ rfl
        have HM := hide (szSel_walk a0 a1 a2 a3 a4 a5 a6 a7 a8 ms[k] (L - (ms.length + ((ms.take k).map szSel).sum)) wr hR (by omega))
        clear hrow hc hR
        have HS : Hid (szSels ms = ms.length + (ms.map szSel).sum) := rfl
        generalize (ms.map szSel).sum = T9 at *
        generalize ((ms.take k).map szSel).sum = T at *
        have hT2 : ∃ T2, ((ms.take (k + 1)).map szSel).sum = T2 := ⟨_, rfl⟩
        obtain ⟨T2, hT2⟩ := hT2
        rw [hT2] at ht hts
        have HT := hide hT2
        clear hT2
        generalize szSel ms[k] = z at *
        by_cases hn : ms.length + T + z ≤ L
        · rw [szI_ok (by omega)] at HM
          go_wp2_with fail
          refine (unhide HM).mono ?_
          rintro e w1 ⟨rfl, b1⟩
          have B1 := hide (below_next hb b1)
          clear HM b1 hb c0 c1 c2 c3 c4 c5 c6 c7 c8
          go_wp2
          go_roundw
          case rel => exact ⟨k + 1, by omega, by go_num, by rw [unhide HT]; omega, by rw [unhide HT]; go_num, unhide B1⟩
          case measure => simp [intOf]; omega
        · rw [szI_no (by omega)] at HM
          go_wp2_with fail
          refine (unhide HM).mono ?_
          rintro e w1 ⟨rfl, b1⟩
          have B1 := hide (below_next hb b1)
          clear HM b1 hb c0 c1 c2 c3 c4 c5 c6 c7 c8
          go_wp2
          go_ret
          exact ⟨ret_int (szI_no (by rw [unhide HS]; omega)).symm, unhide B1⟩
      · have hk' : k = ms.length := by omega
        subst hk'
        rw [List.take_length] at hle ⊢
        go_wp2
        go_ret
        exact ⟨ret_int (szI_ok (n := szSels ms) hle).symm, hb⟩
def szSeg (m : PSeg) : Nat := szSels m.sels
set_option maxRecDepth 100000 in
set_option maxHeartbeats 800000 in
theorem szSeg_walk (a0 a1 : Value) (m : PSeg) (L : Nat) (w : World) (h : segR.R w [a0, a1] m) (hL : L ≤ 1048576) :
    Calls Tryz.prog 16 #[.agg #[a0, a1], .int .i64 L] w fun e w' => e = .returned (.int .i64 (szI L (szSeg m))) ∧ Below w.heap.size w w' := by
  obtain ⟨q, hq, h1⟩ := h
  injection hq with e0 hq; injection hq with e1 hq
  subst e0; subst e1
  have H1 : Hid (∀ o, Calls _ _ _ (w.alloc o) _) := fun o => szSels_walk a1 m.sels L _ (h1.below (alloc_b w o)) hL
  have hge := szI_ge L (szSeg m)
  have hle := szI_le L (szSeg m)
  unfold szSeg at *
  generalize szI L (szSels m.sels) = z at *
  clear h1 hq
  go_enter Tryz.func16, Tryz.ntmps16
  go_wp2_with fail
  refine (unhide H1 _).mono ?_
  rintro e w1 ⟨rfl, b1⟩
  have B1 := hide (below_next (alloc_b w _) b1)
  clear b1 H1
  by_cases hz : z < 0
  · have : z = -1 := by omega
    subst this
    clear hz hge hle
    go_wp2
    go_ret
    exact ⟨rfl, unhide B1⟩
  · go_wp2
    go_ret
    exact ⟨rfl, unhide B1⟩
def szSegs (ms : List PSeg) : Nat := ms.length + (ms.map szSeg).sum
set_option maxRecDepth 100000 in
set_option maxHeartbeats 800000 in
theorem szSegs_walk (v : Value) (ms : List PSeg) (L : Nat) (w : World) (h : RRow segR w v ms) (hL : L ≤ 1048576) :
    Calls Tryz.prog 5 #[v, .int .i64 L] w fun e w' => e = .returned (.int .i64 (szI L (szSegs ms))) ∧ Below w.heap.size w w' := by
  have H := hide h
  obtain ⟨hm, a, cap, rfl, hrow⟩ := h
  unfold maxLen at hm
  clear hrow
  by_cases h0 : L < ms.length
  · go_enter Tryz.func5, Tryz.ntmps5
    go_wp2
    go_ret
    exact ⟨ret_int (szI_no (by unfold szSegs; omega)).symm, Below.refl _ _⟩
  · go_enter Tryz.func5, Tryz.ntmps5
    go_wp2
    go_loopw [1, 5] (fun l i wr => ∃ k : Nat, k ≤ ms.length ∧ i = .int .i64 k ∧ ms.length + ((ms.take k).map szSeg).sum ≤ L ∧ l = .int .i64 ((L - (ms.length + ((ms.take k).map szSeg).sum) : Nat) : Int) ∧ Below w.heap.size w wr) (fun _ i _ => ms.length - (intOf i).toNat)
    case atStart => exact ⟨0, Nat.zero_le _, rfl, by simp; omega, by simp; omega, Below.refl _ _⟩
    case round =>
      obtain ⟨k, hk, rfl, hle, rfl, hb⟩ := hrel
      by_cases hlt : k < ms.length
      · have ht := sum_take_snoc szSeg ms k ms[k] (List.getElem?_eq_getElem hlt)
        have hts := sum_take_le (ms.map szSeg) (k + 1)
        rw [← List.map_take] at hts
        obtain ⟨_, a', cap', he, hrow⟩ := (unhide H).below hb
        injection he with he1 he2 he3; subst he1; subst he3; clear he2
        obtain ⟨b, o, rfl, vs, hR, hc⟩ := hrow k ms[k] (List.getElem?_eq_getElem hlt)
        obtain ⟨a0, a1, rfl⟩ := list2 (segR.len hR)
        have c0 : wr.cell? ⟨b, o + k * 2, none⟩ = _ := hc 0 _ rfl
        have c1 : wr.cell? ⟨b, o + k * 2 + 1, none⟩ = _ := hc 1 _ rfl
        have HM := hide (szSeg_walk a0 a1 ms[k] (L - (ms.length + ((ms.take k).map szSeg).sum)) wr hR (by omega))
        clear hrow hc hR
        have HS : Hid (szSegs ms = ms.length + (ms.map szSeg).sum) := rfl
        generalize (ms.map szSeg).sum = T9 at *
        generalize ((ms.take k).map szSeg).sum = T at *
        have hT2 : ∃ T2, ((ms.take (k + 1)).map szSeg).sum = T2 := ⟨_, rfl⟩
        obtain ⟨T2, hT2⟩ := hT2
        rw [hT2] at ht hts
        have HT := hide hT2
        clear hT2
        generalize szSeg ms[k] = z at *
        by_cases hn : ms.length + T + z ≤ L
        · rw [szI_ok (by omega)] at HM
          go_wp2_with fail
          refine (unhide HM).mono ?_
          rintro e w1 ⟨rfl, b1⟩
          have B1 := hide (below_next hb b1)
          clear HM b1 hb c0 c1
          go_wp2
          go_roundw
          case rel => exact ⟨k + 1, by omega, by go_num, by rw [unhide HT]; omega, by rw [unhide HT]; go_num, unhide B1⟩
          case measure => simp [intOf]; omega
        · rw [szI_no (by omega)] at HM
          go_wp2_with fail
          refine (unhide HM).mono ?_
          rintro e w1 ⟨rfl, b1⟩
          have B1 := hide (below_next hb b1)
          clear HM b1 hb c0 c1
          go_wp2
          go_ret
          exact ⟨ret_int (szI_no (by rw [unhide HS]; omega)).symm, unhide B1⟩
      · have hk' : k = ms.length := by omega
        subst hk'
        rw [List.take_length] at hle ⊢
        go_wp2
        go_ret
        exact ⟨ret_int (szI_ok (n := szSegs ms) hle).symm, hb⟩
end Go.Proofs.YtiolpmhodbefoaaGreatDoor

