import Derived.OwnWalk
import Derived.Test.YtbihihkdgckgnaaDoorBq9
import Derived.Lib.Builder
import Derived.Handy
import Derived.Test.YtbihihkdgckgnaaDoorBq1
namespace Go.Proofs.YtbihihkdgckgnaaDoor
open Go.RowKit

/-- Cells written one behind the other. -/
def putN (w : World) (g : Nat) : Nat → List Value → World
  | _, [] => w
  | o, a :: r => putN (w.setCell ⟨g, o, none⟩ a) g (o + 1) r
def setN (xs : List Value) : Nat → List Value → List Value
  | _, [] => xs
  | o, a :: r => setN (xs.set o a) (o + 1) r
theorem setN_app : ∀ (vs A rest : List Value), vs.length ≤ rest.length → setN (A ++ rest) A.length vs = A ++ vs ++ rest.drop vs.length
  | [], A, rest, _ => by simp [setN]
  | a :: r, A, [], h => by simp at h
  | a :: r, A, b :: rest, h => by
    have := setN_app r (A ++ [a]) rest (by simpa using h)
    rw [setN, List.set_append_right _ _ (Nat.le_refl _), Nat.sub_self, List.set_cons_zero]
    rw [List.length_append] at this
    simpa using this
theorem putN_own {w : World} {g cap n e size : Nat} {xs : List Value} (h : w.ownsRow 0 e size (.slice (some ⟨g, 0, none⟩) n cap) n xs) : ∀ (vs : List Value) (o : Nat), (putN w g o vs).ownsRow 0 e size (.slice (some ⟨g, 0, none⟩) n cap) n (setN xs o vs) := by
  intro vs
  induction vs generalizing w xs with
  | nil => intro o; exact h
  | cons a r ih => intro o; exact ih (h.stored o a).1 (o + 1)
theorem putN_other {w : World} {g k : Nat} (hk : k ≠ g) : ∀ (vs : List Value) (o : Nat), (putN w g o vs).heap[k]? = w.heap[k]? := by
  intro vs
  induction vs generalizing w with
  | nil => intro o; rfl
  | cons a r ih => intro o; exact (ih (o + 1)).trans (Below.heap_setCell _ _ _ _ hk)
/-- A row that was made whole, its first elements written. -/
def PRow {α : Type} (e : Elem α) (w : World) (g n cap : Nat) (xs : List α) (bl : List Nat) : Prop :=
  ∃ (ps : List (List Value × List Nat)) (rest : List Value), ps.length = xs.length ∧ (∀ (j : Nat) (p : List Value × List Nat) (x : α), ps[j]? = some p → xs[j]? = some x → e.E w p.1 x p.2) ∧
    w.ownsRow 0 e.T e.wd (.slice (some ⟨g, 0, none⟩) n cap) n (ps.flatMap (·.1) ++ rest) ∧ bl = ps.flatMap (·.2)
section
variable {α : Type} {e : Elem α} {w w' : World} {g n cap : Nat} {xs : List α} {bl : List Nat}
theorem PRow.start {cs : List Value} (h : w.ownsRow 0 e.T e.wd (.slice (some ⟨g, 0, none⟩) n cap) n cs) : PRow e w g n cap [] [] := ⟨[], cs, rfl, fun _ _ _ h => by simp at h, h, rfl⟩
theorem PRow.keep (h : PRow e w g n cap xs bl) (hg : w'.heap[g]? = w.heap[g]?) (hk : Kp bl w w') : PRow e w' g n cap xs bl := by
  obtain ⟨ps, rest, hl, hE, ho, rfl⟩ := h
  refine ⟨ps, rest, hl, fun j p x hp hx => e.keep (hE j p x hp hx) fun b hb => hk b (List.mem_flatMap.2 ⟨p, List.mem_of_getElem? hp, hb⟩), own_keep ho fun b hb => ?_, rfl⟩
  simp [Value.ownBlock] at hb
  rw [hb]; exact hg
theorem PRow.lt (h : PRow e w g n cap xs bl) : g < w.heap.size ∧ ∀ b ∈ bl, b < w.heap.size := by
  obtain ⟨ps, rest, hl, hE, ho, rfl⟩ := h
  refine ⟨(ho.lt g rfl).2, fun b hb => ?_⟩
  obtain ⟨p, hp, hb⟩ := List.mem_flatMap.1 hb
  obtain ⟨j, hj, rfl⟩ := List.mem_iff_getElem.1 hp
  exact e.lt (hE j ps[j] (xs[j]'(by omega)) (List.getElem?_eq_getElem hj) (List.getElem?_eq_getElem (by omega))) b hb
theorem PRow.below (h : PRow e w g n cap xs bl) (hb : Below w.heap.size w w') : PRow e w' g n cap xs bl := h.keep (hb.block g h.lt.1) (.of_below hb h.lt.2)
/-- Where the next element goes there is a cell, and it may be written. -/
theorem PRow.cell (h : PRow e w g n cap xs bl) (hlt : xs.length < n) (m : Nat) (hm : m < e.wd) : ∃ u, w.cell? ⟨g, xs.length * e.wd + m, none⟩ = some u := by
  obtain ⟨ps, rest, hl, hE, ho, rfl⟩ := h
  have : (xs.length + 1) * e.wd ≤ n * e.wd := Nat.mul_le_mul_right _ hlt
  rw [Nat.add_mul] at this
  have h1 := ho.1
  have hj : xs.length * e.wd + m < n * e.wd := by omega
  rw [ho.cellAt _ hj]
  exact ⟨_, List.getElem?_eq_getElem (by rw [h1]; exact hj)⟩
theorem PRow.frozen (h : PRow e w g n cap xs bl) (j : Nat) : w.frozen? ⟨g, j, none⟩ = false := by
  obtain ⟨ps, rest, hl, hE, ho, rfl⟩ := h
  exact ho.frozenAt _
/-- The next element is written. -/
theorem PRow.put (h : PRow e w g n cap xs bl) (hlt : xs.length < n) (hg : g ∉ bl) {vs : List Value} {x : α} {ib : List Nat} (hE : e.E w vs x ib) (hgi : g ∉ ib) :
    PRow e (putN w g (xs.length * e.wd) vs) g n cap (xs ++ [x]) (bl ++ ib) := by
  obtain ⟨ps, rest, hl, hE0, ho, rfl⟩ := h
  have hwd := orow_wd hl hE0
  have hfl : (ps.flatMap (·.1)).length = xs.length * e.wd := by rw [flat_len hwd, hl]
  have hv := e.len hE
  have hrl : vs.length ≤ rest.length := by
    have h1 := ho.1
    rw [List.length_append, hfl] at h1
    have : (xs.length + 1) * e.wd ≤ n * e.wd := Nat.mul_le_mul_right _ hlt
    rw [Nat.add_mul] at this
    omega
  have hkp : ∀ b' : List Nat, g ∉ b' → Kp b' w (putN w g (xs.length * e.wd) vs) := fun b' hb b hbb => putN_other (k := b) (g := g) (fun h => hb (by rw [← h]; exact hbb)) _ _
  refine ⟨ps ++ [(vs, ib)], rest.drop vs.length, by simp [hl], ?_, ?_, by simp⟩
  · intro j p y hp hy
    by_cases hj : j < xs.length
    · rw [List.getElem?_append_left (by omega)] at hp hy
      exact e.keep (hE0 j p y hp hy) (hkp _ fun hb => hg (List.mem_flatMap.2 ⟨p, List.mem_of_getElem? hp, hb⟩))
    · have hy' := (List.getElem?_eq_some_iff.1 hy).1
      rw [List.length_append, List.length_singleton] at hy'
      have : j = xs.length := by omega
      subst this
      rw [← hl] at hp
      simp at hp hy
      subst hp; subst hy; exact e.keep hE (hkp _ hgi)
  · have := putN_own ho vs (xs.length * e.wd)
    rw [← hfl, setN_app _ _ _ hrl, hfl] at this
    simpa using this
end
/-- Fresh and apart: blocks from B on, each once. -/
def Fsh (B : Nat) (bl : List Nat) : Prop := bl.Nodup ∧ ∀ b ∈ bl, B ≤ b
theorem Fsh.nil (B : Nat) : Fsh B [] := ⟨List.nodup_nil, fun _ h => by simp at h⟩
theorem Fsh.mono {B B' : Nat} {bl : List Nat} (h : Fsh B bl) (hB : B' ≤ B) : Fsh B' bl := ⟨h.1, fun b hb => Nat.le_trans hB (h.2 b hb)⟩
theorem Fsh.cons {B B' g : Nat} {bl : List Nat} (h : Fsh B bl) (hg : B' ≤ g) (hgB : g < B) : Fsh B' (g :: bl) :=
  ⟨List.nodup_cons.2 ⟨fun hm => by have := h.2 g hm; omega, h.1⟩, fun b hb => by
    rcases List.mem_cons.1 hb with rfl | hb
    · exact hg
    · have := h.2 b hb; omega⟩
end Go.Proofs.YtbihihkdgckgnaaDoor


namespace Go.Proofs.YtbihihkdgckgnaaDoor
open Go.RowKit

theorem ORow.other {α : Type} {e : Elem α} {w : World} {v : Value} {xs : List α} {bl : List Nat} (h : ORow e w v xs bl) {g : Nat} (hg : g ∉ bl) (o : Nat) (u : Value) : ORow e (w.setCell ⟨g, o, none⟩ u) v xs bl :=
  h.keep fun b hb => Below.heap_setCell _ _ _ _ fun he => hg (by subst he; exact hb)
theorem Fsh.not {B g : Nat} {bl : List Nat} (h : Fsh B bl) (hg : g < B) : g ∉ bl := fun hm => by have := h.2 g hm; omega
theorem ORow.putN {α : Type} {e : Elem α} {w : World} {v : Value} {xs : List α} {bl : List Nat} (h : ORow e w v xs bl) {g : Nat} (hg : g ∉ bl) (vs : List Value) (o : Nat) : ORow e (putN w g o vs) v xs bl :=
  h.keep fun b hb => putN_other (fun he => hg (by subst he; exact hb)) _ _
end Go.Proofs.YtbihihkdgckgnaaDoor

