import Derived.OwnWalk
import Derived.Test.YtiolpmhodbefoaaBp12
import Derived.Lib.Builder
import Derived.Handy
import Derived.Test.YtiolpmhodbefoaaBp1
import Derived.Laws.AppendOwn
import Derived.Room.AppendZeros
namespace Go.Proofs.Ytiolpmhodbefoaa
open Go.RowKit

/-- Cells written one behind the other. -/
def putN (w : World) (g : Nat) : Nat → List Value → World
  | _, [] => w
  | o, a :: r => putN (w.setCell ⟨g, o, none⟩ a) g (o + 1) r
def setN (xs : List Value) : Nat → List Value → List Value
  | _, [] => xs
  | o, a :: r => setN (xs.set o a) (o + 1) r
theorem setN_app : ∀ (vs A rest : List Value), vs.length ≤ rest.length → setN (A ++ rest) A.length vs = A ++ vs ++ rest.drop vs.length
  | [], A, rest, _ => by simp [setN]
  | a :: r, A, [], h => by simp at h
  | a :: r, A, b :: rest, h => by
    have := setN_app r (A ++ [a]) rest (by simpa using h)
    rw [setN, List.set_append_right _ _ (Nat.le_refl _), Nat.sub_self, List.set_cons_zero]
    rw [List.length_append] at this
    simpa using this
theorem putN_own {w : World} {g cap n e size : Nat} {xs : List Value} (h : w.ownsRow 0 e size (.slice (some ⟨g, 0, none⟩) n cap) n xs) : ∀ (vs : List Value) (o : Nat), (putN w g o vs).ownsRow 0 e size (.slice (some ⟨g, 0, none⟩) n cap) n (setN xs o vs) := by
  intro vs
  induction vs generalizing w xs with
  | nil => intro o; exact h
  | cons a r ih => intro o; exact ih (h.stored o a).1 (o + 1)
theorem putN_other {w : World} {g k : Nat} (hk : k ≠ g) : ∀ (vs : List Value) (o : Nat), (putN w g o vs).heap[k]? = w.heap[k]? := by
  intro vs
  induction vs generalizing w with
  | nil => intro o; rfl
  | cons a r ih => intro o; exact (ih (o + 1)).trans (Below.heap_setCell _ _ _ _ hk)
theorem putN_below {B g : Nat} {a w : World} (h : Below B a w) (hg : B ≤ g) : ∀ (vs : List Value) (o : Nat), Below B a (putN w g o vs) := by
  intro vs
  induction vs generalizing w with
  | nil => intro o; exact h
  | cons c r ih => intro o; exact ih (h.setCell (p := ⟨g, o, none⟩) hg c) (o + 1)
theorem putN_heap {w : World} {g : Nat} {cs : Array Value} {T : TypeId} (h : w.heap[g]? = some (.cells cs T (0, 0))) : ∀ (vs : List Value) (o : Nat), (putN w g o vs).heap[g]? = some (.cells (setN cs.toList o vs).toArray T (0, 0)) := by
  intro vs
  induction vs generalizing w cs with
  | nil => intro o; simpa [putN, setN] using h
  | cons a r ih =>
    intro o
    have := ih (heap_setCell_same w g o cs T a h) (o + 1)
    rw [putN, this, setN]
    simp
theorem putN_full {w : World} {g : Nat} {cs : Array Value} {T : TypeId} (h : w.heap[g]? = some (.cells cs T (0, 0))) (vs : List Value) (hl : vs.length = cs.size) : (putN w g 0 vs).heap[g]? = some (.cells vs.toArray T (0, 0)) := by
  rw [putN_heap h]
  have := setN_app vs [] cs.toList (by simp [hl])
  simp only [List.nil_append, List.length_nil] at this
  rw [this, List.drop_of_length_le (by simp [hl]), List.append_nil]
/-- A row that was made whole, its first elements written. -/
def PRow {α : Type} (e : Elem α) (w : World) (g n cap : Nat) (xs : List α) (bl : List Nat) : Prop :=
  ∃ (ps : List (List Value × List Nat)) (rest : List Value), ps.length = xs.length ∧ (∀ (j : Nat) (p : List Value × List Nat) (x : α), ps[j]? = some p → xs[j]? = some x → e.E w p.1 x p.2) ∧
    w.ownsRow 0 e.T e.wd (.slice (some ⟨g, 0, none⟩) n cap) n (ps.flatMap (·.1) ++ rest) ∧ bl = ps.flatMap (·.2)
section
variable {α : Type} {e : Elem α} {w w' : World} {g n cap : Nat} {xs : List α} {bl : List Nat}
theorem PRow.start {cs : List Value} (h : w.ownsRow 0 e.T e.wd (.slice (some ⟨g, 0, none⟩) n cap) n cs) : PRow e w g n cap [] [] := ⟨[], cs, rfl, fun _ _ _ h => by simp at h, h, rfl⟩
theorem PRow.keep (h : PRow e w g n cap xs bl) (hg : w'.heap[g]? = w.heap[g]?) (hk : Kp bl w w') : PRow e w' g n cap xs bl := by
  obtain ⟨ps, rest, hl, hE, ho, rfl⟩ := h
  refine ⟨ps, rest, hl, fun j p x hp hx => e.keep (hE j p x hp hx) fun b hb => hk b (List.mem_flatMap.2 ⟨p, List.mem_of_getElem? hp, hb⟩), own_keep ho fun b hb => ?_, rfl⟩
  simp [Value.ownBlock] at hb
  rw [hb]; exact hg
theorem PRow.lt (h : PRow e w g n cap xs bl) : g < w.heap.size ∧ ∀ b ∈ bl, b < w.heap.size := by
  obtain ⟨ps, rest, hl, hE, ho, rfl⟩ := h
  refine ⟨(ho.lt g rfl).2, fun b hb => ?_⟩
  obtain ⟨p, hp, hb⟩ := List.mem_flatMap.1 hb
  obtain ⟨j, hj, rfl⟩ := List.mem_iff_getElem.1 hp
  exact e.lt (hE j ps[j] (xs[j]'(by omega)) (List.getElem?_eq_getElem hj) (List.getElem?_eq_getElem (by omega))) b hb
theorem PRow.below (h : PRow e w g n cap xs bl) (hb : Below w.heap.size w w') : PRow e w' g n cap xs bl := h.keep (hb.block g h.lt.1) (.of_below hb h.lt.2)
/-- Where the next element goes there is a cell, and it may be written. -/
theorem PRow.cell (h : PRow e w g n cap xs bl) (hlt : xs.length < n) (m : Nat) (hm : m < e.wd) : ∃ u, w.cell? ⟨g, xs.length * e.wd + m, none⟩ = some u := by
  obtain ⟨ps, rest, hl, hE, ho, rfl⟩ := h
  have : (xs.length + 1) * e.wd ≤ n * e.wd := Nat.mul_le_mul_right _ hlt
  rw [Nat.add_mul] at this
  have h1 := ho.1
  have hj : xs.length * e.wd + m < n * e.wd := by omega
  rw [ho.cellAt _ hj]
  exact ⟨_, List.getElem?_eq_getElem (by rw [h1]; exact hj)⟩
theorem PRow.frozen (h : PRow e w g n cap xs bl) (j : Nat) : w.frozen? ⟨g, j, none⟩ = false := by
  obtain ⟨ps, rest, hl, hE, ho, rfl⟩ := h
  exact ho.frozenAt _
/-- The next element is written. -/
theorem PRow.put (h : PRow e w g n cap xs bl) (hlt : xs.length < n) (hg : g ∉ bl) {vs : List Value} {x : α} {ib : List Nat} (hE : e.E w vs x ib) (hgi : g ∉ ib) :
    PRow e (putN w g (xs.length * e.wd) vs) g n cap (xs ++ [x]) (bl ++ ib) := by
  obtain ⟨ps, rest, hl, hE0, ho, rfl⟩ := h
  have hwd := orow_wd hl hE0
  have hfl : (ps.flatMap (·.1)).length = xs.length * e.wd := by rw [flat_len hwd, hl]
  have hv := e.len hE
  have hrl : vs.length ≤ rest.length := by
    have h1 := ho.1
    rw [List.length_append, hfl] at h1
    have : (xs.length + 1) * e.wd ≤ n * e.wd := Nat.mul_le_mul_right _ hlt
    rw [Nat.add_mul] at this
    omega
  have hkp : ∀ b' : List Nat, g ∉ b' → Kp b' w (putN w g (xs.length * e.wd) vs) := fun b' hb b hbb => putN_other (k := b) (g := g) (fun h => hb (by rw [← h]; exact hbb)) _ _
  refine ⟨ps ++ [(vs, ib)], rest.drop vs.length, by simp [hl], ?_, ?_, by simp⟩
  · intro j p y hp hy
    by_cases hj : j < xs.length
    · rw [List.getElem?_append_left (by omega)] at hp hy
      exact e.keep (hE0 j p y hp hy) (hkp _ fun hb => hg (List.mem_flatMap.2 ⟨p, List.mem_of_getElem? hp, hb⟩))
    · have hy' := (List.getElem?_eq_some_iff.1 hy).1
      rw [List.length_append, List.length_singleton] at hy'
      have : j = xs.length := by omega
      subst this
      rw [← hl] at hp
      simp at hp hy
      subst hp; subst hy; exact e.keep hE (hkp _ hgi)
  · have := putN_own ho vs (xs.length * e.wd)
    rw [← hfl, setN_app _ _ _ hrl, hfl] at this
    simpa using this
end
/-- Fresh and apart: blocks from B on, each once. -/
def Fsh (B : Nat) (bl : List Nat) : Prop := bl.Nodup ∧ ∀ b ∈ bl, B ≤ b
theorem Fsh.nil (B : Nat) : Fsh B [] := ⟨List.nodup_nil, fun _ h => by simp at h⟩
theorem Fsh.mono {B B' : Nat} {bl : List Nat} (h : Fsh B bl) (hB : B' ≤ B) : Fsh B' bl := ⟨h.1, fun b hb => Nat.le_trans hB (h.2 b hb)⟩
theorem Fsh.app {B C : Nat} {bl cl : List Nat} (h : Fsh B bl) (hlt : ∀ b ∈ bl, b < C) (k : Fsh C cl) (hBC : B ≤ C) : Fsh B (bl ++ cl) := by
  refine ⟨List.nodup_append.2 ⟨h.1, k.1, fun a ha b hb e => ?_⟩, fun b hb => ?_⟩
  · subst e; have := hlt a ha; have := k.2 a hb; omega
  · rcases List.mem_append.1 hb with hb | hb
    · exact h.2 b hb
    · exact Nat.le_trans hBC (k.2 b hb)
theorem Fsh.cons {B B' g : Nat} {bl : List Nat} (h : Fsh B bl) (hg : B' ≤ g) (hgB : g < B) : Fsh B' (g :: bl) :=
  ⟨List.nodup_cons.2 ⟨fun hm => by have := h.2 g hm; omega, h.1⟩, fun b hb => by
    rcases List.mem_cons.1 hb with rfl | hb
    · exact hg
    · have := h.2 b hb; omega⟩
end Go.Proofs.Ytiolpmhodbefoaa


namespace Go.Proofs.Ytiolpmhodbefoaa
open Go.RowKit

theorem ORow.other {α : Type} {e : Elem α} {w : World} {v : Value} {xs : List α} {bl : List Nat} (h : ORow e w v xs bl) {g : Nat} (hg : g ∉ bl) (o : Nat) (u : Value) : ORow e (w.setCell ⟨g, o, none⟩ u) v xs bl :=
  h.keep fun b hb => Below.heap_setCell _ _ _ _ fun he => hg (by subst he; exact hb)
theorem Fsh.not {B g : Nat} {bl : List Nat} (h : Fsh B bl) (hg : g < B) : g ∉ bl := fun hm => by have := h.2 g hm; omega
/-- Three new blocks. -/
structure New3 (w : World) (a b c : Obj) (w' : World) : Prop where
  bel : Below w.heap.size w w'
  size : w'.heap.size = w.heap.size + 1 + 1 + 1
  k0 : w'.heap[w.heap.size]? = some a
  k1 : w'.heap[w.heap.size + 1]? = some b
  k2 : w'.heap[w.heap.size + 1 + 1]? = some c
theorem new3 (w : World) (a b c : Obj) : New3 w a b c (((w.alloc a).alloc b).alloc c) := by
  refine ⟨below_next (below_next (alloc_b w _) (alloc_b _ _)) (alloc_b _ _), by simp, ?_, ?_, ?_⟩
  · exact ((alloc_b _ c).block _ (by simp; omega)).trans (((alloc_b _ b).block _ (by simp)).trans (heap_alloc_new w a))
  · have := heap_alloc_new (w.alloc a) b
    rw [show (w.alloc a).heap.size = w.heap.size + 1 from by simp] at this
    exact ((alloc_b _ c).block _ (by simp)).trans this
  · have := heap_alloc_new ((w.alloc a).alloc b) c
    simpa using this
theorem ORow.putN {α : Type} {e : Elem α} {w : World} {v : Value} {xs : List α} {bl : List Nat} (h : ORow e w v xs bl) {g : Nat} (hg : g ∉ bl) (vs : List Value) (o : Nat) : ORow e (putN w g o vs) v xs bl :=
  h.keep fun b hb => putN_other (fun he => hg (by subst he; exact hb)) _ _
end Go.Proofs.Ytiolpmhodbefoaa


namespace Go.Proofs.Ytiolpmhodbefoaa
open Go.RowKit

end Go.Proofs.Ytiolpmhodbefoaa


namespace Go.Proofs.Ytiolpmhodbefoaa
open Go.RowKit

/-- The element types of the blocks. -/
def Tys (ts : List TypeId) (w : World) (bl : List Nat) : Prop := ∀ b ∈ bl, ∃ cur t, w.heap[b]? = some (.cells cur t (0, 0)) ∧ t ∈ ts
theorem own_ty {w : World} {B e size n : Nat} {v : Value} {xs : List Value} (h : w.ownsRow B e size v n xs) : Tys [e] w v.ownBlock.toList := by
  intro b hb
  rcases h.2 with ⟨hv, _⟩ | ⟨g, cap, cur, hv, _, hg, _⟩
  · rw [hv] at hb; simp [Value.ownBlock] at hb
  · rw [hv] at hb; simp [Value.ownBlock] at hb
    subst hb; exact ⟨cur, e, hg, by simp⟩
theorem Tys.mono {ts ts' : List TypeId} {w : World} {bl : List Nat} (h : Tys ts w bl) (hs : ∀ t ∈ ts, t ∈ ts') : Tys ts' w bl := fun b hb => by
  obtain ⟨cur, t, h1, h2⟩ := h b hb; exact ⟨cur, t, h1, hs t h2⟩
theorem Tys.app {ts : List TypeId} {w : World} {bl cl : List Nat} (h : Tys ts w bl) (k : Tys ts w cl) : Tys ts w (bl ++ cl) := fun b hb => by
  rcases List.mem_append.1 hb with hb | hb
  · exact h b hb
  · exact k b hb
theorem Tys.keep {ts : List TypeId} {w w' : World} {bl : List Nat} (h : Tys ts w bl) (hk : Kp bl w w') : Tys ts w' bl := fun b hb => by
  obtain ⟨cur, t, h1, h2⟩ := h b hb; exact ⟨cur, t, (hk b hb).trans h1, h2⟩
theorem orow_ty {α : Type} {e : Elem α} {ts : List TypeId} (he : ∀ {w vs x bl}, e.E w vs x bl → Tys ts w bl) {w : World} {v : Value} {xs : List α} {bl : List Nat} (h : ORow e w v xs bl) : Tys (e.T :: ts) w bl := by
  obtain ⟨ps, hl, hE, ho, rfl⟩ := h
  refine ((own_ty ho).mono (by simp)).app fun b hb => ?_
  obtain ⟨p, hp, hb⟩ := List.mem_flatMap.1 hb
  obtain ⟨j, hj, rfl⟩ := List.mem_iff_getElem.1 hp
  obtain ⟨cur, t, h1, h2⟩ := he (hE j ps[j] (xs[j]'(by omega)) (List.getElem?_eq_getElem hj) (List.getElem?_eq_getElem (by omega))) b hb
  exact ⟨cur, t, h1, List.mem_cons_of_mem _ h2⟩
theorem own_base {w : World} {B e size n : Nat} {v : Value} {xs : List Value} (h : w.ownsRow 0 e size v n xs) (hB : ∀ g, v.ownBlock = some g → B ≤ g) : w.ownsRow B e size v n xs := by
  refine ⟨h.1, ?_⟩
  rcases h.2 with h0 | ⟨g, cap, cur, hv, _, r⟩
  · exact .inl h0
  · exact .inr ⟨g, cap, cur, hv, hB g (by rw [hv]; rfl), r⟩
theorem ORow.head {α : Type} {e : Elem α} {w : World} {v : Value} {xs : List α} {bl : List Nat} (h : ORow e w v xs bl) {g : Nat} (hg : v.ownBlock = some g) : g ∈ bl := by
  obtain ⟨cb, h⟩ := h.split
  rw [h, hg]; simp
theorem lit_cells (w : World) (vs : List Value) (T : TypeId) : ∀ (j : Nat) (u : Value), vs[j]? = some u → (w.alloc (.cells vs.toArray T)).cell? ((⟨w.heap.size, 0, none⟩ : Addr).add j) = some u := by
  intro j u hu
  have h := Lib.cell_of_heap (heap_alloc_new w (.cells vs.toArray T)) j
  rw [Go.WideShapes.add_plain, Nat.zero_add, h]
  simpa using hu
theorem empty_row (w : World) (e size : Nat) : (w.alloc (.cells #[] e)).ownsRow w.heap.size e size (.slice (some ⟨w.heap.size, 0, none⟩) 0 0) 0 [] := by
  exact w.ownsRow_made #[] 0 (Nat.le_refl _) (Nat.zero_le _) (by simp)
/-- All blocks of cells keep their form. -/
def Shp (w w' : World) : Prop := ∀ (b : Nat) (cur : Array Value) (t : TypeId) (f : Nat × Nat), w.heap[b]? = some (.cells cur t f) → ∃ cur', w'.heap[b]? = some (.cells cur' t f) ∧ cur'.size = cur.size
theorem Shp.refl (w : World) : Shp w w := fun _ cur _ _ h => ⟨cur, h, rfl⟩
theorem Shp.trans {a b c : World} (h : Shp a b) (k : Shp b c) : Shp a c := fun i cur t f hi => by
  obtain ⟨cur', h1, h2⟩ := h i cur t f hi
  obtain ⟨cur'', h3, h4⟩ := k i cur' t f h1
  exact ⟨cur'', h3, h4.trans h2⟩
theorem Shp.of_below {w w' : World} (h : Below w.heap.size w w') : Shp w w' := fun b cur _ _ hb => ⟨cur, (h.block b (Array.getElem?_eq_some_iff.1 hb).1).trans hb, rfl⟩
/-- A row of whatever it be that can be appended to. -/
def AnyR (w : World) (B : Nat) (T : TypeId) (wd : Nat) (v : Value) (N : Nat) : Prop := ∃ n cs, n ≤ N ∧ w.ownsRow B T wd v n cs
theorem AnyR.shp {w w' : World} {B : Nat} {T : TypeId} {wd : Nat} {v : Value} {N : Nat} (h : AnyR w B T wd v N) (hs : Shp w w') : AnyR w' B T wd v N := by
  obtain ⟨n, cs, hn, h1, h2⟩ := h
  rcases h2 with ⟨hv, h0⟩ | ⟨g, cap, cur, hv, hB, hg, hc, hm, hcs, _⟩
  · exact ⟨n, cs, hn, h1, .inl ⟨hv, h0⟩⟩
  · obtain ⟨cur', hg', hs'⟩ := hs g cur T _ hg
    have hle : n * wd ≤ cap * wd := Nat.mul_le_mul_right _ hc
    exact ⟨n, cur'.toList.take (n * wd), hn, by rw [List.length_take, Array.length_toList, hs', hcs]; omega, .inr ⟨g, cap, cur', hv, hB, hg', hc, hm, by omega, rfl⟩⟩
theorem AnyR.mono {w : World} {B : Nat} {T : TypeId} {wd : Nat} {v : Value} {N N' : Nat} (h : AnyR w B T wd v N) (hN : N ≤ N') : AnyR w B T wd v N' := by
  obtain ⟨n, cs, hn, h⟩ := h; exact ⟨n, cs, by omega, h⟩
theorem ORow.any {α : Type} {e : Elem α} {w : World} {v : Value} {xs : List α} {bl : List Nat} {B : Nat} (h : ORow e w v xs bl) (hF : Fsh B bl) : AnyR w B e.T e.wd v xs.length := by
  obtain ⟨cs, ho⟩ := h.own
  exact ⟨_, cs, Nat.le_refl _, own_base ho fun g hg => hF.2 g (h.head hg)⟩
theorem append_form {P : Program} (w : World) {base : Nat} {t ty e : TypeId} {i : TypeInfo} {z : Value} (ht : P.underlying t = some (.slice e)) (hi : P.info? e = some i) (hz : i.zero = some z)
    {v : Value} {n : Nat} {xs : List Value} (hown : w.ownsRow base e i.size v n xs) {a : Addr} {m c : Nat} {news : List Value} (hl : news.length = m * i.size) (hnews : ∀ j u, news[j]? = some u → w.cell? (a.add j) = some u) (h1 : ∀ u ∈ news, u.oneCell' = true)
    (h0 : 0 < m) (h63 : n + m ≤ maxLen) (hbytes : (n + m) * i.bytes ≤ 140737488355328) {v' : Value} {w' : World} (hr : (Builtin.append_ #[t, t] ty #[v, .slice (some a) m c]).run P w = .ok v' w') :
    (v'.ownBlock = v.ownBlock ∨ v'.ownBlock = some w.heap.size) ∧ Shp w w' := by
  unfold maxLen at h63
  have hal : ∀ o : Obj, Shp w (w.drew.alloc o) := fun o b cur _ _ hb => ⟨cur, (Lib.alloc_old w.drew o b (Array.getElem?_eq_some_iff.1 hb).1).trans hb, rfl⟩
  rcases hown.2 with ⟨hv, hn⟩ | ⟨g, cap, cur, hv, _, hg, _, _, hcs, _⟩
  · subst hv; subst hn
    have hx := run_append_nil (P := P) w t ty e i z ht hi hz a m c news hl hnews h0 (by omega) (by simp only [Nat.zero_add] at hbytes; omega)
    rw [hx] at hr
    injection hr with hr1 hr2
    subst hr1; subst hr2
    exact ⟨.inr rfl, hal _⟩
  · subst hv
    by_cases hroom : n + m ≤ cap
    · have hfit : n * i.size + news.length ≤ cur.size := by rw [hl, hcs, ← Nat.add_mul]; exact Nat.mul_le_mul_right _ hroom
      have hx := run_append_room (P := P) w t ty e i ht hi g n cap cur hg a m c news hl hnews h1 hroom hfit
      rw [hx] at hr
      injection hr with hr1 hr2
      subst hr1; subst hr2
      refine ⟨.inl rfl, fun b cur' t' f hb => ?_⟩
      by_cases hbg : b = g
      · subst hbg
        rw [hg] at hb
        injection hb with hb
        injection hb with hb1 hb2 hb3
        subst hb1; subst hb2; subst hb3
        refine ⟨_, setRow_heap w b cur _ _ _ hg, ?_⟩
        simp only [List.size_toArray, List.length_append, List.length_take, List.length_drop, Array.length_toList]
        omega
      · exact ⟨cur', (setRow_other w g b _ hbg).trans hb, rfl⟩
    · have hx := run_append_grow (P := P) w t ty e i z ht hi hz ⟨g, 0, none⟩ n cap xs hown.1 (hown.cells (g := g) rfl) a m c news hl hnews (by omega) (by omega) (growslice_fits (by omega) hbytes)
      rw [hx] at hr
      injection hr with hr1 hr2
      subst hr1; subst hr2
      exact ⟨.inr rfl, hal _⟩
/-- More elements at the end of a row that the call owns: what is asked of the append, and what comes of it. -/
theorem ORow.apps {α : Type} {e : Elem α} {ts : List TypeId} (he : ∀ {w vs x bl}, e.E w vs x bl → Tys ts w bl) (hts : e.T ∉ ts) {B : Nat} {w : World} {v : Value} {xs : List α} {bl : List Nat} (h : ORow e w v xs bl) (hF : Fsh B bl)
    {qs : List (List Value × List Nat)} {ys : List α} (hql : qs.length = ys.length) (hE : ∀ (j : Nat) (p : List Value × List Nat) (y : α), qs[j]? = some p → ys[j]? = some y → e.E w p.1 y p.2) (hFi : Fsh B (qs.flatMap (·.2))) (hap : ∀ b ∈ qs.flatMap (·.2), b ∉ bl) :
    ∃ cs, w.ownsRow B e.T e.wd v xs.length cs ∧ ∀ v' w', w'.ownsRow B e.T e.wd v' (xs.length + ys.length) (cs ++ qs.flatMap (·.1)) → w.grownBy w' v.ownBlock → ∃ bl', ORow e w' v' (xs ++ ys) bl' ∧ Fsh B bl' ∧ ∀ b ∈ bl', b ∈ bl ∨ b ∈ qs.flatMap (·.2) ∨ v'.ownBlock = some b := by
  have hlt := h.lt
  obtain ⟨ps, hl, hE0, ho, rfl⟩ := h
  refine ⟨ps.flatMap (·.1), own_base ho fun g hg => hF.2 g (by simp [hg]), fun v' w' ho' hg => ?_⟩
  have hd := hF.1
  rw [List.nodup_append] at hd
  have hqE : ∀ p ∈ qs, ∃ y, e.E w p.1 y p.2 := fun p hp => by
    obtain ⟨j, hj, rfl⟩ := List.mem_iff_getElem.1 hp
    exact ⟨_, hE j qs[j] (ys[j]'(by omega)) (List.getElem?_eq_getElem hj) (List.getElem?_eq_getElem (by omega))⟩
  have hk : Kp (ps.flatMap (·.2)) w w' := fun b hb => hg.block b (hlt b (List.mem_append.2 (.inr hb))) fun e1 => hd.2.2 b (by simp [← e1]) b hb rfl
  have hki : Kp (qs.flatMap (·.2)) w w' := fun b hb => by
    obtain ⟨p, hp, hpb⟩ := List.mem_flatMap.1 hb
    obtain ⟨y, hy⟩ := hqE p hp
    exact hg.block b (e.lt hy b hpb) fun e1 => hap b hb (List.mem_append.2 (.inl (by simp [← e1])))
  have hE' : ∀ (j : Nat) (p : List Value × List Nat) (y : α), qs[j]? = some p → ys[j]? = some y → e.E w' p.1 y p.2 := fun j p y h1 h2 => e.keep (hE j p y h1 h2) fun b hb => hki b (List.mem_flatMap.2 ⟨p, List.mem_of_getElem? h1, hb⟩)
  have hT : Tys ts w' (ps.flatMap (·.2) ++ qs.flatMap (·.2)) := by
    refine Tys.app (Tys.keep (fun b hb => ?_) hk) (Tys.keep (fun b hb => ?_) hki)
    · obtain ⟨p, hp, hb⟩ := List.mem_flatMap.1 hb
      obtain ⟨j, hj, rfl⟩ := List.mem_iff_getElem.1 hp
      exact he (hE0 j ps[j] (xs[j]'(by omega)) (List.getElem?_eq_getElem hj) (List.getElem?_eq_getElem (by omega))) b hb
    · obtain ⟨p, hp, hb⟩ := List.mem_flatMap.1 hb
      obtain ⟨y, hy⟩ := hqE p hp
      exact he hy b hb
  refine ⟨v'.ownBlock.toList ++ (ps.flatMap (·.2) ++ qs.flatMap (·.2)), ⟨ps ++ qs, by simp [hl, hql], ?_, ?_, by simp⟩, ⟨?_, ?_⟩, ?_⟩
  · intro j p y hp hy
    by_cases hj : j < xs.length
    · rw [List.getElem?_append_left (by omega)] at hp hy
      exact e.keep (hE0 j p y hp hy) fun b hb => hk b (List.mem_flatMap.2 ⟨p, List.mem_of_getElem? hp, hb⟩)
    · rw [List.getElem?_append_right (by omega)] at hp hy
      rw [hl] at hp
      exact hE' _ p y hp hy
  · rw [List.flatMap_append, List.length_append]
    exact own_mono ho' (Nat.zero_le B)
  · rw [List.nodup_append]
    refine ⟨by cases v'.ownBlock <;> simp, ?_, ?_⟩
    · rw [List.nodup_append]
      exact ⟨hd.2.1, hFi.1, fun a ha b hb e1 => hap b hb (List.mem_append.2 (.inr (e1 ▸ ha)))⟩
    · intro a ha b hb e1
      subst e1
      obtain ⟨cur, t, h1, h2⟩ := own_ty ho' a ha
      obtain ⟨cur', t', h1', h2'⟩ := hT a hb
      rw [h1] at h1'
      simp at h1' h2
      exact hts (h2 ▸ h1'.2 ▸ h2')
  · intro b hb
    rcases List.mem_append.1 hb with hb | hb
    · exact (ho'.lt b (by simpa using hb)).1
    · rcases List.mem_append.1 hb with hb | hb
      · exact hF.2 b (List.mem_append.2 (.inr hb))
      · exact hFi.2 b hb
  · intro b hb
    rcases List.mem_append.1 hb with hb | hb
    · exact .inr (.inr (by simpa using hb))
    · rcases List.mem_append.1 hb with hb | hb
      · exact .inl (List.mem_append.2 (.inr hb))
      · exact .inr (.inl hb)
/-- What an append of elements leaves. -/
structure Appd {α : Type} (e : Elem α) (B : Nat) (w w' : World) (v v' : Value) (bl ib bl' : List Nat) (zs : List α) : Prop where
  row : ORow e w' v' zs bl'
  fsh : Fsh B bl'
  sub : ∀ b ∈ bl', b ∈ bl ∨ b ∈ ib ∨ b = w.heap.size
  grown : w.grownBy w' v.ownBlock
  shp : Shp w w'
theorem run_append_elems {α : Type} {e : Elem α} {ts : List TypeId} (he : ∀ {w vs x bl}, e.E w vs x bl → Tys ts w bl) (hts : e.T ∉ ts) {t : TypeId} (ht : Try.prog.underlying t = some (.slice e.T)) {z : Value} {bytes : Nat}
    (hinfo : (Try.prog.info? e.T).map (fun i => (i.zero, i.size, i.bytes)) = some (some z, e.wd, bytes)) (hzs : z.cells.size = e.wd) (hsz : 0 < e.wd) (hby : bytes ≤ 100)
    (w : World) (ty : TypeId) {B : Nat} {v : Value} {xs : List α} {bl : List Nat} (h : ORow e w v xs bl) (hF : Fsh B bl)
    {qs : List (List Value × List Nat)} {ys : List α} (hql : qs.length = ys.length) (h0 : 0 < ys.length) (hE : ∀ (j : Nat) (p : List Value × List Nat) (y : α), qs[j]? = some p → ys[j]? = some y → e.E w p.1 y p.2) (hFi : Fsh B (qs.flatMap (·.2))) (hap : ∀ b ∈ qs.flatMap (·.2), b ∉ bl)
    {g c : Nat} (hcell : ∀ (j : Nat) (u : Value), (qs.flatMap (·.1))[j]? = some u → w.cell? ((⟨g, 0, none⟩ : Addr).add j) = some u) (h1 : ∀ u ∈ qs.flatMap (·.1), u.oneCell' = true) (hB : B ≤ w.heap.size) (hl : xs.length + ys.length ≤ 40000000) :
    ∃ v' w' bl', (Builtin.append_ #[t, t] ty #[v, .slice (some ⟨g, 0, none⟩) ys.length c]).run Try.prog w = .ok v' w' ∧ Appd e B w w' v v' bl (qs.flatMap (·.2)) bl' (xs ++ ys) := by
  obtain ⟨i0, hi, hz0, hz1, hz2⟩ := info_parts hinfo
  obtain ⟨cs, hown, hfin⟩ := h.apps he hts hF hql hE hFi hap
  have hwd : ∀ p ∈ qs, p.1.length = e.wd := orow_wd hql hE
  have hlen : (qs.flatMap (·.1)).length = ys.length * e.wd := by rw [flat_len hwd, hql]
  have hby2 : (xs.length + ys.length) * bytes ≤ (xs.length + ys.length) * 100 := Nat.mul_le_mul_left _ hby
  obtain ⟨v', w', hr, h2, h3, _⟩ := run_append_own (P := Try.prog) w B t ty e.T i0 z e.wd bytes ht hi hz0 hz1 hz2 hzs hsz v _ cs hown ⟨g, 0, none⟩ ys.length c (qs.flatMap (·.1)) hlen hcell h1 (by unfold maxLen; omega) (by omega) hB
  have h4 := append_form (P := Try.prog) w (z := z) ht hi hz0 (by rw [hz1]; exact hown) (by rw [hz1]; exact hlen) hcell h1 h0 (by unfold maxLen; omega) (by rw [hz2]; omega) hr
  obtain ⟨bl', h5, h6, h7⟩ := hfin v' w' h2 h3
  refine ⟨v', w', bl', hr, h5, h6, fun b hb => ?_, h3, h4.2⟩
  rcases h7 b hb with h8 | h8 | h8
  · exact .inl h8
  · exact .inr (.inl h8)
  · rcases h4.1 with h9 | h9
    · exact .inl (h.head (h9 ▸ h8))
    · rw [h8] at h9; injection h9 with h9; exact .inr (.inr h9)
theorem wp_append_run {P : Program} {o : Oper} {a : Act} {K : Act → World → Prop} {Q : Exit → Act → World → Prop} {w : World} (s x : Operand) (t : TypeId)
    (ho : o.op = .call { callee := .builtin .append, args := #[s, x], argTypes := #[t, t] }) {v u v' : Value} {w' : World} (hs : a.eval s = v) (hx : a.eval x = u) (hr : (Builtin.append_ #[t, t] o.type #[v, u]).run P w = .ok v' w')
    (h : K (a.put o.dst v') w') : o.wp P a w K Q := by
  unfold Oper.wp execOp
  simp only [ho, resolve, invoke, builtin, Sem.run_bind, Sem.run_pure, Result.andThen_ok, List.map_toArray, List.map_cons, List.map_nil, hs, hx, hr]
  exact h
/-- One element more, whatever the row be. -/
theorem run_append_any {T : TypeId} {wd : Nat} {t : TypeId} (ht : Try.prog.underlying t = some (.slice T)) {z : Value} {bytes : Nat}
    (hinfo : (Try.prog.info? T).map (fun i => (i.zero, i.size, i.bytes)) = some (some z, wd, bytes)) (hzs : z.cells.size = wd) (hsz : 0 < wd) (hby : bytes ≤ 100)
    (w : World) (ty : TypeId) {B : Nat} {v : Value} {N : Nat} (h : AnyR w B T wd v N) {vs : List Value} (hlen : vs.length = wd)
    {g c : Nat} (hcell : ∀ (j : Nat) (u : Value), vs[j]? = some u → w.cell? ((⟨g, 0, none⟩ : Addr).add j) = some u) (h1 : ∀ u ∈ vs, u.oneCell' = true) (hB : B ≤ w.heap.size) (hl : N + 1 ≤ 40000000) :
    ∃ v' w', (Builtin.append_ #[t, t] ty #[v, .slice (some ⟨g, 0, none⟩) 1 c]).run Try.prog w = .ok v' w' ∧ AnyR w' B T wd v' (N + 1) ∧ w.grownBy w' v.ownBlock ∧ Shp w w' := by
  obtain ⟨i0, hi, hz0, hz1, hz2⟩ := info_parts hinfo
  obtain ⟨n, cs, hn, hown⟩ := h
  have hby2 : (n + 1) * bytes ≤ (n + 1) * 100 := Nat.mul_le_mul_left _ hby
  obtain ⟨v', w', hr, h2, h3, _⟩ := run_append_own (P := Try.prog) w B t ty T i0 z wd bytes ht hi hz0 hz1 hz2 hzs hsz v _ cs hown ⟨g, 0, none⟩ 1 c vs (by omega) hcell h1 (by unfold maxLen; omega) (by omega) hB
  have h4 := append_form (P := Try.prog) w (z := z) ht hi hz0 (by rw [hz1]; exact hown) (by rw [hz1]; omega) hcell h1 (by omega) (by unfold maxLen; omega) (by rw [hz2]; omega) hr
  exact ⟨v', w', hr, ⟨n + 1, _, by omega, h2⟩, h3, h4.2⟩
end Go.Proofs.Ytiolpmhodbefoaa

