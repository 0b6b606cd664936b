import Derived.Laws.AppendOwn
import Derived.Room.AppendZeros
import Derived.Test.YtiolpmhodbefoaaGreatDoorBp2
import Derived.Deep.SlicePairs
import Derived.ProofKit
namespace Go.Proofs.YtiolpmhodbefoaaGreatDoor
open Go.RowKit

/-- What lies in the set is the same, and lies in the other set. -/
def Mv (S S' : Nat → Prop) (w w' : World) : Prop := ∀ b, S b → b < w.heap.size → S' b ∧ w'.heap[b]? = w.heap[b]?
theorem Mv.below {S : Nat → Prop} {w w' : World} (h : Below w.heap.size w w') : Mv S S w w' := fun b hb hl => ⟨hb, h.block b hl⟩
theorem Mv.sub {S S' : Nat → Prop} {w : World} (h : ∀ b, S b → b < w.heap.size → S' b) : Mv S S' w w := fun b hb hl => ⟨h b hb hl, rfl⟩
/-- An element that is only read: its cells, what it is, and the blocks that it may use. -/
structure KE (α : Type) where
  T : TypeId
  wd : Nat
  pos : 0 < wd
  R : World → (Nat → Prop) → List Value → α → Prop
  len : ∀ {w S vs x}, R w S vs x → vs.length = wd
  move : ∀ {w w' S S' vs x}, R w S vs x → Mv S S' w w' → R w' S' vs x
theorem fl_len {vss : List (List Value)} {wd : Nat} (h : ∀ p ∈ vss, p.length = wd) : vss.flatten.length = vss.length * wd := by
  induction vss with
  | nil => simp
  | cons q r ih => rw [List.flatten_cons, List.length_append, ih (fun p hp => h p (List.mem_cons_of_mem _ hp)), h q List.mem_cons_self, List.length_cons, Nat.add_mul]; omega
theorem fl_at {vss : List (List Value)} {wd : Nat} (h : ∀ p ∈ vss, p.length = wd) {j : Nat} {p : List Value} (hj : vss[j]? = some p) (m : Nat) (hm : m < wd) : vss.flatten[j * wd + m]? = p[m]? := by
  induction vss generalizing j with
  | nil => simp at hj
  | cons q r ih =>
    have hq := h q List.mem_cons_self
    rw [List.flatten_cons]
    cases j with
    | zero =>
      simp at hj; subst hj
      rw [Nat.zero_mul, Nat.zero_add, List.getElem?_append_left (by omega)]
    | succ j =>
      have := ih (fun p hp => h p (List.mem_cons_of_mem _ hp)) (by simpa using hj)
      rw [List.getElem?_append_right (by rw [hq, Nat.add_mul]; omega), hq, ← this]
      congr 1
      rw [Nat.add_mul]; omega
theorem fl_take {vss : List (List Value)} {wd : Nat} (h : ∀ p ∈ vss, p.length = wd) (r : Nat) : (vss.take r).flatten = vss.flatten.take (r * wd) := by
  induction vss generalizing r with
  | nil => simp
  | cons q l ih =>
    have hq := h q List.mem_cons_self
    cases r with
    | zero => simp
    | succ r =>
      have e1 : (r + 1) * wd - q.length = r * wd := by rw [hq, Nat.add_mul]; omega
      have e2 : List.take ((r + 1) * wd) q = q := List.take_of_length_le (by rw [hq, Nat.add_mul]; omega)
      rw [List.take_succ_cons, List.flatten_cons, List.flatten_cons, ih (fun p hp => h p (List.mem_cons_of_mem _ hp)), List.take_append, e1, e2]
/-- The elements of a row, cell for cell. -/
def Els {α : Type} (e : KE α) (w : World) (S : Nat → Prop) (vss : List (List Value)) (xs : List α) : Prop :=
  vss.length = xs.length ∧ ∀ (j : Nat) (vs : List Value) (x : α), vss[j]? = some vs → xs[j]? = some x → e.R w S vs x
theorem Els.move {α : Type} {e : KE α} {w w' : World} {S S' : Nat → Prop} {vss : List (List Value)} {xs : List α} (h : Els e w S vss xs) (hm : Mv S S' w w') : Els e w' S' vss xs :=
  ⟨h.1, fun j vs x h1 h2 => e.move (h.2 j vs x h1 h2) hm⟩
theorem Els.wd {α : Type} {e : KE α} {w : World} {S : Nat → Prop} {vss : List (List Value)} {xs : List α} (h : Els e w S vss xs) : ∀ p ∈ vss, p.length = e.wd := by
  intro p hp
  obtain ⟨j, hj, rfl⟩ := List.mem_iff_getElem.1 hp
  exact e.len (h.2 j vss[j] (xs[j]'(by have := h.1; omega)) (List.getElem?_eq_getElem hj) (List.getElem?_eq_getElem _))
theorem Els.snoc {α : Type} {e : KE α} {w : World} {S : Nat → Prop} {vss : List (List Value)} {xs : List α} (h : Els e w S vss xs) {vs : List Value} {x : α} (hx : e.R w S vs x) : Els e w S (vss ++ [vs]) (xs ++ [x]) := by
  refine ⟨by simp [h.1], fun j us y h1 h2 => ?_⟩
  by_cases hj : j < xs.length
  · rw [List.getElem?_append_left (by have := h.1; omega)] at h1
    rw [List.getElem?_append_left hj] at h2
    exact h.2 j us y h1 h2
  · have h3 := (List.getElem?_eq_some_iff.1 h2).1
    rw [List.length_append, List.length_singleton] at h3
    have : j = xs.length := by omega
    subst this
    rw [← h.1] at h1
    simp at h1 h2
    subst h1; subst h2; exact hx
theorem Els.take {α : Type} {e : KE α} {w : World} {S : Nat → Prop} {vss : List (List Value)} {xs : List α} (h : Els e w S vss xs) (r : Nat) : Els e w S (vss.take r) (xs.take r) := by
  refine ⟨by simp [h.1], fun j vs x h1 h2 => ?_⟩
  rw [List.getElem?_take] at h1 h2
  split at h1
  · rename_i hj
    rw [if_pos hj] at h2
    exact h.2 j vs x h1 h2
  · cases h1
theorem Els.drop {α : Type} {e : KE α} {w : World} {S : Nat → Prop} {vss : List (List Value)} {xs : List α} (h : Els e w S vss xs) (r : Nat) : Els e w S (vss.drop r) (xs.drop r) := by
  refine ⟨by simp [h.1], fun j vs x h1 h2 => ?_⟩
  rw [List.getElem?_drop] at h1 h2
  exact h.2 _ vs x h1 h2
theorem Els.imp {α : Type} {e e' : KE α} {w : World} {S : Nat → Prop} {vss : List (List Value)} {xs : List α} (h : Els e w S vss xs) (hi : ∀ {vs x}, e.R w S vs x → e'.R w S vs x) : Els e' w S vss xs := ⟨h.1, fun j vs x h1 h2 => hi (h.2 j vs x h1 h2)⟩
/-- A row that lies in the set. -/
def LRow {α : Type} (e : KE α) (w : World) (S : Nat → Prop) (v : Value) (xs : List α) : Prop :=
  ∃ (a : Option Addr) (cap g : Nat) (vss : List (List Value)), v = .slice a xs.length cap ∧ (0 < xs.length → a = some ⟨g, 0, none⟩ ∧ S g) ∧ Els e w S vss xs ∧
    (∀ (j : Nat) (vs : List Value), vss[j]? = some vs → ∀ (m : Nat) (u : Value), vs[m]? = some u → w.cell? ⟨g, j * e.wd + m, none⟩ = some u)
theorem LRow.move {α : Type} {e : KE α} {w w' : World} {S S' : Nat → Prop} {v : Value} {xs : List α} (h : LRow e w S v xs) (hm : Mv S S' w w') : LRow e w' S' v xs := by
  obtain ⟨a, cap, g, vss, hv, ha, hE, hc⟩ := h
  by_cases h0 : 0 < xs.length
  · obtain ⟨ha1, hg⟩ := ha h0
    have hgl : g < w.heap.size := by
      have hl := hE.1
      have h1 : vss[0]? = some (vss[0]'(by omega)) := List.getElem?_eq_getElem _
      have h2 := e.len (hE.2 0 _ (xs[0]'h0) h1 (List.getElem?_eq_getElem _))
      have := e.pos
      exact World.block_lt_of_cell? w ⟨g, 0 * e.wd + 0, none⟩ (hc 0 _ h1 0 _ (List.getElem?_eq_getElem (by omega)))
    obtain ⟨hg', hb⟩ := hm g hg hgl
    exact ⟨a, cap, g, vss, hv, fun _ => ⟨ha1, hg'⟩, hE.move hm, fun j vs h1 m u hu => (World.cell?_of_block (a := ⟨g, j * e.wd + m, none⟩) hb).trans (hc j vs h1 m u hu)⟩
  · exact ⟨a, cap, g, vss, hv, fun h => absurd h h0, hE.move hm, fun j vs h1 => by
      have hl := hE.1
      have := (List.getElem?_eq_some_iff.1 h1).1
      omega⟩
theorem LRow.imp {α : Type} {e e' : KE α} {w : World} {S : Nat → Prop} {v : Value} {xs : List α} (h : LRow e w S v xs) (hw : e.wd = e'.wd) (hi : ∀ {vs x}, e.R w S vs x → e'.R w S vs x) : LRow e' w S v xs := by
  obtain ⟨a, cap, g, vss, hv, ha, hE, hc⟩ := h
  exact ⟨a, cap, g, vss, hv, ha, hE.imp hi, by rw [← hw]; exact hc⟩
theorem LRow.form {α : Type} {e : KE α} {w : World} {S : Nat → Prop} {v : Value} {xs : List α} (h : LRow e w S v xs) : ∃ a cap, v = .slice a xs.length cap ∧ (0 < xs.length → ∃ g, a = some ⟨g, 0, none⟩) := by
  obtain ⟨a, cap, g, vss, hv, ha, -, -⟩ := h
  exact ⟨a, cap, hv, fun h => ⟨g, (ha h).1⟩⟩
theorem LRow.at {α : Type} {e : KE α} {w : World} {S : Nat → Prop} {g n cap : Nat} {xs : List α} (h : LRow e w S (.slice (some ⟨g, 0, none⟩) n cap) xs) {j : Nat} {x : α} (hx : xs[j]? = some x) :
    ∃ vs, e.R w S vs x ∧ ∀ (m : Nat) (u : Value), vs[m]? = some u → w.cell? ⟨g, j * e.wd + m, none⟩ = some u := by
  obtain ⟨a, cap', g', vss, hv, ha, hE, hc⟩ := h
  have hj := (List.getElem?_eq_some_iff.1 hx).1
  have hl := hE.1
  have h1 : vss[j]? = some (vss[j]'(by omega)) := List.getElem?_eq_getElem _
  refine ⟨_, hE.2 j _ x h1 hx, ?_⟩
  obtain ⟨ha1, -⟩ := ha (by omega)
  injection hv with hv1 _ _
  rw [ha1] at hv1
  injection hv1 with hv1
  injection hv1 with hv1 _ _
  subst hv1
  exact hc j _ h1
/-- The blocks of the elements of a row that the call makes: the given ones, and the new ones but the row's own. -/
def Hd (S0 : Nat → Prop) (B : Nat) (o : Option Nat) : Nat → Prop := fun b => S0 b ∨ (B ≤ b ∧ o ≠ some b)
/-- A row under way. -/
def WRow {α : Type} (e : KE α) (w : World) (S0 : Nat → Prop) (B : Nat) (v : Value) (xs : List α) : Prop :=
  ∃ vss : List (List Value), Els e w (Hd S0 B v.ownBlock) vss xs ∧ w.ownsRow B e.T e.wd v xs.length vss.flatten
theorem WRow.nil {α : Type} (e : KE α) (w : World) (S0 : Nat → Prop) (B : Nat) : WRow e w S0 B (.slice none 0 0) [] := ⟨[], ⟨rfl, fun j vs x h => by simp at h⟩, w.ownsRow_nil _ _ _⟩
theorem WRow.start {α : Type} {e : KE α} {w : World} {S0 : Nat → Prop} {B : Nat} {v : Value} (h : w.ownsRow B e.T e.wd v 0 []) : WRow e w S0 B v [] := ⟨[], ⟨rfl, fun j vs x h => by simp at h⟩, h⟩
theorem WRow.imp {α : Type} {e e' : KE α} {w : World} {S0 : Nat → Prop} {B : Nat} {v : Value} {xs : List α} (h : WRow e w S0 B v xs) (hT : e.T = e'.T) (hw : e.wd = e'.wd) (hi : ∀ {S vs x}, e.R w S vs x → e'.R w S vs x) : WRow e' w S0 B v xs := by
  obtain ⟨vss, h1, h2⟩ := h
  exact ⟨vss, h1.imp hi, by rw [← hT, ← hw]; exact h2⟩
theorem WRow.keep {α : Type} {e : KE α} {w w' : World} {S0 : Nat → Prop} {B : Nat} {v : Value} {xs : List α} (h : WRow e w S0 B v xs) (hb : Below w.heap.size w w') : WRow e w' S0 B v xs := by
  obtain ⟨vss, h1, h2⟩ := h
  exact ⟨vss, h1.move (.below hb), own_below h2 hb⟩
theorem WRow.form {α : Type} {e : KE α} {w : World} {S0 : Nat → Prop} {B : Nat} {v : Value} {xs : List α} (h : WRow e w S0 B v xs) : (v = .slice none 0 0 ∧ xs = []) ∨ ∃ g cap, v = .slice (some ⟨g, 0, none⟩) xs.length cap ∧ xs.length ≤ cap ∧ cap ≤ maxLen ∧ B ≤ g ∧ g < w.heap.size := by
  obtain ⟨vss, h1, h2⟩ := h
  rcases h2.2 with ⟨hv, h0⟩ | ⟨g, cap, cur, hv, hB, hg, hc, hm, -⟩
  · exact .inl ⟨hv, List.eq_nil_of_length_eq_zero h0⟩
  · exact .inr ⟨g, cap, hv, hc, hm, hB, (Array.getElem?_eq_some_iff.1 hg).1⟩
theorem WRow.at {α : Type} {e : KE α} {w : World} {S0 : Nat → Prop} {B g n cap : Nat} {xs : List α} (h : WRow e w S0 B (.slice (some ⟨g, 0, none⟩) n cap) xs) {j : Nat} {x : α} (hx : xs[j]? = some x) :
    ∃ vs, e.R w (Hd S0 B (some g)) vs x ∧ ∀ (m : Nat) (u : Value), vs[m]? = some u → w.cell? ⟨g, j * e.wd + m, none⟩ = some u := by
  obtain ⟨vss, hE, ho⟩ := h
  have hj := (List.getElem?_eq_some_iff.1 hx).1
  have hl := hE.1
  have h1 : vss[j]? = some (vss[j]'(by omega)) := List.getElem?_eq_getElem _
  refine ⟨_, hE.2 j _ x h1 hx, fun m u hu => ?_⟩
  have hwd := hE.wd
  have hm : m < e.wd := by
    have := (List.getElem?_eq_some_iff.1 hu).1
    rwa [hwd _ (List.getElem_mem _)] at this
  have hn : n = xs.length := by
    rcases ho.2 with ⟨hv, h0⟩ | ⟨g', cap', cur, hv, _⟩
    · cases hv
    · injection hv
  subst hn
  have hlt : j * e.wd + m < xs.length * e.wd := by
    have : (j + 1) * e.wd ≤ xs.length * e.wd := Nat.mul_le_mul_right _ hj
    rw [Nat.add_mul] at this; omega
  rw [ho.cellAt _ hlt, fl_at hwd h1 m hm]; exact hu
theorem own_take {w : World} {B e size g n cap r : Nat} {xs : List Value} (h : w.ownsRow B e size (.slice (some ⟨g, 0, none⟩) n cap) n xs) (hr : r ≤ n) : w.ownsRow B e size (.slice (some ⟨g, 0, none⟩) r cap) r (xs.take (r * size)) := by
  have hle : r * size ≤ n * size := Nat.mul_le_mul_right _ hr
  refine ⟨by rw [List.length_take, h.1]; omega, ?_⟩
  rcases h.2 with ⟨hv, _⟩ | ⟨g', cap', cur, hv, hB, hg, hc, hm, hs, ht⟩
  · cases hv
  · injection hv with hv1 _ hv3
    injection hv1 with hv1
    injection hv1 with hv1 _ _
    subst hv1; subst hv3
    refine .inr ⟨_, _, cur, rfl, hB, hg, by omega, hm, hs, ?_⟩
    rw [← ht, List.take_take, Nat.min_eq_left hle]
theorem WRow.take {α : Type} {e : KE α} {w : World} {S0 : Nat → Prop} {B g n cap : Nat} {xs : List α} (h : WRow e w S0 B (.slice (some ⟨g, 0, none⟩) n cap) xs) (hn : n = xs.length) {r : Nat} (hr : r ≤ n) : WRow e w S0 B (.slice (some ⟨g, 0, none⟩) r cap) (xs.take r) := by
  obtain ⟨vss, hE, ho⟩ := h
  subst hn
  refine ⟨vss.take r, hE.take r, ?_⟩
  rw [List.length_take, Nat.min_eq_left hr, fl_take hE.wd]
  exact own_take ho hr
/-- A row that is done lies among the new blocks. -/
theorem WRow.done {α : Type} {e : KE α} {w : World} {S0 : Nat → Prop} {B : Nat} {v : Value} {xs : List α} (h : WRow e w S0 B v xs) : LRow e w (fun b => S0 b ∨ B ≤ b) v xs := by
  have hat := @WRow.at α e w S0 B
  obtain ⟨vss, hE, ho⟩ := h
  have hS : Mv (Hd S0 B v.ownBlock) (fun b => S0 b ∨ B ≤ b) w w := .sub fun b hb _ => by
    rcases hb with hb | hb
    · exact .inl hb
    · exact .inr hb.1
  have hwd := hE.wd
  have hl := hE.1
  rcases ho.2 with ⟨hv, h0⟩ | ⟨g, cap, cur, hv, hB, hr⟩
  · have hx : xs = [] := List.eq_nil_of_length_eq_zero h0
    subst hx
    exact ⟨none, 0, 0, vss, by rw [hv]; rfl, fun h => by simp at h, hE.move hS, fun j vs h1 => by
      have := (List.getElem?_eq_some_iff.1 h1).1
      simp at hl
      rw [hl] at this
      simp at this⟩
  · refine ⟨_, _, g, vss, hv, fun _ => ⟨rfl, .inr hB⟩, hE.move hS, fun j vs h1 m u hu => ?_⟩
    rw [hv] at ho
    have hj := (List.getElem?_eq_some_iff.1 h1).1
    have hm : m < e.wd := by
      have := (List.getElem?_eq_some_iff.1 hu).1
      rwa [hwd _ (List.mem_of_getElem? h1)] at this
    have hlt : j * e.wd + m < xs.length * e.wd := by
      have : (j + 1) * e.wd ≤ xs.length * e.wd := Nat.mul_le_mul_right _ (by omega)
      rw [Nat.add_mul] at this; omega
    rw [ho.cellAt _ hlt, fl_at hwd h1 m hm]; exact hu
/-- One element more. -/
theorem WRow.app {α : Type} {e : KE α} {w w' : World} {S0 : Nat → Prop} {B : Nat} {v v' : Value} {xs : List α} (h : WRow e w S0 B v xs) {vss : List (List Value)} (hE : Els e w (Hd S0 B v.ownBlock) vss xs) {vs : List Value} {x : α} (hx : e.R w (Hd S0 B v.ownBlock) vs x)
    (ho' : w'.ownsRow B e.T e.wd v' (xs.length + 1) (vss.flatten ++ vs)) (hg : w.grownBy w' v.ownBlock) (hw : v'.ownBlock = v.ownBlock ∨ v'.ownBlock = some w.heap.size) (h0 : ∀ b, S0 b → b < B) : WRow e w' S0 B v' (xs ++ [x]) := by
  have hm : Mv (Hd S0 B v.ownBlock) (Hd S0 B v'.ownBlock) w w' := fun b hb hl => by
    have hlt : ∀ k, v.ownBlock = some k → B ≤ k := fun k hk => by
      obtain ⟨vss', -, h2⟩ := h
      exact (h2.lt k hk).1
    refine ⟨?_, hg.block b hl ?_⟩
    · rcases hb with hb | ⟨hb, hn⟩
      · exact .inl hb
      · refine .inr ⟨hb, ?_⟩
        rcases hw with hw | hw
        · rw [hw]; exact hn
        · rw [hw]; intro e1; injection e1 with e1; omega
    · intro e1
      rcases hb with hb | ⟨hb, hn⟩
      · have := h0 b hb
        have := hlt b e1.symm
        omega
      · exact hn e1.symm
  refine ⟨vss ++ [vs], (hE.snoc hx).move hm, ?_⟩
  rw [List.flatten_append, List.length_append]
  simpa using ho'
theorem append_whereK {P : Program} (w : World) {base : Nat} {t ty e : TypeId} {i : TypeInfo} {z : Value} (ht : P.underlying t = some (.slice e)) (hi : P.info? e = some i) (hz : i.zero = some z)
    {v : Value} {n : Nat} {xs : List Value} (hown : w.ownsRow base e i.size v n xs) {a : Addr} {m c : Nat} {news : List Value} (hl : news.length = m * i.size) (hnews : ∀ j u, news[j]? = some u → w.cell? (a.add j) = some u) (h1 : ∀ u ∈ news, u.oneCell' = true)
    (h0 : 0 < m) (h63 : n + m ≤ maxLen) (hbytes : (n + m) * i.bytes ≤ 140737488355328) {v' : Value} {w' : World} (hr : (Builtin.append_ #[t, t] ty #[v, .slice (some a) m c]).run P w = .ok v' w') :
    v'.ownBlock = v.ownBlock ∨ v'.ownBlock = some w.heap.size := by
  unfold maxLen at h63
  rcases hown.2 with ⟨hv, hn⟩ | ⟨g, cap, cur, hv, _, hg, _, _, hcs, _⟩
  · subst hv; subst hn
    have hx := run_append_nil (P := P) w t ty e i z ht hi hz a m c news hl hnews h0 (by omega) (by simp only [Nat.zero_add] at hbytes; omega)
    rw [hx] at hr
    injection hr with hr1 _
    subst hr1
    exact .inr rfl
  · subst hv
    by_cases hroom : n + m ≤ cap
    · have hx := run_append_room (P := P) w t ty e i ht hi g n cap cur hg a m c news hl hnews h1 hroom (by rw [hl, hcs, ← Nat.add_mul]; exact Nat.mul_le_mul_right _ hroom)
      rw [hx] at hr
      injection hr with hr1 _
      subst hr1
      exact .inl rfl
    · have hx := run_append_grow (P := P) w t ty e i z ht hi hz ⟨g, 0, none⟩ n cap xs hown.1 (hown.cells (g := g) rfl) a m c news hl hnews (by omega) (by omega) (growslice_fits (by omega) hbytes)
      rw [hx] at hr
      injection hr with hr1 _
      subst hr1
      exact .inr rfl
/-- One element more, by the builtin append. -/
theorem wpList_append_K {α : Type} (e : KE α) {t : TypeId} (ht : Tryz.prog.underlying t = some (.slice e.T)) {z : Value} {bytes : Nat}
    (hinfo : (Tryz.prog.info? e.T).map (fun i => (i.zero, i.size, i.bytes)) = some (some z, e.wd, bytes)) (hzs : z.cells.size = e.wd) (hby : bytes ≤ 200)
    {w : World} {ops : Array Oper} {rest : List Oper} {o : Oper} {a : Act} {Q : Exit → Act → World → Prop} (hg : o.guard = none) (s x : Operand)
    (ho : o.op = .call { callee := .builtin .append, args := #[s, x], argTypes := #[t, t] }) {S0 : Nat → Prop} {B : Nat} {v : Value} {xs : List α} (hs : a.eval s = v)
    (h : WRow e w S0 B v xs) (hS0 : ∀ b, S0 b → b < B) {vs : List Value} {y : α} (hE : e.R w (Hd S0 B v.ownBlock) vs y) {g : Nat} (hx : a.eval x = .slice (some ⟨g, 0, none⟩) 1 1)
    (hcell : ∀ (j : Nat) (u : Value), vs[j]? = some u → w.cell? ((⟨g, 0, none⟩ : Addr).add j) = some u) (h1 : ∀ u ∈ vs, u.oneCell' = true) (hB : B ≤ w.heap.size) (hl : xs.length ≤ 40000000)
    (hK : ∀ v' w', WRow e w' S0 B v' (xs ++ [y]) → w.grownBy w' v.ownBlock → (∀ k, v.ownBlock = some k → B ≤ k) → wpList Tryz.prog ops Q rest (a.put o.dst v') w') : wpList Tryz.prog ops Q (o :: rest) a w := by
  obtain ⟨i0, hi, hz0, hz1, hz2⟩ := info_parts hinfo
  obtain ⟨vss, hEl, hown⟩ := id h
  have hby2 : (xs.length + 1) * bytes ≤ (xs.length + 1) * 200 := Nat.mul_le_mul_left _ hby
  have hle := e.len hE
  obtain ⟨v', w', hr, h2, h3, _⟩ := run_append_own (P := Tryz.prog) w B t o.type e.T i0 z e.wd bytes ht hi hz0 hz1 hz2 hzs e.pos v _ _ hown ⟨g, 0, none⟩ 1 1 vs (by rw [hle]; omega) hcell h1 (by unfold maxLen; omega) (by omega) hB
  have h4 := append_whereK (P := Tryz.prog) w (z := z) ht hi hz0 (by rw [hz1]; exact hown) (by rw [hz1, hle]; omega) hcell h1 (by omega) (by unfold maxLen; omega) (by rw [hz2]; omega) hr
  exact Lib.wpList_append_run w hg s x t t ho v _ hs hx v' w' hr (hK v' w' (h.app hEl hE h2 h3 h4 hS0) h3 fun k hk => (hown.lt k hk).1)
end Go.Proofs.YtiolpmhodbefoaaGreatDoor


namespace Go.Proofs.YtiolpmhodbefoaaGreatDoor
open Go.ChangeShapes Go.WideShapes Go.ChangeAt Go.RowKit Go.Deep

section
variable {H : Type} {enc : TypeId × Value → H} {P : Program} {w : World} {sp : Nat → Bool} {held : Bool}
theorem leaf_int {t : TypeId} (ht : P.underlying t = some (.int .i64)) {n : Nat} {cs : List Value} {y : DataW H × List MemPlace} (h : DataW.trod enc P w 0 sp held n t cs = some y) : ∃ z, cs = [.int .i64 z] := by
  cases n with
  | zero => simp [DataW.trod] at h
  | succ n =>
    unfold DataW.trod at h
    rw [ht] at h
    split at h <;> simp_all
theorem leaf_bool {t : TypeId} (ht : P.underlying t = some .bool) {n : Nat} {cs : List Value} {y : DataW H × List MemPlace} (h : DataW.trod enc P w 0 sp held n t cs = some y) : ∃ b, cs = [.bool b] := by
  cases n with
  | zero => simp [DataW.trod] at h
  | succ n =>
    unfold DataW.trod at h
    rw [ht] at h
    split at h <;> simp_all
theorem leaf_str {t : TypeId} (ht : P.underlying t = some .string) {n : Nat} {cs : List Value} {y : DataW H × List MemPlace} (h : DataW.trod enc P w 0 sp held n t cs = some y) : ∃ s, cs = [.string s] ∧ s.size ≤ maxLen := by
  cases n with
  | zero => simp [DataW.trod] at h
  | succ n =>
    unfold DataW.trod at h
    rw [ht] at h
    split at h <;> simp_all
theorem lst2 {α : Type} {l : List α} (h : l.length = 2) : ∃ a b, l = [a, b] := by
  match l, h with
  | [a, b], _ => exact ⟨a, b, rfl⟩
theorem lst3 {α : Type} {l : List α} (h : l.length = 3) : ∃ a b c, l = [a, b, c] := by
  match l, h with
  | [a, b, c], _ => exact ⟨a, b, c, rfl⟩
/-- A slice whose elements are read by R. -/
theorem open_rrow {α : Type} [Inhabited α] (e : RElem α) {t et : TypeId} (ht : Tryz.prog.underlying t = some (.slice et)) (hwd : Tryz.prog.cellsOf et = e.wd) (hpos : 0 < e.wd)
    (hopen : ∀ (n : Nat) (cs : List Value) (y : DataW H × List MemPlace), DataW.trod enc Tryz.prog w 0 sp held n et cs = some y → ∃ x, e.R w cs x)
    {fuel : Nat} {cs : List Value} {x : DataW H × List MemPlace} (h : DataW.trod enc Tryz.prog w 0 sp held fuel t cs = some x) : ∃ v xs, cs = [v] ∧ RRow e w v xs := by
  rcases open_slice ht h with ⟨h0, _⟩ | ⟨a, len, cap, m, n, D, Pl, rfl, _, hl, hm, hmm, _, hx⟩
  · exact ⟨_, [], h0, by simp, none, 0, rfl, fun j y hy => by simp at hy⟩
  · have hlm : len ≤ m := by rw [hmm]; split <;> omega
    obtain ⟨X, hX⟩ := choose_lt (n := len) (p := fun i y => ∃ cs', w.cells? 0 (a.add (i * e.wd)) e.wd = some cs' ∧ e.R w cs' y) fun i hi => by
      obtain ⟨cs', h1, h2⟩ := hx i (by omega)
      obtain ⟨y, hy⟩ := hopen _ _ _ h2
      rw [hwd] at h1
      exact ⟨y, cs', h1, hy⟩
    refine ⟨_, (List.range len).map X, rfl, by simp; omega, some a, cap, by simp, fun j y hy => ?_⟩
    have hj : j < len := by have := (List.getElem?_eq_some_iff.1 hy).1; simpa using this
    rw [List.getElem?_map, List.getElem?_range hj] at hy
    cases hy
    obtain ⟨cs', h1, h2⟩ := hX j hj
    obtain ⟨_, hlen, hcell⟩ := World.cells?_some h1
    obtain ⟨b, o, spot⟩ := a
    have hsp : spot = none := by
      obtain ⟨cs0, g1, _⟩ := hX 0 (by omega)
      obtain ⟨_, hlen0, hcell0⟩ := World.cells?_some g1
      have hc0 := hcell0 0 hpos
      rw [List.getElem?_eq_getElem (by omega)] at hc0
      simpa [Addr.add] using World.cell?_spot hc0
    subst hsp
    refine ⟨b, o, rfl, cs', h2, fun k u hu => ?_⟩
    have hk : k < e.wd := by have := (List.getElem?_eq_some_iff.1 hu).1; omega
    have := hcell k hk
    rw [hu] at this
    rw [← this]
    rw [Go.WideShapes.add_plain, Go.WideShapes.add_plain, Nat.add_assoc]
instance : Inhabited Msg := ⟨⟨0, [], false⟩⟩
instance : Inhabited Nws := ⟨⟨0, []⟩⟩
instance : Inhabited Wat := ⟨⟨0, ByteArray.empty, 0, 0, false, []⟩⟩
instance : Inhabited ByteArray := ⟨ByteArray.empty⟩
end
end Go.Proofs.YtiolpmhodbefoaaGreatDoor


namespace Go.Proofs.YtiolpmhodbefoaaGreatDoor
open Go.ChangeShapes Go.WideShapes Go.ChangeAt Go.RowKit Go.Deep

section
variable {H : Type} {enc : TypeId × Value → H} {w : World} {sp : Nat → Bool} {held : Bool}
theorem lst5 {α : Type} {l : List α} (h : l.length = 5) : ∃ a b c d e, l = [a, b, c, d, e] := by
  match l, h with
  | [a, b, c, d, e], _ => exact ⟨a, b, c, d, e, rfl⟩
theorem lst9 {α : Type} {l : List α} (h : l.length = 9) : ∃ a b c d e f g i j, l = [a, b, c, d, e, f, g, i, j] := by
  match l, h with
  | [a, b, c, d, e, f, g, i, j], _ => exact ⟨a, b, c, d, e, f, g, i, j, rfl⟩
instance : Inhabited PStep := ⟨⟨false, ByteArray.empty, 0⟩⟩
instance : Inhabited PFOp := ⟨⟨0, 0, ByteArray.empty, false, []⟩⟩
instance : Inhabited PSel := ⟨⟨0, ByteArray.empty, false, false, false, 0, 0, 0, []⟩⟩
instance : Inhabited PSeg := ⟨⟨false, []⟩⟩
theorem open_step {n : Nat} {cs : List Value} {y : DataW H × List MemPlace} (h : DataW.trod enc Tryz.prog w 0 sp held n 207 cs = some y) : ∃ m, stepR.R w cs m := by
  obtain ⟨xs, k, _, _, hl, hxl, hf⟩ := DataW.trod_struct Tryz.underlying207 h
  have hl0 : cs.length = 3 := hl.trans (by kernel_rfl)
  obtain ⟨a0, a1, a2, rfl⟩ := lst3 hl0
  obtain ⟨y0, y1, y2, rfl⟩ := lst3 hxl
  have h0 : DataW.trod enc Tryz.prog w 0 sp held k 4 (List.take (Tryz.prog.cellsOf 4) [a0, a1, a2]) = some y0 := hf 0 _ rfl
  have h1 : DataW.trod enc Tryz.prog w 0 sp held k 9 (List.take (Tryz.prog.cellsOf 9) [a1, a2]) = some y1 := hf 1 _ rfl
  have h2 : DataW.trod enc Tryz.prog w 0 sp held k 3 (List.take (Tryz.prog.cellsOf 3) [a2]) = some y2 := hf 2 _ rfl
  rw [show Tryz.prog.cellsOf 4 = 1 from by kernel_rfl] at h0
  rw [show Tryz.prog.cellsOf 9 = 1 from by kernel_rfl] at h1
  rw [show Tryz.prog.cellsOf 3 = 1 from by kernel_rfl] at h2
  obtain ⟨z0, e0⟩ := leaf_bool Tryz.underlying4 (h0 : DataW.trod enc Tryz.prog w 0 sp held k 4 [a0] = some y0)
  obtain ⟨z1, e1, s1⟩ := leaf_str Tryz.underlying9 (h1 : DataW.trod enc Tryz.prog w 0 sp held k 9 [a1] = some y1)
  obtain ⟨z2, e2⟩ := leaf_int Tryz.underlying3 (h2 : DataW.trod enc Tryz.prog w 0 sp held k 3 [a2] = some y2)
  cases e0; cases e1; cases e2
  exact ⟨⟨z0, z1, z2⟩, rfl, s1⟩
theorem open_steps {fuel : Nat} {cs : List Value} {x : DataW H × List MemPlace} (h : DataW.trod enc Tryz.prog w 0 sp held fuel 165 cs = some x) : ∃ v xs, cs = [v] ∧ RRow stepR w v xs :=
  open_rrow stepR Tryz.underlying165 (by kernel_rfl) (by decide) (fun _ _ _ h => open_step h) h
theorem open_fop {n : Nat} {cs : List Value} {y : DataW H × List MemPlace} (h : DataW.trod enc Tryz.prog w 0 sp held n 167 cs = some y) : ∃ m, fopR.R w cs m := by
  obtain ⟨xs, k, _, _, hl, hxl, hf⟩ := DataW.trod_struct Tryz.underlying167 h
  have hl0 : cs.length = 5 := hl.trans (by kernel_rfl)
  obtain ⟨a0, a1, a2, a3, a4, rfl⟩ := lst5 hl0
  obtain ⟨y0, y1, y2, y3, y4, rfl⟩ := lst5 hxl
  have h0 : DataW.trod enc Tryz.prog w 0 sp held k 3 (List.take (Tryz.prog.cellsOf 3) [a0, a1, a2, a3, a4]) = some y0 := hf 0 _ rfl
  have h1 : DataW.trod enc Tryz.prog w 0 sp held k 3 (List.take (Tryz.prog.cellsOf 3) [a1, a2, a3, a4]) = some y1 := hf 1 _ rfl
  have h2 : DataW.trod enc Tryz.prog w 0 sp held k 9 (List.take (Tryz.prog.cellsOf 9) [a2, a3, a4]) = some y2 := hf 2 _ rfl
  have h3 : DataW.trod enc Tryz.prog w 0 sp held k 4 (List.take (Tryz.prog.cellsOf 4) [a3, a4]) = some y3 := hf 3 _ rfl
  have h4 : DataW.trod enc Tryz.prog w 0 sp held k 165 (List.take (Tryz.prog.cellsOf 165) [a4]) = some y4 := hf 4 _ rfl
  rw [show Tryz.prog.cellsOf 3 = 1 from by kernel_rfl] at h0 h1
  rw [show Tryz.prog.cellsOf 9 = 1 from by kernel_rfl] at h2
  rw [show Tryz.prog.cellsOf 4 = 1 from by kernel_rfl] at h3
  rw [show Tryz.prog.cellsOf 165 = 1 from by kernel_rfl] at h4
  obtain ⟨z0, e0⟩ := leaf_int Tryz.underlying3 (h0 : DataW.trod enc Tryz.prog w 0 sp held k 3 [a0] = some y0)
  obtain ⟨z1, e1⟩ := leaf_int Tryz.underlying3 (h1 : DataW.trod enc Tryz.prog w 0 sp held k 3 [a1] = some y1)
  obtain ⟨z2, e2, s2⟩ := leaf_str Tryz.underlying9 (h2 : DataW.trod enc Tryz.prog w 0 sp held k 9 [a2] = some y2)
  obtain ⟨z3, e3⟩ := leaf_bool Tryz.underlying4 (h3 : DataW.trod enc Tryz.prog w 0 sp held k 4 [a3] = some y3)
  obtain ⟨q4, z4, e4, r4⟩ := open_steps (h4 : DataW.trod enc Tryz.prog w 0 sp held k 165 [a4] = some y4)
  cases e0; cases e1; cases e2; cases e3; cases e4
  exact ⟨⟨z0, z1, z2, z3, z4⟩, _, rfl, s2, r4⟩
theorem open_fops {fuel : Nat} {cs : List Value} {x : DataW H × List MemPlace} (h : DataW.trod enc Tryz.prog w 0 sp held fuel 118 cs = some x) : ∃ v xs, cs = [v] ∧ RRow fopR w v xs :=
  open_rrow fopR Tryz.underlying118 (by kernel_rfl) (by decide) (fun _ _ _ h => open_fop h) h
theorem open_sel {n : Nat} {cs : List Value} {y : DataW H × List MemPlace} (h : DataW.trod enc Tryz.prog w 0 sp held n 120 cs = some y) : ∃ m, selR.R w cs m := by
  obtain ⟨xs, k, _, _, hl, hxl, hf⟩ := DataW.trod_struct Tryz.underlying120 h
  have hl0 : cs.length = 9 := hl.trans (by kernel_rfl)
  obtain ⟨a0, a1, a2, a3, a4, a5, a6, a7, a8, rfl⟩ := lst9 hl0
  obtain ⟨y0, y1, y2, y3, y4, y5, y6, y7, y8, rfl⟩ := lst9 hxl
  have h0 : DataW.trod enc Tryz.prog w 0 sp held k 3 (List.take (Tryz.prog.cellsOf 3) [a0, a1, a2, a3, a4, a5, a6, a7, a8]) = some y0 := hf 0 _ rfl
  have h1 : DataW.trod enc Tryz.prog w 0 sp held k 9 (List.take (Tryz.prog.cellsOf 9) [a1, a2, a3, a4, a5, a6, a7, a8]) = some y1 := hf 1 _ rfl
  have h2 : DataW.trod enc Tryz.prog w 0 sp held k 4 (List.take (Tryz.prog.cellsOf 4) [a2, a3, a4, a5, a6, a7, a8]) = some y2 := hf 2 _ rfl
  have h3 : DataW.trod enc Tryz.prog w 0 sp held k 4 (List.take (Tryz.prog.cellsOf 4) [a3, a4, a5, a6, a7, a8]) = some y3 := hf 3 _ rfl
  have h4 : DataW.trod enc Tryz.prog w 0 sp held k 4 (List.take (Tryz.prog.cellsOf 4) [a4, a5, a6, a7, a8]) = some y4 := hf 4 _ rfl
  have h5 : DataW.trod enc Tryz.prog w 0 sp held k 3 (List.take (Tryz.prog.cellsOf 3) [a5, a6, a7, a8]) = some y5 := hf 5 _ rfl
  have h6 : DataW.trod enc Tryz.prog w 0 sp held k 3 (List.take (Tryz.prog.cellsOf 3) [a6, a7, a8]) = some y6 := hf 6 _ rfl
  have h7 : DataW.trod enc Tryz.prog w 0 sp held k 3 (List.take (Tryz.prog.cellsOf 3) [a7, a8]) = some y7 := hf 7 _ rfl
  have h8 : DataW.trod enc Tryz.prog w 0 sp held k 118 (List.take (Tryz.prog.cellsOf 118) [a8]) = some y8 := hf 8 _ rfl
  rw [show Tryz.prog.cellsOf 3 = 1 from by kernel_rfl] at h0 h5 h6 h7
  rw [show Tryz.prog.cellsOf 9 = 1 from by kernel_rfl] at h1
  rw [show Tryz.prog.cellsOf 4 = 1 from by kernel_rfl] at h2 h3 h4
  rw [show Tryz.prog.cellsOf 118 = 1 from by kernel_rfl] at h8
  obtain ⟨z0, e0⟩ := leaf_int Tryz.underlying3 (h0 : DataW.trod enc Tryz.prog w 0 sp held k 3 [a0] = some y0)
  obtain ⟨z1, e1, s1⟩ := leaf_str Tryz.underlying9 (h1 : DataW.trod enc Tryz.prog w 0 sp held k 9 [a1] = some y1)
  obtain ⟨z2, e2⟩ := leaf_bool Tryz.underlying4 (h2 : DataW.trod enc Tryz.prog w 0 sp held k 4 [a2] = some y2)
  obtain ⟨z3, e3⟩ := leaf_bool Tryz.underlying4 (h3 : DataW.trod enc Tryz.prog w 0 sp held k 4 [a3] = some y3)
  obtain ⟨z4, e4⟩ := leaf_bool Tryz.underlying4 (h4 : DataW.trod enc Tryz.prog w 0 sp held k 4 [a4] = some y4)
  obtain ⟨z5, e5⟩ := leaf_int Tryz.underlying3 (h5 : DataW.trod enc Tryz.prog w 0 sp held k 3 [a5] = some y5)
  obtain ⟨z6, e6⟩ := leaf_int Tryz.underlying3 (h6 : DataW.trod enc Tryz.prog w 0 sp held k 3 [a6] = some y6)
  obtain ⟨z7, e7⟩ := leaf_int Tryz.underlying3 (h7 : DataW.trod enc Tryz.prog w 0 sp held k 3 [a7] = some y7)
  obtain ⟨q8, z8, e8, r8⟩ := open_fops (h8 : DataW.trod enc Tryz.prog w 0 sp held k 118 [a8] = some y8)
  cases e0; cases e1; cases e2; cases e3; cases e4; cases e5; cases e6; cases e7; cases e8
  exact ⟨⟨z0, z1, z2, z3, z4, z5, z6, z7, z8⟩, _, rfl, s1, r8⟩
theorem open_sels {fuel : Nat} {cs : List Value} {x : DataW H × List MemPlace} (h : DataW.trod enc Tryz.prog w 0 sp held fuel 37 cs = some x) : ∃ v xs, cs = [v] ∧ RRow selR w v xs :=
  open_rrow selR Tryz.underlying37 (by kernel_rfl) (by decide) (fun _ _ _ h => open_sel h) h
theorem open_seg {n : Nat} {cs : List Value} {y : DataW H × List MemPlace} (h : DataW.trod enc Tryz.prog w 0 sp held n 39 cs = some y) : ∃ m, segR.R w cs m := by
  obtain ⟨xs, k, _, _, hl, hxl, hf⟩ := DataW.trod_struct Tryz.underlying39 h
  have hl0 : cs.length = 2 := hl.trans (by kernel_rfl)
  obtain ⟨a0, a1, rfl⟩ := lst2 hl0
  obtain ⟨y0, y1, rfl⟩ := lst2 hxl
  have h0 : DataW.trod enc Tryz.prog w 0 sp held k 4 (List.take (Tryz.prog.cellsOf 4) [a0, a1]) = some y0 := hf 0 _ rfl
  have h1 : DataW.trod enc Tryz.prog w 0 sp held k 37 (List.take (Tryz.prog.cellsOf 37) [a1]) = some y1 := hf 1 _ rfl
  rw [show Tryz.prog.cellsOf 4 = 1 from by kernel_rfl] at h0
  rw [show Tryz.prog.cellsOf 37 = 1 from by kernel_rfl] at h1
  obtain ⟨z0, e0⟩ := leaf_bool Tryz.underlying4 (h0 : DataW.trod enc Tryz.prog w 0 sp held k 4 [a0] = some y0)
  obtain ⟨q1, z1, e1, r1⟩ := open_sels (h1 : DataW.trod enc Tryz.prog w 0 sp held k 37 [a1] = some y1)
  cases e0; cases e1
  exact ⟨⟨z0, z1⟩, _, rfl, r1⟩
theorem open_segs {fuel : Nat} {cs : List Value} {x : DataW H × List MemPlace} (h : DataW.trod enc Tryz.prog w 0 sp held fuel 22 cs = some x) : ∃ v xs, cs = [v] ∧ RRow segR w v xs :=
  open_rrow segR Tryz.underlying22 (by kernel_rfl) (by decide) (fun _ _ _ h => open_seg h) h
end
end Go.Proofs.YtiolpmhodbefoaaGreatDoor

