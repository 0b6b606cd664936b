import Derived.Test.YtiolpmhodbefoaaBp34
namespace Go.Proofs.Ytiolpmhodbefoaa
open Go.RowKit

/-- A block that holds a selector. -/
def SB (w : World) (g : Nat) (k : Int) (t : ByteArray) (ha hb hc : Bool) (a b c : Int) (q : Value) : Prop := w.heap[g]? = some (.cells #[.int .i64 k, .string t, .bool ha, .bool hb, .bool hc, .int .i64 a, .int .i64 b, .int .i64 c, q] 43 (0, 0))
section
variable {w w' : World} {g : Nat} {k : Int} {t : ByteArray} {ha hb hc : Bool} {a b c : Int} {q : Value}
theorem SB.cs (h : SB w g k t ha hb hc a b c q) : w.cell? ⟨g, 0, none⟩ = some (.int .i64 k) ∧ w.cell? ⟨g, 1, none⟩ = some (.string t) ∧ w.cell? ⟨g, 2, none⟩ = some (.bool ha) ∧ w.cell? ⟨g, 3, none⟩ = some (.bool hb) ∧ w.cell? ⟨g, 4, none⟩ = some (.bool hc) ∧ w.cell? ⟨g, 5, none⟩ = some (.int .i64 a) ∧ w.cell? ⟨g, 6, none⟩ = some (.int .i64 b) ∧ w.cell? ⟨g, 7, none⟩ = some (.int .i64 c) ∧ w.cell? ⟨g, 8, none⟩ = some q :=
  ⟨Lib.cell_of_heap h 0, Lib.cell_of_heap h 1, Lib.cell_of_heap h 2, Lib.cell_of_heap h 3, Lib.cell_of_heap h 4, Lib.cell_of_heap h 5, Lib.cell_of_heap h 6, Lib.cell_of_heap h 7, Lib.cell_of_heap h 8⟩
theorem SB.fz (h : SB w g k t ha hb hc a b c q) : w.frozen? ⟨g, 0, none⟩ = false ∧ w.frozen? ⟨g, 1, none⟩ = false ∧ w.frozen? ⟨g, 2, none⟩ = false ∧ w.frozen? ⟨g, 3, none⟩ = false ∧ w.frozen? ⟨g, 4, none⟩ = false ∧ w.frozen? ⟨g, 5, none⟩ = false ∧ w.frozen? ⟨g, 6, none⟩ = false ∧ w.frozen? ⟨g, 7, none⟩ = false ∧ w.frozen? ⟨g, 8, none⟩ = false :=
  ⟨Lib.frozen_of_heap h 0, Lib.frozen_of_heap h 1, Lib.frozen_of_heap h 2, Lib.frozen_of_heap h 3, Lib.frozen_of_heap h 4, Lib.frozen_of_heap h 5, Lib.frozen_of_heap h 6, Lib.frozen_of_heap h 7, Lib.frozen_of_heap h 8⟩
theorem SB.lt (h : SB w g k t ha hb hc a b c q) : g < w.heap.size := (Array.getElem?_eq_some_iff.1 h).1
theorem SB.below (h : SB w g k t ha hb hc a b c q) (hl : Below w.heap.size w w') : SB w' g k t ha hb hc a b c q := (hl.block g h.lt).trans h
theorem SB.other (h : SB w g k t ha hb hc a b c q) {p : Addr} (hp : g ≠ p.block) (v : Value) : SB (w.setCell p v) g k t ha hb hc a b c q := (Below.heap_setCell w p v g hp).trans h
theorem SB.setA (h : SB w g k t ha hb hc a b c q) (x : Bool) (n : Int) : SB ((w.setCell ⟨g, 2, none⟩ (.bool x)).setCell ⟨g, 5, none⟩ (.int .i64 n)) g k t x hb hc n b c q := Go.heap_setCell_same _ g 5 _ 43 _ (Go.heap_setCell_same w g 2 _ 43 _ h)
theorem SB.setB (h : SB w g k t ha hb hc a b c q) (x : Bool) (n : Int) : SB ((w.setCell ⟨g, 3, none⟩ (.bool x)).setCell ⟨g, 6, none⟩ (.int .i64 n)) g k t ha x hc a n c q := Go.heap_setCell_same _ g 6 _ 43 _ (Go.heap_setCell_same w g 3 _ 43 _ h)
theorem SB.setC (h : SB w g k t ha hb hc a b c q) (x : Bool) (n : Int) : SB ((w.setCell ⟨g, 4, none⟩ (.bool x)).setCell ⟨g, 7, none⟩ (.int .i64 n)) g k t ha hb x a b n q := Go.heap_setCell_same _ g 7 _ 43 _ (Go.heap_setCell_same w g 4 _ 43 _ h)
theorem SB.set2 (h : SB w g k t ha hb hc a b c q) (x : Bool) : SB (w.setCell ⟨g, 2, none⟩ (.bool x)) g k t x hb hc a b c q := Go.heap_setCell_same w g 2 _ 43 _ h
theorem SB.set3 (h : SB w g k t ha hb hc a b c q) (x : Bool) : SB (w.setCell ⟨g, 3, none⟩ (.bool x)) g k t ha x hc a b c q := Go.heap_setCell_same w g 3 _ 43 _ h
theorem SB.set4 (h : SB w g k t ha hb hc a b c q) (x : Bool) : SB (w.setCell ⟨g, 4, none⟩ (.bool x)) g k t ha hb x a b c q := Go.heap_setCell_same w g 4 _ 43 _ h
end
theorem results_cell_2 {P : Program} {fn : Func} {p r q : Tmp} {ty : TypeId} (h : fn.results = #[.cell p ty, .tmp r, .tmp q]) (tmps : Array Value) (w : World) (g : Nat) (t : TypeId) (cs : Array Value) (fr : Nat × Nat) (d : TypeDesc) (v u : Value)
    (hp : tmps.getD p undef = .pointer (some ⟨g, 0, none⟩)) (hr : tmps.getD r undef = v) (hq : tmps.getD q undef = u) (hg : w.heap[g]? = some (.cells cs t fr))
    (hu : P.underlying ty = some d) (hd : (match d with | .struct _ | .array _ _ => true | _ => false) = true) (hi : (P.info? ty).map (·.size) = some cs.size) :
    (results fn tmps).run P w = .ok (.tuple #[.agg cs, v, u]) w := results_cell_two h tmps w g t cs fr d v u hp hr hq hg hu hd hi
theorem orow_empty {α : Type} (e : Elem α) (w : World) : ORow e (w.alloc (.cells #[] e.T)) (.slice (some ⟨w.heap.size, 0, none⟩) 0 0) [] [w.heap.size] :=
  ⟨[], rfl, fun _ _ _ h => by simp at h, own_mono (empty_row w e.T e.wd) (Nat.zero_le _), by simp [Value.ownBlock]⟩
/-- What the model's reader of a selector answers. -/
def SRet (w : World) (R : Option XS) (e : Ending) (w' : World) : Prop :=
  Below w.heap.size w w' ∧ ∃ (o : PSel) (qa : Option Addr) (ql qc : Nat) (d : Int), e = .returned (.tuple #[.agg #[.int .i64 o.k, .string o.name, .bool o.hasA, .bool o.hasB, .bool o.hasC, .int .i64 o.a, .int .i64 o.b, .int .i64 o.c, .slice qa ql qc], .bool R.isSome, .int .i64 d]) ∧
    ∀ x, R = some x → o = x.1 ∧ d = (x.2 : Int) ∧ ∃ bl, ORow fopE w' (.slice qa ql qc) o.cond bl ∧ Fsh w.heap.size bl
theorem SRet.lit {w w' : World} {R : Option XS} {k : Int} {t : ByteArray} {ha hb hc : Bool} {a b c : Int} (hl : Below w.heap.size w w') (hR : R = some (⟨k, t, ha, hb, hc, a, b, c, []⟩, 0)) : SRet w R (.returned (.tuple #[.agg #[.int .i64 k, .string t, .bool ha, .bool hb, .bool hc, .int .i64 a, .int .i64 b, .int .i64 c, .slice none 0 0], .bool true, .int .i64 0])) w' :=
  ⟨hl, ⟨k, t, ha, hb, hc, a, b, c, []⟩, none, 0, 0, 0, by rw [hR]; rfl, fun x hx => by rw [hR] at hx; injection hx with hx; subst hx; exact ⟨rfl, rfl, [], ORow.nil _ _, Fsh.nil _⟩⟩
theorem SRet.bad {w w' : World} {R : Option XS} {k : Int} {t : ByteArray} {ha hb hc : Bool} {a b c d : Int} {qa : Option Addr} {ql qc : Nat} (hl : Below w.heap.size w w') (hR : R = none) : SRet w R (.returned (.tuple #[.agg #[.int .i64 k, .string t, .bool ha, .bool hb, .bool hc, .int .i64 a, .int .i64 b, .int .i64 c, .slice qa ql qc], .bool false, .int .i64 d])) w' :=
  ⟨hl, ⟨k, t, ha, hb, hc, a, b, c, []⟩, qa, ql, qc, d, by rw [hR]; rfl, fun x hx => by rw [hR] at hx; cases hx⟩
/-- A slice under way. -/
def SUp (ps : List Bs) (k : Nat) (a b c : Bool × Int) : Prop := (∀ p, ps[0]? = some p → 0 < k → sMI p = some a) ∧ (∀ p, ps[1]? = some p → 1 < k → sMI p = some b) ∧ (∀ p, ps[2]? = some p → 2 < k → sMI p = some c) ∧ (k ≤ 0 → a = (false, 0)) ∧ (k ≤ 1 → b = (false, 0)) ∧ (k ≤ 2 → c = (false, 0))
def slcP (ps : List Bs) : Option PSel := match ps with
  | [p, q] => (match sMI p, sMI q with
    | some a, some b => some (slcS a b (false, 0))
    | _, _ => none)
  | [p, q, w] => (match sMI p, sMI q, sMI w with
    | some a, some b, some c => some (slcS a b c)
    | _, _, _ => none)
  | _ => none
theorem slcP_far {ps : List Bs} (h : ¬ (ps.length = 2 ∨ ps.length = 3)) : slcP ps = none := by
  unfold slcP
  split
  · exact absurd (.inl rfl) h
  · exact absurd (.inr rfl) h
  · rfl
theorem SUp.no {ps : List Bs} {k : Nat} (hk : k < ps.length) (hp : sMI ps[k] = none) : slcP ps = none := by
  unfold slcP
  split
  · rename_i p q
    match k, hk, hp with
    | 0, _, hp => rw [show sMI p = none from hp]
    | 1, _, hp => rw [show sMI q = none from hp]; cases sMI p <;> rfl
  · rename_i p q w
    match k, hk, hp with
    | 0, _, hp => rw [show sMI p = none from hp]
    | 1, _, hp => rw [show sMI q = none from hp]; cases sMI p <;> rfl
    | 2, _, hp => rw [show sMI w = none from hp]; cases sMI p <;> cases sMI q <;> rfl
  · rfl
theorem SUp.fin {ps : List Bs} {k : Nat} {a b c : Bool × Int} (h : SUp ps k a b c) (hl : ps.length = 2 ∨ ps.length = 3) (hk : ps.length ≤ k) (hk2 : k ≤ ps.length) : slcP ps = some (slcS a b c) := by
  obtain ⟨h1, h2, h3, h4, h5, h6⟩ := h
  match ps, hl, h1, h2, h3, hk, hk2 with
  | [p, q], _, h1, h2, _, hk, hk2 =>
    have e1 := h1 p rfl (by simp at hk; omega)
    have e2 := h2 q rfl (by simp at hk; omega)
    have e3 := h6 (by simp at hk2; omega)
    show (match sMI p, sMI q with | some a, some b => some (slcS a b (false, 0)) | _, _ => none) = _
    rw [e1, e2, e3]
  | [p, q, w], _, h1, h2, h3, hk, hk2 =>
    have e1 := h1 p rfl (by simp at hk; omega)
    have e2 := h2 q rfl (by simp at hk; omega)
    have e3 := h3 w rfl (by simp at hk; omega)
    show (match sMI p, sMI q, sMI w with | some a, some b, some c => some (slcS a b c) | _, _, _ => none) = _
    rw [e1, e2, e3]
  | [], hl, _, _, _, _, _ => simp at hl
  | [p], hl, _, _, _, _, _ => simp at hl
  | p :: q :: r :: t :: u, hl, _, _, _, _, _ => simp at hl
theorem SUp.start (ps : List Bs) : SUp ps 0 (false, 0) (false, 0) (false, 0) := ⟨fun _ _ h => by omega, fun _ _ h => by omega, fun _ _ h => by omega, fun _ => rfl, fun _ => rfl, fun _ => rfl⟩
theorem SUp.n0 {ps : List Bs} {a b c x : Bool × Int} (h : SUp ps 0 a b c) (hk : 0 < ps.length) (hp : sMI ps[0] = some x) : SUp ps 1 x b c :=
  ⟨fun p hq _ => by rw [List.getElem?_eq_getElem hk] at hq; injection hq with hq; rw [← hq]; exact hp, fun _ _ h => by omega, fun _ _ h => by omega, fun h => by omega, fun _ => h.2.2.2.2.1 (by omega), fun _ => h.2.2.2.2.2 (by omega)⟩
theorem SUp.n1 {ps : List Bs} {a b c x : Bool × Int} (h : SUp ps 1 a b c) (hk : 1 < ps.length) (hp : sMI ps[1] = some x) : SUp ps 2 a x c :=
  ⟨fun p hq _ => h.1 p hq (by omega), fun p hq _ => by rw [List.getElem?_eq_getElem hk] at hq; injection hq with hq; rw [← hq]; exact hp, fun _ _ h => by omega, fun h => by omega, fun h => by omega, fun _ => h.2.2.2.2.2 (by omega)⟩
theorem SUp.n2 {ps : List Bs} {a b c x : Bool × Int} (h : SUp ps 2 a b c) (hk : 2 < ps.length) (hp : sMI ps[2] = some x) : SUp ps 3 a b x :=
  ⟨fun p hq _ => h.1 p hq (by omega), fun p hq _ => h.2.1 p hq (by omega), fun p hq _ => by rw [List.getElem?_eq_getElem hk] at hq; injection hq with hq; rw [← hq]; exact hp, fun h => by omega, fun h => by omega, fun h => by omega⟩
theorem sMI_parts (p : Bs) : (sMI p = none ↔ (sInt p).isSome = false ∧ p ≠ []) ∧ ∀ x, sMI p = some x → x = ((sInt p).isSome, (sInt p).getD 0) := by
  cases p with
  | nil => exact ⟨by simp [sMI], fun x hx => by injection hx with hx; rw [← hx]; rfl⟩
  | cons c r =>
    have e : sMI (c :: r) = (sInt (c :: r)).map fun n => (true, n) := rfl
    rw [e]
    cases sInt (c :: r) with
    | none => simp
    | some n => simp
end Go.Proofs.Ytiolpmhodbefoaa

