import Derived.Test.YtiolpmhodbefoaaORow
namespace Go.Proofs.Ytiolpmhodbefoaa
open Go.RowKit

/-- What an element of a row that is only read is in memory. -/
structure RElem (α : Type) where
  wd : Nat
  R : World → List Value → α → Prop
  len : ∀ {w vs x}, R w vs x → vs.length = wd
  keep : ∀ {w w' vs x}, R w vs x → Below w.heap.size w w' → R w' vs x
/-- A row that is only read. -/
def RRow {α : Type} (e : RElem α) (w : World) (v : Value) (xs : List α) : Prop :=
  xs.length ≤ maxLen ∧ ∃ a cap, v = .slice a xs.length cap ∧ ∀ (j : Nat) (x : α), xs[j]? = some x → ∃ b o, a = some ⟨b, o, none⟩ ∧ ∃ vs, e.R w vs x ∧ ∀ (m : Nat) (u : Value), vs[m]? = some u → w.cell? ⟨b, o + (j * e.wd + m), none⟩ = some u
theorem RRow.below {α : Type} {e : RElem α} {w w' : World} {v : Value} {xs : List α} (h : RRow e w v xs) (hb : Below w.heap.size w w') : RRow e w' v xs := by
  obtain ⟨hl, a, cap, hv, h⟩ := h
  refine ⟨hl, a, cap, hv, fun j x hx => ?_⟩
  obtain ⟨b, o, ha, vs, hR, hc⟩ := h j x hx
  exact ⟨b, o, ha, vs, e.keep hR hb, fun m u hu => (hb.cell (p := ⟨b, o + (j * e.wd + m), none⟩) (World.block_lt_of_cell? _ _ (hc m u hu))).trans (hc m u hu)⟩
def sRE : RElem ByteArray := { wd := 1, R := fun _ vs s => vs = [.string s] ∧ s.size ≤ maxLen, len := fun h => by rw [h.1]; rfl, keep := fun h _ => h }
def strE : Elem ByteArray := { T := 9, wd := 1, E := fun _ vs s bl => vs = [.string s] ∧ bl = [], len := fun h => by rw [h.1]; rfl, lt := fun h b hb => by rw [h.2] at hb; simp at hb, keep := fun h _ => h }
/-- A row of texts that the call owns. -/
abbrev OStr (w : World) (v : Value) (ss : List ByteArray) (bl : List Nat) : Prop := ORow strE w v ss bl
theorem ostr_iff {w : World} {v : Value} {ss : List ByteArray} {bl : List Nat} : OStr w v ss bl ↔ w.ownsRow 0 9 1 v ss.length (ss.map .string) ∧ bl = v.ownBlock.toList := by
  constructor
  · rintro ⟨ps, hl, hE, ho, rfl⟩
    have h1 : ps = ss.map fun s => ([.string s], []) := by
      apply List.ext_getElem?
      intro j
      by_cases hj : j < ss.length
      · obtain ⟨h1, h2⟩ := hE j ps[j] ss[j] (List.getElem?_eq_getElem (by omega)) (List.getElem?_eq_getElem hj)
        rw [List.getElem?_eq_getElem (by omega), List.getElem?_map, List.getElem?_eq_getElem hj]
        exact congrArg some (Prod.ext h1 h2)
      · rw [List.getElem?_eq_none (by omega), List.getElem?_eq_none (by rw [List.length_map]; omega)]
    subst h1
    have e1 : ((ss.map fun s => (([.string s], []) : List Value × List Nat)).flatMap (·.1)) = ss.map .string := by
      clear hl hE ho; induction ss with
      | nil => rfl
      | cons a r ih => rw [List.map_cons, List.flatMap_cons, ih]; rfl
    have e2 : ((ss.map fun s => (([.string s], []) : List Value × List Nat)).flatMap (·.2)) = [] := by
      clear hl hE ho e1; induction ss with
      | nil => rfl
      | cons a r ih => rw [List.map_cons, List.flatMap_cons, ih]; rfl
    rw [e1] at ho; rw [e2]
    exact ⟨ho, by simp⟩
  · rintro ⟨ho, rfl⟩
    refine ⟨ss.map fun s => ([.string s], []), by simp, ?_, ?_, ?_⟩
    · intro j p x hp hx
      rw [List.getElem?_map, hx] at hp
      cases hp; exact ⟨rfl, rfl⟩
    · have e1 : ((ss.map fun s => (([.string s], []) : List Value × List Nat)).flatMap (·.1)) = ss.map .string := by
        clear ho; induction ss with
        | nil => rfl
        | cons a r ih => rw [List.map_cons, List.flatMap_cons, ih]; rfl
      rw [e1]; exact ho
    · have e2 : ((ss.map fun s => (([.string s], []) : List Value × List Nat)).flatMap (·.2)) = [] := by
        clear ho; induction ss with
        | nil => rfl
        | cons a r ih => rw [List.map_cons, List.flatMap_cons, ih]; rfl
      rw [e2]; simp
/-- A row of texts, for the walks that read one. -/
theorem OStr.ss {w : World} {v : Value} {ss : List ByteArray} {bl : List Nat} (h : OStr w v ss bl) : ∃ a g cap, v = .slice a ss.length cap ∧ SS w a g 0 ss := by
  obtain ⟨ho, _⟩ := ostr_iff.1 h
  rcases ho.2 with ⟨hv, h0⟩ | ⟨g, cap, cur, hv, hb, hg, _⟩
  · exact ⟨none, 0, 0, by rw [hv, h0], ⟨fun h => by omega, fun j hj => by omega⟩⟩
  · refine ⟨some ⟨g, 0, none⟩, g, cap, hv, ⟨fun _ => rfl, fun j hj => ?_⟩⟩
    subst hv
    rw [Nat.zero_add, ho.cellAt j (by omega)]
    simp [hj]
theorem RStr.ss {w : World} {v : Value} {ss : List ByteArray} (h : RRow sRE w v ss) : ∃ a b o cap, v = .slice a ss.length cap ∧ SS w a b o ss ∧ ss.length ≤ maxLen ∧ ∀ j, (ss.getD j ByteArray.empty).size ≤ maxLen := by
  obtain ⟨hl, a, cap, hv, h⟩ := h
  have hsz : ∀ j, (ss.getD j ByteArray.empty).size ≤ maxLen := by
    intro j
    by_cases hj : j < ss.length
    · obtain ⟨_, _, _, _, ⟨_, hR⟩, _⟩ := h j ss[j] (List.getElem?_eq_getElem hj)
      simpa [List.getD, hj] using hR
    · simp [List.getD, hj]
  by_cases h0 : 0 < ss.length
  · obtain ⟨b, o, ha, _⟩ := h 0 ss[0] (List.getElem?_eq_getElem h0)
    refine ⟨a, b, o, cap, hv, ⟨fun _ => ha, fun j hj => ?_⟩, hl, hsz⟩
    obtain ⟨b', o', ha', vs, ⟨hR, _⟩, hc⟩ := h j ss[j] (List.getElem?_eq_getElem hj)
    rw [ha] at ha'; cases ha'
    have := hc 0 (.string ss[j]) (by rw [hR]; rfl)
    simp [sRE] at this
    simpa [List.getD, hj] using this
  · exact ⟨a, 0, 0, cap, hv, ⟨fun h => absurd h h0, fun j hj => by omega⟩, hl, hsz⟩
end Go.Proofs.Ytiolpmhodbefoaa
