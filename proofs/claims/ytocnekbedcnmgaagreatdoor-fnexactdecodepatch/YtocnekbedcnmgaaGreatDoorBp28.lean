import Derived.Maps.Views
import Derived.StringKeys
import Derived.Test.YtocnekbedcnmgaaGreatDoorBp25
namespace Go.Proofs.YtocnekbedcnmgaaGreatDoor
open Go.RowKit

/-- The last value under a key. -/
def lastV (xs : List (List UInt8 × Value)) (key : List UInt8) : Option Value := xs.foldl (fun o p => if p.1 = key then some p.2 else o) none
theorem lastV_snoc (xs : List (List UInt8 × Value)) (k : List UInt8) (v : Value) (key : List UInt8) : lastV (xs ++ [(k, v)]) key = if k = key then some v else lastV xs key := by
  unfold lastV; rw [List.foldl_append]; rfl
theorem putAll_snoc (xs : List (List UInt8 × Value)) (k : List UInt8) (v : Value) : putAll (xs ++ [(k, v)]) = (putAll xs).put (.string k) (.held v) := by
  unfold putAll; rw [List.foldl_append]; rfl
theorem snoc_rec {α : Type} {P : List α → Prop} (h0 : P []) (hs : ∀ l x, P l → P (l ++ [x])) : ∀ l, P l := fun l => by
  have : ∀ n (l : List α), l.length = n → P l := fun n => by
    induction n with
    | zero => intro l h; rw [List.eq_nil_of_length_eq_zero h]; exact h0
    | succ n ih =>
      intro l h
      rcases List.eq_nil_or_concat l with e | ⟨l', x, e⟩
      · subst e; simp at h
      · rw [List.concat_eq_append] at e
        subst e
        exact hs l' x (ih l' (by simpa using h))
  exact this l.length l rfl
theorem putAll_map : ∀ xs, Maps.IsMap (putAll xs) := by
  refine snoc_rec ⟨[], rfl⟩ ?_
  rintro l ⟨k, v⟩ ⟨es, he⟩
  rw [putAll_snoc, he]
  exact ⟨_, rfl⟩
theorem putAll_at (key : List UInt8) (z : DataW Value) : ∀ xs, (putAll xs).atKey (.string key) z = (lastV xs key).elim z .held := by
  refine snoc_rec rfl ?_
  rintro l ⟨k, v⟩ ih
  rw [putAll_snoc, lastV_snoc]
  by_cases h : k = key
  · subst h
    rw [if_pos rfl, Maps.atKey_put_same (putAll_map l) (show WideAt.IsKeyLit (.string k) from trivial)]; rfl
  · rw [if_neg h, Maps.atKey_put_other (by intro e; injection e with e; exact h e.symm), ih]
theorem lastV_has (key : List UInt8) : ∀ xs : List (List UInt8 × Value), (lastV xs key).isSome = (xs.map (·.1)).contains key := by
  refine snoc_rec rfl ?_
  rintro l ⟨k, v⟩ ih
  rw [lastV_snoc]
  by_cases h : k = key
  · subst h; rw [if_pos rfl]; simp
  · rw [if_neg h, ih]
    simp only [List.map_append, List.map_cons, List.map_nil]
    rw [Bool.eq_iff_iff]
    simp
    intro e; exact absurd e.symm h

/-- Looking a key up in a map of values. -/
theorem map_look {w : World} {b n : Nat} {xs : List (List UInt8 × Value)} (h : w.ownsMap Tryz.prog 9 RH b n (putAll xs)) (key : List UInt8) (hk : key.length ≤ 10000000) :
    ∃ v, (Instr.lookup 180 (.map (some b)) (.string (strOf key)) true).run Tryz.prog w = .ok (.tuple #[v, .bool (lastV xs key).isSome]) w ∧ ((lastV xs key).isSome = true → lastV xs key = some v) := by
  obtain ⟨es, clock, hb, F, _, hD⟩ := h
  have hkey : keyOf Tryz.prog 9 (.string (strOf key)) = some (.string key) := by
    have := WideMaps.keyOf_string_mk Tryz.underlying9 (s := strOf key) (by rw [strOf_size]; unfold maxLen; omega)
    rwa [strOf_toList] at this
  have hz : (zeroValue 65).run Tryz.prog w = .ok .nilIface w := by kernel_rfl
  have hat := fun z => putAll_at key z xs
  rw [hD] at hat
  rcases Maps.fit_look true (Maps.string_keyed Tryz.underlying9) Tryz.underlying180 hz hb F hkey with ⟨hrun, _, h2⟩ | ⟨e0, y, _, _, hrun, hR, h2, _⟩
  · have e1 := (h2 (.held .nilIface)).symm.trans (hat (.held .nilIface))
    have e2 := (h2 (.held (.bool true))).symm.trans (hat (.held (.bool true)))
    cases hl : lastV xs key with
    | none => exact ⟨.nilIface, hrun, fun h => by simp at h⟩
    | some v =>
      rw [hl] at e1 e2
      exact absurd (e1.trans e2.symm) (by intro e; injection e with e; cases e)
  · injection hR with hR
    subst hR
    have e1 := (h2 (.held .nilIface)).symm.trans (hat (.held .nilIface))
    have e2 := (h2 (.held (.bool true))).symm.trans (hat (.held (.bool true)))
    cases hl : lastV xs key with
    | none =>
      rw [hl] at e1 e2
      exact absurd (e1.symm.trans e2) (by intro e; injection e with e; cases e)
    | some v =>
      rw [hl] at e1
      injection e1 with e1
      exact ⟨e0.val, hrun, fun _ => by rw [← e1]⟩
end Go.Proofs.YtocnekbedcnmgaaGreatDoor

