import Derived.Maps.OwnOps
import Derived.Lib.ItoaNum
import Derived.Test.YtadefcohbkgbfabGreatDoorBn5
import Derived.Maps.Views
import Derived.StringKeys
namespace Go.Proofs.YtadefcohbkgbfabGreatDoor
open Go.RowKit

/-- A map's values stand for themselves. -/
def RH (v : Value) : Option (DataW Value × List MemPlace) := some (.held v, [])
/-- The members of a map, put in one behind the other. -/
def putAll (xs : List (List UInt8 × Value)) : DataW Value := xs.foldl (fun D p => D.put (.string p.1) (.held p.2)) (.map [])
/-- A row of values, in blocks of S. -/
def RowIs (w : World) (S : Nat → Prop) (sv : Value) (xs : List Value) : Prop := w.ownsRow 0 54 1 sv xs.length xs ∧ ∀ g, sv.ownBlock = some g → S g

mutual
/-- A tree in memory: all its blocks are of S. -/
def Rep (w : World) (S : Nat → Prop) : JV → Value → Prop
  | .nul, v => v = .iface 135 (.agg #[])
  | .tt, v => v = .iface 136 (.bool true)
  | .ff, v => v = .iface 136 (.bool false)
  | .num l, v => ∃ z : Int, v = .iface 147 (.int .i64 z) ∧ Lib.itoa z = l ∧ -9223372036854775808 ≤ z ∧ z ≤ 9223372036854775807
  | .str l, v => v = .iface 45 (.string (strOf l))
  | .arr l, v => ∃ ab sv xs, v = .iface 103 (.pointer (some ⟨ab, 0, none⟩)) ∧ S ab ∧ w.heap[ab]? = some (.cells #[sv] 107 (0, 0)) ∧ RowIs w S sv xs ∧ RepL w S l xs
  | .obj m, v => ∃ ob b nn xs, v = .iface 109 (.pointer (some ⟨ob, 0, none⟩)) ∧ S ob ∧ S b ∧ w.heap[ob]? = some (.cells #[.map (some b)] 112 (0, 0)) ∧ w.ownsMap Tryz.prog 9 RH b nn (putAll xs) ∧ nn ≤ xs.length ∧ RepM w S m xs
def RepL (w : World) (S : Nat → Prop) : JL → List Value → Prop
  | .nil, xs => xs = []
  | .cons v r, xs => ∃ x xs', xs = x :: xs' ∧ Rep w S v x ∧ RepL w S r xs'
def RepM (w : World) (S : Nat → Prop) : JM → List (List UInt8 × Value) → Prop
  | .nil, xs => xs = []
  | .cons k v r, xs => ∃ x xs', xs = (k, x) :: xs' ∧ Rep w S v x ∧ RepM w S r xs'
end

theorem ownsMap_keep {w w' : World} {k : TypeId} {b n : Nat} {D : DataW Value} (h : w.ownsMap Tryz.prog k RH b n D) (hb : w'.heap[b]? = w.heap[b]?) : w'.ownsMap Tryz.prog k RH b n D := by
  obtain ⟨es, clock, h1, r⟩ := h
  exact ⟨es, clock, hb.trans h1, r⟩
theorem RowIs.keep {w w' : World} {S S' : Nat → Prop} {sv : Value} {xs : List Value} (hk : ∀ k, S k → w'.heap[k]? = w.heap[k]?) (hS : ∀ k, S k → S' k) (h : RowIs w S sv xs) : RowIs w' S' sv xs := by
  obtain ⟨⟨h0, h1⟩, h2⟩ := h
  refine ⟨⟨h0, ?_⟩, fun g hg => hS g (h2 g hg)⟩
  rcases h1 with h1 | ⟨g, cap, cur, hv, hB, hg, r⟩
  · exact .inl h1
  · exact .inr ⟨g, cap, cur, hv, hB, (hk g (h2 g (by rw [hv]; rfl))).trans hg, r⟩
mutual
theorem Rep.keep {w w' : World} {S S' : Nat → Prop} (hk : ∀ k, S k → w'.heap[k]? = w.heap[k]?) (hS : ∀ k, S k → S' k) : ∀ (t : JV) (v : Value), Rep w S t v → Rep w' S' t v
  | .nul, v, h => by rw [Rep] at h ⊢; exact h
  | .tt, v, h => by rw [Rep] at h ⊢; exact h
  | .ff, v, h => by rw [Rep] at h ⊢; exact h
  | .num l, v, h => by rw [Rep] at h ⊢; exact h
  | .str l, v, h => by rw [Rep] at h ⊢; exact h
  | .arr l, v, h => by
    rw [Rep] at h ⊢
    obtain ⟨ab, sv, xs, h1, h2, h3, h4, h5⟩ := h
    exact ⟨ab, sv, xs, h1, hS _ h2, (hk _ h2).trans h3, h4.keep hk hS, RepL.keep hk hS l xs h5⟩
  | .obj m, v, h => by
    rw [Rep] at h ⊢
    obtain ⟨ob, b, nn, xs, h1, h2, h3, h4, h5, h6, h7⟩ := h
    exact ⟨ob, b, nn, xs, h1, hS _ h2, hS _ h3, (hk _ h2).trans h4, ownsMap_keep h5 (hk _ h3), h6, RepM.keep hk hS m xs h7⟩
theorem RepL.keep {w w' : World} {S S' : Nat → Prop} (hk : ∀ k, S k → w'.heap[k]? = w.heap[k]?) (hS : ∀ k, S k → S' k) : ∀ (l : JL) (xs : List Value), RepL w S l xs → RepL w' S' l xs
  | .nil, xs, h => by rw [RepL] at h ⊢; exact h
  | .cons v r, xs, h => by
    rw [RepL] at h ⊢
    obtain ⟨x, xs', h1, h2, h3⟩ := h
    exact ⟨x, xs', h1, Rep.keep hk hS v x h2, RepL.keep hk hS r xs' h3⟩
theorem RepM.keep {w w' : World} {S S' : Nat → Prop} (hk : ∀ k, S k → w'.heap[k]? = w.heap[k]?) (hS : ∀ k, S k → S' k) : ∀ (m : JM) (xs : List (List UInt8 × Value)), RepM w S m xs → RepM w' S' m xs
  | .nil, xs, h => by rw [RepM] at h ⊢; exact h
  | .cons k v r, xs, h => by
    rw [RepM] at h ⊢
    obtain ⟨x, xs', h1, h2, h3⟩ := h
    exact ⟨x, xs', h1, Rep.keep hk hS v x h2, RepM.keep hk hS r xs' h3⟩
end
theorem RepL.app {w : World} {S : Nat → Prop} : ∀ (a b : JL) (xs ys : List Value), RepL w S a xs → RepL w S b ys → RepL w S (a.app b) (xs ++ ys)
  | .nil, b, xs, ys, h, h' => by rw [RepL] at h; subst h; exact h'
  | .cons v r, b, xs, ys, h, h' => by
    rw [RepL] at h
    obtain ⟨x, xs', rfl, h2, h3⟩ := h
    show RepL w S (.cons v (r.app b)) _
    rw [RepL]
    exact ⟨x, xs' ++ ys, rfl, h2, RepL.app r b xs' ys h3 h'⟩
theorem RepM.app {w : World} {S : Nat → Prop} : ∀ (a b : JM) (xs ys : List (List UInt8 × Value)), RepM w S a xs → RepM w S b ys → RepM w S (a.app b) (xs ++ ys)
  | .nil, b, xs, ys, h, h' => by rw [RepM] at h; subst h; exact h'
  | .cons k v r, b, xs, ys, h, h' => by
    rw [RepM] at h
    obtain ⟨x, xs', rfl, h2, h3⟩ := h
    show RepM w S (.cons k v (r.app b)) _
    rw [RepM]
    exact ⟨x, xs' ++ ys, rfl, h2, RepM.app r b xs' ys h3 h'⟩

/-- A value, as the program's reader reads it: where nothing was noted, a tree in new blocks. -/
def VPost (rb : Nat) (s : ByteArray) (tb kt : Bool) (w : World) (o : Option (JV × Nat)) (e : Ending) (w' : World) : Prop :=
  KB rb w w' ∧ o.elim (e = mis) fun q => ∃ (t : TypeId) (p : Value), e = .returned (.iface t p) ∧ Rdr rb s q.2 (tb || bigV q.1) (kt || twV q.1) w' ∧
    (bigV q.1 = false → twV q.1 = false → Rep w' (fun k => w.heap.size ≤ k ∧ k < w'.heap.size) q.1 (.iface t p))
end Go.Proofs.YtadefcohbkgbfabGreatDoor


namespace Go.Proofs.YtadefcohbkgbfabGreatDoor
open Go.RowKit

/-- The last value under a key. -/
def lastV (xs : List (List UInt8 × Value)) (key : List UInt8) : Option Value := xs.foldl (fun o p => if p.1 = key then some p.2 else o) none
theorem lastV_snoc (xs : List (List UInt8 × Value)) (k : List UInt8) (v : Value) (key : List UInt8) : lastV (xs ++ [(k, v)]) key = if k = key then some v else lastV xs key := by
  unfold lastV; rw [List.foldl_append]; rfl
theorem putAll_snoc (xs : List (List UInt8 × Value)) (k : List UInt8) (v : Value) : putAll (xs ++ [(k, v)]) = (putAll xs).put (.string k) (.held v) := by
  unfold putAll; rw [List.foldl_append]; rfl
theorem snoc_rec {α : Type} {P : List α → Prop} (h0 : P []) (hs : ∀ l x, P l → P (l ++ [x])) : ∀ l, P l := fun l => by
  have : ∀ n (l : List α), l.length = n → P l := fun n => by
    induction n with
    | zero => intro l h; rw [List.eq_nil_of_length_eq_zero h]; exact h0
    | succ n ih =>
      intro l h
      rcases List.eq_nil_or_concat l with e | ⟨l', x, e⟩
      · subst e; simp at h
      · rw [List.concat_eq_append] at e
        subst e
        exact hs l' x (ih l' (by simpa using h))
  exact this l.length l rfl
theorem putAll_map : ∀ xs, Maps.IsMap (putAll xs) := by
  refine snoc_rec ⟨[], rfl⟩ ?_
  rintro l ⟨k, v⟩ ⟨es, he⟩
  rw [putAll_snoc, he]
  exact ⟨_, rfl⟩
theorem putAll_at (key : List UInt8) (z : DataW Value) : ∀ xs, (putAll xs).atKey (.string key) z = (lastV xs key).elim z .held := by
  refine snoc_rec rfl ?_
  rintro l ⟨k, v⟩ ih
  rw [putAll_snoc, lastV_snoc]
  by_cases h : k = key
  · subst h
    rw [if_pos rfl, Maps.atKey_put_same (putAll_map l) (show WideAt.IsKeyLit (.string k) from trivial)]; rfl
  · rw [if_neg h, Maps.atKey_put_other (by intro e; injection e with e; exact h e.symm), ih]
theorem lastV_has (key : List UInt8) : ∀ xs : List (List UInt8 × Value), (lastV xs key).isSome = (xs.map (·.1)).contains key := by
  refine snoc_rec rfl ?_
  rintro l ⟨k, v⟩ ih
  rw [lastV_snoc]
  by_cases h : k = key
  · subst h; rw [if_pos rfl]; simp
  · rw [if_neg h, ih]
    simp only [List.map_append, List.map_cons, List.map_nil]
    rw [Bool.eq_iff_iff]
    simp
    intro e; exact absurd e.symm h

/-- Looking a key up in a map of values. -/
theorem map_look {w : World} {b n : Nat} {xs : List (List UInt8 × Value)} (h : w.ownsMap Tryz.prog 9 RH b n (putAll xs)) (key : List UInt8) (hk : key.length ≤ 10000000) :
    ∃ v, (Instr.lookup 110 (.map (some b)) (.string (strOf key)) true).run Tryz.prog w = .ok (.tuple #[v, .bool (lastV xs key).isSome]) w ∧ ((lastV xs key).isSome = true → lastV xs key = some v) := by
  obtain ⟨es, clock, hb, F, _, hD⟩ := h
  have hkey : keyOf Tryz.prog 9 (.string (strOf key)) = some (.string key) := by
    have := WideMaps.keyOf_string_mk Tryz.underlying9 (s := strOf key) (by rw [strOf_size]; unfold maxLen; omega)
    rwa [strOf_toList] at this
  have hz : (zeroValue 54).run Tryz.prog w = .ok .nilIface w := by kernel_rfl
  have hat := fun z => putAll_at key z xs
  rw [hD] at hat
  rcases Maps.fit_look true (Maps.string_keyed Tryz.underlying9) Tryz.underlying110 hz hb F hkey with ⟨hrun, _, h2⟩ | ⟨e0, y, _, _, hrun, hR, h2, _⟩
  · have e1 := (h2 (.held .nilIface)).symm.trans (hat (.held .nilIface))
    have e2 := (h2 (.held (.bool true))).symm.trans (hat (.held (.bool true)))
    cases hl : lastV xs key with
    | none => exact ⟨.nilIface, hrun, fun h => by simp at h⟩
    | some v =>
      rw [hl] at e1 e2
      exact absurd (e1.trans e2.symm) (by intro e; injection e with e; cases e)
  · injection hR with hR
    subst hR
    have e1 := (h2 (.held .nilIface)).symm.trans (hat (.held .nilIface))
    have e2 := (h2 (.held (.bool true))).symm.trans (hat (.held (.bool true)))
    cases hl : lastV xs key with
    | none =>
      rw [hl] at e1 e2
      exact absurd (e1.symm.trans e2) (by intro e; injection e with e; cases e)
    | some v =>
      rw [hl] at e1
      injection e1 with e1
      exact ⟨e0.val, hrun, fun _ => by rw [← e1]⟩
end Go.Proofs.YtadefcohbkgbfabGreatDoor

