import Derived.Test.YtbihihkdgckgnaaDoorBq1
namespace Go.Proofs.YtbihihkdgckgnaaDoor
open Go.RowKit

/-- What has been read of a script. -/
structure St where
  doc : Option (List UInt8)
  cs : List PCall
  ps : List Int
def st0 : St := ⟨none, [], []⟩
/-- One line more that is not empty, as the program reads it and as the model does. -/
def stepL (st : St) (l : List UInt8) : Option St := match st.doc with
  | none => (strip [100, 111, 99, 32] l).map fun d => ⟨some d, st.cs, st.ps⟩
  | some _ => match lineP l with
    | some p => some ⟨st.doc, st.cs, st.ps ++ p⟩
    | none => (callT l).map fun c => ⟨st.doc, st.cs ++ [c], st.ps⟩
theorem callT_no {l : List UInt8} {c : PCall} (h : callT l = some c) : lineP l = none := by
  match l, h with
  | [], h => cases h
  | [_], h => cases h
  | x :: b :: r, h =>
    have h1 : (if b = 32 then (clientB x).bind fun cl => callR cl r else none) = some c := h
    split at h1
    · cases hx : clientB x with
      | none => rw [hx] at h1; cases h1
      | some n =>
        have hr : 48 ≤ x.toNat ∧ x.toNat ≤ 55 := by
          unfold clientB at hx
          split at hx
          · assumption
          · cases hx
        unfold lineP strip
        rw [if_neg]
        · rfl
        · intro e
          simp at e
          rw [e.1] at hr
          have : (112 : UInt8).toNat = 112 := rfl
          omega
    · cases h1
theorem stepL_spec {st : St} {d : List UInt8} (hd : st.doc = some d) (l : List UInt8) : stepL st l = match callT l with
    | some c => some ⟨st.doc, st.cs ++ [c], st.ps⟩
    | none => (lineP l).map fun p => ⟨st.doc, st.cs, st.ps ++ p⟩ := by
  unfold stepL
  rw [hd]
  simp only
  cases hc : callT l with
  | some c => rw [callT_no hc]; rfl
  | none => cases lineP l <;> rfl
def stepE (st : St) (l : List UInt8) : Option St := if l = [] then some st else stepL st l
def stL : List (List UInt8) → St → Option St
  | [], st => some st
  | l :: r, st => (stepE st l).bind (stL r)
theorem stL_snoc (a : List (List UInt8)) (l : List UInt8) (st : St) : stL (a ++ [l]) st = (stL a st).bind fun s => stepE s l := by
  induction a generalizing st with
  | nil => simp [stL]
  | cons x a ih =>
    rw [List.cons_append, stL, stL]
    cases stepE st x with
    | none => rfl
    | some s => exact ih s
/-- Where the reading ends: at a line that may not stand there, or behind the last one. -/
def runS' : List (List UInt8) → Nat → St → Nat ⊕ St
  | [], _, st => .inr st
  | l :: r, i, st => match stepE st l with
    | none => .inl i
    | some s => runS' r (i + 1) s
theorem runS'_at : ∀ (ls : List (List UInt8)) (j i : Nat) (st s : St), j ≤ ls.length → stL (ls.take j) st = some s → runS' ls i st = runS' (ls.drop j) (i + j) s
  | ls, 0, i, st, s, _, h => by
    simp [stL] at h
    subst h
    rfl
  | [], j + 1, i, st, s, hj, h => by simp at hj
  | l :: r, j + 1, i, st, s, hj, h => by
    rw [List.take_succ_cons, stL] at h
    rw [List.drop_succ_cons, runS']
    cases hq : stepE st l with
    | none => rw [hq] at h; cases h
    | some q =>
      rw [hq] at h
      simp only
      rw [runS'_at r j (i + 1) q s (by simpa using hj) h]
      congr 1
      omega
theorem runS'_bad {ls : List (List UInt8)} {j : Nat} {st s : St} (hj : j < ls.length) (h : stL (ls.take j) st = some s) (hb : stepE s ls[j] = none) : runS' ls 0 st = .inl j := by
  rw [runS'_at ls j 0 st s (by omega) h, ← List.getElem_cons_drop (h := hj), runS', hb, Nat.zero_add]
theorem runS'_end {ls : List (List UInt8)} {st s : St} (h : stL ls st = some s) : runS' ls 0 st = .inr s := by
  rw [runS'_at ls ls.length 0 st s (Nat.le_refl _) (by rw [List.take_length]; exact h), List.drop_length, runS']
/-- What ParseScript answers: code, line, and what was read. -/
def prR (l : List UInt8) : Int × Int × St :=
  if 20000 < l.length then (1, 0, st0) else
  match runS' (piecesB 10 l) 0 st0 with
  | .inl i => (2, (i : Int) + 1, st0)
  | .inr st => match st.doc with
    | none => (3, 0, st0)
    | some _ => (0, 0, st)
/-- How much there is. -/
theorem picksT_len : ∀ (l : List UInt8) (p : List Int), picksT l = some p → p.length ≤ l.length
  | [], p, h => by rw [picksT] at h; injection h with h; subst h; simp
  | [_], p, h => by rw [picksT] at h; cases h
  | b :: c :: r, p, h => by
    rw [picksT] at h
    split at h
    · cases hc : pickB c with
      | none => rw [hc] at h; cases h
      | some n =>
        rw [hc] at h
        cases hr : picksT r with
        | none => rw [hr] at h; cases h
        | some q =>
          rw [hr] at h
          have e : n :: q = p := by injection h
          subst e
          have := picksT_len r q hr
          simp; omega
    · cases h
theorem lineP_len {l : List UInt8} {p : List Int} (h : lineP l = some p) : p.length ≤ l.length := by
  unfold lineP strip at h
  split at h
  · have := picksT_len _ _ h
    rw [List.length_drop] at this
    omega
  · cases h
def szSt (st : St) : Nat := st.cs.length + st.ps.length
theorem stepE_sz {st s : St} {l : List UInt8} (h : stepE st l = some s) : szSt s ≤ szSt st + (l.length + 1) := by
  unfold stepE at h
  split at h
  · injection h with h; subst h; omega
  · unfold stepL at h
    split at h
    · cases hq : strip [100, 111, 99, 32] l with
      | none => rw [hq] at h; cases h
      | some d =>
        rw [hq] at h
        injection h with h
        subst h
        unfold szSt; simp only; omega
    · split at h
      · rename_i p hp
        injection h with h
        subst h
        have := lineP_len hp
        unfold szSt; simp only [List.length_append]; omega
      · cases hq : callT l with
        | none => rw [hq] at h; cases h
        | some c =>
          rw [hq] at h
          injection h with h
          subst h
          unfold szSt; simp only [List.length_append, List.length_cons, List.length_nil]; omega
theorem stL_sz : ∀ (ls : List (List UInt8)) (st s : St), stL ls st = some s → szSt s ≤ szSt st + (ls.map fun l => l.length + 1).sum
  | [], st, s, h => by rw [stL] at h; injection h with h; subst h; omega
  | l :: r, st, s, h => by
    rw [stL] at h
    cases hq : stepE st l with
    | none => rw [hq] at h; cases h
    | some q =>
      rw [hq] at h
      have h1 := stepE_sz hq
      have h2 := stL_sz r q s h
      rw [List.map_cons, List.sum_cons]
      omega
theorem piecesB_sum (b : UInt8) : ∀ l : List UInt8, ((piecesB b l).map fun p => p.length + 1).sum = l.length + 1
  | [] => rfl
  | c :: r => by
    have ih := piecesB_sum b r
    by_cases hc : c = b
    · subst hc
      rw [piecesB_cut, List.map_cons, List.sum_cons, ih]; simp; omega
    · obtain ⟨p, ps, hp⟩ := piecesB_head (b := b) (l := r)
      rw [piecesB_go hc hp, List.map_cons, List.sum_cons]
      rw [hp, List.map_cons, List.sum_cons] at ih
      simp only [List.length_cons]
      omega
theorem st_sz {l : List UInt8} {j : Nat} {s : St} (h : stL ((piecesB 10 l).take j) st0 = some s) : szSt s ≤ l.length + 1 := by
  have h1 := stL_sz _ _ _ h
  have h2 : ((piecesB 10 l).map fun p => p.length + 1).sum = (((piecesB 10 l).take j).map fun p => p.length + 1).sum + (((piecesB 10 l).drop j).map fun p => p.length + 1).sum := by rw [← List.sum_append, ← List.map_append, List.take_append_drop]
  rw [piecesB_sum] at h2
  have : szSt st0 = 0 := rfl
  omega
theorem strip_pre (h l : List UInt8) : (Lib.hasPrefix l h = true → strip h l = some (Lib.trimPrefix l h)) ∧ (Lib.hasPrefix l h = false → strip h l = none) := by
  have key : Lib.hasPrefix l h = true ↔ l.take h.length = h := by
    unfold Lib.hasPrefix
    rw [List.isPrefixOf_iff_prefix]
    constructor
    · intro e; exact (List.prefix_iff_eq_take.1 e).symm
    · intro e; exact List.prefix_iff_eq_take.2 e.symm
  unfold strip Lib.trimPrefix
  constructor
  · intro e
    rw [if_pos (key.1 e), if_pos e]
  · intro e
    rw [if_neg]
    intro e2
    rw [key.2 e2] at e
    cases e
end Go.Proofs.YtbihihkdgckgnaaDoor


namespace Go.Proofs.YtbihihkdgckgnaaDoor
open Go.RowKit

def atB (s : ByteArray) (k : Nat) (c : Int) : Bool := match s.data.toList[k]? with
  | some x => (x.toNat : Int) == c
  | none => false
theorem getElem_data (s : ByteArray) (k : Nat) (h : k < s.size) : s.data.toList[k]? = some s[k] := by
  rw [List.getElem?_eq_getElem (by rw [data_len]; exact h)]; rfl
theorem atB_in {s : ByteArray} {k : Nat} {c : Int} (h : k < s.size) : atB s k c = ((s[k].toNat : Int) == c) := by
  unfold atB; rw [getElem_data s k h]
theorem atB_out {s : ByteArray} {k : Nat} {c : Int} (h : ¬ k < s.size) : atB s k c = false := by
  unfold atB; rw [List.getElem?_eq_none (by rw [data_len]; omega)]
theorem ret_bool {a b : Bool} (h : a = b) : Ending.returned (.bool a) = .returned (.bool b) := by rw [h]

set_option maxHeartbeats 400000 in
theorem at_walk (s : ByteArray) (i : Int) (k : Nat) (hik : i = (k : Int)) (c : Int) (w : World) :
    Calls Tryd.prog 23 #[.string s, .int .i64 i, .int .u8 c] w fun e w' => e = .returned (.bool (atB s k c)) ∧ w = w' := by
  subst hik
  by_cases h : k < s.size
  · have HB := hide (atB_in (c := c) h)
    have h' : (k : Int) < (s.size : Int) := by omega
    go_enter Tryd.func23, Tryd.ntmps23
    go_wp2
    go_ret
    exact ⟨ret_bool (by rw [unhide HB]), rfl⟩
  · have HB := hide (atB_out (c := c) h)
    have h' : decide ((k : Int) < (s.size : Int)) = false := by simp; omega
    go_enter Tryd.func23, Tryd.ntmps23
    go_wp2
    go_ret
    exact ⟨ret_bool (by rw [unhide HB]), rfl⟩
end Go.Proofs.YtbihihkdgckgnaaDoor


namespace Go.Proofs.YtbihihkdgckgnaaDoor
open Go.RowKit

/-- The heads of the calls with a text, and which of the first ones a line has. -/
def headL : Nat → List UInt8
  | 0 => [112, 97, 116, 99, 104, 32]
  | 1 => [103, 101, 116, 32]
  | 2 => [113, 117, 101, 114, 121, 32]
  | _ => [119, 97, 116, 99, 104, 32]
def fnd (r : List UInt8) : Nat → Int × List UInt8
  | 0 => (0, [])
  | k + 1 => match strip (headL k) r with
    | some t => (1 + (k : Int), t)
    | none => fnd r k
theorem strip_hd {h l t : List UInt8} {c : UInt8} (e : strip (c :: h) l = some t) : l.head? = some c := by
  rw [strip_some e]; rfl
theorem strip_ex {h h' l t : List UInt8} {c c' : UInt8} (hc : c ≠ c') (e : strip (c :: h) l = some t) : strip (c' :: h') l = none := by
  cases e' : strip (c' :: h') l with
  | none => rfl
  | some t' =>
    have h1 := strip_hd e
    have h2 := strip_hd e'
    rw [h1] at h2
    injection h2 with h2
    exact absurd h2 hc
theorem callR_fnd (cl : Int) {r : List UInt8} (h5 : r ≠ [116, 97, 107, 101]) (h6 : r ≠ [99, 97, 110, 99, 101, 108]) : callR cl r = if (fnd r 4).1 = 0 then none else if (fnd r 4).1 = 4 then watchT cl (fnd r 4).2 else some ⟨cl, (fnd r 4).1, (fnd r 4).2, 0⟩ := by
  unfold callR
  rw [if_neg h5, if_neg h6]
  cases h0 : strip [112, 97, 116, 99, 104, 32] r with
  | some t =>
    have e1 := strip_ex (c' := 103) (h' := [101, 116, 32]) (by decide) h0
    have e2 := strip_ex (c' := 113) (h' := [117, 101, 114, 121, 32]) (by decide) h0
    have e3 := strip_ex (c' := 119) (h' := [97, 116, 99, 104, 32]) (by decide) h0
    have : fnd r 4 = (1, t) := by simp [fnd, headL, h0, e1, e2, e3]
    rw [this]; rfl
  | none =>
    cases h1 : strip [103, 101, 116, 32] r with
    | some t =>
      have e2 := strip_ex (c' := 113) (h' := [117, 101, 114, 121, 32]) (by decide) h1
      have e3 := strip_ex (c' := 119) (h' := [97, 116, 99, 104, 32]) (by decide) h1
      have : fnd r 4 = (2, t) := by simp [fnd, headL, h1, e2, e3]
      rw [this]; rfl
    | none =>
      cases h2 : strip [113, 117, 101, 114, 121, 32] r with
      | some t =>
        have e3 := strip_ex (c' := 119) (h' := [97, 116, 99, 104, 32]) (by decide) h2
        have : fnd r 4 = (3, t) := by simp [fnd, headL, h2, e3]
        rw [this]; rfl
      | none =>
        cases h3 : strip [119, 97, 116, 99, 104, 32] r with
        | some t =>
          have : fnd r 4 = (4, t) := by simp [fnd, headL, h3]
          rw [this]; rfl
        | none =>
          have : fnd r 4 = (0, []) := by simp [fnd, headL, h0, h1, h2, h3]
          rw [this]; rfl
theorem fnd_len (r : List UInt8) : ∀ k, (fnd r k).2.length ≤ r.length
  | 0 => by simp [fnd]
  | k + 1 => by
    rw [fnd]
    split
    · rename_i t h
      have := congrArg List.length (strip_some h)
      rw [List.length_append] at this
      simp only; omega
    · exact fnd_len r k
theorem fnd_rng (r : List UInt8) : ∀ k, 0 ≤ (fnd r k).1 ∧ (fnd r k).1 ≤ (k : Int)
  | 0 => by simp [fnd]
  | k + 1 => by
    rw [fnd]
    split
    · simp only; omega
    · have := fnd_rng r k; omega
theorem fnd_yes {r : List UInt8} {k : Nat} {t : List UInt8} (h : strip (headL k) r = some t) : fnd r (k + 1) = (1 + (k : Int), t) := by rw [fnd, h]
theorem fnd_no {r : List UInt8} {k : Nat} (h : strip (headL k) r = none) : fnd r (k + 1) = fnd r k := by rw [fnd, h]
/-- The digits at the head of a text. -/
def DAt (t : List UInt8) (n : Nat) : Prop := n ≤ t.length ∧ ∀ c ∈ t.take n, isDg c.toNat = true
theorem DAt.start (t : List UInt8) : DAt t 0 := ⟨Nat.zero_le _, fun c hc => by simp at hc⟩
theorem DAt.step {t : List UInt8} {n : Nat} (h : DAt t n) (hn : n < t.length) (hd : isDg t[n].toNat = true) : DAt t (n + 1) := ⟨hn, fun c hc => by
  rw [List.take_succ_eq_append_getElem hn] at hc
  rcases List.mem_append.1 hc with hc | hc
  · exact h.2 c hc
  · simp at hc; subst hc; exact hd⟩
theorem DAt.stop {t : List UInt8} {n : Nat} (h : DAt t n) (hs : ∀ hn : n < t.length, isDg t[n].toNat = false) : t.takeWhile (fun c => isDg c.toNat) = t.take n := by
  have e : t = t.take n ++ t.drop n := (List.take_append_drop n t).symm
  have h1 : (t.drop n).takeWhile (fun c => isDg c.toNat) = [] := by
    by_cases hn : n < t.length
    · rw [← List.getElem_cons_drop (h := hn), List.takeWhile_cons, if_neg (by rw [hs hn]; simp)]
    · rw [List.drop_eq_nil_of_le (by omega)]; rfl
  have h2 := tw_all (p := fun c => isDg c.toNat) h.2 (t.drop n)
  rw [← e, h1, List.append_nil] at h2
  exact h2
theorem DAt.long {t : List UInt8} {n : Nat} (h : DAt t n) : n ≤ (t.takeWhile (fun c => isDg c.toNat)).length := by
  have e : t = t.take n ++ t.drop n := (List.take_append_drop n t).symm
  have h2 := tw_all (p := fun c => isDg c.toNat) h.2 (t.drop n)
  rw [← e] at h2
  rw [h2, List.length_append, List.length_take]
  have := h.1
  omega
theorem watch_long {cl : Int} {t : List UInt8} (h : DAt t 4) : watchT cl t = none := by
  unfold watchT
  simp only
  have := h.long
  rw [if_neg]
  rintro ⟨_, h2, _⟩
  omega
theorem watch_stop {cl : Int} {t : List UInt8} {n : Nat} (h : DAt t n) (hs : ∀ hn : n < t.length, isDg t[n].toNat = false) (h3 : n ≤ 3) : watchT cl t = if 1 ≤ n ∧ (t.drop n).head? = some 32 then some ⟨cl, 4, t.drop (n + 1), (digV (t.take n) : Int)⟩ else none := by
  have hl : (t.take n).length = n := by rw [List.length_take]; have := h.1; omega
  unfold watchT
  simp only
  rw [h.stop hs, hl]
  by_cases hc : 1 ≤ n ∧ (t.drop n).head? = some 32
  · rw [if_pos ⟨hc.1, h3, hc.2⟩, if_pos hc]
  · rw [if_neg (fun h => hc ⟨h.1, h.2.2⟩), if_neg hc]
end Go.Proofs.YtbihihkdgckgnaaDoor

