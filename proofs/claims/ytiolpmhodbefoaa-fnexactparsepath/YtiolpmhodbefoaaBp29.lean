import Derived.Deep.LoopGhost
import Derived.Deep.RegionLaw
import Derived.Test.YtiolpmhodbefoaaBp23
import Derived.Test.YtiolpmhodbefoaaBp25
namespace Go.Proofs.Ytiolpmhodbefoaa
open Go.RowKit

/-- What a reader of an operation of the model answers. -/
def FRet (w : World) (R : Option PFOp) (e : Ending) (w' : World) : Prop :=
  Below w.heap.size w w' ∧ ∃ (o : PFOp) (q : Value) (bl : List Nat), e = .returned (.tuple #[.agg #[.int .i64 o.k, .int .i64 o.n, .string o.s, .bool o.root, q], .bool R.isSome]) ∧ ORow stepE w' q o.steps bl ∧ Fsh w.heap.size bl ∧ ∀ x, R = some x → o = x
theorem FRet.zero {w w' : World} {R : Option PFOp} (hb : Below w.heap.size w w') (hR : R = none) : FRet w R (.returned (.tuple #[.agg #[.int .i64 0, .int .i64 0, .string ⟨#[]⟩, .bool false, .slice none 0 0], .bool false])) w' :=
  ⟨hb, ⟨0, 0, ⟨#[]⟩, false, []⟩, .slice none 0 0, [], by rw [hR]; rfl, ORow.nil _ _, Fsh.nil _, fun x hx => by rw [hR] at hx; cases hx⟩
/-- The ref under way, in memory. -/
structure RS (w wr : World) (root : Bool) (acc : List PStep) (q : Value) (bl : List Nat) : Prop where
  bel : Below w.heap.size w wr
  r2 : FB wr w.heap.size 0 0 ⟨#[]⟩ false (.slice none 0 0)
  r4 : FB wr (w.heap.size + 1) 0 0 ⟨#[]⟩ false (.slice none 0 0)
  r5 : FB wr (w.heap.size + 1 + 1 + 1) 8 0 ⟨#[]⟩ root q
  row : ORow stepE wr q acc bl
  fsh : Fsh (w.heap.size + 2) bl
  n5 : w.heap.size + 1 + 1 + 1 ∉ bl
theorem RS.below {w wr w1 : World} {root : Bool} {acc : List PStep} {q : Value} {bl : List Nat} (h : RS w wr root acc q bl) (hb : Below wr.heap.size wr w1) : RS w w1 root acc q bl :=
  ⟨below_next h.bel hb, h.r2.below hb, h.r4.below hb, h.r5.below hb, h.row.below hb, h.fsh, h.n5⟩
theorem RS.app {w w1 w2 : World} {root : Bool} {acc : List PStep} {q v' : Value} {bl bl' : List Nat} {x : PStep} (h : RS w w1 root acc q bl) (hA : Appd stepE (w.heap.size + 2) w1 w2 q v' bl [] bl' (acc ++ [x])) :
    RS w (w2.setCell ⟨w.heap.size + 1 + 1 + 1, 4, none⟩ v') root (acc ++ [x]) v' bl' := by
  have h2 : w.heap.size ∉ bl := fun hb => by have := h.fsh.2 _ hb; omega
  have h4 : w.heap.size + 1 ∉ bl := fun hb => by have := h.fsh.2 _ hb; omega
  have h5 := h.r5.lt
  have n5' : w.heap.size + 1 + 1 + 1 ∉ bl' := fun hb => by
    rcases hA.sub _ hb with hb | hb | hb
    · exact h.n5 hb
    · simp at hb
    · omega
  refine ⟨(hA.below h.row (h.fsh.mono (by omega)) h.bel (by omega)).setCell (by show _ ≤ w.heap.size + 1 + 1 + 1; omega) _, (h.r2.appd hA h.row h2).other (by show _ ≠ w.heap.size + 1 + 1 + 1; omega) _, (h.r4.appd hA h.row h4).other (by show _ ≠ w.heap.size + 1 + 1 + 1; omega) _, (h.r5.appd hA h.row h.n5).set4 _, hA.row.set n5' _, hA.fsh, n5'⟩
theorem RS.bad {w wr : World} {root : Bool} {acc : List PStep} {q : Value} {bl : List Nat} (h : RS w wr root acc q bl) {R : Option PFOp} (hR : R = none) : FRet w R (.returned (.tuple #[.agg #[.int .i64 0, .int .i64 0, .string ⟨#[]⟩, .bool false, .slice none 0 0], .bool false])) (putN wr w.heap.size 0 [.int .i64 0, .int .i64 0, .string ⟨#[]⟩, .bool false, .slice none 0 0]) :=
  ⟨putN_below h.bel (Nat.le_refl _) _ _, ⟨0, 0, ⟨#[]⟩, false, []⟩, .slice none 0 0, [], by rw [hR]; rfl, ORow.nil _ _, Fsh.nil _, fun x hx => by rw [hR] at hx; cases hx⟩
theorem RS.good {w wr : World} {root : Bool} {acc : List PStep} {q : Value} {bl : List Nat} (h : RS w wr root acc q bl) {R : Option PFOp} (hR : R = some (opR' 8 (root, acc))) : FRet w R (.returned (.tuple #[.agg #[.int .i64 8, .int .i64 0, .string ⟨#[]⟩, .bool root, q], .bool true])) (putN wr w.heap.size 0 [.int .i64 8, .int .i64 0, .string ⟨#[]⟩, .bool root, q]) := by
  refine ⟨putN_below h.bel (Nat.le_refl _) _ _, opR' 8 (root, acc), q, bl, by rw [hR]; rfl, h.row.keep fun b hb => putN_other (fun e => ?_) _ _, h.fsh.mono (by omega), fun x hx => by rw [hR] at hx; injection hx⟩
  have := h.fsh.2 b hb
  omega
theorem RS.start (w : World) (root : Bool) : RS w ((((w.alloc (.cells #[.int .i64 0, .int .i64 0, .string ⟨#[]⟩, .bool false, .slice none 0 0] 65)).alloc (.cells #[.int .i64 0, .int .i64 0, .string ⟨#[]⟩, .bool false, .slice none 0 0] 65)).alloc (.cells #[] 94)).alloc (.cells #[.int .i64 8, .int .i64 0, .string ⟨#[]⟩, .bool root, .slice (some ⟨w.heap.size + 1 + 1, 0, none⟩) 0 0] 65)) root [] (.slice (some ⟨w.heap.size + 1 + 1, 0, none⟩) 0 0) [w.heap.size + 1 + 1] := by
  generalize hA : (w.alloc (.cells #[.int .i64 0, .int .i64 0, .string ⟨#[]⟩, .bool false, .slice none 0 0] 65)) = wA
  have a1 : FB wA w.heap.size 0 0 ⟨#[]⟩ false (.slice none 0 0) := by rw [← hA]; exact heap_alloc_new w _
  have a2 : Below w.heap.size w wA := by rw [← hA]; exact al_b w _
  have a3 : wA.heap.size = w.heap.size + 1 := by rw [← hA]; simp
  generalize hB : (wA.alloc (.cells #[.int .i64 0, .int .i64 0, .string ⟨#[]⟩, .bool false, .slice none 0 0] 65)) = wB
  have b0 : Below wA.heap.size wA wB := by rw [← hB]; exact al_b wA _
  have b1 : FB wB (w.heap.size + 1) 0 0 ⟨#[]⟩ false (.slice none 0 0) := by rw [← a3, ← hB]; exact heap_alloc_new wA _
  have b3 : wB.heap.size = w.heap.size + 1 + 1 := by rw [← hB, ← a3]; simp
  have hE := empty_row wB 94 3
  generalize hC : (wB.alloc (.cells #[] 94)) = wC at *
  have c0 : Below wB.heap.size wB wC := by rw [← hC]; exact al_b wB _
  have c3 : wC.heap.size = w.heap.size + 1 + 1 + 1 := by rw [← hC, ← b3]; simp
  generalize hD : (wC.alloc (.cells #[.int .i64 8, .int .i64 0, .string ⟨#[]⟩, .bool root, .slice (some ⟨w.heap.size + 1 + 1, 0, none⟩) 0 0] 65)) = wD
  have d0 : Below wC.heap.size wC wD := by rw [← hD]; exact al_b wC _
  have d1 : FB wD (w.heap.size + 1 + 1 + 1) 8 0 ⟨#[]⟩ root (.slice (some ⟨w.heap.size + 1 + 1, 0, none⟩) 0 0) := by rw [← c3, ← hD]; exact heap_alloc_new wC _
  rw [b3] at hE
  refine ⟨below_next (below_next (below_next a2 b0) c0) d0, ((a1.below b0).below c0).below d0, (b1.below c0).below d0, d1, ⟨[], rfl, fun _ _ _ h => by simp at h, own_mono (own_below hE d0) (Nat.zero_le _), by simp [Value.ownBlock]⟩, ⟨by simp, by simp⟩, by simp⟩
/-- A name's place under way. -/
def NoStop (s : ByteArray) (i j : Nat) : Prop := i ≤ j ∧ j ≤ s.size ∧ ∀ m (hm : m < s.size), i ≤ m → m < j → isStop s[m] = false
theorem NoStop.next {s : ByteArray} {i j : Nat} (h : NoStop s i j) (hj : j < s.size) (hc : isStop s[j] = false) : NoStop s i (j + 1) :=
  ⟨by have := h.1; omega, by omega, fun m hm h1 h2 => by
    by_cases e : m = j
    · subst e; exact hc
    · exact h.2.2 m hm h1 (by omega)⟩
theorem twS_at {s : ByteArray} : ∀ (n i j : Nat), j = i + n → NoStop s i j → (j = s.size ∨ ∃ hj : j < s.size, isStop s[j] = true) → twS s i = (s.data.toList.drop i).take n
  | 0, i, j, hn, h, he => by
    obtain rfl : j = i := by omega
    unfold twS
    rcases he with he | ⟨hj, hc⟩
    · rw [dr_end (by omega)]; rfl
    · rw [dr_at hj, List.takeWhile_cons, hc]; rfl
  | n + 1, i, j, hn, h, he => by
    have hi : i < s.size := by have := h.2.1; omega
    have hc := h.2.2 i hi (Nat.le_refl _) (by omega)
    have ih := twS_at n (i + 1) j (by omega) ⟨by omega, h.2.1, fun m hm h1 h2 => h.2.2 m hm (by omega) h2⟩ he
    have e : twS s i = s[i] :: twS s (i + 1) := by
      unfold twS
      rw [dr_at hi, List.takeWhile_cons, hc]; rfl
    rw [e, ih]
    have := dr_at hi
    unfold dr at this
    rw [this]; rfl
theorem NoStop.tw {s : ByteArray} {i j : Nat} (h : NoStop s i j) (he : j = s.size ∨ ∃ hj : j < s.size, isStop s[j] = true) : (s.extract i j).data.toList = twS s i ∧ i + (twS s i).length = j ∧ s.extract i j = bsT (twS s i) := by
  have h1 := h.1
  have h2 := h.2.1
  have e := twS_at (j - i) i j (by omega) h he
  have e2 : (s.extract i j).data.toList = (s.data.toList.drop i).take (j - i) := Lib.extract_data _ _ _
  refine ⟨by rw [e2, e], ?_, by rw [ext_bs, e]⟩
  rw [e, List.length_take, List.length_drop, data_len]; omega
theorem sIn_parts (x : Bs) : ∃ n i, strV (sStr x) = .tuple #[.string n, .bool (sStr x).isSome] ∧ intV (sInt x) = .tuple #[.int .i64 i, .bool (sInt x).isSome] ∧ (∀ p, sIn x = some p → p = ⟨(sInt x).isSome, n, i⟩) ∧ ((sStr x).isSome = false → (sInt x).isSome = false → sIn x = none) ∧ ((sStr x).isSome = true ∨ (sInt x).isSome = true → ∃ p, sIn x = some p) := by
  refine ⟨_, _, rfl, rfl, fun p hp => ?_, fun h1 h2 => ?_, fun h => ?_⟩
  · unfold sIn at hp
    cases hs : sStr x with
    | some v =>
      rw [hs] at hp
      injection hp with hp
      have hi : sInt x = none := by
        cases x with
        | nil => rfl
        | cons c r =>
          have h39 : c = 39 := by
            by_cases h : c = 39
            · exact h
            · exfalso
              have : sStr (c :: r) = none := by show (if c = 39 ∧ sE r = some [] then sD r.dropLast else none) = none; rw [if_neg (fun e => h e.1)]
              rw [this] at hs; cases hs
          cases hi : sInt (c :: r) with
          | none => rfl
          | some n =>
            have := (sInt_all hi).2
            rw [h39] at this
            simp only [List.all_cons, Bool.and_eq_true] at this
            exact absurd this.1 (by decide)
      rw [hi, ← hp]; rfl
    | none =>
      rw [hs] at hp
      cases hi : sInt x with
      | none => rw [hi] at hp; cases hp
      | some n =>
        rw [hi] at hp
        injection hp with hp
        rw [← hp]; rfl
  · unfold sIn
    cases hs : sStr x with
    | some v => rw [hs] at h1; cases h1
    | none =>
      cases hi : sInt x with
      | some v => rw [hi] at h2; cases h2
      | none => rfl
  · unfold sIn
    cases hs : sStr x with
    | some v => exact ⟨_, rfl⟩
    | none =>
      cases hi : sInt x with
      | some v => exact ⟨_, rfl⟩
      | none => rw [hs, hi] at h; rcases h with h | h <;> cases h
theorem stop_is {c : UInt8} : isStop c = true ↔ c = 46 ∨ c = 91 := by unfold isStop; simp
end Go.Proofs.Ytiolpmhodbefoaa

