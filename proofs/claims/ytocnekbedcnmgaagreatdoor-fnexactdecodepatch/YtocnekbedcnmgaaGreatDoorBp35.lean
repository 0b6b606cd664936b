import Derived.Test.YtocnekbedcnmgaaGreatDoorBp33
import Derived.Test.YtocnekbedcnmgaaGreatDoorBp34
namespace Go.Proofs.YtocnekbedcnmgaaGreatDoor
open Go.RowKit

/-- What may follow a member. -/
def tailM (s : ByteArray) (j : Nat) : Option (JM × Nat) := if bt s j = 125 then some (.nil, j + 1) else if bt s j = 44 then mems s (sk s (j + 1)) else none
theorem mems_tail (s : ByteArray) (i : Nat) : mems s (sk s i) = (memR s i).bind fun m => (tailM s m.2).map fun q => (JM.cons m.1.1 m.1.2 q.1, q.2) := by
  rw [mems_eq]
  unfold memR
  cases strQ s (sk s i) with
  | none => rfl
  | some k =>
    simp only [Option.bind_some]
    by_cases h : bt s (sk s k.2) = 58
    · rw [if_pos h, if_pos h]
      cases val s (sk s (sk s k.2 + 1)) with
      | none => rfl
      | some q =>
        simp only [Option.bind_some, Option.map_some]
        unfold tailM
        split
        · rfl
        · split <;> rfl
    · rw [if_neg h, if_neg h]; rfl
theorem memR_ok {s : ByteArray} {i j : Nat} {m : List UInt8 × JV} (h : memR s i = some (m, j)) : i < j ∧ j ≤ s.size := by
  unfold memR at h
  cases hq : strQ s (sk s i) with
  | none => rw [hq] at h; cases h
  | some k =>
    have h0 := strQ_ok hq
    have h1 := sk_ge s i
    rw [hq] at h
    simp only [Option.bind_some] at h
    by_cases h58 : bt s (sk s k.2) = 58
    · rw [if_pos h58] at h
      cases hv : val s (sk s (sk s k.2 + 1)) with
      | none => rw [hv] at h; cases h
      | some q =>
        rw [hv] at h
        simp only [Option.map_some] at h
        injection h with h
        injection h with _ h
        have h2 := val_ok hv
        have h3 := sk_ge s (sk s k.2 + 1)
        have h4 := sk_ge s k.2
        have h5 := sk_ge s q.2
        have h6 := (sk_le h2.2).2
        omega
    · rw [if_neg h58] at h; cases h

abbrev objB (b : Nat) : Obj := .cells #[.map (some b)] 182 (0, 0)
/-- The blocks of an object's members, whose own blocks lie below L. -/
def OS (L : Nat) (wx : World) (k : Nat) : Prop := L ≤ k ∧ k < wx.heap.size
/-- An object under way, its reader at place j, behind acc. -/
structure OSt (rb : Nat) (s : ByteArray) (tb kt : Bool) (w : World) (ob b L j : Nat) (acc : JM) (xs : List (List UInt8 × Value)) (wx : World) : Prop where
  rdr : Rdr rb s j (tb || bigM acc) (kt || twM [] acc) wx
  blk : wx.heap[ob]? = some (objB b)
  own : wx.ownsMap Tryz.prog 9 RH b xs.length (putAll xs)
  kb : KB rb w wx
  keys : xs.map (·.1) = keysM acc
  size : L ≤ wx.heap.size
  rep : bigM acc = false → twM [] acc = false → RepM wx (OS L wx) acc xs
theorem OSt.next {rb : Nat} {s : ByteArray} {tb kt : Bool} {w W0 w7 : World} {ob b L j k : Nat} {acc : JM} {xs : List (List UInt8 × Value)} (h1 : rb < w.heap.size) (h2 : w.heap.size ≤ ob) (h3 : w.heap.size ≤ b) (hb : b < L) (ho : ob < L)
    (h : OSt rb s tb kt w ob b L j acc xs W0) (k7 : KB rb W0 w7) (r7 : Rdr rb s k (tb || bigM acc) (kt || twM [] acc) w7) : OSt rb s tb kt w ob b L k acc xs w7 := by
  have hs := h.size
  have hs7 := k7.size
  refine ⟨r7, (k7.block ob (by omega) (by omega)).trans h.blk, ownsMap_keep h.own (k7.block b (by omega) (by omega)), h.kb.trans k7, h.keys, by omega, fun a c => ?_⟩
  exact RepM.keep (w := W0) (S := OS L W0) (fun k hk => k7.block k hk.2 (by have := hk.1; omega)) (fun k hk => ⟨hk.1, by have := hk.2; omega⟩) acc xs (h.rep a c)
theorem OSt.step {rb : Nat} {s : ByteArray} {tb kt : Bool} {w W0 w7 : World} {ob b L j k : Nat} {acc : JM} {xs : List (List UInt8 × Value)} {key : List UInt8} {v : JV} {t : TypeId} {p : Value}
    (h1 : rb < w.heap.size) (h2 : w.heap.size ≤ ob) (h3 : w.heap.size ≤ b) (hb : b < L) (ho : ob < L) (hne : ob ≠ b)
    (h : OSt rb s tb kt w ob b L j acc xs W0) (k7 : KB2 rb b W0 w7) (r7 : Rdr rb s k ((tb || bigM acc) || bigV v) (((kt || twM [] acc) || twV v) || (xs.map (·.1)).contains key) w7)
    (m7 : w7.ownsMap Tryz.prog 9 RH b (xs.length + 1) (putAll (xs ++ [(key, .iface t p)])))
    (hrep : bigV v = false → twV v = false → Rep w7 (fun k => W0.heap.size ≤ k ∧ k < w7.heap.size) v (.iface t p)) :
    OSt rb s tb kt w ob b L k (acc.app (.cons key v .nil)) (xs ++ [(key, .iface t p)]) w7 := by
  have hs := h.size
  have hs7 := k7.size
  have hkb := h.kb.size
  have hbb : bigM (acc.app (.cons key v .nil)) = (bigM acc || bigV v) := by rw [bigM_app]; simp [bigM]
  have htt : twM [] (acc.app (.cons key v .nil)) = ((twM [] acc || twV v) || (keysM acc).contains key) := by rw [twM_app]; simp [twM, Bool.or_assoc]
  refine ⟨?_, (k7.block ob (by omega) (by omega) hne).trans h.blk, by rw [List.length_append]; exact m7, ?_, ?_, by omega, fun a c => ?_⟩
  · rw [hbb, htt, ← h.keys]
    simpa only [Bool.or_assoc] using r7
  · exact ⟨k7.os.trans h.kb.os, k7.tape.trans h.kb.tape, k7.output.trans h.kb.output, by omega, fun g hg hn => (k7.block g (by omega) hn (by omega)).trans (h.kb.block g hg hn)⟩
  · rw [List.map_append, h.keys, keysM_app]; rfl
  · rw [hbb] at a
    rw [htt] at c
    obtain ⟨a1, a2⟩ := Bool.or_eq_false_iff.1 a
    obtain ⟨c0, _⟩ := Bool.or_eq_false_iff.1 c
    obtain ⟨c1, c2⟩ := Bool.or_eq_false_iff.1 c0
    refine RepM.app acc (.cons key v .nil) xs [(key, .iface t p)] ?_ ?_
    · exact RepM.keep (w := W0) (S := OS L W0) (fun g hg => k7.block g hg.2 (by have := hg.1; omega) (by have := hg.1; omega)) (fun g hg => ⟨hg.1, by have := hg.2; omega⟩) acc xs (h.rep a1 c1)
    · rw [RepM]
      refine ⟨_, [], rfl, ?_, by rw [RepM]⟩
      exact Rep.keep (w := w7) (fun _ _ => rfl) (fun g hg => ⟨by have := hg.1; omega, hg.2⟩) v _ (hrep a2 c2)
end Go.Proofs.YtocnekbedcnmgaaGreatDoor

