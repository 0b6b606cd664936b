import Derived.Sort.OwnSorted
import Derived.Test.YtocnekbedcnmgaaGreatDoorBf15
import Derived.Test.YtocnekbedcnmgaaGreatDoorBf1
import Derived.Test.YtocnekbedcnmgaaGreatDoorBf13
import Derived.Test.YtocnekbedcnmgaaGreatDoorBf5
namespace Go.Proofs.YtocnekbedcnmgaaGreatDoor
open Go.RowKit Go.Sort Go.Shelf

def sortT (ts : List (List UInt8)) : List (List UInt8) := ts.mergeSort (fun x y => decide (x ≤ y))
theorem sortT_len (ts : List (List UInt8)) : (sortT ts).length = ts.length := List.length_mergeSort _
/-- slices.Sort of a row of texts that the call owns. -/
theorem sortT_walk {B : Nat} (v : Value) (ts : List (List UInt8)) (w : World) (h : OT w B v ts) (hl : ts.length ≤ 1000000) :
    Calls Tryz.prog 208 #[v] w fun e w' => e = .returned (.tuple #[]) ∧ OT w' B v (sortT ts) ∧ w.grownBy w' v.ownBlock := by
  rcases h.2 with ⟨hv, h0⟩ | ⟨g, cap, cur, hv, hB, hg, h1, h2, h3, h4⟩
  · subst hv
    have : ts = [] := List.eq_nil_of_length_eq_zero h0
    subst this
    refine (AnyM.slices_Sort_string_none Tryz.sortA none 0 w).mono ?_
    rintro e w' ⟨rfl, rfl⟩
    exact ⟨rfl, by rw [show sortT [] = [] by simp [sortT]]; exact h, World.grownBy.refl _ _⟩
  · subst hv
    have h5 : List.take ts.length cur.toList = ts.map encStr := by rw [Nat.mul_one] at h4; exact h4
    refine (AnyM.slices_Sort_string Tryz.sortA g 0 cap ts w (holds_of_block hg h5) (Array.getElem?_eq_some_iff.1 hg).1 (by omega)).mono ?_
    rintro e w' ⟨rfl, n, os, rfl⟩
    refine ⟨rfl, ?_, grownBy_sorted _⟩
    have := ownsRow_sorted (n := n) (os := os) (ts := sortT ts) (ss := ts) (sortT_len ts) hB hg h1 h2 h3
    unfold OT
    rw [sortT_len]
    exact this
/-- slices.Compact of a row of texts that the call owns. -/
theorem compactT_walk {B : Nat} (v : Value) (ts : List (List UInt8)) (w : World) (h : OT w B v ts) (hl : ts.length ≤ 1000000) :
    Calls Tryz.prog 209 #[v] w fun e w' => ∃ v', e = .returned v' ∧ OT w' B v' (Lib.compact ts) ∧ w.grownBy w' v.ownBlock := by
  have hc := compact_len ts
  rcases h.2 with ⟨hv, h0⟩ | ⟨g, cap, cur, hv, hB, hg, h1, h2, h3, h4⟩
  · subst hv
    have : ts = [] := List.eq_nil_of_length_eq_zero h0
    subst this
    refine (Tryz.slices_Compact_string_empty none 0 w).mono ?_
    rintro e w' ⟨rfl, rfl⟩
    exact ⟨_, rfl, h, World.grownBy.refl _ _⟩
  · subst hv
    have h7 : List.take ts.length cur.toList = ts.map encStr := by rw [Nat.mul_one] at h4; exact h4
    refine (Tryz.slices_Compact_string g 0 cap ts w (holds_of_block hg h7) (by omega) h1).mono ?_
    rintro e w' ⟨rfl, q, rfl⟩
    have hD : (Lib.compact ts ++ List.replicate (ts.length - (Lib.compact ts).length) ([] : List UInt8)).length = ts.length := by rw [List.length_append, List.length_replicate]; omega
    generalize hDD : Lib.compact ts ++ List.replicate (ts.length - (Lib.compact ts).length) ([] : List UInt8) = D at *
    have hb := heap_sorted (n := q) (os := #[]) D.toArray hg
    rw [grow_empty] at hb
    have hgr := grownBy_sorted (w := w) (g := g) (n := q) (os := #[]) D.toArray
    rw [grow_empty] at hgr
    refine ⟨_, rfl, ⟨by simp, .inr ⟨g, cap, putCells encStr 0 D.toArray cur, rfl, hB, hb, by omega, h2, by simp [putCells, h3], ?_⟩⟩, hgr⟩
    have h5 := take_putCells cur D (by rw [hD, h3]; omega)
    rw [hD] at h5
    have h6 := congrArg (List.take (Lib.compact ts).length) h5
    have h8 : D.take (Lib.compact ts).length = Lib.compact ts := by rw [← hDD, List.take_left]
    rw [List.take_take, Nat.min_eq_left hc, ← List.map_take, h8] at h6
    rw [Nat.mul_one]
    exact h6
end Go.Proofs.YtocnekbedcnmgaaGreatDoor

