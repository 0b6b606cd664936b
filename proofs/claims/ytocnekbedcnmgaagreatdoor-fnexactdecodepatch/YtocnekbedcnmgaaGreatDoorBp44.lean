import Derived.Lib.ItoaMem
import Derived.Test.YtocnekbedcnmgaaGreatDoorBp5
import Derived.Test.YtocnekbedcnmgaaGreatDoorBp30
import Derived.Test.YtocnekbedcnmgaaGreatDoorBp40
import Derived.Test.YtocnekbedcnmgaaGreatDoorBp23
import Derived.Test.YtocnekbedcnmgaaGreatDoorBp6
import Derived.Deep.RegionLaw
import Derived.Test.YtocnekbedcnmgaaGreatDoorBp1
namespace Go.Proofs.YtocnekbedcnmgaaGreatDoor
open Go.RowKit Go.Sort

/-- The cells of the program's parts. -/
def ptC (y : List UInt8 × Value) : List Value := [.string (strOf y.1), y.2]
def PtR (w : World) (B : Nat) (r : Value) (ys : List (List UInt8 × Value)) : Prop := w.ownsRow B 187 2 r ys.length (ys.flatMap ptC)
theorem pt_at (ps : List (List UInt8 × Value)) (j : Nat) (h : j < ps.length) : (ps.flatMap ptC)[j * 2]? = some (.string (strOf ps[j].1)) ∧ (ps.flatMap ptC)[j * 2 + 1]? = some ps[j].2 := by
  induction ps generalizing j with
  | nil => simp at h
  | cons p r ih =>
    cases j with
    | zero => exact ⟨rfl, rfl⟩
    | succ j =>
      have := ih j (by simpa using h)
      rw [List.flatMap_cons, show (j + 1) * 2 = j * 2 + 2 from by omega]
      exact this
theorem PtR.cells {w : World} {B : Nat} {v : Value} {ps : List (List UInt8 × Value)} (h : PtR w B v ps) (j : Nat) (hj : j < ps.length) :
    ∃ g cap, v = .slice (some ⟨g, 0, none⟩) ps.length cap ∧ B ≤ g ∧ g < w.heap.size ∧ w.cell? ⟨g, j * 2, none⟩ = some (.string (strOf ps[j].1)) ∧ w.cell? ⟨g, j * 2 + 1, none⟩ = some ps[j].2 := by
  obtain ⟨hl, h0 | ⟨g, cap, cur, hv, hB, hg, hn, hc, hsz, ht⟩⟩ := h
  · omega
  · have hc0 := pt_at ps j hj
    refine ⟨g, cap, hv, hB, (Array.getElem?_eq_some_iff.1 hg).1, ?_, ?_⟩
    · rw [Lib.cell_of_heap hg, ← Array.getElem?_toList, ← hc0.1, ← ht, List.getElem?_take_of_lt (by omega)]
    · rw [Lib.cell_of_heap hg, ← Array.getElem?_toList, ← hc0.2, ← ht, List.getElem?_take_of_lt (by omega)]
theorem PtR.shape {w : World} {B : Nat} {v : Value} {ps : List (List UInt8 × Value)} (h : PtR w B v ps) : ∃ x cap, v = .slice x ps.length cap := by
  rcases h.2 with ⟨hv, h0⟩ | ⟨g, cap, cur, hv, _⟩
  · exact ⟨none, 0, by rw [hv, h0]⟩
  · exact ⟨_, _, hv⟩
theorem PtR.step {w : World} {B : Nat} {v : Value} {ps : List (List UInt8 × Value)} {y : List UInt8 × Value} (h : w.ownsRow B 187 2 v (ps.length + 1) (ps.flatMap ptC ++ ptC y)) : PtR w B v (ps ++ [y]) := by
  unfold PtR
  rw [List.length_append, List.flatMap_append]
  simpa using h
end Go.Proofs.YtocnekbedcnmgaaGreatDoor


namespace Go.Proofs.YtocnekbedcnmgaaGreatDoor
open Go.RowKit Go.Sort

end Go.Proofs.YtocnekbedcnmgaaGreatDoor


namespace Go.Proofs.YtocnekbedcnmgaaGreatDoor
open Go.RowKit Go.Sort

/-- Old blocks under B and all blocks of parts are kept. -/
def PF (B : Nat) (w w' : World) : Prop := Below B w w' ∧ ∀ (g : Nat) (cs : Array Value), w.heap[g]? = some (.cells cs 187 (0, 0)) → w'.heap[g]? = some (.cells cs 187 (0, 0))
theorem PF.refl (B : Nat) (w : World) : PF B w w := ⟨Below.refl _ _, fun _ _ h => h⟩
theorem PF.trans {B : Nat} {a b c : World} (h : PF B a b) (k : PF B b c) : PF B a c := ⟨h.1.trans k.1, fun g cs hg => k.2 g cs (h.2 g cs hg)⟩
theorem PF.of_below {B : Nat} {w w' : World} (h : Below w.heap.size w w') (hB : B ≤ w.heap.size) : PF B w w' := ⟨h.mono hB, fun g _ hg => (h.block g (Array.getElem?_eq_some_iff.1 hg).1).trans hg⟩
theorem PF.grown {B n : Nat} {w w' : World} {v : Value} {xs : List Value} (h : w.ownsRow B 9 1 v n xs) (hg : w.grownBy w' v.ownBlock) (hB : B ≤ w.heap.size) : PF B w w' := by
  refine ⟨(Below.refl B w).grown hg hB (fun k hk => (h.lt k hk).1), fun g cs hgc => ?_⟩
  refine (hg.block g (Array.getElem?_eq_some_iff.1 hgc).1 (fun e => ?_)).trans hgc
  rcases h.2 with ⟨hv, _⟩ | ⟨g', cap, cur, hv, _, hg', _⟩
  · subst hv; cases e
  · subst hv
    injection e with e
    simp only at e
    subst e
    rw [hgc] at hg'
    injection hg' with e
    injection e with _ e
    exact absurd e (by decide)
end Go.Proofs.YtocnekbedcnmgaaGreatDoor

