import Derived.Test.YtcffdclgddmigaaDoorStr
import Derived.ProofKit
import Derived.OpenShut
import Derived.ShutString
import Derived.ChangeOld
import Derived.SliceStrings
namespace Go.Proofs.YtcffdclgddmigaaDoor
open Go.RowKit

theorem strs_of {W : World} {x : Addr} {len0 cap0 : Nat} {zs : List ByteArray} (hl : len0 ≤ cap0) (hm : cap0 ≤ maxLen) (hz' : zs.length = cap0) (hcell : ∀ j, j < zs.length → W.cell? (x.add j) = some (.string (zs.getD j ByteArray.empty))) (hwz : ∀ s ∈ zs, s.size ≤ maxLen) :
    ∃ xb xo ss, len0 = List.length ss ∧ SS W (some x) xb xo ss ∧ ss.length ≤ maxLen ∧ ∀ j, (ss.getD j ByteArray.empty).size ≤ maxLen := by
  obtain ⟨b, off, spot⟩ := x
  have hlt : (zs.take len0).length = len0 := by rw [List.length_take]; omega
  have hg : ∀ j, j < len0 → (zs.take len0).getD j ByteArray.empty = zs.getD j ByteArray.empty := fun j hj => by simp [List.getD, hj]
  by_cases h0 : len0 = 0
  · subst h0
    exact ⟨0, 0, [], rfl, ⟨fun h => absurd h (by simp), fun j hj => absurd hj (by simp)⟩, by simp, fun j => by show ByteArray.empty.size ≤ maxLen; exact Nat.zero_le _⟩
  · have hc := hcell 0 (by omega)
    have hspot : spot = none := by simpa [Addr.add] using World.cell?_spot hc
    subst hspot
    refine ⟨b, off, zs.take len0, hlt.symm, ⟨fun _ => rfl, fun j hj => ?_⟩, by omega, fun j => ?_⟩
    · have hcj := hcell j (by omega)
      rw [Go.WideShapes.add_plain] at hcj
      rw [hg j (by omega)]; exact hcj
    · by_cases hj : j < len0
      · rw [hg j hj]
        have : zs.getD j ByteArray.empty ∈ zs := by
          have hj' : j < zs.length := by omega
          simp [List.getD, hj']
        exact hwz _ this
      · have : (zs.take len0).getD j ByteArray.empty = ByteArray.empty := by simp [List.getD, List.getElem?_take, hj]
        rw [this]; exact Nat.zero_le _
end Go.Proofs.YtcffdclgddmigaaDoor
