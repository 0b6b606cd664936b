import Derived.Test.YtadefcohbkgbfaaDoorDraw
import Derived.WalkKit
import Derived.ProofKit
import Derived.OpenShut
namespace Go.Proofs.YtadefcohbkgbfaaDoor
open Go.ChangeShapes Go.WideShapes Go.ChangeAt Go.RowKit

theorem byte_of {n : Int} (h : (Lit.int .u8 n).wf = true) : ((UInt8.ofNat n.toNat).toNat : Int) = n := by
  have hb := bounds_u8 h
  rw [UInt8.toNat_ofNat']; omega
theorem bytes_of {W : World} {x : Addr} {len cap : Nat} {zs : List Int} (hl : len ≤ cap) (hz : zs.length = cap) (hcell : ∀ i, i < zs.length → W.cell? (x.add i) = some (.int .u8 (zs.getD i 0))) (hwz : ∀ n ∈ zs, (Lit.int .u8 n).wf = true) :
    ∃ bb bo l, len = List.length l ∧ BS W (some x) bb bo l ∧ l.length ≤ cap := by
  obtain ⟨b, off, spot⟩ := x
  by_cases h0 : len = 0
  · exact ⟨0, 0, [], h0, ⟨fun h => absurd h (by simp), fun j hj => absurd hj (by simp)⟩, Nat.zero_le _⟩
  · have hc := hcell 0 (by omega)
    have hspot : spot = none := by simpa [Addr.add] using World.cell?_spot hc
    subst hspot
    have hlt : ((zs.take len).map (fun n => UInt8.ofNat n.toNat)).length = len := by simp; omega
    refine ⟨b, off, (zs.take len).map (fun n => UInt8.ofNat n.toNat), hlt.symm, ⟨fun _ => rfl, fun j hj => ?_⟩, by omega⟩
    have hj' : j < zs.length := by omega
    have hcj := hcell j hj'
    rw [Go.WideShapes.add_plain] at hcj
    rw [hcj]
    have e : zs.getD j 0 = zs[j] := by simp [hj']
    have hb := byte_of (hwz zs[j] (List.getElem_mem hj'))
    have e2 : ((zs.take len).map (fun n => UInt8.ofNat n.toNat)).getD j 0 = UInt8.ofNat zs[j].toNat := by
      have : j < len := by omega
      simp [List.getD, this, hj']
    rw [e, e2, hb]
end Go.Proofs.YtadefcohbkgbfaaDoor
