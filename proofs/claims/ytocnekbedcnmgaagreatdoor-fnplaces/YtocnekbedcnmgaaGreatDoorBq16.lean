import Derived.Deep.RegionWith
import Derived.Deep.RegionLaw
import Derived.Test.YtocnekbedcnmgaaGreatDoorBq15
import Derived.Test.YtocnekbedcnmgaaGreatDoorBq2
namespace Go.Proofs.YtocnekbedcnmgaaGreatDoor
open Go.RowKit

theorem ORow.len {α : Type} {e : Elem α} {w : World} {v : Value} {xs : List α} {bl : List Nat} (h : ORow e w v xs bl) : xs.length ≤ maxLen := by
  obtain ⟨ps, hl, hE, ho, _⟩ := h
  rcases ho.2 with ⟨hv, h0⟩ | ⟨g, cap, cur, hv, _, _, h1, h2, _⟩
  · omega
  · omega

end Go.Proofs.YtocnekbedcnmgaaGreatDoor


namespace Go.Proofs.YtocnekbedcnmgaaGreatDoor
open Go.RowKit

end Go.Proofs.YtocnekbedcnmgaaGreatDoor

