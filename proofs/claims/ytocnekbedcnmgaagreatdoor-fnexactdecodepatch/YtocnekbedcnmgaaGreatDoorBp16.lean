import Derived.Lib.Builder
import Derived.Handy
import Derived.Test.YtocnekbedcnmgaaGreatDoorBp15
import Derived.Test.YtocnekbedcnmgaaGreatDoorBp14
import Derived.Test.YtocnekbedcnmgaaGreatDoorBp1
namespace Go.Proofs.YtocnekbedcnmgaaGreatDoor
open Go.RowKit

theorem ORow.other {α : Type} {e : Elem α} {w : World} {v : Value} {xs : List α} {bl : List Nat} (h : ORow e w v xs bl) {g : Nat} (hg : g ∉ bl) (o : Nat) (u : Value) : ORow e (w.setCell ⟨g, o, none⟩ u) v xs bl :=
  h.keep fun b hb => Below.heap_setCell _ _ _ _ fun he => hg (by subst he; exact hb)
theorem Fsh.not {B g : Nat} {bl : List Nat} (h : Fsh B bl) (hg : g < B) : g ∉ bl := fun hm => by have := h.2 g hm; omega
theorem ORow.putN {α : Type} {e : Elem α} {w : World} {v : Value} {xs : List α} {bl : List Nat} (h : ORow e w v xs bl) {g : Nat} (hg : g ∉ bl) (vs : List Value) (o : Nat) : ORow e (putN w g o vs) v xs bl :=
  h.keep fun b hb => putN_other (fun he => hg (by subst he; exact hb)) _ _
end Go.Proofs.YtocnekbedcnmgaaGreatDoor

