/-
  DERIVED. GIVEN WITH THE SEED: THE CARDS: each row of YtadefcohbkgbfabGreatDoorRows.lean that lists a variable, with what it lists TIED to the program's text (the seventh form; the later family's looks); each row that meets fmt, with fmt's text TOLD by the authors' own Lean function (tested against real Go, not proved from fmt's source: count such statements apart). THE CARD IS WHAT COUNTS. Prove the row's statement (the work); the ties are given (YtadefcohbkgbfabGreatDoorTie.lean); close each card by the builder's one call (the guide's Derived/Test/ToyasCard.lean, 'card_holds'). Laid BY PROGRAM, IN A SANDBOX (cutbox-door.mjs). By AI agents, Wed Nov 11 2026. No macro, syntax, notation, axiom, sorry.
-/
import Derived.Test.YtadefcohbkgbfabGreatDoorRows
import GoSem.ClaimSeven
namespace Go.Proofs.YtadefcohbkgbfabGreatDoor
namespace Rows

/-- THE TIED CARD OF 'laws.FnString'. -/
def fnStringCard : Claim7 := { stood := { row := fnStringRow, standIns := [], harness := (true, "ae469ea692c425333990a868574b2d47bb5c083a6eefdade588346c30a95c106"), looks := true }, kinds := [], alts := [], laidByText := true, laidKinds := [.data, .data, .data, .data, .sentinel, .sentinel, .pinned], laidTests := true, laidLooks := .later }
def FnStringCardSaid : Prop := Claim7.holds Tryz.pinned (.plain (OpenSpec.ofChange fnStringSpec)) fnStringCard

/-- THE TIED CARD OF 'laws.FnExactCanon'. -/
def fnExactCanonCard : Claim7 := { stood := { row := fnExactCanonRow, standIns := [], harness := (true, "ae469ea692c425333990a868574b2d47bb5c083a6eefdade588346c30a95c106"), looks := true }, kinds := [], alts := [], laidByText := true, laidKinds := [.data, .data, .data, .data, .sentinel, .sentinel, .pinned], laidTests := true, laidLooks := .later }
def FnExactCanonCardSaid : Prop := Claim7.holds Tryz.pinned (.plain (OpenSpec.ofChange fnExactCanonSpec)) fnExactCanonCard

/-- THE TIED CARD OF 'laws.FnExactMeasure'. -/
def fnExactMeasureCard : Claim7 := { stood := { row := fnExactMeasureRow, standIns := [], harness := (true, "ae469ea692c425333990a868574b2d47bb5c083a6eefdade588346c30a95c106"), looks := true }, kinds := [], alts := [], laidByText := true, laidKinds := [.data, .data, .data, .data, .sentinel, .sentinel, .pinned], laidTests := true, laidLooks := .later }
def FnExactMeasureCardSaid : Prop := Claim7.holds Tryz.pinned (.plain (OpenSpec.ofChange fnExactMeasureSpec)) fnExactMeasureCard

/-- THE TIED CARD OF 'laws.FnExactPlaces'. -/
def fnExactPlacesCard : Claim7 := { stood := { row := fnExactPlacesRow, standIns := [], harness := (true, "ae469ea692c425333990a868574b2d47bb5c083a6eefdade588346c30a95c106"), looks := true }, kinds := [], alts := [], laidByText := true, laidKinds := [.data, .data, .data, .data, .sentinel, .sentinel, .pinned], laidTests := true, laidLooks := .later }
def FnExactPlacesCardSaid : Prop := Claim7.holds Tryz.pinned (.plain (OpenSpec.ofChange fnExactPlacesSpec)) fnExactPlacesCard

/-- THE SECOND FORM's CARD OF 'laws.FnString'. -/
def fnStringUptoCard : Claim7 := { stood := { row := fnStringUptoRow, standIns := [], harness := (true, "ae469ea692c425333990a868574b2d47bb5c083a6eefdade588346c30a95c106"), looks := true }, kinds := [], alts := [], laidByText := true, laidKinds := [.data, .data, .data, .data, .sentinel, .sentinel, .pinned], laidTests := true, laidLooks := .later }
def FnStringUptoCardSaid : Prop := Claim7.holds Tryz.pinned (.plain (OpenSpec.upto fnStringSpec)) fnStringUptoCard

/-- THE SECOND FORM's CARD OF 'laws.FnExactCanon'. -/
def fnExactCanonUptoCard : Claim7 := { stood := { row := fnExactCanonUptoRow, standIns := [], harness := (true, "ae469ea692c425333990a868574b2d47bb5c083a6eefdade588346c30a95c106"), looks := true }, kinds := [], alts := [], laidByText := true, laidKinds := [.data, .data, .data, .data, .sentinel, .sentinel, .pinned], laidTests := true, laidLooks := .later }
def FnExactCanonUptoCardSaid : Prop := Claim7.holds Tryz.pinned (.plain (OpenSpec.upto fnExactCanonSpec)) fnExactCanonUptoCard

/-- THE SECOND FORM's CARD OF 'laws.FnExactMeasure'. -/
def fnExactMeasureUptoCard : Claim7 := { stood := { row := fnExactMeasureUptoRow, standIns := [], harness := (true, "ae469ea692c425333990a868574b2d47bb5c083a6eefdade588346c30a95c106"), looks := true }, kinds := [], alts := [], laidByText := true, laidKinds := [.data, .data, .data, .data, .sentinel, .sentinel, .pinned], laidTests := true, laidLooks := .later }
def FnExactMeasureUptoCardSaid : Prop := Claim7.holds Tryz.pinned (.plain (OpenSpec.upto fnExactMeasureSpec)) fnExactMeasureUptoCard

/-- THE SECOND FORM's CARD OF 'laws.FnExactPlaces'. -/
def fnExactPlacesUptoCard : Claim7 := { stood := { row := fnExactPlacesUptoRow, standIns := [], harness := (true, "ae469ea692c425333990a868574b2d47bb5c083a6eefdade588346c30a95c106"), looks := true }, kinds := [], alts := [], laidByText := true, laidKinds := [.data, .data, .data, .data, .sentinel, .sentinel, .pinned], laidTests := true, laidLooks := .later }
def FnExactPlacesUptoCardSaid : Prop := Claim7.holds Tryz.pinned (.plain (OpenSpec.upto fnExactPlacesSpec)) fnExactPlacesUptoCard
end Rows
end Go.Proofs.YtadefcohbkgbfabGreatDoor
