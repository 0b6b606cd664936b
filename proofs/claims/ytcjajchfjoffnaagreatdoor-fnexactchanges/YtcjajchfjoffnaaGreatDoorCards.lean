/-
  DERIVED. GIVEN WITH THE SEED: THE CARDS: each row of YtcjajchfjoffnaaGreatDoorRows.lean that lists a variable, with what it lists TIED to the program's text (the seventh form; the later family's looks); each row that meets fmt, with fmt's text TOLD by the authors' own Lean function (tested against real Go, not proved from fmt's source: count such statements apart). THE CARD IS WHAT COUNTS. Prove the row's statement (the work); the ties are given (YtcjajchfjoffnaaGreatDoorTie.lean); close each card by the builder's one call (the guide's Derived/Test/ToyasCard.lean, 'card_holds'). Laid BY PROGRAM, IN A SANDBOX (cutbox-door.mjs). By AI agents, Wed Nov 11 2026. No macro, syntax, notation, axiom, sorry.
-/
import Derived.Test.YtcjajchfjoffnaaGreatDoorRows
import GoSem.ClaimSeven
namespace Go.Proofs.YtcjajchfjoffnaaGreatDoor
namespace Rows

/-- THE TIED CARD OF 'laws.FnExactOpen'. -/
def fnExactOpenCard : Claim7 := { stood := { row := fnExactOpenRow, standIns := [], harness := (true, "9bcd776692457352bbb6a8ca7a524bcbea281a17f714532ace6c7fe4864f28f3"), looks := true }, kinds := [], alts := [], laidByText := true, laidKinds := [.data, .data, .data, .data, .sentinel, .sentinel, .pinned], laidTests := true, laidLooks := .later }
def FnExactOpenCardSaid : Prop := Claim7.holds Tryz.pinned (.plain (OpenSpec.ofChange fnExactOpenSpec)) fnExactOpenCard

/-- THE TIED CARD OF 'laws.FnExactStoreOk'. -/
def fnExactStoreOkCard : Claim7 := { stood := { row := fnExactStoreOkRow, standIns := [], harness := (true, "9bcd776692457352bbb6a8ca7a524bcbea281a17f714532ace6c7fe4864f28f3"), looks := true }, kinds := [], alts := [], laidByText := true, laidKinds := [.data, .data, .data, .data, .sentinel, .sentinel, .pinned], laidTests := true, laidLooks := .later }
def FnExactStoreOkCardSaid : Prop := Claim7.holds Tryz.pinned (.plain (OpenSpec.ofChange fnExactStoreOkSpec)) fnExactStoreOkCard

/-- THE TIED CARD OF 'laws.FnExactEncodePatch'. -/
def fnExactEncodePatchCard : Claim7 := { stood := { row := fnExactEncodePatchRow, standIns := [], harness := (true, "9bcd776692457352bbb6a8ca7a524bcbea281a17f714532ace6c7fe4864f28f3"), looks := true }, kinds := [], alts := [], laidByText := true, laidKinds := [.data, .data, .data, .data, .sentinel, .sentinel, .pinned], laidTests := true, laidLooks := .later }
def FnExactEncodePatchCardSaid : Prop := Claim7.holds Tryz.pinned (.plain (OpenSpec.ofChange fnExactEncodePatchSpec)) fnExactEncodePatchCard

/-- THE TIED CARD OF 'laws.FnExactTouched'. -/
def fnExactTouchedCard : Claim7 := { stood := { row := fnExactTouchedRow, standIns := [], harness := (true, "9bcd776692457352bbb6a8ca7a524bcbea281a17f714532ace6c7fe4864f28f3"), looks := true }, kinds := [], alts := [], laidByText := true, laidKinds := [.data, .data, .data, .data, .sentinel, .sentinel, .pinned], laidTests := true, laidLooks := .later }
def FnExactTouchedCardSaid : Prop := Claim7.holds Tryz.pinned (.plain (OpenSpec.ofChange fnExactTouchedSpec)) fnExactTouchedCard

/-- THE TIED CARD OF 'laws.FnExactChanges'. -/
def fnExactChangesCard : Claim7 := { stood := { row := fnExactChangesRow, standIns := [], harness := (true, "9bcd776692457352bbb6a8ca7a524bcbea281a17f714532ace6c7fe4864f28f3"), looks := true }, kinds := [], alts := [], laidByText := true, laidKinds := [.data, .data, .data, .data, .sentinel, .sentinel, .pinned], laidTests := true, laidLooks := .later }
def FnExactChangesCardSaid : Prop := Claim7.holds Tryz.pinned (.plain (OpenSpec.ofChange fnExactChangesSpec)) fnExactChangesCard

/-- THE TIED CARD OF 'laws.FnExactDecodePatch'. -/
def fnExactDecodePatchCard : Claim7 := { stood := { row := fnExactDecodePatchRow, standIns := [], harness := (true, "9bcd776692457352bbb6a8ca7a524bcbea281a17f714532ace6c7fe4864f28f3"), looks := true }, kinds := [], alts := [], laidByText := true, laidKinds := [.data, .data, .data, .data, .sentinel, .sentinel, .pinned], laidTests := true, laidLooks := .later }
def FnExactDecodePatchCardSaid : Prop := Claim7.holds Tryz.pinned (.plain (OpenSpec.ofChange fnExactDecodePatchSpec)) fnExactDecodePatchCard

/-- THE SECOND FORM's CARD OF 'laws.FnExactOpen'. -/
def fnExactOpenUptoCard : Claim7 := { stood := { row := fnExactOpenUptoRow, standIns := [], harness := (true, "9bcd776692457352bbb6a8ca7a524bcbea281a17f714532ace6c7fe4864f28f3"), looks := true }, kinds := [], alts := [], laidByText := true, laidKinds := [.data, .data, .data, .data, .sentinel, .sentinel, .pinned], laidTests := true, laidLooks := .later }
def FnExactOpenUptoCardSaid : Prop := Claim7.holds Tryz.pinned (.plain (OpenSpec.upto fnExactOpenSpec)) fnExactOpenUptoCard

/-- THE SECOND FORM's CARD OF 'laws.FnExactStoreOk'. -/
def fnExactStoreOkUptoCard : Claim7 := { stood := { row := fnExactStoreOkUptoRow, standIns := [], harness := (true, "9bcd776692457352bbb6a8ca7a524bcbea281a17f714532ace6c7fe4864f28f3"), looks := true }, kinds := [], alts := [], laidByText := true, laidKinds := [.data, .data, .data, .data, .sentinel, .sentinel, .pinned], laidTests := true, laidLooks := .later }
def FnExactStoreOkUptoCardSaid : Prop := Claim7.holds Tryz.pinned (.plain (OpenSpec.upto fnExactStoreOkSpec)) fnExactStoreOkUptoCard

/-- THE SECOND FORM's CARD OF 'laws.FnExactEncodePatch'. -/
def fnExactEncodePatchUptoCard : Claim7 := { stood := { row := fnExactEncodePatchUptoRow, standIns := [], harness := (true, "9bcd776692457352bbb6a8ca7a524bcbea281a17f714532ace6c7fe4864f28f3"), looks := true }, kinds := [], alts := [], laidByText := true, laidKinds := [.data, .data, .data, .data, .sentinel, .sentinel, .pinned], laidTests := true, laidLooks := .later }
def FnExactEncodePatchUptoCardSaid : Prop := Claim7.holds Tryz.pinned (.plain (OpenSpec.upto fnExactEncodePatchSpec)) fnExactEncodePatchUptoCard

/-- THE SECOND FORM's CARD OF 'laws.FnExactTouched'. -/
def fnExactTouchedUptoCard : Claim7 := { stood := { row := fnExactTouchedUptoRow, standIns := [], harness := (true, "9bcd776692457352bbb6a8ca7a524bcbea281a17f714532ace6c7fe4864f28f3"), looks := true }, kinds := [], alts := [], laidByText := true, laidKinds := [.data, .data, .data, .data, .sentinel, .sentinel, .pinned], laidTests := true, laidLooks := .later }
def FnExactTouchedUptoCardSaid : Prop := Claim7.holds Tryz.pinned (.plain (OpenSpec.upto fnExactTouchedSpec)) fnExactTouchedUptoCard

/-- THE SECOND FORM's CARD OF 'laws.FnExactChanges'. -/
def fnExactChangesUptoCard : Claim7 := { stood := { row := fnExactChangesUptoRow, standIns := [], harness := (true, "9bcd776692457352bbb6a8ca7a524bcbea281a17f714532ace6c7fe4864f28f3"), looks := true }, kinds := [], alts := [], laidByText := true, laidKinds := [.data, .data, .data, .data, .sentinel, .sentinel, .pinned], laidTests := true, laidLooks := .later }
def FnExactChangesUptoCardSaid : Prop := Claim7.holds Tryz.pinned (.plain (OpenSpec.upto fnExactChangesSpec)) fnExactChangesUptoCard

/-- THE SECOND FORM's CARD OF 'laws.FnExactDecodePatch'. -/
def fnExactDecodePatchUptoCard : Claim7 := { stood := { row := fnExactDecodePatchUptoRow, standIns := [], harness := (true, "9bcd776692457352bbb6a8ca7a524bcbea281a17f714532ace6c7fe4864f28f3"), looks := true }, kinds := [], alts := [], laidByText := true, laidKinds := [.data, .data, .data, .data, .sentinel, .sentinel, .pinned], laidTests := true, laidLooks := .later }
def FnExactDecodePatchUptoCardSaid : Prop := Claim7.holds Tryz.pinned (.plain (OpenSpec.upto fnExactDecodePatchSpec)) fnExactDecodePatchUptoCard
end Rows
end Go.Proofs.YtcjajchfjoffnaaGreatDoor
