/-
  DERIVED. GIVEN WITH THE SEED: THE CARDS: each row of YtocnekbedcnmgaaGreatDoorRows.lean that lists a variable, with what it lists TIED to the program's text (the seventh form; the later family's looks); each row that meets fmt, with fmt's text TOLD by the authors' own Lean function (tested against real Go, not proved from fmt's source: count such statements apart). THE CARD IS WHAT COUNTS. Prove the row's statement (the work); the ties are given (YtocnekbedcnmgaaGreatDoorTie.lean); close each card by the builder's one call (the guide's Derived/Test/ToyasCard.lean, 'card_holds'). Laid BY PROGRAM, IN A SANDBOX (cutbox-door.mjs). By AI agents, Wed Nov 11 2026. No macro, syntax, notation, axiom, sorry.
-/
import Derived.Test.YtocnekbedcnmgaaGreatDoorRows
import GoSem.ClaimSeven
namespace Go.Proofs.YtocnekbedcnmgaaGreatDoor
namespace Rows

/-- THE TIED CARD OF 'laws.FnExactDecodePatch'. -/
def fnExactDecodePatchCard : Claim7 := { stood := { row := fnExactDecodePatchRow, standIns := [], harness := (true, "3f59dfd3bc0a856e1e6b559b8319662bbd0c56212d53a333006a03ef6f27f91a"), looks := true }, kinds := [], alts := [], laidByText := true, laidKinds := [.data, .data, .data, .data, .sentinel, .sentinel, .pinned], laidTests := true, laidLooks := .later }
def FnExactDecodePatchCardSaid : Prop := Claim7.holds Tryz.pinned (.plain (OpenSpec.ofChange fnExactDecodePatchSpec)) fnExactDecodePatchCard

/-- THE TIED CARD OF 'laws.FnExactDiff'. -/
def fnExactDiffCard : Claim7 := { stood := { row := fnExactDiffRow, standIns := [], harness := (true, "3f59dfd3bc0a856e1e6b559b8319662bbd0c56212d53a333006a03ef6f27f91a"), looks := true }, kinds := [], alts := [], laidByText := true, laidKinds := [.data, .data, .data, .data, .sentinel, .sentinel, .pinned], laidTests := true, laidLooks := .later }
def FnExactDiffCardSaid : Prop := Claim7.holds Tryz.pinned (.plain (OpenSpec.ofChange fnExactDiffSpec)) fnExactDiffCard

/-- THE TIED CARD OF 'laws.FnExactApply'. -/
def fnExactApplyCard : Claim7 := { stood := { row := fnExactApplyRow, standIns := [], harness := (true, "3f59dfd3bc0a856e1e6b559b8319662bbd0c56212d53a333006a03ef6f27f91a"), looks := true }, kinds := [], alts := [], laidByText := true, laidKinds := [.data, .data, .data, .data, .handle, .sentinel, .sentinel, .pinned], laidTests := true, laidLooks := .later }
def FnExactApplyCardSaid : Prop := Claim7.holds Tryz.pinned (.plain (OpenSpec.ofChange fnExactApplySpec)) fnExactApplyCard

/-- THE TIED CARD OF 'laws.FnPlaces'. -/
def fnPlacesCard : Claim7 := { stood := { row := fnPlacesRow, standIns := [], harness := (true, "3f59dfd3bc0a856e1e6b559b8319662bbd0c56212d53a333006a03ef6f27f91a"), looks := true }, kinds := [], alts := [], laidByText := true, laidKinds := [.data, .data, .data, .data, .sentinel, .sentinel, .pinned], laidTests := true, laidLooks := .later }
def FnPlacesCardSaid : Prop := Claim7.holds Tryz.pinned (.plain (OpenSpec.ofChange fnPlacesSpec)) fnPlacesCard

/-- THE TIED CARD OF 'laws.FnDiff'. -/
def fnDiffCard : Claim7 := { stood := { row := fnDiffRow, standIns := [], harness := (true, "3f59dfd3bc0a856e1e6b559b8319662bbd0c56212d53a333006a03ef6f27f91a"), looks := true }, kinds := [], alts := [], laidByText := true, laidKinds := [.data, .data, .data, .data, .handle, .sentinel, .sentinel, .pinned], laidTests := true, laidLooks := .later }
def FnDiffCardSaid : Prop := Claim7.holds Tryz.pinned (.plain (OpenSpec.ofChange fnDiffSpec)) fnDiffCard

/-- THE TIED CARD OF 'laws.FnPatchText'. -/
def fnPatchTextCard : Claim7 := { stood := { row := fnPatchTextRow, standIns := [], harness := (true, "3f59dfd3bc0a856e1e6b559b8319662bbd0c56212d53a333006a03ef6f27f91a"), looks := true }, kinds := [], alts := [], laidByText := true, laidKinds := [.data, .data, .data, .data, .sentinel, .sentinel, .pinned], laidTests := true, laidLooks := .later }
def FnPatchTextCardSaid : Prop := Claim7.holds Tryz.pinned (.plain (OpenSpec.ofChange fnPatchTextSpec)) fnPatchTextCard

/-- THE SECOND FORM's CARD OF 'laws.FnExactDecodePatch'. -/
def fnExactDecodePatchUptoCard : Claim7 := { stood := { row := fnExactDecodePatchUptoRow, standIns := [], harness := (true, "3f59dfd3bc0a856e1e6b559b8319662bbd0c56212d53a333006a03ef6f27f91a"), looks := true }, kinds := [], alts := [], laidByText := true, laidKinds := [.data, .data, .data, .data, .sentinel, .sentinel, .pinned], laidTests := true, laidLooks := .later }
def FnExactDecodePatchUptoCardSaid : Prop := Claim7.holds Tryz.pinned (.plain (OpenSpec.upto fnExactDecodePatchSpec)) fnExactDecodePatchUptoCard

/-- THE SECOND FORM's CARD OF 'laws.FnExactDiff'. -/
def fnExactDiffUptoCard : Claim7 := { stood := { row := fnExactDiffUptoRow, standIns := [], harness := (true, "3f59dfd3bc0a856e1e6b559b8319662bbd0c56212d53a333006a03ef6f27f91a"), looks := true }, kinds := [], alts := [], laidByText := true, laidKinds := [.data, .data, .data, .data, .sentinel, .sentinel, .pinned], laidTests := true, laidLooks := .later }
def FnExactDiffUptoCardSaid : Prop := Claim7.holds Tryz.pinned (.plain (OpenSpec.upto fnExactDiffSpec)) fnExactDiffUptoCard

/-- THE SECOND FORM's CARD OF 'laws.FnExactApply'. -/
def fnExactApplyUptoCard : Claim7 := { stood := { row := fnExactApplyUptoRow, standIns := [], harness := (true, "3f59dfd3bc0a856e1e6b559b8319662bbd0c56212d53a333006a03ef6f27f91a"), looks := true }, kinds := [], alts := [], laidByText := true, laidKinds := [.data, .data, .data, .data, .handle, .sentinel, .sentinel, .pinned], laidTests := true, laidLooks := .later }
def FnExactApplyUptoCardSaid : Prop := Claim7.holds Tryz.pinned (.plain (OpenSpec.upto fnExactApplySpec)) fnExactApplyUptoCard

/-- THE SECOND FORM's CARD OF 'laws.FnPlaces'. -/
def fnPlacesUptoCard : Claim7 := { stood := { row := fnPlacesUptoRow, standIns := [], harness := (true, "3f59dfd3bc0a856e1e6b559b8319662bbd0c56212d53a333006a03ef6f27f91a"), looks := true }, kinds := [], alts := [], laidByText := true, laidKinds := [.data, .data, .data, .data, .sentinel, .sentinel, .pinned], laidTests := true, laidLooks := .later }
def FnPlacesUptoCardSaid : Prop := Claim7.holds Tryz.pinned (.plain (OpenSpec.upto fnPlacesSpec)) fnPlacesUptoCard

/-- THE SECOND FORM's CARD OF 'laws.FnDiff'. -/
def fnDiffUptoCard : Claim7 := { stood := { row := fnDiffUptoRow, standIns := [], harness := (true, "3f59dfd3bc0a856e1e6b559b8319662bbd0c56212d53a333006a03ef6f27f91a"), looks := true }, kinds := [], alts := [], laidByText := true, laidKinds := [.data, .data, .data, .data, .handle, .sentinel, .sentinel, .pinned], laidTests := true, laidLooks := .later }
def FnDiffUptoCardSaid : Prop := Claim7.holds Tryz.pinned (.plain (OpenSpec.upto fnDiffSpec)) fnDiffUptoCard

/-- THE SECOND FORM's CARD OF 'laws.FnPatchText'. -/
def fnPatchTextUptoCard : Claim7 := { stood := { row := fnPatchTextUptoRow, standIns := [], harness := (true, "3f59dfd3bc0a856e1e6b559b8319662bbd0c56212d53a333006a03ef6f27f91a"), looks := true }, kinds := [], alts := [], laidByText := true, laidKinds := [.data, .data, .data, .data, .sentinel, .sentinel, .pinned], laidTests := true, laidLooks := .later }
def FnPatchTextUptoCardSaid : Prop := Claim7.holds Tryz.pinned (.plain (OpenSpec.upto fnPatchTextSpec)) fnPatchTextUptoCard
end Rows
end Go.Proofs.YtocnekbedcnmgaaGreatDoor
