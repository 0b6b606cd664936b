/-
  DERIVED. GIVEN WITH THE SEED: THE CARDS: each row of YtpaecnbdoljafaaGreatDoorRows.lean that lists a variable, with what it lists TIED to the program's text (the seventh form; the later family's looks); each row that meets fmt, with fmt's text TOLD by the authors' own Lean function (tested against real Go, not proved from fmt's source: count such statements apart). THE CARD IS WHAT COUNTS. Prove the row's statement (the work); the ties are given (YtpaecnbdoljafaaGreatDoorTie.lean); close each card by the builder's one call (the guide's Derived/Test/ToyasCard.lean, 'card_holds'). Laid BY PROGRAM, IN A SANDBOX (cutbox-door.mjs). By AI agents, Wed Nov 11 2026. No macro, syntax, notation, axiom, sorry.
-/
import Derived.Test.YtpaecnbdoljafaaGreatDoorRows
import GoSem.ClaimSeven
namespace Go.Proofs.YtpaecnbdoljafaaGreatDoor
namespace Rows

/-- THE TIED CARD OF 'laws.FnDiff'. -/
def fnDiffCard : Claim7 := { stood := { row := fnDiffRow, standIns := [], harness := (true, "5337f9bd3c41cdd47b1f70181e258b6c36fbec2634423530e0770b2b9ef55fca"), looks := true }, kinds := [], alts := [], laidByText := true, laidKinds := [.data, .data, .data, .data, .handle, .sentinel, .sentinel, .pinned], laidTests := true, laidLooks := .later }
def FnDiffCardSaid : Prop := Claim7.holds Tryz.pinned (.plain (OpenSpec.ofChange fnDiffSpec)) fnDiffCard

/-- THE TIED CARD OF 'laws.FnCommute'. -/
def fnCommuteCard : Claim7 := { stood := { row := fnCommuteRow, standIns := [], harness := (true, "5337f9bd3c41cdd47b1f70181e258b6c36fbec2634423530e0770b2b9ef55fca"), looks := true }, kinds := [], alts := [], laidByText := true, laidKinds := [.data, .data, .data, .data, .handle, .sentinel, .sentinel, .pinned], laidTests := true, laidLooks := .later }
def FnCommuteCardSaid : Prop := Claim7.holds Tryz.pinned (.plain (OpenSpec.ofChange fnCommuteSpec)) fnCommuteCard

/-- THE TIED CARD OF 'laws.FnPatchText'. -/
def fnPatchTextCard : Claim7 := { stood := { row := fnPatchTextRow, standIns := [], harness := (true, "5337f9bd3c41cdd47b1f70181e258b6c36fbec2634423530e0770b2b9ef55fca"), looks := true }, kinds := [], alts := [], laidByText := true, laidKinds := [.data, .data, .data, .data, .sentinel, .sentinel, .pinned], laidTests := true, laidLooks := .later }
def FnPatchTextCardSaid : Prop := Claim7.holds Tryz.pinned (.plain (OpenSpec.ofChange fnPatchTextSpec)) fnPatchTextCard

/-- THE SECOND FORM's CARD OF 'laws.FnDiff'. -/
def fnDiffUptoCard : Claim7 := { stood := { row := fnDiffUptoRow, standIns := [], harness := (true, "5337f9bd3c41cdd47b1f70181e258b6c36fbec2634423530e0770b2b9ef55fca"), looks := true }, kinds := [], alts := [], laidByText := true, laidKinds := [.data, .data, .data, .data, .handle, .sentinel, .sentinel, .pinned], laidTests := true, laidLooks := .later }
def FnDiffUptoCardSaid : Prop := Claim7.holds Tryz.pinned (.plain (OpenSpec.upto fnDiffSpec)) fnDiffUptoCard

/-- THE SECOND FORM's CARD OF 'laws.FnCommute'. -/
def fnCommuteUptoCard : Claim7 := { stood := { row := fnCommuteUptoRow, standIns := [], harness := (true, "5337f9bd3c41cdd47b1f70181e258b6c36fbec2634423530e0770b2b9ef55fca"), looks := true }, kinds := [], alts := [], laidByText := true, laidKinds := [.data, .data, .data, .data, .handle, .sentinel, .sentinel, .pinned], laidTests := true, laidLooks := .later }
def FnCommuteUptoCardSaid : Prop := Claim7.holds Tryz.pinned (.plain (OpenSpec.upto fnCommuteSpec)) fnCommuteUptoCard

/-- THE SECOND FORM's CARD OF 'laws.FnPatchText'. -/
def fnPatchTextUptoCard : Claim7 := { stood := { row := fnPatchTextUptoRow, standIns := [], harness := (true, "5337f9bd3c41cdd47b1f70181e258b6c36fbec2634423530e0770b2b9ef55fca"), looks := true }, kinds := [], alts := [], laidByText := true, laidKinds := [.data, .data, .data, .data, .sentinel, .sentinel, .pinned], laidTests := true, laidLooks := .later }
def FnPatchTextUptoCardSaid : Prop := Claim7.holds Tryz.pinned (.plain (OpenSpec.upto fnPatchTextSpec)) fnPatchTextUptoCard
end Rows
end Go.Proofs.YtpaecnbdoljafaaGreatDoor
