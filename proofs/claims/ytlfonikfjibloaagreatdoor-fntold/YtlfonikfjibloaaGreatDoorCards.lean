/-
  DERIVED. GIVEN WITH THE SEED: THE CARDS: each row of YtlfonikfjibloaaGreatDoorRows.lean that lists a variable, with what it lists TIED to the program's text (the seventh form; the later family's looks); each row that meets fmt, with fmt's text TOLD by the authors' own Lean function (tested against real Go, not proved from fmt's source: count such statements apart). THE CARD IS WHAT COUNTS. Prove the row's statement (the work); the ties are given (YtlfonikfjibloaaGreatDoorTie.lean); close each card by the builder's one call (the guide's Derived/Test/ToyasCard.lean, 'card_holds'). Laid BY PROGRAM, IN A SANDBOX (cutbox-door.mjs). By AI agents, Wed Nov 11 2026. No macro, syntax, notation, axiom, sorry.
-/
import Derived.Test.YtlfonikfjibloaaGreatDoorRows
import GoSem.ClaimSeven
namespace Go.Proofs.YtlfonikfjibloaaGreatDoor
namespace Rows

/-- THE TIED CARD OF 'laws.FnExactPathText'. -/
def fnExactPathTextCard : Claim7 := { stood := { row := fnExactPathTextRow, standIns := [], harness := (true, "e4c2bc5ae2194bd4cd50056ef00f40f98ee5a903c619cc4d594e11e74da3ba29"), looks := true }, kinds := [], alts := [], laidByText := true, laidKinds := [.data, .data, .data], laidTests := true, laidLooks := .later }
def FnExactPathTextCardSaid : Prop := Claim7.holds Tryz.pinned (.plain (OpenSpec.ofChange fnExactPathTextSpec)) fnExactPathTextCard

/-- THE TIED CARD OF 'laws.FnExactDecodePatch'. -/
def fnExactDecodePatchCard : Claim7 := { stood := { row := fnExactDecodePatchRow, standIns := [], harness := (true, "e4c2bc5ae2194bd4cd50056ef00f40f98ee5a903c619cc4d594e11e74da3ba29"), looks := true }, kinds := [], alts := [], laidByText := true, laidKinds := [.data, .data, .data, .data, .sentinel, .sentinel, .pinned], laidTests := true, laidLooks := .later }
def FnExactDecodePatchCardSaid : Prop := Claim7.holds Tryz.pinned (.plain (OpenSpec.ofChange fnExactDecodePatchSpec)) fnExactDecodePatchCard

/-- THE TIED CARD OF 'laws.FnExactEncodePatch'. -/
def fnExactEncodePatchCard : Claim7 := { stood := { row := fnExactEncodePatchRow, standIns := [], harness := (true, "e4c2bc5ae2194bd4cd50056ef00f40f98ee5a903c619cc4d594e11e74da3ba29"), looks := true }, kinds := [], alts := [], laidByText := true, laidKinds := [.data, .data, .data, .data, .sentinel, .sentinel, .pinned], laidTests := true, laidLooks := .later }
def FnExactEncodePatchCardSaid : Prop := Claim7.holds Tryz.pinned (.plain (OpenSpec.ofChange fnExactEncodePatchSpec)) fnExactEncodePatchCard

/-- THE TIED CARD OF 'laws.FnTold'. -/
def fnToldCard : Claim7 := { stood := { row := fnToldRow, standIns := [], harness := (true, "e4c2bc5ae2194bd4cd50056ef00f40f98ee5a903c619cc4d594e11e74da3ba29"), looks := true }, kinds := [], alts := [], laidByText := true, laidKinds := [.data, .pinned], laidTests := true, laidLooks := .later }
def FnToldCardSaid : Prop := Claim7.holds Tryz.pinned (.plain (OpenSpec.ofChange fnToldSpec)) fnToldCard

/-- THE SECOND FORM's CARD OF 'laws.FnExactPathText'. -/
def fnExactPathTextUptoCard : Claim7 := { stood := { row := fnExactPathTextUptoRow, standIns := [], harness := (true, "e4c2bc5ae2194bd4cd50056ef00f40f98ee5a903c619cc4d594e11e74da3ba29"), looks := true }, kinds := [], alts := [], laidByText := true, laidKinds := [.data, .data, .data], laidTests := true, laidLooks := .later }
def FnExactPathTextUptoCardSaid : Prop := Claim7.holds Tryz.pinned (.plain (OpenSpec.upto fnExactPathTextSpec)) fnExactPathTextUptoCard

/-- THE SECOND FORM's CARD OF 'laws.FnExactDecodePatch'. -/
def fnExactDecodePatchUptoCard : Claim7 := { stood := { row := fnExactDecodePatchUptoRow, standIns := [], harness := (true, "e4c2bc5ae2194bd4cd50056ef00f40f98ee5a903c619cc4d594e11e74da3ba29"), looks := true }, kinds := [], alts := [], laidByText := true, laidKinds := [.data, .data, .data, .data, .sentinel, .sentinel, .pinned], laidTests := true, laidLooks := .later }
def FnExactDecodePatchUptoCardSaid : Prop := Claim7.holds Tryz.pinned (.plain (OpenSpec.upto fnExactDecodePatchSpec)) fnExactDecodePatchUptoCard

/-- THE SECOND FORM's CARD OF 'laws.FnExactEncodePatch'. -/
def fnExactEncodePatchUptoCard : Claim7 := { stood := { row := fnExactEncodePatchUptoRow, standIns := [], harness := (true, "e4c2bc5ae2194bd4cd50056ef00f40f98ee5a903c619cc4d594e11e74da3ba29"), looks := true }, kinds := [], alts := [], laidByText := true, laidKinds := [.data, .data, .data, .data, .sentinel, .sentinel, .pinned], laidTests := true, laidLooks := .later }
def FnExactEncodePatchUptoCardSaid : Prop := Claim7.holds Tryz.pinned (.plain (OpenSpec.upto fnExactEncodePatchSpec)) fnExactEncodePatchUptoCard

/-- THE SECOND FORM's CARD OF 'laws.FnTold'. -/
def fnToldUptoCard : Claim7 := { stood := { row := fnToldUptoRow, standIns := [], harness := (true, "e4c2bc5ae2194bd4cd50056ef00f40f98ee5a903c619cc4d594e11e74da3ba29"), looks := true }, kinds := [], alts := [], laidByText := true, laidKinds := [.data, .pinned], laidTests := true, laidLooks := .later }
def FnToldUptoCardSaid : Prop := Claim7.holds Tryz.pinned (.plain (OpenSpec.upto fnToldSpec)) fnToldUptoCard
end Rows
end Go.Proofs.YtlfonikfjibloaaGreatDoor
