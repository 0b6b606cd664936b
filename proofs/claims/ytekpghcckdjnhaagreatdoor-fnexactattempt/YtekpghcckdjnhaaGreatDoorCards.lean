/-
  DERIVED. GIVEN WITH THE SEED: THE CARDS: each row of YtekpghcckdjnhaaGreatDoorRows.lean that lists a variable, with what it lists TIED to the program's text (the seventh form; the later family's looks); each row that meets fmt, with fmt's text TOLD by the authors' own Lean function (tested against real Go, not proved from fmt's source: count such statements apart). THE CARD IS WHAT COUNTS. Prove the row's statement (the work); the ties are given (YtekpghcckdjnhaaGreatDoorTie.lean); close each card by the builder's one call (the guide's Derived/Test/ToyasCard.lean, 'card_holds'). Laid BY PROGRAM, IN A SANDBOX (cutbox-door.mjs). By AI agents, Wed Nov 11 2026. No macro, syntax, notation, axiom, sorry.
-/
import Derived.Test.YtekpghcckdjnhaaGreatDoorRows
import GoSem.ClaimSeven
namespace Go.Proofs.YtekpghcckdjnhaaGreatDoor
namespace Rows

/-- THE TIED CARD OF 'laws.FnExactBegin'. -/
def fnExactBeginCard : Claim7 := { stood := { row := fnExactBeginRow, standIns := [], harness := (true, "df24390fa65adbc3979dbf4e18591613d14fa0f280f4dc77e6f107ded84f5178"), looks := true }, kinds := [], alts := [], laidByText := true, laidKinds := [.data, .data, .data, .data, .handle, .sentinel, .sentinel, .pinned], laidTests := true, laidLooks := .later }
def FnExactBeginCardSaid : Prop := Claim7.holds Tryz.pinned (.plain (OpenSpec.ofChange fnExactBeginSpec)) fnExactBeginCard

/-- THE TIED CARD OF 'laws.FnExactAttempt'. -/
def fnExactAttemptCard : Claim7 := { stood := { row := fnExactAttemptRow, standIns := [], harness := (true, "df24390fa65adbc3979dbf4e18591613d14fa0f280f4dc77e6f107ded84f5178"), looks := true }, kinds := [], alts := [], laidByText := true, laidKinds := [.data, .data, .data, .data, .handle, .sentinel, .sentinel, .pinned], laidTests := true, laidLooks := .later }
def FnExactAttemptCardSaid : Prop := Claim7.holds Tryz.pinned (.plain (OpenSpec.ofChange fnExactAttemptSpec)) fnExactAttemptCard

/-- THE SECOND FORM's CARD OF 'laws.FnExactBegin'. -/
def fnExactBeginUptoCard : Claim7 := { stood := { row := fnExactBeginUptoRow, standIns := [], harness := (true, "df24390fa65adbc3979dbf4e18591613d14fa0f280f4dc77e6f107ded84f5178"), looks := true }, kinds := [], alts := [], laidByText := true, laidKinds := [.data, .data, .data, .data, .handle, .sentinel, .sentinel, .pinned], laidTests := true, laidLooks := .later }
def FnExactBeginUptoCardSaid : Prop := Claim7.holds Tryz.pinned (.plain (OpenSpec.upto fnExactBeginSpec)) fnExactBeginUptoCard

/-- THE SECOND FORM's CARD OF 'laws.FnExactAttempt'. -/
def fnExactAttemptUptoCard : Claim7 := { stood := { row := fnExactAttemptUptoRow, standIns := [], harness := (true, "df24390fa65adbc3979dbf4e18591613d14fa0f280f4dc77e6f107ded84f5178"), looks := true }, kinds := [], alts := [], laidByText := true, laidKinds := [.data, .data, .data, .data, .handle, .sentinel, .sentinel, .pinned], laidTests := true, laidLooks := .later }
def FnExactAttemptUptoCardSaid : Prop := Claim7.holds Tryz.pinned (.plain (OpenSpec.upto fnExactAttemptSpec)) fnExactAttemptUptoCard
end Rows
end Go.Proofs.YtekpghcckdjnhaaGreatDoor
