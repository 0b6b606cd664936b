/-
  DERIVED. GIVEN WITH THE SEED: THE CARDS: each row of YtgoafoojaceadaaGreatDoorRows.lean that lists a variable, with what it lists TIED to the program's text (the seventh form; the later family's looks); each row that meets fmt, with fmt's text TOLD by the authors' own Lean function (tested against real Go, not proved from fmt's source: count such statements apart). THE CARD IS WHAT COUNTS. Prove the row's statement (the work); the ties are given (YtgoafoojaceadaaGreatDoorTie.lean); close each card by the builder's one call (the guide's Derived/Test/ToyasCard.lean, 'card_holds'). Laid BY PROGRAM, IN A SANDBOX (cutbox-door.mjs). By AI agents, Wed Nov 11 2026. No macro, syntax, notation, axiom, sorry.
-/
import Derived.Test.YtgoafoojaceadaaGreatDoorRows
import GoSem.ClaimSeven
namespace Go.Proofs.YtgoafoojaceadaaGreatDoor
namespace Rows

/-- THE TIED CARD OF 'laws.FnAlone'. -/
def fnAloneCard : Claim7 := { stood := { row := fnAloneRow, standIns := [], harness := (true, "5116fcdf97176cdf9e94d8f0d75156cfb8b35c115f5196cc0a96c536bb7b4213"), looks := true }, kinds := [], alts := [], laidByText := true, laidKinds := [.data, .data, .data, .data, .handle, .sentinel, .sentinel, .pinned], laidTests := true, laidLooks := .later }
def FnAloneCardSaid : Prop := Claim7.holds Tryz.pinned (.plain (OpenSpec.ofChange fnAloneSpec)) fnAloneCard

/-- THE TIED CARD OF 'laws.FnCarried'. -/
def fnCarriedCard : Claim7 := { stood := { row := fnCarriedRow, standIns := [], harness := (true, "5116fcdf97176cdf9e94d8f0d75156cfb8b35c115f5196cc0a96c536bb7b4213"), looks := true }, kinds := [], alts := [], laidByText := true, laidKinds := [.data, .data, .data, .data, .handle, .sentinel, .sentinel, .pinned], laidTests := true, laidLooks := .later }
def FnCarriedCardSaid : Prop := Claim7.holds Tryz.pinned (.plain (OpenSpec.ofChange fnCarriedSpec)) fnCarriedCard

/-- THE SECOND FORM's CARD OF 'laws.FnAlone'. -/
def fnAloneUptoCard : Claim7 := { stood := { row := fnAloneUptoRow, standIns := [], harness := (true, "5116fcdf97176cdf9e94d8f0d75156cfb8b35c115f5196cc0a96c536bb7b4213"), looks := true }, kinds := [], alts := [], laidByText := true, laidKinds := [.data, .data, .data, .data, .handle, .sentinel, .sentinel, .pinned], laidTests := true, laidLooks := .later }
def FnAloneUptoCardSaid : Prop := Claim7.holds Tryz.pinned (.plain (OpenSpec.upto fnAloneSpec)) fnAloneUptoCard

/-- THE SECOND FORM's CARD OF 'laws.FnCarried'. -/
def fnCarriedUptoCard : Claim7 := { stood := { row := fnCarriedUptoRow, standIns := [], harness := (true, "5116fcdf97176cdf9e94d8f0d75156cfb8b35c115f5196cc0a96c536bb7b4213"), looks := true }, kinds := [], alts := [], laidByText := true, laidKinds := [.data, .data, .data, .data, .handle, .sentinel, .sentinel, .pinned], laidTests := true, laidLooks := .later }
def FnCarriedUptoCardSaid : Prop := Claim7.holds Tryz.pinned (.plain (OpenSpec.upto fnCarriedSpec)) fnCarriedUptoCard
end Rows
end Go.Proofs.YtgoafoojaceadaaGreatDoor
