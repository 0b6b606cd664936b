/-
  DERIVED. GIVEN WITH THE SEED: THE CARDS: each row of YtbcfkkicmmhhcaaDoorRows.lean that lists a variable, with what it lists TIED to the program's text (the seventh form; the later family's looks); each row that meets fmt, with fmt's text TOLD by the authors' own Lean function (tested against real Go, not proved from fmt's source: count such statements apart). THE CARD IS WHAT COUNTS. Prove the row's statement (the work); the ties are given (YtbcfkkicmmhhcaaDoorTie.lean); close each card by the builder's one call (the guide's Derived/Test/ToyasCard.lean, 'card_holds'). Laid BY PROGRAM, IN A SANDBOX (cutbox-door.mjs). By AI agents, Wed Nov 11 2026. No macro, syntax, notation, axiom, sorry.
-/
import Derived.Test.YtbcfkkicmmhhcaaDoorRows
import GoSem.ClaimSeven
namespace Go.Proofs.YtbcfkkicmmhhcaaDoor
namespace Rows

/-- THE TIED CARD OF 'laws.FnExactParseScript'. -/
def fnExactParseScriptCard : Claim7 := { stood := { row := fnExactParseScriptRow, standIns := [], harness := (true, "1b16aed78aa83b114cba5ee56192afe96326cd2e6f6031d1aa9bb00a4222e96c"), looks := false }, kinds := [], alts := [], laidByText := true, laidKinds := [.data, .pinned], laidTests := true, laidLooks := .later }
def FnExactParseScriptCardSaid : Prop := Claim7.holds Tryd.pinned (.plain (OpenSpec.ofChange fnExactParseScriptSpec)) fnExactParseScriptCard

/-- THE TIED CARD OF 'laws.FnExactSubscribe'. -/
def fnExactSubscribeCard : Claim7 := { stood := { row := fnExactSubscribeRow, standIns := [], harness := (true, "1b16aed78aa83b114cba5ee56192afe96326cd2e6f6031d1aa9bb00a4222e96c"), looks := false }, kinds := [], alts := [], laidByText := true, laidKinds := [.data, .pinned], laidTests := true, laidLooks := .later }
def FnExactSubscribeCardSaid : Prop := Claim7.holds Tryd.pinned (.plain (OpenSpec.ofChange fnExactSubscribeSpec)) fnExactSubscribeCard

/-- THE TIED CARD OF 'laws.FnExactDispatch'. -/
def fnExactDispatchCard : Claim7 := { stood := { row := fnExactDispatchRow, standIns := [], harness := (true, "1b16aed78aa83b114cba5ee56192afe96326cd2e6f6031d1aa9bb00a4222e96c"), looks := false }, kinds := [], alts := [], laidByText := true, laidKinds := [.data, .pinned], laidTests := true, laidLooks := .later }
def FnExactDispatchCardSaid : Prop := Claim7.holds Tryd.pinned (.plain (OpenSpec.ofChange fnExactDispatchSpec)) fnExactDispatchCard

/-- THE SECOND FORM's CARD OF 'laws.FnExactParseScript'. -/
def fnExactParseScriptUptoCard : Claim7 := { stood := { row := fnExactParseScriptUptoRow, standIns := [], harness := (true, "1b16aed78aa83b114cba5ee56192afe96326cd2e6f6031d1aa9bb00a4222e96c"), looks := false }, kinds := [], alts := [], laidByText := true, laidKinds := [.data, .pinned], laidTests := true, laidLooks := .later }
def FnExactParseScriptUptoCardSaid : Prop := Claim7.holds Tryd.pinned (.plain (OpenSpec.upto fnExactParseScriptSpec)) fnExactParseScriptUptoCard

/-- THE SECOND FORM's CARD OF 'laws.FnExactSubscribe'. -/
def fnExactSubscribeUptoCard : Claim7 := { stood := { row := fnExactSubscribeUptoRow, standIns := [], harness := (true, "1b16aed78aa83b114cba5ee56192afe96326cd2e6f6031d1aa9bb00a4222e96c"), looks := false }, kinds := [], alts := [], laidByText := true, laidKinds := [.data, .pinned], laidTests := true, laidLooks := .later }
def FnExactSubscribeUptoCardSaid : Prop := Claim7.holds Tryd.pinned (.plain (OpenSpec.upto fnExactSubscribeSpec)) fnExactSubscribeUptoCard

/-- THE SECOND FORM's CARD OF 'laws.FnExactDispatch'. -/
def fnExactDispatchUptoCard : Claim7 := { stood := { row := fnExactDispatchUptoRow, standIns := [], harness := (true, "1b16aed78aa83b114cba5ee56192afe96326cd2e6f6031d1aa9bb00a4222e96c"), looks := false }, kinds := [], alts := [], laidByText := true, laidKinds := [.data, .pinned], laidTests := true, laidLooks := .later }
def FnExactDispatchUptoCardSaid : Prop := Claim7.holds Tryd.pinned (.plain (OpenSpec.upto fnExactDispatchSpec)) fnExactDispatchUptoCard
end Rows
end Go.Proofs.YtbcfkkicmmhhcaaDoor
