/-
  DERIVED. GIVEN WITH THE SEED: THE CARDS: each row of YtadefcohbkgbfaaDoorRows.lean that lists a variable, with what it lists TIED to the program's text (the seventh form; the later family's looks); each row that meets fmt, with fmt's text TOLD by the authors' own Lean function (tested against real Go, not proved from fmt's source: count such statements apart). THE CARD IS WHAT COUNTS. Prove the row's statement (the work); the ties are given (YtadefcohbkgbfaaDoorTie.lean); close each card by the builder's one call (the guide's Derived/Test/ToyasCard.lean, 'card_holds'). Laid BY PROGRAM, IN A SANDBOX (cutbox-door.mjs). By AI agents, Wed Nov 11 2026. No macro, syntax, notation, axiom, sorry.
-/
import Derived.Test.YtadefcohbkgbfaaDoorRows
import GoSem.ClaimSeven
namespace Go.Proofs.YtadefcohbkgbfaaDoor
namespace Rows

/-- THE TIED CARD OF 'laws.FnExactQuote'. -/
def fnExactQuoteCard : Claim7 := { stood := { row := fnExactQuoteRow, standIns := [], harness := (true, "4cfc6c3e6cfc445ff8e970ad7169e8e967367580a2ec3afd64d982cf46408234"), looks := true }, kinds := [], alts := [], laidByText := true, laidKinds := [.data, .pinned], laidTests := true, laidLooks := .later }
def FnExactQuoteCardSaid : Prop := Claim7.holds Tryd.pinned (.plain (OpenSpec.ofChange fnExactQuoteSpec)) fnExactQuoteCard

/-- THE TIED CARD OF 'laws.FnExactWithin'. -/
def fnExactWithinCard : Claim7 := { stood := { row := fnExactWithinRow, standIns := [], harness := (true, "4cfc6c3e6cfc445ff8e970ad7169e8e967367580a2ec3afd64d982cf46408234"), looks := true }, kinds := [], alts := [], laidByText := true, laidKinds := [.data, .pinned], laidTests := true, laidLooks := .later }
def FnExactWithinCardSaid : Prop := Claim7.holds Tryd.pinned (.plain (OpenSpec.ofChange fnExactWithinSpec)) fnExactWithinCard

/-- THE TIED CARD OF 'laws.FnExactPtrTokens'. -/
def fnExactPtrTokensCard : Claim7 := { stood := { row := fnExactPtrTokensRow, standIns := [], harness := (true, "4cfc6c3e6cfc445ff8e970ad7169e8e967367580a2ec3afd64d982cf46408234"), looks := true }, kinds := [], alts := [], laidByText := true, laidKinds := [.data, .pinned], laidTests := true, laidLooks := .later }
def FnExactPtrTokensCardSaid : Prop := Claim7.holds Tryd.pinned (.plain (OpenSpec.ofChange fnExactPtrTokensSpec)) fnExactPtrTokensCard

/-- THE TIED CARD OF 'laws.FnPointer'. -/
def fnPointerCard : Claim7 := { stood := { row := fnPointerRow, standIns := [], harness := (true, "4cfc6c3e6cfc445ff8e970ad7169e8e967367580a2ec3afd64d982cf46408234"), looks := true }, kinds := [], alts := [], laidByText := true, laidKinds := [.data, .pinned], laidTests := true, laidLooks := .later }
def FnPointerCardSaid : Prop := Claim7.holds Tryd.pinned (.plain (OpenSpec.ofChange fnPointerSpec)) fnPointerCard

/-- THE TIED CARD OF 'laws.FnExactUnquote'. -/
def fnExactUnquoteCard : Claim7 := { stood := { row := fnExactUnquoteRow, standIns := [], harness := (true, "4cfc6c3e6cfc445ff8e970ad7169e8e967367580a2ec3afd64d982cf46408234"), looks := true }, kinds := [], alts := [], laidByText := true, laidKinds := [.data, .pinned], laidTests := true, laidLooks := .later }
def FnExactUnquoteCardSaid : Prop := Claim7.holds Tryd.pinned (.plain (OpenSpec.ofChange fnExactUnquoteSpec)) fnExactUnquoteCard

/-- THE SECOND FORM's CARD OF 'laws.FnExactQuote'. -/
def fnExactQuoteUptoCard : Claim7 := { stood := { row := fnExactQuoteUptoRow, standIns := [], harness := (true, "4cfc6c3e6cfc445ff8e970ad7169e8e967367580a2ec3afd64d982cf46408234"), looks := true }, kinds := [], alts := [], laidByText := true, laidKinds := [.data, .pinned], laidTests := true, laidLooks := .later }
def FnExactQuoteUptoCardSaid : Prop := Claim7.holds Tryd.pinned (.plain (OpenSpec.upto fnExactQuoteSpec)) fnExactQuoteUptoCard

/-- THE SECOND FORM's CARD OF 'laws.FnExactWithin'. -/
def fnExactWithinUptoCard : Claim7 := { stood := { row := fnExactWithinUptoRow, standIns := [], harness := (true, "4cfc6c3e6cfc445ff8e970ad7169e8e967367580a2ec3afd64d982cf46408234"), looks := true }, kinds := [], alts := [], laidByText := true, laidKinds := [.data, .pinned], laidTests := true, laidLooks := .later }
def FnExactWithinUptoCardSaid : Prop := Claim7.holds Tryd.pinned (.plain (OpenSpec.upto fnExactWithinSpec)) fnExactWithinUptoCard

/-- THE SECOND FORM's CARD OF 'laws.FnExactPtrTokens'. -/
def fnExactPtrTokensUptoCard : Claim7 := { stood := { row := fnExactPtrTokensUptoRow, standIns := [], harness := (true, "4cfc6c3e6cfc445ff8e970ad7169e8e967367580a2ec3afd64d982cf46408234"), looks := true }, kinds := [], alts := [], laidByText := true, laidKinds := [.data, .pinned], laidTests := true, laidLooks := .later }
def FnExactPtrTokensUptoCardSaid : Prop := Claim7.holds Tryd.pinned (.plain (OpenSpec.upto fnExactPtrTokensSpec)) fnExactPtrTokensUptoCard

/-- THE SECOND FORM's CARD OF 'laws.FnPointer'. -/
def fnPointerUptoCard : Claim7 := { stood := { row := fnPointerUptoRow, standIns := [], harness := (true, "4cfc6c3e6cfc445ff8e970ad7169e8e967367580a2ec3afd64d982cf46408234"), looks := true }, kinds := [], alts := [], laidByText := true, laidKinds := [.data, .pinned], laidTests := true, laidLooks := .later }
def FnPointerUptoCardSaid : Prop := Claim7.holds Tryd.pinned (.plain (OpenSpec.upto fnPointerSpec)) fnPointerUptoCard

/-- THE SECOND FORM's CARD OF 'laws.FnExactUnquote'. -/
def fnExactUnquoteUptoCard : Claim7 := { stood := { row := fnExactUnquoteUptoRow, standIns := [], harness := (true, "4cfc6c3e6cfc445ff8e970ad7169e8e967367580a2ec3afd64d982cf46408234"), looks := true }, kinds := [], alts := [], laidByText := true, laidKinds := [.data, .pinned], laidTests := true, laidLooks := .later }
def FnExactUnquoteUptoCardSaid : Prop := Claim7.holds Tryd.pinned (.plain (OpenSpec.upto fnExactUnquoteSpec)) fnExactUnquoteUptoCard
end Rows
end Go.Proofs.YtadefcohbkgbfaaDoor
