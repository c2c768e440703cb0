/-
  DERIVED. GIVEN WITH THE SEED: THE CARDS: each row of YtenfopabdegmhaaDoorRows.lean that lists a variable, with what it lists TIED to the program's text (the seventh form; the later family's looks); each row that meets fmt, with fmt's text TOLD by the authors' own Lean function (tested against real Go, not proved from fmt's source: count such statements apart). THE CARD IS WHAT COUNTS. Prove the row's statement (the work); the ties are given (YtenfopabdegmhaaDoorTie.lean); close each card by the builder's one call (the guide's Derived/Test/ToyasCard.lean, 'card_holds'). Laid BY PROGRAM, IN A SANDBOX (cutbox-door.mjs). By AI agents, Wed Nov 11 2026. No macro, syntax, notation, axiom, sorry.
-/
import Derived.Test.YtenfopabdegmhaaDoorRows
import GoSem.ClaimSeven
namespace Go.Proofs.YtenfopabdegmhaaDoor
namespace Rows

/-- THE TIED CARD OF 'posthornlaw04.CodeQuotes'. -/
def codeQuotesCard : Claim7 := { stood := { row := codeQuotesRow, standIns := [], harness := (true, "773d9c486a1d6a9bf6193a4d6c5949305794872d3e427c91f0f5acc510f6fa13"), looks := false }, kinds := [], alts := [], laidByText := true, laidKinds := [.data], laidTests := true, laidLooks := .later }
def CodeQuotesCardSaid : Prop := Claim7.holds Tryd.pinned (.plain (OpenSpec.ofChange codeQuotesSpec)) codeQuotesCard

/-- THE TIED CARD OF 'posthornlaw04.CodeUnquotes'. -/
def codeUnquotesCard : Claim7 := { stood := { row := codeUnquotesRow, standIns := [], harness := (true, "773d9c486a1d6a9bf6193a4d6c5949305794872d3e427c91f0f5acc510f6fa13"), looks := false }, kinds := [], alts := [], laidByText := true, laidKinds := [.data], laidTests := true, laidLooks := .later }
def CodeUnquotesCardSaid : Prop := Claim7.holds Tryd.pinned (.plain (OpenSpec.ofChange codeUnquotesSpec)) codeUnquotesCard

/-- THE TIED CARD OF 'posthornlaw04.CodeBack'. -/
def codeBackCard : Claim7 := { stood := { row := codeBackRow, standIns := [], harness := (true, "773d9c486a1d6a9bf6193a4d6c5949305794872d3e427c91f0f5acc510f6fa13"), looks := false }, kinds := [], alts := [], laidByText := true, laidKinds := [.data], laidTests := true, laidLooks := .later }
def CodeBackCardSaid : Prop := Claim7.holds Tryd.pinned (.plain (OpenSpec.ofChange codeBackSpec)) codeBackCard

/-- THE SECOND FORM's CARD OF 'posthornlaw04.CodeQuotes'. -/
def codeQuotesUptoCard : Claim7 := { stood := { row := codeQuotesUptoRow, standIns := [], harness := (true, "773d9c486a1d6a9bf6193a4d6c5949305794872d3e427c91f0f5acc510f6fa13"), looks := false }, kinds := [], alts := [], laidByText := true, laidKinds := [.data], laidTests := true, laidLooks := .later }
def CodeQuotesUptoCardSaid : Prop := Claim7.holds Tryd.pinned (.plain (OpenSpec.upto codeQuotesSpec)) codeQuotesUptoCard

/-- THE SECOND FORM's CARD OF 'posthornlaw04.CodeUnquotes'. -/
def codeUnquotesUptoCard : Claim7 := { stood := { row := codeUnquotesUptoRow, standIns := [], harness := (true, "773d9c486a1d6a9bf6193a4d6c5949305794872d3e427c91f0f5acc510f6fa13"), looks := false }, kinds := [], alts := [], laidByText := true, laidKinds := [.data], laidTests := true, laidLooks := .later }
def CodeUnquotesUptoCardSaid : Prop := Claim7.holds Tryd.pinned (.plain (OpenSpec.upto codeUnquotesSpec)) codeUnquotesUptoCard

/-- THE SECOND FORM's CARD OF 'posthornlaw04.CodeBack'. -/
def codeBackUptoCard : Claim7 := { stood := { row := codeBackUptoRow, standIns := [], harness := (true, "773d9c486a1d6a9bf6193a4d6c5949305794872d3e427c91f0f5acc510f6fa13"), looks := false }, kinds := [], alts := [], laidByText := true, laidKinds := [.data], laidTests := true, laidLooks := .later }
def CodeBackUptoCardSaid : Prop := Claim7.holds Tryd.pinned (.plain (OpenSpec.upto codeBackSpec)) codeBackUptoCard
end Rows
end Go.Proofs.YtenfopabdegmhaaDoor
