/-
  DERIVED. GIVEN WITH THE SEED: THE CARDS: each row of YthkoionigdnhgabGreatDoorRows.lean that lists a variable, with what it lists TIED to the program's text (the seventh form; the later family's looks); each row that meets fmt, with fmt's text TOLD by the authors' own Lean function (tested against real Go, not proved from fmt's source: count such statements apart). THE CARD IS WHAT COUNTS. Prove the row's statement (the work); the ties are given (YthkoionigdnhgabGreatDoorTie.lean); close each card by the builder's one call (the guide's Derived/Test/ToyasCard.lean, 'card_holds'). Laid BY PROGRAM, IN A SANDBOX (cutbox-door.mjs). By AI agents, Wed Nov 11 2026. No macro, syntax, notation, axiom, sorry.
-/
import Derived.Test.YthkoionigdnhgabGreatDoorRows
import GoSem.ClaimSeven
namespace Go.Proofs.YthkoionigdnhgabGreatDoor
namespace Rows

/-- THE TIED CARD OF 'posthornlaw18.TraceAgain'. -/
def traceAgainCard : Claim7 := { stood := { row := traceAgainRow, standIns := [], harness := (true, "80d02d7ded1e0a57b9663c868b3471d823628d0b00cfea2824a6345279ce7e28"), looks := true }, kinds := [], alts := [], laidByText := true, laidKinds := [.data, .data, .data, .data, .sentinel, .sentinel, .data, .data, .data, .data, .pinned], laidTests := true, laidLooks := .later }
def TraceAgainCardSaid : Prop := Claim7.holds Tryz.pinned (.plain (OpenSpec.ofChange traceAgainSpec)) traceAgainCard

/-- THE TIED CARD OF 'posthornlaw18.TraceStamped'. -/
def traceStampedCard : Claim7 := { stood := { row := traceStampedRow, standIns := [], harness := (true, "80d02d7ded1e0a57b9663c868b3471d823628d0b00cfea2824a6345279ce7e28"), looks := true }, kinds := [], alts := [], laidByText := true, laidKinds := [.data, .data, .data, .data, .data, .data, .data, .pinned], laidTests := true, laidLooks := .later }
def TraceStampedCardSaid : Prop := Claim7.holds Tryz.pinned (.plain (OpenSpec.ofChange traceStampedSpec)) traceStampedCard

/-- THE TIED CARD OF 'posthornlaw18.TraceHeader'. -/
def traceHeaderCard : Claim7 := { stood := { row := traceHeaderRow, standIns := [], harness := (true, "80d02d7ded1e0a57b9663c868b3471d823628d0b00cfea2824a6345279ce7e28"), looks := true }, kinds := [], alts := [], laidByText := true, laidKinds := [.data, .data, .data, .data, .data, .data, .pinned], laidTests := true, laidLooks := .later }
def TraceHeaderCardSaid : Prop := Claim7.holds Tryz.pinned (.plain (OpenSpec.ofChange traceHeaderSpec)) traceHeaderCard

/-- THE TIED CARD OF 'posthornlaw18.TraceRows'. -/
def traceRowsCard : Claim7 := { stood := { row := traceRowsRow, standIns := [], harness := (true, "80d02d7ded1e0a57b9663c868b3471d823628d0b00cfea2824a6345279ce7e28"), looks := true }, kinds := [], alts := [], laidByText := true, laidKinds := [.data, .data, .data, .data, .data, .data, .data, .pinned], laidTests := true, laidLooks := .later }
def TraceRowsCardSaid : Prop := Claim7.holds Tryz.pinned (.plain (OpenSpec.ofChange traceRowsSpec)) traceRowsCard

/-- THE SECOND FORM's CARD OF 'posthornlaw18.TraceAgain'. -/
def traceAgainUptoCard : Claim7 := { stood := { row := traceAgainUptoRow, standIns := [], harness := (true, "80d02d7ded1e0a57b9663c868b3471d823628d0b00cfea2824a6345279ce7e28"), looks := true }, kinds := [], alts := [], laidByText := true, laidKinds := [.data, .data, .data, .data, .sentinel, .sentinel, .data, .data, .data, .data, .pinned], laidTests := true, laidLooks := .later }
def TraceAgainUptoCardSaid : Prop := Claim7.holds Tryz.pinned (.plain (OpenSpec.upto traceAgainSpec)) traceAgainUptoCard

/-- THE SECOND FORM's CARD OF 'posthornlaw18.TraceStamped'. -/
def traceStampedUptoCard : Claim7 := { stood := { row := traceStampedUptoRow, standIns := [], harness := (true, "80d02d7ded1e0a57b9663c868b3471d823628d0b00cfea2824a6345279ce7e28"), looks := true }, kinds := [], alts := [], laidByText := true, laidKinds := [.data, .data, .data, .data, .data, .data, .data, .pinned], laidTests := true, laidLooks := .later }
def TraceStampedUptoCardSaid : Prop := Claim7.holds Tryz.pinned (.plain (OpenSpec.upto traceStampedSpec)) traceStampedUptoCard

/-- THE SECOND FORM's CARD OF 'posthornlaw18.TraceHeader'. -/
def traceHeaderUptoCard : Claim7 := { stood := { row := traceHeaderUptoRow, standIns := [], harness := (true, "80d02d7ded1e0a57b9663c868b3471d823628d0b00cfea2824a6345279ce7e28"), looks := true }, kinds := [], alts := [], laidByText := true, laidKinds := [.data, .data, .data, .data, .data, .data, .pinned], laidTests := true, laidLooks := .later }
def TraceHeaderUptoCardSaid : Prop := Claim7.holds Tryz.pinned (.plain (OpenSpec.upto traceHeaderSpec)) traceHeaderUptoCard

/-- THE SECOND FORM's CARD OF 'posthornlaw18.TraceRows'. -/
def traceRowsUptoCard : Claim7 := { stood := { row := traceRowsUptoRow, standIns := [], harness := (true, "80d02d7ded1e0a57b9663c868b3471d823628d0b00cfea2824a6345279ce7e28"), looks := true }, kinds := [], alts := [], laidByText := true, laidKinds := [.data, .data, .data, .data, .data, .data, .data, .pinned], laidTests := true, laidLooks := .later }
def TraceRowsUptoCardSaid : Prop := Claim7.holds Tryz.pinned (.plain (OpenSpec.upto traceRowsSpec)) traceRowsUptoCard
end Rows
end Go.Proofs.YthkoionigdnhgabGreatDoor
