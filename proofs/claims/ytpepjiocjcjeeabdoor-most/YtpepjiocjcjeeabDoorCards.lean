/-
  DERIVED. GIVEN WITH THE SEED: THE CARDS: each row of YtpepjiocjcjeeabDoorRows.lean that lists a variable, with what it lists TIED to the program's text (the seventh form; the later family's looks); each row that meets fmt, with fmt's text TOLD by the authors' own Lean function (tested against real Go, not proved from fmt's source: count such statements apart). THE CARD IS WHAT COUNTS. Prove the row's statement (the work); the ties are given (YtpepjiocjcjeeabDoorTie.lean); close each card by the builder's one call (the guide's Derived/Test/ToyasCard.lean, 'card_holds'). Laid BY PROGRAM, IN A SANDBOX (cutbox-door.mjs). By AI agents, Wed Nov 11 2026. No macro, syntax, notation, axiom, sorry.
-/
import Derived.Test.YtpepjiocjcjeeabDoorRows
import GoSem.ClaimSeven
namespace Go.Proofs.YtpepjiocjcjeeabDoor
namespace Rows

/-- THE TIED CARD OF 'posthornlaw16.FieldAgain'. -/
def fieldAgainCard : Claim7 := { stood := { row := fieldAgainRow, standIns := [], harness := (true, "f6834a482589e0b3fc10155f1b649012c9084142b3cea31741b644d9ba73ce79"), looks := false }, kinds := [], alts := [], laidByText := true, laidKinds := [.data, .data, .pinned], laidTests := true, laidLooks := .later }
def FieldAgainCardSaid : Prop := Claim7.holds Tryd.pinned (.plain (OpenSpec.ofChange fieldAgainSpec)) fieldAgainCard

/-- THE TIED CARD OF 'posthornlaw16.FieldAhead'. -/
def fieldAheadCard : Claim7 := { stood := { row := fieldAheadRow, standIns := [], harness := (true, "f6834a482589e0b3fc10155f1b649012c9084142b3cea31741b644d9ba73ce79"), looks := false }, kinds := [], alts := [], laidByText := true, laidKinds := [.data, .data, .pinned], laidTests := true, laidLooks := .later }
def FieldAheadCardSaid : Prop := Claim7.holds Tryd.pinned (.plain (OpenSpec.ofChange fieldAheadSpec)) fieldAheadCard

/-- THE TIED CARD OF 'posthornlaw16.FieldFoldBack'. -/
def fieldFoldBackCard : Claim7 := { stood := { row := fieldFoldBackRow, standIns := [], harness := (true, "f6834a482589e0b3fc10155f1b649012c9084142b3cea31741b644d9ba73ce79"), looks := false }, kinds := [], alts := [], laidByText := true, laidKinds := [.data, .data, .pinned], laidTests := true, laidLooks := .later }
def FieldFoldBackCardSaid : Prop := Claim7.holds Tryd.pinned (.plain (OpenSpec.ofChange fieldFoldBackSpec)) fieldFoldBackCard

/-- THE TIED CARD OF 'posthornlaw16.FieldMost'. -/
def fieldMostCard : Claim7 := { stood := { row := fieldMostRow, standIns := [], harness := (true, "f6834a482589e0b3fc10155f1b649012c9084142b3cea31741b644d9ba73ce79"), looks := false }, kinds := [], alts := [], laidByText := true, laidKinds := [.data, .data, .pinned], laidTests := true, laidLooks := .later }
def FieldMostCardSaid : Prop := Claim7.holds Tryd.pinned (.plain (OpenSpec.ofChange fieldMostSpec)) fieldMostCard

/-- THE SECOND FORM's CARD OF 'posthornlaw16.FieldAgain'. -/
def fieldAgainUptoCard : Claim7 := { stood := { row := fieldAgainUptoRow, standIns := [], harness := (true, "f6834a482589e0b3fc10155f1b649012c9084142b3cea31741b644d9ba73ce79"), looks := false }, kinds := [], alts := [], laidByText := true, laidKinds := [.data, .data, .pinned], laidTests := true, laidLooks := .later }
def FieldAgainUptoCardSaid : Prop := Claim7.holds Tryd.pinned (.plain (OpenSpec.upto fieldAgainSpec)) fieldAgainUptoCard

/-- THE SECOND FORM's CARD OF 'posthornlaw16.FieldAhead'. -/
def fieldAheadUptoCard : Claim7 := { stood := { row := fieldAheadUptoRow, standIns := [], harness := (true, "f6834a482589e0b3fc10155f1b649012c9084142b3cea31741b644d9ba73ce79"), looks := false }, kinds := [], alts := [], laidByText := true, laidKinds := [.data, .data, .pinned], laidTests := true, laidLooks := .later }
def FieldAheadUptoCardSaid : Prop := Claim7.holds Tryd.pinned (.plain (OpenSpec.upto fieldAheadSpec)) fieldAheadUptoCard

/-- THE SECOND FORM's CARD OF 'posthornlaw16.FieldFoldBack'. -/
def fieldFoldBackUptoCard : Claim7 := { stood := { row := fieldFoldBackUptoRow, standIns := [], harness := (true, "f6834a482589e0b3fc10155f1b649012c9084142b3cea31741b644d9ba73ce79"), looks := false }, kinds := [], alts := [], laidByText := true, laidKinds := [.data, .data, .pinned], laidTests := true, laidLooks := .later }
def FieldFoldBackUptoCardSaid : Prop := Claim7.holds Tryd.pinned (.plain (OpenSpec.upto fieldFoldBackSpec)) fieldFoldBackUptoCard

/-- THE SECOND FORM's CARD OF 'posthornlaw16.FieldMost'. -/
def fieldMostUptoCard : Claim7 := { stood := { row := fieldMostUptoRow, standIns := [], harness := (true, "f6834a482589e0b3fc10155f1b649012c9084142b3cea31741b644d9ba73ce79"), looks := false }, kinds := [], alts := [], laidByText := true, laidKinds := [.data, .data, .pinned], laidTests := true, laidLooks := .later }
def FieldMostUptoCardSaid : Prop := Claim7.holds Tryd.pinned (.plain (OpenSpec.upto fieldMostSpec)) fieldMostUptoCard
end Rows
end Go.Proofs.YtpepjiocjcjeeabDoor
