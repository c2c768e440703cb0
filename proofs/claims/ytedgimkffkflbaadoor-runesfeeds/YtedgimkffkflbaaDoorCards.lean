/-
  DERIVED. GIVEN WITH THE SEED: THE CARDS: each row of YtedgimkffkflbaaDoorRows.lean that lists a variable, with what it lists TIED to the program's text (the seventh form; the later family's looks); each row that meets fmt, with fmt's text TOLD by the authors' own Lean function (tested against real Go, not proved from fmt's source: count such statements apart). THE CARD IS WHAT COUNTS. Prove the row's statement (the work); the ties are given (YtedgimkffkflbaaDoorTie.lean); close each card by the builder's one call (the guide's Derived/Test/ToyasCard.lean, 'card_holds'). Laid BY PROGRAM, IN A SANDBOX (cutbox-door.mjs). By AI agents, Wed Nov 11 2026. No macro, syntax, notation, axiom, sorry.
-/
import Derived.Test.YtedgimkffkflbaaDoorRows
import GoSem.ClaimSeven
namespace Go.Proofs.YtedgimkffkflbaaDoor
namespace Rows

/-- THE TIED CARD OF 'posthornlaw05.RunesKnown'. -/
def runesKnownCard : Claim7 := { stood := { row := runesKnownRow, standIns := [], harness := (true, "7697d57236b1690f96a6317647fc992b6ee9d32f8ec79ca1394a467c4cfe84d8"), looks := false }, kinds := [], alts := [], laidByText := true, laidKinds := [.data, .data], laidTests := true, laidLooks := .later }
def RunesKnownCardSaid : Prop := Claim7.holds Tryd.pinned (.plain (OpenSpec.ofChange runesKnownSpec)) runesKnownCard

/-- THE TIED CARD OF 'posthornlaw05.RunesReads'. -/
def runesReadsCard : Claim7 := { stood := { row := runesReadsRow, standIns := [], harness := (true, "7697d57236b1690f96a6317647fc992b6ee9d32f8ec79ca1394a467c4cfe84d8"), looks := false }, kinds := [], alts := [], laidByText := true, laidKinds := [.data, .data], laidTests := true, laidLooks := .later }
def RunesReadsCardSaid : Prop := Claim7.holds Tryd.pinned (.plain (OpenSpec.ofChange runesReadsSpec)) runesReadsCard

/-- THE TIED CARD OF 'posthornlaw05.RunesWrites'. -/
def runesWritesCard : Claim7 := { stood := { row := runesWritesRow, standIns := [], harness := (true, "7697d57236b1690f96a6317647fc992b6ee9d32f8ec79ca1394a467c4cfe84d8"), looks := false }, kinds := [], alts := [], laidByText := true, laidKinds := [.data, .data], laidTests := true, laidLooks := .later }
def RunesWritesCardSaid : Prop := Claim7.holds Tryd.pinned (.plain (OpenSpec.ofChange runesWritesSpec)) runesWritesCard

/-- THE TIED CARD OF 'posthornlaw05.RunesFeeds'. -/
def runesFeedsCard : Claim7 := { stood := { row := runesFeedsRow, standIns := [], harness := (true, "7697d57236b1690f96a6317647fc992b6ee9d32f8ec79ca1394a467c4cfe84d8"), looks := false }, kinds := [], alts := [], laidByText := true, laidKinds := [.data, .data], laidTests := true, laidLooks := .later }
def RunesFeedsCardSaid : Prop := Claim7.holds Tryd.pinned (.plain (OpenSpec.ofChange runesFeedsSpec)) runesFeedsCard

/-- THE TIED CARD OF 'posthornlaw05.RunesUnpunies'. -/
def runesUnpuniesCard : Claim7 := { stood := { row := runesUnpuniesRow, standIns := [], harness := (true, "7697d57236b1690f96a6317647fc992b6ee9d32f8ec79ca1394a467c4cfe84d8"), looks := false }, kinds := [], alts := [], laidByText := true, laidKinds := [.data, .data], laidTests := true, laidLooks := .later }
def RunesUnpuniesCardSaid : Prop := Claim7.holds Tryd.pinned (.plain (OpenSpec.ofChange runesUnpuniesSpec)) runesUnpuniesCard

/-- THE TIED CARD OF 'posthornlaw05.RunesBack'. -/
def runesBackCard : Claim7 := { stood := { row := runesBackRow, standIns := [], harness := (true, "7697d57236b1690f96a6317647fc992b6ee9d32f8ec79ca1394a467c4cfe84d8"), looks := false }, kinds := [], alts := [], laidByText := true, laidKinds := [.data, .data], laidTests := true, laidLooks := .later }
def RunesBackCardSaid : Prop := Claim7.holds Tryd.pinned (.plain (OpenSpec.ofChange runesBackSpec)) runesBackCard

/-- THE SECOND FORM's CARD OF 'posthornlaw05.RunesKnown'. -/
def runesKnownUptoCard : Claim7 := { stood := { row := runesKnownUptoRow, standIns := [], harness := (true, "7697d57236b1690f96a6317647fc992b6ee9d32f8ec79ca1394a467c4cfe84d8"), looks := false }, kinds := [], alts := [], laidByText := true, laidKinds := [.data, .data], laidTests := true, laidLooks := .later }
def RunesKnownUptoCardSaid : Prop := Claim7.holds Tryd.pinned (.plain (OpenSpec.upto runesKnownSpec)) runesKnownUptoCard

/-- THE SECOND FORM's CARD OF 'posthornlaw05.RunesReads'. -/
def runesReadsUptoCard : Claim7 := { stood := { row := runesReadsUptoRow, standIns := [], harness := (true, "7697d57236b1690f96a6317647fc992b6ee9d32f8ec79ca1394a467c4cfe84d8"), looks := false }, kinds := [], alts := [], laidByText := true, laidKinds := [.data, .data], laidTests := true, laidLooks := .later }
def RunesReadsUptoCardSaid : Prop := Claim7.holds Tryd.pinned (.plain (OpenSpec.upto runesReadsSpec)) runesReadsUptoCard

/-- THE SECOND FORM's CARD OF 'posthornlaw05.RunesWrites'. -/
def runesWritesUptoCard : Claim7 := { stood := { row := runesWritesUptoRow, standIns := [], harness := (true, "7697d57236b1690f96a6317647fc992b6ee9d32f8ec79ca1394a467c4cfe84d8"), looks := false }, kinds := [], alts := [], laidByText := true, laidKinds := [.data, .data], laidTests := true, laidLooks := .later }
def RunesWritesUptoCardSaid : Prop := Claim7.holds Tryd.pinned (.plain (OpenSpec.upto runesWritesSpec)) runesWritesUptoCard

/-- THE SECOND FORM's CARD OF 'posthornlaw05.RunesFeeds'. -/
def runesFeedsUptoCard : Claim7 := { stood := { row := runesFeedsUptoRow, standIns := [], harness := (true, "7697d57236b1690f96a6317647fc992b6ee9d32f8ec79ca1394a467c4cfe84d8"), looks := false }, kinds := [], alts := [], laidByText := true, laidKinds := [.data, .data], laidTests := true, laidLooks := .later }
def RunesFeedsUptoCardSaid : Prop := Claim7.holds Tryd.pinned (.plain (OpenSpec.upto runesFeedsSpec)) runesFeedsUptoCard

/-- THE SECOND FORM's CARD OF 'posthornlaw05.RunesUnpunies'. -/
def runesUnpuniesUptoCard : Claim7 := { stood := { row := runesUnpuniesUptoRow, standIns := [], harness := (true, "7697d57236b1690f96a6317647fc992b6ee9d32f8ec79ca1394a467c4cfe84d8"), looks := false }, kinds := [], alts := [], laidByText := true, laidKinds := [.data, .data], laidTests := true, laidLooks := .later }
def RunesUnpuniesUptoCardSaid : Prop := Claim7.holds Tryd.pinned (.plain (OpenSpec.upto runesUnpuniesSpec)) runesUnpuniesUptoCard

/-- THE SECOND FORM's CARD OF 'posthornlaw05.RunesBack'. -/
def runesBackUptoCard : Claim7 := { stood := { row := runesBackUptoRow, standIns := [], harness := (true, "7697d57236b1690f96a6317647fc992b6ee9d32f8ec79ca1394a467c4cfe84d8"), looks := false }, kinds := [], alts := [], laidByText := true, laidKinds := [.data, .data], laidTests := true, laidLooks := .later }
def RunesBackUptoCardSaid : Prop := Claim7.holds Tryd.pinned (.plain (OpenSpec.upto runesBackSpec)) runesBackUptoCard
end Rows
end Go.Proofs.YtedgimkffkflbaaDoor
