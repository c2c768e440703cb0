/-
  DERIVED. GIVEN WITH THE SEED: THE CARDS: each row of YtbfgefgadplcjaaDoorRows.lean that lists a variable, with what it lists TIED to the program's text (the seventh form; the later family's looks); each row that meets fmt, with fmt's text TOLD by the authors' own Lean function (tested against real Go, not proved from fmt's source: count such statements apart). THE CARD IS WHAT COUNTS. Prove the row's statement (the work); the ties are given (YtbfgefgadplcjaaDoorTie.lean); close each card by the builder's one call (the guide's Derived/Test/ToyasCard.lean, 'card_holds'). Laid BY PROGRAM, IN A SANDBOX (cutbox-door.mjs). By AI agents, Wed Nov 11 2026. No macro, syntax, notation, axiom, sorry.
-/
import Derived.Test.YtbfgefgadplcjaaDoorRows
import GoSem.ClaimSeven
namespace Go.Proofs.YtbfgefgadplcjaaDoor
namespace Rows

/-- THE TIED CARD OF 'posthornlaw12.ReplyReads'. -/
def replyReadsCard : Claim7 := { stood := { row := replyReadsRow, standIns := [], harness := (true, "28c10d1f7f51952fb5761dc4ebcdee406d41580fac775d045c718c34c7b76dc5"), looks := false }, kinds := [], alts := [], laidByText := true, laidKinds := [.data, .data, .data, .data, .data, .data, .pinned], laidTests := true, laidLooks := .later }
def ReplyReadsCardSaid : Prop := Claim7.holds Tryd.pinned (.plain (OpenSpec.ofChange replyReadsSpec)) replyReadsCard

/-- THE TIED CARD OF 'posthornlaw12.ReplyBack'. -/
def replyBackCard : Claim7 := { stood := { row := replyBackRow, standIns := [], harness := (true, "28c10d1f7f51952fb5761dc4ebcdee406d41580fac775d045c718c34c7b76dc5"), looks := false }, kinds := [], alts := [], laidByText := true, laidKinds := [.data, .data, .data, .data, .data, .data, .pinned], laidTests := true, laidLooks := .later }
def ReplyBackCardSaid : Prop := Claim7.holds Tryd.pinned (.plain (OpenSpec.ofChange replyBackSpec)) replyBackCard

/-- THE TIED CARD OF 'posthornlaw12.ReplyPieces'. -/
def replyPiecesCard : Claim7 := { stood := { row := replyPiecesRow, standIns := [], harness := (true, "28c10d1f7f51952fb5761dc4ebcdee406d41580fac775d045c718c34c7b76dc5"), looks := false }, kinds := [], alts := [], laidByText := true, laidKinds := [.data, .data, .data, .data, .data, .data, .pinned], laidTests := true, laidLooks := .later }
def ReplyPiecesCardSaid : Prop := Claim7.holds Tryd.pinned (.plain (OpenSpec.ofChange replyPiecesSpec)) replyPiecesCard

/-- THE TIED CARD OF 'posthornlaw12.ReplyAgain'. -/
def replyAgainCard : Claim7 := { stood := { row := replyAgainRow, standIns := [], harness := (true, "28c10d1f7f51952fb5761dc4ebcdee406d41580fac775d045c718c34c7b76dc5"), looks := false }, kinds := [], alts := [], laidByText := true, laidKinds := [.data, .data, .data, .data, .data, .data, .pinned], laidTests := true, laidLooks := .later }
def ReplyAgainCardSaid : Prop := Claim7.holds Tryd.pinned (.plain (OpenSpec.ofChange replyAgainSpec)) replyAgainCard

/-- THE TIED CARD OF 'posthornlaw12.ReplyAhead'. -/
def replyAheadCard : Claim7 := { stood := { row := replyAheadRow, standIns := [], harness := (true, "28c10d1f7f51952fb5761dc4ebcdee406d41580fac775d045c718c34c7b76dc5"), looks := false }, kinds := [], alts := [], laidByText := true, laidKinds := [.data, .data, .data, .data, .data, .data, .pinned], laidTests := true, laidLooks := .later }
def ReplyAheadCardSaid : Prop := Claim7.holds Tryd.pinned (.plain (OpenSpec.ofChange replyAheadSpec)) replyAheadCard

/-- THE SECOND FORM's CARD OF 'posthornlaw12.ReplyReads'. -/
def replyReadsUptoCard : Claim7 := { stood := { row := replyReadsUptoRow, standIns := [], harness := (true, "28c10d1f7f51952fb5761dc4ebcdee406d41580fac775d045c718c34c7b76dc5"), looks := false }, kinds := [], alts := [], laidByText := true, laidKinds := [.data, .data, .data, .data, .data, .data, .pinned], laidTests := true, laidLooks := .later }
def ReplyReadsUptoCardSaid : Prop := Claim7.holds Tryd.pinned (.plain (OpenSpec.upto replyReadsSpec)) replyReadsUptoCard

/-- THE SECOND FORM's CARD OF 'posthornlaw12.ReplyBack'. -/
def replyBackUptoCard : Claim7 := { stood := { row := replyBackUptoRow, standIns := [], harness := (true, "28c10d1f7f51952fb5761dc4ebcdee406d41580fac775d045c718c34c7b76dc5"), looks := false }, kinds := [], alts := [], laidByText := true, laidKinds := [.data, .data, .data, .data, .data, .data, .pinned], laidTests := true, laidLooks := .later }
def ReplyBackUptoCardSaid : Prop := Claim7.holds Tryd.pinned (.plain (OpenSpec.upto replyBackSpec)) replyBackUptoCard

/-- THE SECOND FORM's CARD OF 'posthornlaw12.ReplyPieces'. -/
def replyPiecesUptoCard : Claim7 := { stood := { row := replyPiecesUptoRow, standIns := [], harness := (true, "28c10d1f7f51952fb5761dc4ebcdee406d41580fac775d045c718c34c7b76dc5"), looks := false }, kinds := [], alts := [], laidByText := true, laidKinds := [.data, .data, .data, .data, .data, .data, .pinned], laidTests := true, laidLooks := .later }
def ReplyPiecesUptoCardSaid : Prop := Claim7.holds Tryd.pinned (.plain (OpenSpec.upto replyPiecesSpec)) replyPiecesUptoCard

/-- THE SECOND FORM's CARD OF 'posthornlaw12.ReplyAgain'. -/
def replyAgainUptoCard : Claim7 := { stood := { row := replyAgainUptoRow, standIns := [], harness := (true, "28c10d1f7f51952fb5761dc4ebcdee406d41580fac775d045c718c34c7b76dc5"), looks := false }, kinds := [], alts := [], laidByText := true, laidKinds := [.data, .data, .data, .data, .data, .data, .pinned], laidTests := true, laidLooks := .later }
def ReplyAgainUptoCardSaid : Prop := Claim7.holds Tryd.pinned (.plain (OpenSpec.upto replyAgainSpec)) replyAgainUptoCard

/-- THE SECOND FORM's CARD OF 'posthornlaw12.ReplyAhead'. -/
def replyAheadUptoCard : Claim7 := { stood := { row := replyAheadUptoRow, standIns := [], harness := (true, "28c10d1f7f51952fb5761dc4ebcdee406d41580fac775d045c718c34c7b76dc5"), looks := false }, kinds := [], alts := [], laidByText := true, laidKinds := [.data, .data, .data, .data, .data, .data, .pinned], laidTests := true, laidLooks := .later }
def ReplyAheadUptoCardSaid : Prop := Claim7.holds Tryd.pinned (.plain (OpenSpec.upto replyAheadSpec)) replyAheadUptoCard
end Rows
end Go.Proofs.YtbfgefgadplcjaaDoor
