/-
  DERIVED. GIVEN WITH THE SEED: THE CARDS: each row of YtlkflikhbkhpeaaDoorRows.lean that lists a variable, with what it lists TIED to the program's text (the seventh form; the later family's looks); each row that meets fmt, with fmt's text TOLD by the authors' own Lean function (tested against real Go, not proved from fmt's source: count such statements apart). THE CARD IS WHAT COUNTS. Prove the row's statement (the work); the ties are given (YtlkflikhbkhpeaaDoorTie.lean); close each card by the builder's one call (the guide's Derived/Test/ToyasCard.lean, 'card_holds'). Laid BY PROGRAM, IN A SANDBOX (cutbox-door.mjs). By AI agents, Wed Nov 11 2026. No macro, syntax, notation, axiom, sorry.
-/
import Derived.Test.YtlkflikhbkhpeaaDoorRows
import GoSem.ClaimSeven
namespace Go.Proofs.YtlkflikhbkhpeaaDoor
namespace Rows

/-- THE TIED CARD OF 'posthornlaw03.HashMd5'. -/
def hashMd5Card : Claim7 := { stood := { row := hashMd5Row, standIns := [], harness := (true, "03f7fb8989d5f3849f61f3b6178a9bd8dfa331af9b436a035f02d886ea65fe50"), looks := false }, kinds := [], alts := [], laidByText := true, laidKinds := [.data, .data], laidTests := true, laidLooks := .later }
def HashMd5CardSaid : Prop := Claim7.holds Tryd.pinned (.plain (OpenSpec.ofChange hashMd5Spec)) hashMd5Card

/-- THE TIED CARD OF 'posthornlaw03.HashMac'. -/
def hashMacCard : Claim7 := { stood := { row := hashMacRow, standIns := [], harness := (true, "03f7fb8989d5f3849f61f3b6178a9bd8dfa331af9b436a035f02d886ea65fe50"), looks := false }, kinds := [], alts := [], laidByText := true, laidKinds := [.data, .data], laidTests := true, laidLooks := .later }
def HashMacCardSaid : Prop := Claim7.holds Tryd.pinned (.plain (OpenSpec.ofChange hashMacSpec)) hashMacCard

/-- THE TIED CARD OF 'posthornlaw03.HashTells'. -/
def hashTellsCard : Claim7 := { stood := { row := hashTellsRow, standIns := [], harness := (true, "03f7fb8989d5f3849f61f3b6178a9bd8dfa331af9b436a035f02d886ea65fe50"), looks := false }, kinds := [], alts := [], laidByText := true, laidKinds := [.data, .data], laidTests := true, laidLooks := .later }
def HashTellsCardSaid : Prop := Claim7.holds Tryd.pinned (.plain (OpenSpec.ofChange hashTellsSpec)) hashTellsCard

/-- THE TIED CARD OF 'posthornlaw03.HashStream'. -/
def hashStreamCard : Claim7 := { stood := { row := hashStreamRow, standIns := [], harness := (true, "03f7fb8989d5f3849f61f3b6178a9bd8dfa331af9b436a035f02d886ea65fe50"), looks := false }, kinds := [], alts := [], laidByText := true, laidKinds := [.data, .data], laidTests := true, laidLooks := .later }
def HashStreamCardSaid : Prop := Claim7.holds Tryd.pinned (.plain (OpenSpec.ofChange hashStreamSpec)) hashStreamCard

/-- THE TIED CARD OF 'posthornlaw03.HashPieces'. -/
def hashPiecesCard : Claim7 := { stood := { row := hashPiecesRow, standIns := [], harness := (true, "03f7fb8989d5f3849f61f3b6178a9bd8dfa331af9b436a035f02d886ea65fe50"), looks := false }, kinds := [], alts := [], laidByText := true, laidKinds := [.data, .data], laidTests := true, laidLooks := .later }
def HashPiecesCardSaid : Prop := Claim7.holds Tryd.pinned (.plain (OpenSpec.ofChange hashPiecesSpec)) hashPiecesCard

/-- THE TIED CARD OF 'posthornlaw03.HashKeys'. -/
def hashKeysCard : Claim7 := { stood := { row := hashKeysRow, standIns := [], harness := (true, "03f7fb8989d5f3849f61f3b6178a9bd8dfa331af9b436a035f02d886ea65fe50"), looks := false }, kinds := [], alts := [], laidByText := true, laidKinds := [.data, .data], laidTests := true, laidLooks := .later }
def HashKeysCardSaid : Prop := Claim7.holds Tryd.pinned (.plain (OpenSpec.ofChange hashKeysSpec)) hashKeysCard

/-- THE SECOND FORM's CARD OF 'posthornlaw03.HashMd5'. -/
def hashMd5UptoCard : Claim7 := { stood := { row := hashMd5UptoRow, standIns := [], harness := (true, "03f7fb8989d5f3849f61f3b6178a9bd8dfa331af9b436a035f02d886ea65fe50"), looks := false }, kinds := [], alts := [], laidByText := true, laidKinds := [.data, .data], laidTests := true, laidLooks := .later }
def HashMd5UptoCardSaid : Prop := Claim7.holds Tryd.pinned (.plain (OpenSpec.upto hashMd5Spec)) hashMd5UptoCard

/-- THE SECOND FORM's CARD OF 'posthornlaw03.HashMac'. -/
def hashMacUptoCard : Claim7 := { stood := { row := hashMacUptoRow, standIns := [], harness := (true, "03f7fb8989d5f3849f61f3b6178a9bd8dfa331af9b436a035f02d886ea65fe50"), looks := false }, kinds := [], alts := [], laidByText := true, laidKinds := [.data, .data], laidTests := true, laidLooks := .later }
def HashMacUptoCardSaid : Prop := Claim7.holds Tryd.pinned (.plain (OpenSpec.upto hashMacSpec)) hashMacUptoCard

/-- THE SECOND FORM's CARD OF 'posthornlaw03.HashTells'. -/
def hashTellsUptoCard : Claim7 := { stood := { row := hashTellsUptoRow, standIns := [], harness := (true, "03f7fb8989d5f3849f61f3b6178a9bd8dfa331af9b436a035f02d886ea65fe50"), looks := false }, kinds := [], alts := [], laidByText := true, laidKinds := [.data, .data], laidTests := true, laidLooks := .later }
def HashTellsUptoCardSaid : Prop := Claim7.holds Tryd.pinned (.plain (OpenSpec.upto hashTellsSpec)) hashTellsUptoCard

/-- THE SECOND FORM's CARD OF 'posthornlaw03.HashStream'. -/
def hashStreamUptoCard : Claim7 := { stood := { row := hashStreamUptoRow, standIns := [], harness := (true, "03f7fb8989d5f3849f61f3b6178a9bd8dfa331af9b436a035f02d886ea65fe50"), looks := false }, kinds := [], alts := [], laidByText := true, laidKinds := [.data, .data], laidTests := true, laidLooks := .later }
def HashStreamUptoCardSaid : Prop := Claim7.holds Tryd.pinned (.plain (OpenSpec.upto hashStreamSpec)) hashStreamUptoCard

/-- THE SECOND FORM's CARD OF 'posthornlaw03.HashPieces'. -/
def hashPiecesUptoCard : Claim7 := { stood := { row := hashPiecesUptoRow, standIns := [], harness := (true, "03f7fb8989d5f3849f61f3b6178a9bd8dfa331af9b436a035f02d886ea65fe50"), looks := false }, kinds := [], alts := [], laidByText := true, laidKinds := [.data, .data], laidTests := true, laidLooks := .later }
def HashPiecesUptoCardSaid : Prop := Claim7.holds Tryd.pinned (.plain (OpenSpec.upto hashPiecesSpec)) hashPiecesUptoCard

/-- THE SECOND FORM's CARD OF 'posthornlaw03.HashKeys'. -/
def hashKeysUptoCard : Claim7 := { stood := { row := hashKeysUptoRow, standIns := [], harness := (true, "03f7fb8989d5f3849f61f3b6178a9bd8dfa331af9b436a035f02d886ea65fe50"), looks := false }, kinds := [], alts := [], laidByText := true, laidKinds := [.data, .data], laidTests := true, laidLooks := .later }
def HashKeysUptoCardSaid : Prop := Claim7.holds Tryd.pinned (.plain (OpenSpec.upto hashKeysSpec)) hashKeysUptoCard
end Rows
end Go.Proofs.YtlkflikhbkhpeaaDoor
