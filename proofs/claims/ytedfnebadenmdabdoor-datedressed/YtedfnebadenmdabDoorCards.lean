/-
  DERIVED. GIVEN WITH THE SEED: THE CARDS: each row of YtedfnebadenmdabDoorRows.lean that lists a variable, with what it lists TIED to the program's text (the seventh form; the later family's looks); each row that meets fmt, with fmt's text TOLD by the authors' own Lean function (tested against real Go, not proved from fmt's source: count such statements apart). THE CARD IS WHAT COUNTS. Prove the row's statement (the work); the ties are given (YtedfnebadenmdabDoorTie.lean); close each card by the builder's one call (the guide's Derived/Test/ToyasCard.lean, 'card_holds'). Laid BY PROGRAM, IN A SANDBOX (cutbox-door.mjs). By AI agents, Wed Nov 11 2026. No macro, syntax, notation, axiom, sorry.
-/
import Derived.Test.YtedfnebadenmdabDoorRows
import GoSem.ClaimSeven
namespace Go.Proofs.YtedfnebadenmdabDoor
namespace Rows

/-- THE TIED CARD OF 'posthornlaw06.DateNext'. -/
def dateNextCard : Claim7 := { stood := { row := dateNextRow, standIns := [], harness := (true, "ec0002153d908418ad9036c8eb25e79eae525d4067d76e59510e30dc758984e9"), looks := false }, kinds := [], alts := [], laidByText := true, laidKinds := [.data, .data, .data], laidTests := true, laidLooks := .later }
def DateNextCardSaid : Prop := Claim7.holds Tryd.pinned (.plain (OpenSpec.ofChange dateNextSpec)) dateNextCard

/-- THE TIED CARD OF 'posthornlaw06.DateOrders'. -/
def dateOrdersCard : Claim7 := { stood := { row := dateOrdersRow, standIns := [], harness := (true, "ec0002153d908418ad9036c8eb25e79eae525d4067d76e59510e30dc758984e9"), looks := false }, kinds := [], alts := [], laidByText := true, laidKinds := [.data, .data, .data], laidTests := true, laidLooks := .later }
def DateOrdersCardSaid : Prop := Claim7.holds Tryd.pinned (.plain (OpenSpec.ofChange dateOrdersSpec)) dateOrdersCard

/-- THE TIED CARD OF 'posthornlaw06.DateMoments'. -/
def dateMomentsCard : Claim7 := { stood := { row := dateMomentsRow, standIns := [], harness := (true, "ec0002153d908418ad9036c8eb25e79eae525d4067d76e59510e30dc758984e9"), looks := false }, kinds := [], alts := [], laidByText := true, laidKinds := [.data, .data, .data], laidTests := true, laidLooks := .later }
def DateMomentsCardSaid : Prop := Claim7.holds Tryd.pinned (.plain (OpenSpec.ofChange dateMomentsSpec)) dateMomentsCard

/-- THE TIED CARD OF 'posthornlaw06.DateDressed'. -/
def dateDressedCard : Claim7 := { stood := { row := dateDressedRow, standIns := [], harness := (true, "ec0002153d908418ad9036c8eb25e79eae525d4067d76e59510e30dc758984e9"), looks := false }, kinds := [], alts := [], laidByText := true, laidKinds := [.data, .data, .data, .data, .data, .data], laidTests := true, laidLooks := .later }
def DateDressedCardSaid : Prop := Claim7.holds Tryd.pinned (.plain (OpenSpec.ofChange dateDressedSpec)) dateDressedCard

/-- THE SECOND FORM's CARD OF 'posthornlaw06.DateNext'. -/
def dateNextUptoCard : Claim7 := { stood := { row := dateNextUptoRow, standIns := [], harness := (true, "ec0002153d908418ad9036c8eb25e79eae525d4067d76e59510e30dc758984e9"), looks := false }, kinds := [], alts := [], laidByText := true, laidKinds := [.data, .data, .data], laidTests := true, laidLooks := .later }
def DateNextUptoCardSaid : Prop := Claim7.holds Tryd.pinned (.plain (OpenSpec.upto dateNextSpec)) dateNextUptoCard

/-- THE SECOND FORM's CARD OF 'posthornlaw06.DateOrders'. -/
def dateOrdersUptoCard : Claim7 := { stood := { row := dateOrdersUptoRow, standIns := [], harness := (true, "ec0002153d908418ad9036c8eb25e79eae525d4067d76e59510e30dc758984e9"), looks := false }, kinds := [], alts := [], laidByText := true, laidKinds := [.data, .data, .data], laidTests := true, laidLooks := .later }
def DateOrdersUptoCardSaid : Prop := Claim7.holds Tryd.pinned (.plain (OpenSpec.upto dateOrdersSpec)) dateOrdersUptoCard

/-- THE SECOND FORM's CARD OF 'posthornlaw06.DateMoments'. -/
def dateMomentsUptoCard : Claim7 := { stood := { row := dateMomentsUptoRow, standIns := [], harness := (true, "ec0002153d908418ad9036c8eb25e79eae525d4067d76e59510e30dc758984e9"), looks := false }, kinds := [], alts := [], laidByText := true, laidKinds := [.data, .data, .data], laidTests := true, laidLooks := .later }
def DateMomentsUptoCardSaid : Prop := Claim7.holds Tryd.pinned (.plain (OpenSpec.upto dateMomentsSpec)) dateMomentsUptoCard

/-- THE SECOND FORM's CARD OF 'posthornlaw06.DateDressed'. -/
def dateDressedUptoCard : Claim7 := { stood := { row := dateDressedUptoRow, standIns := [], harness := (true, "ec0002153d908418ad9036c8eb25e79eae525d4067d76e59510e30dc758984e9"), looks := false }, kinds := [], alts := [], laidByText := true, laidKinds := [.data, .data, .data, .data, .data, .data], laidTests := true, laidLooks := .later }
def DateDressedUptoCardSaid : Prop := Claim7.holds Tryd.pinned (.plain (OpenSpec.upto dateDressedSpec)) dateDressedUptoCard
end Rows
end Go.Proofs.YtedfnebadenmdabDoor
