/-
  DERIVED. GIVEN WITH THE SEED: THE CARDS: each row of YtfjpkfhbmldmfabGreatDoorRows.lean that lists a variable, with what it lists TIED to the program's text (the seventh form; the later family's looks); each row that meets fmt, with fmt's text TOLD by the authors' own Lean function (tested against real Go, not proved from fmt's source: count such statements apart). THE CARD IS WHAT COUNTS. Prove the row's statement (the work); the ties are given (YtfjpkfhbmldmfabGreatDoorTie.lean); close each card by the builder's one call (the guide's Derived/Test/ToyasCard.lean, 'card_holds'). Laid BY PROGRAM, IN A SANDBOX (cutbox-door.mjs). By AI agents, Wed Nov 11 2026. No macro, syntax, notation, axiom, sorry.
-/
import Derived.Test.YtfjpkfhbmldmfabGreatDoorRows
import GoSem.ClaimSeven
namespace Go.Proofs.YtfjpkfhbmldmfabGreatDoor
namespace Rows

/-- THE TIED CARD OF 'posthornlaw09.PathFront'. -/
def pathFrontCard : Claim7 := { stood := { row := pathFrontRow, standIns := [], harness := (true, "03963f1d47b1667339b784004f888cc7ae9d1f3877022712e2a8cff1d10b1ca2"), looks := true }, kinds := [], alts := [], laidByText := true, laidKinds := [.data, .data, .data, .data, .sentinel, .sentinel, .data, .data, .pinned], laidTests := true, laidLooks := .later }
def PathFrontCardSaid : Prop := Claim7.holds Tryz.pinned (.plain (OpenSpec.ofChange pathFrontSpec)) pathFrontCard

/-- THE TIED CARD OF 'posthornlaw09.PathNarrow'. -/
def pathNarrowCard : Claim7 := { stood := { row := pathNarrowRow, standIns := [], harness := (true, "03963f1d47b1667339b784004f888cc7ae9d1f3877022712e2a8cff1d10b1ca2"), looks := true }, kinds := [], alts := [], laidByText := true, laidKinds := [.data, .data, .data, .data, .sentinel, .sentinel, .data, .data, .pinned], laidTests := true, laidLooks := .later }
def PathNarrowCardSaid : Prop := Claim7.holds Tryz.pinned (.plain (OpenSpec.ofChange pathNarrowSpec)) pathNarrowCard

/-- THE TIED CARD OF 'posthornlaw09.PathDressed'. -/
def pathDressedCard : Claim7 := { stood := { row := pathDressedRow, standIns := [], harness := (true, "03963f1d47b1667339b784004f888cc7ae9d1f3877022712e2a8cff1d10b1ca2"), looks := true }, kinds := [], alts := [], laidByText := true, laidKinds := [.data, .data, .data, .data, .sentinel, .sentinel, .data, .data, .pinned], laidTests := true, laidLooks := .later }
def PathDressedCardSaid : Prop := Claim7.holds Tryz.pinned (.plain (OpenSpec.ofChange pathDressedSpec)) pathDressedCard

/-- THE TIED CARD OF 'posthornlaw09.PathAlike'. -/
def pathAlikeCard : Claim7 := { stood := { row := pathAlikeRow, standIns := [], harness := (true, "03963f1d47b1667339b784004f888cc7ae9d1f3877022712e2a8cff1d10b1ca2"), looks := true }, kinds := [], alts := [], laidByText := true, laidKinds := [.data, .data, .data, .data, .sentinel, .sentinel, .data, .data, .pinned], laidTests := true, laidLooks := .later }
def PathAlikeCardSaid : Prop := Claim7.holds Tryz.pinned (.plain (OpenSpec.ofChange pathAlikeSpec)) pathAlikeCard

/-- THE SECOND FORM's CARD OF 'posthornlaw09.PathFront'. -/
def pathFrontUptoCard : Claim7 := { stood := { row := pathFrontUptoRow, standIns := [], harness := (true, "03963f1d47b1667339b784004f888cc7ae9d1f3877022712e2a8cff1d10b1ca2"), looks := true }, kinds := [], alts := [], laidByText := true, laidKinds := [.data, .data, .data, .data, .sentinel, .sentinel, .data, .data, .pinned], laidTests := true, laidLooks := .later }
def PathFrontUptoCardSaid : Prop := Claim7.holds Tryz.pinned (.plain (OpenSpec.upto pathFrontSpec)) pathFrontUptoCard

/-- THE SECOND FORM's CARD OF 'posthornlaw09.PathNarrow'. -/
def pathNarrowUptoCard : Claim7 := { stood := { row := pathNarrowUptoRow, standIns := [], harness := (true, "03963f1d47b1667339b784004f888cc7ae9d1f3877022712e2a8cff1d10b1ca2"), looks := true }, kinds := [], alts := [], laidByText := true, laidKinds := [.data, .data, .data, .data, .sentinel, .sentinel, .data, .data, .pinned], laidTests := true, laidLooks := .later }
def PathNarrowUptoCardSaid : Prop := Claim7.holds Tryz.pinned (.plain (OpenSpec.upto pathNarrowSpec)) pathNarrowUptoCard

/-- THE SECOND FORM's CARD OF 'posthornlaw09.PathDressed'. -/
def pathDressedUptoCard : Claim7 := { stood := { row := pathDressedUptoRow, standIns := [], harness := (true, "03963f1d47b1667339b784004f888cc7ae9d1f3877022712e2a8cff1d10b1ca2"), looks := true }, kinds := [], alts := [], laidByText := true, laidKinds := [.data, .data, .data, .data, .sentinel, .sentinel, .data, .data, .pinned], laidTests := true, laidLooks := .later }
def PathDressedUptoCardSaid : Prop := Claim7.holds Tryz.pinned (.plain (OpenSpec.upto pathDressedSpec)) pathDressedUptoCard

/-- THE SECOND FORM's CARD OF 'posthornlaw09.PathAlike'. -/
def pathAlikeUptoCard : Claim7 := { stood := { row := pathAlikeUptoRow, standIns := [], harness := (true, "03963f1d47b1667339b784004f888cc7ae9d1f3877022712e2a8cff1d10b1ca2"), looks := true }, kinds := [], alts := [], laidByText := true, laidKinds := [.data, .data, .data, .data, .sentinel, .sentinel, .data, .data, .pinned], laidTests := true, laidLooks := .later }
def PathAlikeUptoCardSaid : Prop := Claim7.holds Tryz.pinned (.plain (OpenSpec.upto pathAlikeSpec)) pathAlikeUptoCard
end Rows
end Go.Proofs.YtfjpkfhbmldmfabGreatDoor
