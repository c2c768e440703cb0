/-
  DERIVED. GIVEN WITH THE SEED: THE CARDS: each row of YtjpmfgmoekpcpabGreatDoorRows.lean that lists a variable, with what it lists TIED to the program's text (the seventh form; the later family's looks); each row that meets fmt, with fmt's text TOLD by the authors' own Lean function (tested against real Go, not proved from fmt's source: count such statements apart). THE CARD IS WHAT COUNTS. Prove the row's statement (the work); the ties are given (YtjpmfgmoekpcpabGreatDoorTie.lean); close each card by the builder's one call (the guide's Derived/Test/ToyasCard.lean, 'card_holds'). Laid BY PROGRAM, IN A SANDBOX (cutbox-door.mjs). By AI agents, Wed Nov 11 2026. No macro, syntax, notation, axiom, sorry.
-/
import Derived.Test.YtjpmfgmoekpcpabGreatDoorRows
import GoSem.ClaimSeven
namespace Go.Proofs.YtjpmfgmoekpcpabGreatDoor
namespace Rows

/-- THE TIED CARD OF 'posthornlaw10.ParamBack'. -/
def paramBackCard : Claim7 := { stood := { row := paramBackRow, standIns := [], harness := (true, "15d2cc29e48604ac5dc14d7a254613dbf053f4f91684b0170833a199d01d47ec"), looks := true }, kinds := [], alts := [], laidByText := true, laidKinds := [.data, .data, .data, .data, .sentinel, .sentinel, .data, .data, .pinned], laidTests := true, laidLooks := .later }
def ParamBackCardSaid : Prop := Claim7.holds Tryz.pinned (.plain (OpenSpec.ofChange paramBackSpec)) paramBackCard

/-- THE TIED CARD OF 'posthornlaw10.ParamAgain'. -/
def paramAgainCard : Claim7 := { stood := { row := paramAgainRow, standIns := [], harness := (true, "15d2cc29e48604ac5dc14d7a254613dbf053f4f91684b0170833a199d01d47ec"), looks := true }, kinds := [], alts := [], laidByText := true, laidKinds := [.data, .data, .data, .data, .sentinel, .sentinel, .data, .data, .pinned], laidTests := true, laidLooks := .later }
def ParamAgainCardSaid : Prop := Claim7.holds Tryz.pinned (.plain (OpenSpec.ofChange paramAgainSpec)) paramAgainCard

/-- THE TIED CARD OF 'posthornlaw10.ParamCarried'. -/
def paramCarriedCard : Claim7 := { stood := { row := paramCarriedRow, standIns := [], harness := (true, "15d2cc29e48604ac5dc14d7a254613dbf053f4f91684b0170833a199d01d47ec"), looks := true }, kinds := [], alts := [], laidByText := true, laidKinds := [.data, .data, .data, .data, .sentinel, .sentinel, .data, .data, .pinned], laidTests := true, laidLooks := .later }
def ParamCarriedCardSaid : Prop := Claim7.holds Tryz.pinned (.plain (OpenSpec.ofChange paramCarriedSpec)) paramCarriedCard

/-- THE TIED CARD OF 'posthornlaw10.ParamMeant'. -/
def paramMeantCard : Claim7 := { stood := { row := paramMeantRow, standIns := [], harness := (true, "15d2cc29e48604ac5dc14d7a254613dbf053f4f91684b0170833a199d01d47ec"), looks := true }, kinds := [], alts := [], laidByText := true, laidKinds := [.data, .data, .data, .data, .sentinel, .sentinel, .data, .data, .pinned], laidTests := true, laidLooks := .later }
def ParamMeantCardSaid : Prop := Claim7.holds Tryz.pinned (.plain (OpenSpec.ofChange paramMeantSpec)) paramMeantCard

/-- THE TIED CARD OF 'posthornlaw10.ParamAnyOrder'. -/
def paramAnyOrderCard : Claim7 := { stood := { row := paramAnyOrderRow, standIns := [], harness := (true, "15d2cc29e48604ac5dc14d7a254613dbf053f4f91684b0170833a199d01d47ec"), looks := true }, kinds := [], alts := [], laidByText := true, laidKinds := [.data, .data, .data, .data, .sentinel, .sentinel, .data, .data, .pinned], laidTests := true, laidLooks := .later }
def ParamAnyOrderCardSaid : Prop := Claim7.holds Tryz.pinned (.plain (OpenSpec.ofChange paramAnyOrderSpec)) paramAnyOrderCard

/-- THE SECOND FORM's CARD OF 'posthornlaw10.ParamBack'. -/
def paramBackUptoCard : Claim7 := { stood := { row := paramBackUptoRow, standIns := [], harness := (true, "15d2cc29e48604ac5dc14d7a254613dbf053f4f91684b0170833a199d01d47ec"), looks := true }, kinds := [], alts := [], laidByText := true, laidKinds := [.data, .data, .data, .data, .sentinel, .sentinel, .data, .data, .pinned], laidTests := true, laidLooks := .later }
def ParamBackUptoCardSaid : Prop := Claim7.holds Tryz.pinned (.plain (OpenSpec.upto paramBackSpec)) paramBackUptoCard

/-- THE SECOND FORM's CARD OF 'posthornlaw10.ParamAgain'. -/
def paramAgainUptoCard : Claim7 := { stood := { row := paramAgainUptoRow, standIns := [], harness := (true, "15d2cc29e48604ac5dc14d7a254613dbf053f4f91684b0170833a199d01d47ec"), looks := true }, kinds := [], alts := [], laidByText := true, laidKinds := [.data, .data, .data, .data, .sentinel, .sentinel, .data, .data, .pinned], laidTests := true, laidLooks := .later }
def ParamAgainUptoCardSaid : Prop := Claim7.holds Tryz.pinned (.plain (OpenSpec.upto paramAgainSpec)) paramAgainUptoCard

/-- THE SECOND FORM's CARD OF 'posthornlaw10.ParamCarried'. -/
def paramCarriedUptoCard : Claim7 := { stood := { row := paramCarriedUptoRow, standIns := [], harness := (true, "15d2cc29e48604ac5dc14d7a254613dbf053f4f91684b0170833a199d01d47ec"), looks := true }, kinds := [], alts := [], laidByText := true, laidKinds := [.data, .data, .data, .data, .sentinel, .sentinel, .data, .data, .pinned], laidTests := true, laidLooks := .later }
def ParamCarriedUptoCardSaid : Prop := Claim7.holds Tryz.pinned (.plain (OpenSpec.upto paramCarriedSpec)) paramCarriedUptoCard

/-- THE SECOND FORM's CARD OF 'posthornlaw10.ParamMeant'. -/
def paramMeantUptoCard : Claim7 := { stood := { row := paramMeantUptoRow, standIns := [], harness := (true, "15d2cc29e48604ac5dc14d7a254613dbf053f4f91684b0170833a199d01d47ec"), looks := true }, kinds := [], alts := [], laidByText := true, laidKinds := [.data, .data, .data, .data, .sentinel, .sentinel, .data, .data, .pinned], laidTests := true, laidLooks := .later }
def ParamMeantUptoCardSaid : Prop := Claim7.holds Tryz.pinned (.plain (OpenSpec.upto paramMeantSpec)) paramMeantUptoCard

/-- THE SECOND FORM's CARD OF 'posthornlaw10.ParamAnyOrder'. -/
def paramAnyOrderUptoCard : Claim7 := { stood := { row := paramAnyOrderUptoRow, standIns := [], harness := (true, "15d2cc29e48604ac5dc14d7a254613dbf053f4f91684b0170833a199d01d47ec"), looks := true }, kinds := [], alts := [], laidByText := true, laidKinds := [.data, .data, .data, .data, .sentinel, .sentinel, .data, .data, .pinned], laidTests := true, laidLooks := .later }
def ParamAnyOrderUptoCardSaid : Prop := Claim7.holds Tryz.pinned (.plain (OpenSpec.upto paramAnyOrderSpec)) paramAnyOrderUptoCard
end Rows
end Go.Proofs.YtjpmfgmoekpcpabGreatDoor
