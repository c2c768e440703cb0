/-
  DERIVED. GIVEN WITH THE SEED: THE CARDS: each row of YtnlgbopdbihnjabGreatDoorRows.lean that lists a variable, with what it lists TIED to the program's text (the seventh form; the later family's looks); each row that meets fmt, with fmt's text TOLD by the authors' own Lean function (tested against real Go, not proved from fmt's source: count such statements apart). THE CARD IS WHAT COUNTS. Prove the row's statement (the work); the ties are given (YtnlgbopdbihnjabGreatDoorTie.lean); close each card by the builder's one call (the guide's Derived/Test/ToyasCard.lean, 'card_holds'). Laid BY PROGRAM, IN A SANDBOX (cutbox-door.mjs). By AI agents, Wed Nov 11 2026. No macro, syntax, notation, axiom, sorry.
-/
import Derived.Test.YtnlgbopdbihnjabGreatDoorRows
import GoSem.ClaimSeven
namespace Go.Proofs.YtnlgbopdbihnjabGreatDoor
namespace Rows

/-- THE TIED CARD OF 'posthornlaw08.DomainThere'. -/
def domainThereCard : Claim7 := { stood := { row := domainThereRow, standIns := [], harness := (true, "425031842d394e99516c7a1eb4862aa6577955518fc1e6e3caf03f3bf190bedd"), looks := true }, kinds := [], alts := [], laidByText := true, laidKinds := [.data, .data, .data, .data, .sentinel, .sentinel, .data, .data, .pinned], laidTests := true, laidLooks := .later }
def DomainThereCardSaid : Prop := Claim7.holds Tryz.pinned (.plain (OpenSpec.ofChange domainThereSpec)) domainThereCard

/-- THE TIED CARD OF 'posthornlaw08.DomainOne'. -/
def domainOneCard : Claim7 := { stood := { row := domainOneRow, standIns := [], harness := (true, "425031842d394e99516c7a1eb4862aa6577955518fc1e6e3caf03f3bf190bedd"), looks := true }, kinds := [], alts := [], laidByText := true, laidKinds := [.data, .data, .data, .data, .sentinel, .sentinel, .data, .data, .pinned], laidTests := true, laidLooks := .later }
def DomainOneCardSaid : Prop := Claim7.holds Tryz.pinned (.plain (OpenSpec.ofChange domainOneSpec)) domainOneCard

/-- THE TIED CARD OF 'posthornlaw08.DomainWires'. -/
def domainWiresCard : Claim7 := { stood := { row := domainWiresRow, standIns := [], harness := (true, "425031842d394e99516c7a1eb4862aa6577955518fc1e6e3caf03f3bf190bedd"), looks := true }, kinds := [], alts := [], laidByText := true, laidKinds := [.data, .data, .data, .data, .sentinel, .sentinel, .data, .data, .pinned], laidTests := true, laidLooks := .later }
def DomainWiresCardSaid : Prop := Claim7.holds Tryz.pinned (.plain (OpenSpec.ofChange domainWiresSpec)) domainWiresCard

/-- THE TIED CARD OF 'posthornlaw08.DomainNets'. -/
def domainNetsCard : Claim7 := { stood := { row := domainNetsRow, standIns := [], harness := (true, "425031842d394e99516c7a1eb4862aa6577955518fc1e6e3caf03f3bf190bedd"), looks := true }, kinds := [], alts := [], laidByText := true, laidKinds := [.data, .data, .data, .data, .sentinel, .sentinel, .data, .data, .pinned], laidTests := true, laidLooks := .later }
def DomainNetsCardSaid : Prop := Claim7.holds Tryz.pinned (.plain (OpenSpec.ofChange domainNetsSpec)) domainNetsCard

/-- THE SECOND FORM's CARD OF 'posthornlaw08.DomainThere'. -/
def domainThereUptoCard : Claim7 := { stood := { row := domainThereUptoRow, standIns := [], harness := (true, "425031842d394e99516c7a1eb4862aa6577955518fc1e6e3caf03f3bf190bedd"), looks := true }, kinds := [], alts := [], laidByText := true, laidKinds := [.data, .data, .data, .data, .sentinel, .sentinel, .data, .data, .pinned], laidTests := true, laidLooks := .later }
def DomainThereUptoCardSaid : Prop := Claim7.holds Tryz.pinned (.plain (OpenSpec.upto domainThereSpec)) domainThereUptoCard

/-- THE SECOND FORM's CARD OF 'posthornlaw08.DomainOne'. -/
def domainOneUptoCard : Claim7 := { stood := { row := domainOneUptoRow, standIns := [], harness := (true, "425031842d394e99516c7a1eb4862aa6577955518fc1e6e3caf03f3bf190bedd"), looks := true }, kinds := [], alts := [], laidByText := true, laidKinds := [.data, .data, .data, .data, .sentinel, .sentinel, .data, .data, .pinned], laidTests := true, laidLooks := .later }
def DomainOneUptoCardSaid : Prop := Claim7.holds Tryz.pinned (.plain (OpenSpec.upto domainOneSpec)) domainOneUptoCard

/-- THE SECOND FORM's CARD OF 'posthornlaw08.DomainWires'. -/
def domainWiresUptoCard : Claim7 := { stood := { row := domainWiresUptoRow, standIns := [], harness := (true, "425031842d394e99516c7a1eb4862aa6577955518fc1e6e3caf03f3bf190bedd"), looks := true }, kinds := [], alts := [], laidByText := true, laidKinds := [.data, .data, .data, .data, .sentinel, .sentinel, .data, .data, .pinned], laidTests := true, laidLooks := .later }
def DomainWiresUptoCardSaid : Prop := Claim7.holds Tryz.pinned (.plain (OpenSpec.upto domainWiresSpec)) domainWiresUptoCard

/-- THE SECOND FORM's CARD OF 'posthornlaw08.DomainNets'. -/
def domainNetsUptoCard : Claim7 := { stood := { row := domainNetsUptoRow, standIns := [], harness := (true, "425031842d394e99516c7a1eb4862aa6577955518fc1e6e3caf03f3bf190bedd"), looks := true }, kinds := [], alts := [], laidByText := true, laidKinds := [.data, .data, .data, .data, .sentinel, .sentinel, .data, .data, .pinned], laidTests := true, laidLooks := .later }
def DomainNetsUptoCardSaid : Prop := Claim7.holds Tryz.pinned (.plain (OpenSpec.upto domainNetsSpec)) domainNetsUptoCard
end Rows
end Go.Proofs.YtnlgbopdbihnjabGreatDoor
