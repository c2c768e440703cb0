/-
  DERIVED. GIVEN WITH THE SEED: THE CARDS: each row of YtnlgbopdbihnjaaGreatDoorRows.lean that lists a variable, with what it lists TIED to the program's text (the seventh form; the later family's looks); each row that meets fmt, with fmt's text TOLD by the authors' own Lean function (tested against real Go, not proved from fmt's source: count such statements apart). THE CARD IS WHAT COUNTS. Prove the row's statement (the work); the ties are given (YtnlgbopdbihnjaaGreatDoorTie.lean); close each card by the builder's one call (the guide's Derived/Test/ToyasCard.lean, 'card_holds'). Laid BY PROGRAM, IN A SANDBOX (cutbox-door.mjs). By AI agents, Wed Nov 11 2026. No macro, syntax, notation, axiom, sorry.
-/
import Derived.Test.YtnlgbopdbihnjaaGreatDoorRows
import GoSem.ClaimSeven
namespace Go.Proofs.YtnlgbopdbihnjaaGreatDoor
namespace Rows

/-- THE TIED CARD OF 'posthornlaw08.DomainKnown'. -/
def domainKnownCard : Claim7 := { stood := { row := domainKnownRow, standIns := [], harness := (true, "d8e94918465989e57ab21ec5cced422eae253fcb12105fce03f102210f14e0f0"), looks := true }, kinds := [], alts := [], laidByText := true, laidKinds := [.data, .data, .data, .data, .sentinel, .sentinel, .data, .data, .pinned], laidTests := true, laidLooks := .later }
def DomainKnownCardSaid : Prop := Claim7.holds Tryz.pinned (.plain (OpenSpec.ofChange domainKnownSpec)) domainKnownCard

/-- THE TIED CARD OF 'posthornlaw08.DomainParses'. -/
def domainParsesCard : Claim7 := { stood := { row := domainParsesRow, standIns := [], harness := (true, "d8e94918465989e57ab21ec5cced422eae253fcb12105fce03f102210f14e0f0"), looks := true }, kinds := [], alts := [], laidByText := true, laidKinds := [.data, .data, .data, .data, .sentinel, .sentinel, .data, .data, .pinned], laidTests := true, laidLooks := .later }
def DomainParsesCardSaid : Prop := Claim7.holds Tryz.pinned (.plain (OpenSpec.ofChange domainParsesSpec)) domainParsesCard

/-- THE TIED CARD OF 'posthornlaw08.DomainChecks'. -/
def domainChecksCard : Claim7 := { stood := { row := domainChecksRow, standIns := [], harness := (true, "d8e94918465989e57ab21ec5cced422eae253fcb12105fce03f102210f14e0f0"), looks := true }, kinds := [], alts := [], laidByText := true, laidKinds := [.data, .data, .data, .data, .sentinel, .sentinel, .data, .data, .pinned], laidTests := true, laidLooks := .later }
def DomainChecksCardSaid : Prop := Claim7.holds Tryz.pinned (.plain (OpenSpec.ofChange domainChecksSpec)) domainChecksCard

/-- THE TIED CARD OF 'posthornlaw08.DomainAddrs'. -/
def domainAddrsCard : Claim7 := { stood := { row := domainAddrsRow, standIns := [], harness := (true, "d8e94918465989e57ab21ec5cced422eae253fcb12105fce03f102210f14e0f0"), looks := true }, kinds := [], alts := [], laidByText := true, laidKinds := [.data, .data, .data, .data, .sentinel, .sentinel, .data, .data, .pinned], laidTests := true, laidLooks := .later }
def DomainAddrsCardSaid : Prop := Claim7.holds Tryz.pinned (.plain (OpenSpec.ofChange domainAddrsSpec)) domainAddrsCard

/-- THE TIED CARD OF 'posthornlaw08.DomainSames'. -/
def domainSamesCard : Claim7 := { stood := { row := domainSamesRow, standIns := [], harness := (true, "d8e94918465989e57ab21ec5cced422eae253fcb12105fce03f102210f14e0f0"), looks := true }, kinds := [], alts := [], laidByText := true, laidKinds := [.data, .data, .data, .data, .sentinel, .sentinel, .data, .data, .pinned], laidTests := true, laidLooks := .later }
def DomainSamesCardSaid : Prop := Claim7.holds Tryz.pinned (.plain (OpenSpec.ofChange domainSamesSpec)) domainSamesCard

/-- THE TIED CARD OF 'posthornlaw08.DomainBack'. -/
def domainBackCard : Claim7 := { stood := { row := domainBackRow, standIns := [], harness := (true, "d8e94918465989e57ab21ec5cced422eae253fcb12105fce03f102210f14e0f0"), looks := true }, kinds := [], alts := [], laidByText := true, laidKinds := [.data, .data, .data, .data, .sentinel, .sentinel, .data, .data, .pinned], laidTests := true, laidLooks := .later }
def DomainBackCardSaid : Prop := Claim7.holds Tryz.pinned (.plain (OpenSpec.ofChange domainBackSpec)) domainBackCard

/-- THE SECOND FORM's CARD OF 'posthornlaw08.DomainKnown'. -/
def domainKnownUptoCard : Claim7 := { stood := { row := domainKnownUptoRow, standIns := [], harness := (true, "d8e94918465989e57ab21ec5cced422eae253fcb12105fce03f102210f14e0f0"), looks := true }, kinds := [], alts := [], laidByText := true, laidKinds := [.data, .data, .data, .data, .sentinel, .sentinel, .data, .data, .pinned], laidTests := true, laidLooks := .later }
def DomainKnownUptoCardSaid : Prop := Claim7.holds Tryz.pinned (.plain (OpenSpec.upto domainKnownSpec)) domainKnownUptoCard

/-- THE SECOND FORM's CARD OF 'posthornlaw08.DomainParses'. -/
def domainParsesUptoCard : Claim7 := { stood := { row := domainParsesUptoRow, standIns := [], harness := (true, "d8e94918465989e57ab21ec5cced422eae253fcb12105fce03f102210f14e0f0"), looks := true }, kinds := [], alts := [], laidByText := true, laidKinds := [.data, .data, .data, .data, .sentinel, .sentinel, .data, .data, .pinned], laidTests := true, laidLooks := .later }
def DomainParsesUptoCardSaid : Prop := Claim7.holds Tryz.pinned (.plain (OpenSpec.upto domainParsesSpec)) domainParsesUptoCard

/-- THE SECOND FORM's CARD OF 'posthornlaw08.DomainChecks'. -/
def domainChecksUptoCard : Claim7 := { stood := { row := domainChecksUptoRow, standIns := [], harness := (true, "d8e94918465989e57ab21ec5cced422eae253fcb12105fce03f102210f14e0f0"), looks := true }, kinds := [], alts := [], laidByText := true, laidKinds := [.data, .data, .data, .data, .sentinel, .sentinel, .data, .data, .pinned], laidTests := true, laidLooks := .later }
def DomainChecksUptoCardSaid : Prop := Claim7.holds Tryz.pinned (.plain (OpenSpec.upto domainChecksSpec)) domainChecksUptoCard

/-- THE SECOND FORM's CARD OF 'posthornlaw08.DomainAddrs'. -/
def domainAddrsUptoCard : Claim7 := { stood := { row := domainAddrsUptoRow, standIns := [], harness := (true, "d8e94918465989e57ab21ec5cced422eae253fcb12105fce03f102210f14e0f0"), looks := true }, kinds := [], alts := [], laidByText := true, laidKinds := [.data, .data, .data, .data, .sentinel, .sentinel, .data, .data, .pinned], laidTests := true, laidLooks := .later }
def DomainAddrsUptoCardSaid : Prop := Claim7.holds Tryz.pinned (.plain (OpenSpec.upto domainAddrsSpec)) domainAddrsUptoCard

/-- THE SECOND FORM's CARD OF 'posthornlaw08.DomainSames'. -/
def domainSamesUptoCard : Claim7 := { stood := { row := domainSamesUptoRow, standIns := [], harness := (true, "d8e94918465989e57ab21ec5cced422eae253fcb12105fce03f102210f14e0f0"), looks := true }, kinds := [], alts := [], laidByText := true, laidKinds := [.data, .data, .data, .data, .sentinel, .sentinel, .data, .data, .pinned], laidTests := true, laidLooks := .later }
def DomainSamesUptoCardSaid : Prop := Claim7.holds Tryz.pinned (.plain (OpenSpec.upto domainSamesSpec)) domainSamesUptoCard

/-- THE SECOND FORM's CARD OF 'posthornlaw08.DomainBack'. -/
def domainBackUptoCard : Claim7 := { stood := { row := domainBackUptoRow, standIns := [], harness := (true, "d8e94918465989e57ab21ec5cced422eae253fcb12105fce03f102210f14e0f0"), looks := true }, kinds := [], alts := [], laidByText := true, laidKinds := [.data, .data, .data, .data, .sentinel, .sentinel, .data, .data, .pinned], laidTests := true, laidLooks := .later }
def DomainBackUptoCardSaid : Prop := Claim7.holds Tryz.pinned (.plain (OpenSpec.upto domainBackSpec)) domainBackUptoCard
end Rows
end Go.Proofs.YtnlgbopdbihnjaaGreatDoor
