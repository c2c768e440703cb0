/-
  DERIVED. GIVEN WITH THE SEED: THE CARDS: each row of YtedgimkffkflbabDoorRows.lean that lists a variable, with what it lists TIED to the program's text (the seventh form; the later family's looks); each row that meets fmt, with fmt's text TOLD by the authors' own Lean function (tested against real Go, not proved from fmt's source: count such statements apart). THE CARD IS WHAT COUNTS. Prove the row's statement (the work); the ties are given (YtedgimkffkflbabDoorTie.lean); close each card by the builder's one call (the guide's Derived/Test/ToyasCard.lean, 'card_holds'). Laid BY PROGRAM, IN A SANDBOX (cutbox-door.mjs). By AI agents, Wed Nov 11 2026. No macro, syntax, notation, axiom, sorry.
-/
import Derived.Test.YtedgimkffkflbabDoorRows
import GoSem.ClaimSeven
namespace Go.Proofs.YtedgimkffkflbabDoor
namespace Rows

/-- THE TIED CARD OF 'posthornlaw05.RunesThere'. -/
def runesThereCard : Claim7 := { stood := { row := runesThereRow, standIns := [], harness := (true, "2ba89960b9ae1886723dbb6f40f7af10f2ff7b2c43ac8d3fb5def60e540b9118"), looks := false }, kinds := [], alts := [], laidByText := true, laidKinds := [.data, .data], laidTests := true, laidLooks := .later }
def RunesThereCardSaid : Prop := Claim7.holds Tryd.pinned (.plain (OpenSpec.ofChange runesThereSpec)) runesThereCard

/-- THE TIED CARD OF 'posthornlaw05.RunesCut'. -/
def runesCutCard : Claim7 := { stood := { row := runesCutRow, standIns := [], harness := (true, "2ba89960b9ae1886723dbb6f40f7af10f2ff7b2c43ac8d3fb5def60e540b9118"), looks := false }, kinds := [], alts := [], laidByText := true, laidKinds := [.data, .data], laidTests := true, laidLooks := .later }
def RunesCutCardSaid : Prop := Claim7.holds Tryd.pinned (.plain (OpenSpec.ofChange runesCutSpec)) runesCutCard

/-- THE SECOND FORM's CARD OF 'posthornlaw05.RunesThere'. -/
def runesThereUptoCard : Claim7 := { stood := { row := runesThereUptoRow, standIns := [], harness := (true, "2ba89960b9ae1886723dbb6f40f7af10f2ff7b2c43ac8d3fb5def60e540b9118"), looks := false }, kinds := [], alts := [], laidByText := true, laidKinds := [.data, .data], laidTests := true, laidLooks := .later }
def RunesThereUptoCardSaid : Prop := Claim7.holds Tryd.pinned (.plain (OpenSpec.upto runesThereSpec)) runesThereUptoCard

/-- THE SECOND FORM's CARD OF 'posthornlaw05.RunesCut'. -/
def runesCutUptoCard : Claim7 := { stood := { row := runesCutUptoRow, standIns := [], harness := (true, "2ba89960b9ae1886723dbb6f40f7af10f2ff7b2c43ac8d3fb5def60e540b9118"), looks := false }, kinds := [], alts := [], laidByText := true, laidKinds := [.data, .data], laidTests := true, laidLooks := .later }
def RunesCutUptoCardSaid : Prop := Claim7.holds Tryd.pinned (.plain (OpenSpec.upto runesCutSpec)) runesCutUptoCard
end Rows
end Go.Proofs.YtedgimkffkflbabDoor
