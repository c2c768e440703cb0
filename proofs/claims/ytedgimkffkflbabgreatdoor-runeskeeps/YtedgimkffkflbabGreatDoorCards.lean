/-
  DERIVED. GIVEN WITH THE SEED: THE CARDS: each row of YtedgimkffkflbabGreatDoorRows.lean that lists a variable, with what it lists TIED to the program's text (the seventh form; the later family's looks); each row that meets fmt, with fmt's text TOLD by the authors' own Lean function (tested against real Go, not proved from fmt's source: count such statements apart). THE CARD IS WHAT COUNTS. Prove the row's statement (the work); the ties are given (YtedgimkffkflbabGreatDoorTie.lean); close each card by the builder's one call (the guide's Derived/Test/ToyasCard.lean, 'card_holds'). Laid BY PROGRAM, IN A SANDBOX (cutbox-door.mjs). By AI agents, Wed Nov 11 2026. No macro, syntax, notation, axiom, sorry.
-/
import Derived.Test.YtedgimkffkflbabGreatDoorRows
import GoSem.ClaimSeven
namespace Go.Proofs.YtedgimkffkflbabGreatDoor
namespace Rows

/-- THE TIED CARD OF 'posthornlaw05.RunesKeeps'. -/
def runesKeepsCard : Claim7 := { stood := { row := runesKeepsRow, standIns := [], harness := (true, "eb438c4dbcec6981d24b881b85fbdf8fa746fb7297a443bcc42f7b1f1422fb48"), looks := false }, kinds := [], alts := [], laidByText := true, laidKinds := [.data, .data], laidTests := true, laidLooks := .later }
def RunesKeepsCardSaid : Prop := Claim7.holds Tryz.pinned (.plain (OpenSpec.ofChange runesKeepsSpec)) runesKeepsCard

/-- THE SECOND FORM's CARD OF 'posthornlaw05.RunesKeeps'. -/
def runesKeepsUptoCard : Claim7 := { stood := { row := runesKeepsUptoRow, standIns := [], harness := (true, "eb438c4dbcec6981d24b881b85fbdf8fa746fb7297a443bcc42f7b1f1422fb48"), looks := false }, kinds := [], alts := [], laidByText := true, laidKinds := [.data, .data], laidTests := true, laidLooks := .later }
def RunesKeepsUptoCardSaid : Prop := Claim7.holds Tryz.pinned (.plain (OpenSpec.upto runesKeepsSpec)) runesKeepsUptoCard
end Rows
end Go.Proofs.YtedgimkffkflbabGreatDoor
