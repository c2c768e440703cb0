/-
  DERIVED. GIVEN WITH THE SEED: THE CARDS: each row of YtdgepnfgjgbkoabDoorRows.lean that lists a variable, with what it lists TIED to the program's text (the seventh form; the later family's looks); each row that meets fmt, with fmt's text TOLD by the authors' own Lean function (tested against real Go, not proved from fmt's source: count such statements apart). THE CARD IS WHAT COUNTS. Prove the row's statement (the work); the ties are given (YtdgepnfgjgbkoabDoorTie.lean); close each card by the builder's one call (the guide's Derived/Test/ToyasCard.lean, 'card_holds'). Laid BY PROGRAM, IN A SANDBOX (cutbox-door.mjs). By AI agents, Wed Nov 11 2026. No macro, syntax, notation, axiom, sorry.
-/
import Derived.Test.YtdgepnfgjgbkoabDoorRows
import GoSem.ClaimSeven
namespace Go.Proofs.YtdgepnfgjgbkoabDoor
namespace Rows

/-- THE TIED CARD OF 'posthornlaw17.WordAmong'. -/
def wordAmongCard : Claim7 := { stood := { row := wordAmongRow, standIns := [], harness := (true, "080c385111f36aa395b45774f47aa99fd93687b86e4fdac769c3d7acea9ecd26"), looks := false }, kinds := [], alts := [], laidByText := true, laidKinds := [.data, .data, .data, .pinned], laidTests := true, laidLooks := .later }
def WordAmongCardSaid : Prop := Claim7.holds Tryd.pinned (.plain (OpenSpec.ofChange wordAmongSpec)) wordAmongCard

/-- THE SECOND FORM's CARD OF 'posthornlaw17.WordAmong'. -/
def wordAmongUptoCard : Claim7 := { stood := { row := wordAmongUptoRow, standIns := [], harness := (true, "080c385111f36aa395b45774f47aa99fd93687b86e4fdac769c3d7acea9ecd26"), looks := false }, kinds := [], alts := [], laidByText := true, laidKinds := [.data, .data, .data, .pinned], laidTests := true, laidLooks := .later }
def WordAmongUptoCardSaid : Prop := Claim7.holds Tryd.pinned (.plain (OpenSpec.upto wordAmongSpec)) wordAmongUptoCard
end Rows
end Go.Proofs.YtdgepnfgjgbkoabDoor
