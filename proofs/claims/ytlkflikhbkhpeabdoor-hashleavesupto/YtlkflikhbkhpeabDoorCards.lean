/-
  DERIVED. GIVEN WITH THE SEED: THE CARDS: each row of YtlkflikhbkhpeabDoorRows.lean that lists a variable, with what it lists TIED to the program's text (the seventh form; the later family's looks); each row that meets fmt, with fmt's text TOLD by the authors' own Lean function (tested against real Go, not proved from fmt's source: count such statements apart). THE CARD IS WHAT COUNTS. Prove the row's statement (the work); the ties are given (YtlkflikhbkhpeabDoorTie.lean); close each card by the builder's one call (the guide's Derived/Test/ToyasCard.lean, 'card_holds'). Laid BY PROGRAM, IN A SANDBOX (cutbox-door.mjs). By AI agents, Wed Nov 11 2026. No macro, syntax, notation, axiom, sorry.
-/
import Derived.Test.YtlkflikhbkhpeabDoorRows
import GoSem.ClaimSeven
namespace Go.Proofs.YtlkflikhbkhpeabDoor
namespace Rows

/-- THE TIED CARD OF 'posthornlaw03.HashNested'. -/
def hashNestedCard : Claim7 := { stood := { row := hashNestedRow, standIns := [], harness := (true, "b7e59f990c36c1894580180301a251473b03c298b3b3e2df518d33f0fba0774c"), looks := false }, kinds := [], alts := [], laidByText := true, laidKinds := [.data, .data], laidTests := true, laidLooks := .later }
def HashNestedCardSaid : Prop := Claim7.holds Tryd.pinned (.plain (OpenSpec.ofChange hashNestedSpec)) hashNestedCard

/-- THE TIED CARD OF 'posthornlaw03.HashLeaves'. -/
def hashLeavesCard : Claim7 := { stood := { row := hashLeavesRow, standIns := [], harness := (true, "b7e59f990c36c1894580180301a251473b03c298b3b3e2df518d33f0fba0774c"), looks := false }, kinds := [], alts := [], laidByText := true, laidKinds := [.data, .data], laidTests := true, laidLooks := .later }
def HashLeavesCardSaid : Prop := Claim7.holds Tryd.pinned (.plain (OpenSpec.ofChange hashLeavesSpec)) hashLeavesCard

/-- THE SECOND FORM's CARD OF 'posthornlaw03.HashNested'. -/
def hashNestedUptoCard : Claim7 := { stood := { row := hashNestedUptoRow, standIns := [], harness := (true, "b7e59f990c36c1894580180301a251473b03c298b3b3e2df518d33f0fba0774c"), looks := false }, kinds := [], alts := [], laidByText := true, laidKinds := [.data, .data], laidTests := true, laidLooks := .later }
def HashNestedUptoCardSaid : Prop := Claim7.holds Tryd.pinned (.plain (OpenSpec.upto hashNestedSpec)) hashNestedUptoCard

/-- THE SECOND FORM's CARD OF 'posthornlaw03.HashLeaves'. -/
def hashLeavesUptoCard : Claim7 := { stood := { row := hashLeavesUptoRow, standIns := [], harness := (true, "b7e59f990c36c1894580180301a251473b03c298b3b3e2df518d33f0fba0774c"), looks := false }, kinds := [], alts := [], laidByText := true, laidKinds := [.data, .data], laidTests := true, laidLooks := .later }
def HashLeavesUptoCardSaid : Prop := Claim7.holds Tryd.pinned (.plain (OpenSpec.upto hashLeavesSpec)) hashLeavesUptoCard
end Rows
end Go.Proofs.YtlkflikhbkhpeabDoor
