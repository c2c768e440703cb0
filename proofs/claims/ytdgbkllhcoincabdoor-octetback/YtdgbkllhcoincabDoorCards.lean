/-
  DERIVED. GIVEN WITH THE SEED: THE CARDS: each row of YtdgbkllhcoincabDoorRows.lean that lists a variable, with what it lists TIED to the program's text (the seventh form; the later family's looks); each row that meets fmt, with fmt's text TOLD by the authors' own Lean function (tested against real Go, not proved from fmt's source: count such statements apart). THE CARD IS WHAT COUNTS. Prove the row's statement (the work); the ties are given (YtdgbkllhcoincabDoorTie.lean); close each card by the builder's one call (the guide's Derived/Test/ToyasCard.lean, 'card_holds'). Laid BY PROGRAM, IN A SANDBOX (cutbox-door.mjs). By AI agents, Wed Nov 11 2026. No macro, syntax, notation, axiom, sorry.
-/
import Derived.Test.YtdgbkllhcoincabDoorRows
import GoSem.ClaimSeven
namespace Go.Proofs.YtdgbkllhcoincabDoor
namespace Rows

/-- THE TIED CARD OF 'posthornlaw01.OctetKinds'. -/
def octetKindsCard : Claim7 := { stood := { row := octetKindsRow, standIns := [], harness := (true, "ca407068adf76ba244c86f20f3e7a6e90d9025d02721a8c8c0e387259a443702"), looks := false }, kinds := [], alts := [], laidByText := true, laidKinds := [.data, .data, .data, .data], laidTests := true, laidLooks := .later }
def OctetKindsCardSaid : Prop := Claim7.holds Tryd.pinned (.plain (OpenSpec.ofChange octetKindsSpec)) octetKindsCard

/-- THE TIED CARD OF 'posthornlaw01.OctetRows'. -/
def octetRowsCard : Claim7 := { stood := { row := octetRowsRow, standIns := [], harness := (true, "ca407068adf76ba244c86f20f3e7a6e90d9025d02721a8c8c0e387259a443702"), looks := false }, kinds := [], alts := [], laidByText := true, laidKinds := [.data, .data, .data, .data], laidTests := true, laidLooks := .later }
def OctetRowsCardSaid : Prop := Claim7.holds Tryd.pinned (.plain (OpenSpec.ofChange octetRowsSpec)) octetRowsCard

/-- THE TIED CARD OF 'posthornlaw01.OctetBack'. -/
def octetBackCard : Claim7 := { stood := { row := octetBackRow, standIns := [], harness := (true, "ca407068adf76ba244c86f20f3e7a6e90d9025d02721a8c8c0e387259a443702"), looks := false }, kinds := [], alts := [], laidByText := true, laidKinds := [.data, .data, .data, .data], laidTests := true, laidLooks := .later }
def OctetBackCardSaid : Prop := Claim7.holds Tryd.pinned (.plain (OpenSpec.ofChange octetBackSpec)) octetBackCard

/-- THE TIED CARD OF 'posthornlaw01.OctetPairs'. -/
def octetPairsCard : Claim7 := { stood := { row := octetPairsRow, standIns := [], harness := (true, "ca407068adf76ba244c86f20f3e7a6e90d9025d02721a8c8c0e387259a443702"), looks := false }, kinds := [], alts := [], laidByText := true, laidKinds := [.data, .data, .data, .data], laidTests := true, laidLooks := .later }
def OctetPairsCardSaid : Prop := Claim7.holds Tryd.pinned (.plain (OpenSpec.ofChange octetPairsSpec)) octetPairsCard

/-- THE TIED CARD OF 'posthornlaw01.OctetCapitals'. -/
def octetCapitalsCard : Claim7 := { stood := { row := octetCapitalsRow, standIns := [], harness := (true, "ca407068adf76ba244c86f20f3e7a6e90d9025d02721a8c8c0e387259a443702"), looks := false }, kinds := [], alts := [], laidByText := true, laidKinds := [.data, .data, .data, .data], laidTests := true, laidLooks := .later }
def OctetCapitalsCardSaid : Prop := Claim7.holds Tryd.pinned (.plain (OpenSpec.ofChange octetCapitalsSpec)) octetCapitalsCard

/-- THE SECOND FORM's CARD OF 'posthornlaw01.OctetKinds'. -/
def octetKindsUptoCard : Claim7 := { stood := { row := octetKindsUptoRow, standIns := [], harness := (true, "ca407068adf76ba244c86f20f3e7a6e90d9025d02721a8c8c0e387259a443702"), looks := false }, kinds := [], alts := [], laidByText := true, laidKinds := [.data, .data, .data, .data], laidTests := true, laidLooks := .later }
def OctetKindsUptoCardSaid : Prop := Claim7.holds Tryd.pinned (.plain (OpenSpec.upto octetKindsSpec)) octetKindsUptoCard

/-- THE SECOND FORM's CARD OF 'posthornlaw01.OctetRows'. -/
def octetRowsUptoCard : Claim7 := { stood := { row := octetRowsUptoRow, standIns := [], harness := (true, "ca407068adf76ba244c86f20f3e7a6e90d9025d02721a8c8c0e387259a443702"), looks := false }, kinds := [], alts := [], laidByText := true, laidKinds := [.data, .data, .data, .data], laidTests := true, laidLooks := .later }
def OctetRowsUptoCardSaid : Prop := Claim7.holds Tryd.pinned (.plain (OpenSpec.upto octetRowsSpec)) octetRowsUptoCard

/-- THE SECOND FORM's CARD OF 'posthornlaw01.OctetBack'. -/
def octetBackUptoCard : Claim7 := { stood := { row := octetBackUptoRow, standIns := [], harness := (true, "ca407068adf76ba244c86f20f3e7a6e90d9025d02721a8c8c0e387259a443702"), looks := false }, kinds := [], alts := [], laidByText := true, laidKinds := [.data, .data, .data, .data], laidTests := true, laidLooks := .later }
def OctetBackUptoCardSaid : Prop := Claim7.holds Tryd.pinned (.plain (OpenSpec.upto octetBackSpec)) octetBackUptoCard

/-- THE SECOND FORM's CARD OF 'posthornlaw01.OctetPairs'. -/
def octetPairsUptoCard : Claim7 := { stood := { row := octetPairsUptoRow, standIns := [], harness := (true, "ca407068adf76ba244c86f20f3e7a6e90d9025d02721a8c8c0e387259a443702"), looks := false }, kinds := [], alts := [], laidByText := true, laidKinds := [.data, .data, .data, .data], laidTests := true, laidLooks := .later }
def OctetPairsUptoCardSaid : Prop := Claim7.holds Tryd.pinned (.plain (OpenSpec.upto octetPairsSpec)) octetPairsUptoCard

/-- THE SECOND FORM's CARD OF 'posthornlaw01.OctetCapitals'. -/
def octetCapitalsUptoCard : Claim7 := { stood := { row := octetCapitalsUptoRow, standIns := [], harness := (true, "ca407068adf76ba244c86f20f3e7a6e90d9025d02721a8c8c0e387259a443702"), looks := false }, kinds := [], alts := [], laidByText := true, laidKinds := [.data, .data, .data, .data], laidTests := true, laidLooks := .later }
def OctetCapitalsUptoCardSaid : Prop := Claim7.holds Tryd.pinned (.plain (OpenSpec.upto octetCapitalsSpec)) octetCapitalsUptoCard
end Rows
end Go.Proofs.YtdgbkllhcoincabDoor
