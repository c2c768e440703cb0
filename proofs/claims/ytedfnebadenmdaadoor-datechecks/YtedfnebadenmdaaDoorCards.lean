/-
  DERIVED. GIVEN WITH THE SEED: THE CARDS: each row of YtedfnebadenmdaaDoorRows.lean that lists a variable, with what it lists TIED to the program's text (the seventh form; the later family's looks); each row that meets fmt, with fmt's text TOLD by the authors' own Lean function (tested against real Go, not proved from fmt's source: count such statements apart). THE CARD IS WHAT COUNTS. Prove the row's statement (the work); the ties are given (YtedfnebadenmdaaDoorTie.lean); close each card by the builder's one call (the guide's Derived/Test/ToyasCard.lean, 'card_holds'). Laid BY PROGRAM, IN A SANDBOX (cutbox-door.mjs). By AI agents, Wed Nov 11 2026. No macro, syntax, notation, axiom, sorry.
-/
import Derived.Test.YtedfnebadenmdaaDoorRows
import GoSem.ClaimSeven
namespace Go.Proofs.YtedfnebadenmdaaDoor
namespace Rows

/-- THE TIED CARD OF 'posthornlaw06.DateDays'. -/
def dateDaysCard : Claim7 := { stood := { row := dateDaysRow, standIns := [], harness := (true, "90866c7d09f628c0b9f870e8654c6b6627c1dd6c33fcadb81a5a01e5bc2be8d5"), looks := false }, kinds := [], alts := [], laidByText := true, laidKinds := [.data, .data, .data], laidTests := true, laidLooks := .later }
def DateDaysCardSaid : Prop := Claim7.holds Tryd.pinned (.plain (OpenSpec.ofChange dateDaysSpec)) dateDaysCard

/-- THE TIED CARD OF 'posthornlaw06.DateCivils'. -/
def dateCivilsCard : Claim7 := { stood := { row := dateCivilsRow, standIns := [], harness := (true, "90866c7d09f628c0b9f870e8654c6b6627c1dd6c33fcadb81a5a01e5bc2be8d5"), looks := false }, kinds := [], alts := [], laidByText := true, laidKinds := [.data, .data, .data], laidTests := true, laidLooks := .later }
def DateCivilsCardSaid : Prop := Claim7.holds Tryd.pinned (.plain (OpenSpec.ofChange dateCivilsSpec)) dateCivilsCard

/-- THE TIED CARD OF 'posthornlaw06.DateChecks'. -/
def dateChecksCard : Claim7 := { stood := { row := dateChecksRow, standIns := [], harness := (true, "90866c7d09f628c0b9f870e8654c6b6627c1dd6c33fcadb81a5a01e5bc2be8d5"), looks := false }, kinds := [], alts := [], laidByText := true, laidKinds := [.data, .data, .data, .data, .data, .data], laidTests := true, laidLooks := .later }
def DateChecksCardSaid : Prop := Claim7.holds Tryd.pinned (.plain (OpenSpec.ofChange dateChecksSpec)) dateChecksCard

/-- THE TIED CARD OF 'posthornlaw06.DateOfs'. -/
def dateOfsCard : Claim7 := { stood := { row := dateOfsRow, standIns := [], harness := (true, "90866c7d09f628c0b9f870e8654c6b6627c1dd6c33fcadb81a5a01e5bc2be8d5"), looks := false }, kinds := [], alts := [], laidByText := true, laidKinds := [.data, .data, .data], laidTests := true, laidLooks := .later }
def DateOfsCardSaid : Prop := Claim7.holds Tryd.pinned (.plain (OpenSpec.ofChange dateOfsSpec)) dateOfsCard

/-- THE TIED CARD OF 'posthornlaw06.DateParses'. -/
def dateParsesCard : Claim7 := { stood := { row := dateParsesRow, standIns := [], harness := (true, "90866c7d09f628c0b9f870e8654c6b6627c1dd6c33fcadb81a5a01e5bc2be8d5"), looks := false }, kinds := [], alts := [], laidByText := true, laidKinds := [.data, .data, .data], laidTests := true, laidLooks := .later }
def DateParsesCardSaid : Prop := Claim7.holds Tryd.pinned (.plain (OpenSpec.ofChange dateParsesSpec)) dateParsesCard

/-- THE TIED CARD OF 'posthornlaw06.DateBack'. -/
def dateBackCard : Claim7 := { stood := { row := dateBackRow, standIns := [], harness := (true, "90866c7d09f628c0b9f870e8654c6b6627c1dd6c33fcadb81a5a01e5bc2be8d5"), looks := false }, kinds := [], alts := [], laidByText := true, laidKinds := [.data, .data, .data, .data, .data, .data], laidTests := true, laidLooks := .later }
def DateBackCardSaid : Prop := Claim7.holds Tryd.pinned (.plain (OpenSpec.ofChange dateBackSpec)) dateBackCard

/-- THE SECOND FORM's CARD OF 'posthornlaw06.DateDays'. -/
def dateDaysUptoCard : Claim7 := { stood := { row := dateDaysUptoRow, standIns := [], harness := (true, "90866c7d09f628c0b9f870e8654c6b6627c1dd6c33fcadb81a5a01e5bc2be8d5"), looks := false }, kinds := [], alts := [], laidByText := true, laidKinds := [.data, .data, .data], laidTests := true, laidLooks := .later }
def DateDaysUptoCardSaid : Prop := Claim7.holds Tryd.pinned (.plain (OpenSpec.upto dateDaysSpec)) dateDaysUptoCard

/-- THE SECOND FORM's CARD OF 'posthornlaw06.DateCivils'. -/
def dateCivilsUptoCard : Claim7 := { stood := { row := dateCivilsUptoRow, standIns := [], harness := (true, "90866c7d09f628c0b9f870e8654c6b6627c1dd6c33fcadb81a5a01e5bc2be8d5"), looks := false }, kinds := [], alts := [], laidByText := true, laidKinds := [.data, .data, .data], laidTests := true, laidLooks := .later }
def DateCivilsUptoCardSaid : Prop := Claim7.holds Tryd.pinned (.plain (OpenSpec.upto dateCivilsSpec)) dateCivilsUptoCard

/-- THE SECOND FORM's CARD OF 'posthornlaw06.DateChecks'. -/
def dateChecksUptoCard : Claim7 := { stood := { row := dateChecksUptoRow, standIns := [], harness := (true, "90866c7d09f628c0b9f870e8654c6b6627c1dd6c33fcadb81a5a01e5bc2be8d5"), looks := false }, kinds := [], alts := [], laidByText := true, laidKinds := [.data, .data, .data, .data, .data, .data], laidTests := true, laidLooks := .later }
def DateChecksUptoCardSaid : Prop := Claim7.holds Tryd.pinned (.plain (OpenSpec.upto dateChecksSpec)) dateChecksUptoCard

/-- THE SECOND FORM's CARD OF 'posthornlaw06.DateOfs'. -/
def dateOfsUptoCard : Claim7 := { stood := { row := dateOfsUptoRow, standIns := [], harness := (true, "90866c7d09f628c0b9f870e8654c6b6627c1dd6c33fcadb81a5a01e5bc2be8d5"), looks := false }, kinds := [], alts := [], laidByText := true, laidKinds := [.data, .data, .data], laidTests := true, laidLooks := .later }
def DateOfsUptoCardSaid : Prop := Claim7.holds Tryd.pinned (.plain (OpenSpec.upto dateOfsSpec)) dateOfsUptoCard

/-- THE SECOND FORM's CARD OF 'posthornlaw06.DateParses'. -/
def dateParsesUptoCard : Claim7 := { stood := { row := dateParsesUptoRow, standIns := [], harness := (true, "90866c7d09f628c0b9f870e8654c6b6627c1dd6c33fcadb81a5a01e5bc2be8d5"), looks := false }, kinds := [], alts := [], laidByText := true, laidKinds := [.data, .data, .data], laidTests := true, laidLooks := .later }
def DateParsesUptoCardSaid : Prop := Claim7.holds Tryd.pinned (.plain (OpenSpec.upto dateParsesSpec)) dateParsesUptoCard

/-- THE SECOND FORM's CARD OF 'posthornlaw06.DateBack'. -/
def dateBackUptoCard : Claim7 := { stood := { row := dateBackUptoRow, standIns := [], harness := (true, "90866c7d09f628c0b9f870e8654c6b6627c1dd6c33fcadb81a5a01e5bc2be8d5"), looks := false }, kinds := [], alts := [], laidByText := true, laidKinds := [.data, .data, .data, .data, .data, .data], laidTests := true, laidLooks := .later }
def DateBackUptoCardSaid : Prop := Claim7.holds Tryd.pinned (.plain (OpenSpec.upto dateBackSpec)) dateBackUptoCard
end Rows
end Go.Proofs.YtedfnebadenmdaaDoor
