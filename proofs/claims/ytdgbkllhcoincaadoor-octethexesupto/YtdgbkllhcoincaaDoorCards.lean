/-
  DERIVED. GIVEN WITH THE SEED: THE CARDS: each row of YtdgbkllhcoincaaDoorRows.lean that lists a variable, with what it lists TIED to the program's text (the seventh form; the later family's looks); each row that meets fmt, with fmt's text TOLD by the authors' own Lean function (tested against real Go, not proved from fmt's source: count such statements apart). THE CARD IS WHAT COUNTS. Prove the row's statement (the work); the ties are given (YtdgbkllhcoincaaDoorTie.lean); close each card by the builder's one call (the guide's Derived/Test/ToyasCard.lean, 'card_holds'). Laid BY PROGRAM, IN A SANDBOX (cutbox-door.mjs). By AI agents, Wed Nov 11 2026. No macro, syntax, notation, axiom, sorry.
-/
import Derived.Test.YtdgbkllhcoincaaDoorRows
import GoSem.ClaimSeven
namespace Go.Proofs.YtdgbkllhcoincaaDoor
namespace Rows

/-- THE TIED CARD OF 'posthornlaw01.OctetClasses'. -/
def octetClassesCard : Claim7 := { stood := { row := octetClassesRow, standIns := [], harness := (true, "7027de9651cbce3ced03a79adca8199aebafa4d922315a4761b9182293f0ee1d"), looks := false }, kinds := [], alts := [], laidByText := true, laidKinds := [.data], laidTests := true, laidLooks := .later }
def OctetClassesCardSaid : Prop := Claim7.holds Tryd.pinned (.plain (OpenSpec.ofChange octetClassesSpec)) octetClassesCard

/-- THE TIED CARD OF 'posthornlaw01.OctetBad'. -/
def octetBadCard : Claim7 := { stood := { row := octetBadRow, standIns := [], harness := (true, "7027de9651cbce3ced03a79adca8199aebafa4d922315a4761b9182293f0ee1d"), looks := false }, kinds := [], alts := [], laidByText := true, laidKinds := [.data], laidTests := true, laidLooks := .later }
def OctetBadCardSaid : Prop := Claim7.holds Tryd.pinned (.plain (OpenSpec.ofChange octetBadSpec)) octetBadCard

/-- THE TIED CARD OF 'posthornlaw01.OctetSpan'. -/
def octetSpanCard : Claim7 := { stood := { row := octetSpanRow, standIns := [], harness := (true, "7027de9651cbce3ced03a79adca8199aebafa4d922315a4761b9182293f0ee1d"), looks := false }, kinds := [], alts := [], laidByText := true, laidKinds := [.data], laidTests := true, laidLooks := .later }
def OctetSpanCardSaid : Prop := Claim7.holds Tryd.pinned (.plain (OpenSpec.ofChange octetSpanSpec)) octetSpanCard

/-- THE TIED CARD OF 'posthornlaw01.OctetReads'. -/
def octetReadsCard : Claim7 := { stood := { row := octetReadsRow, standIns := [], harness := (true, "7027de9651cbce3ced03a79adca8199aebafa4d922315a4761b9182293f0ee1d"), looks := false }, kinds := [], alts := [], laidByText := true, laidKinds := [.data, .data, .data, .data], laidTests := true, laidLooks := .later }
def OctetReadsCardSaid : Prop := Claim7.holds Tryd.pinned (.plain (OpenSpec.ofChange octetReadsSpec)) octetReadsCard

/-- THE TIED CARD OF 'posthornlaw01.OctetHexes'. -/
def octetHexesCard : Claim7 := { stood := { row := octetHexesRow, standIns := [], harness := (true, "7027de9651cbce3ced03a79adca8199aebafa4d922315a4761b9182293f0ee1d"), looks := false }, kinds := [], alts := [], laidByText := true, laidKinds := [.data], laidTests := true, laidLooks := .later }
def OctetHexesCardSaid : Prop := Claim7.holds Tryd.pinned (.plain (OpenSpec.ofChange octetHexesSpec)) octetHexesCard

/-- THE SECOND FORM's CARD OF 'posthornlaw01.OctetClasses'. -/
def octetClassesUptoCard : Claim7 := { stood := { row := octetClassesUptoRow, standIns := [], harness := (true, "7027de9651cbce3ced03a79adca8199aebafa4d922315a4761b9182293f0ee1d"), looks := false }, kinds := [], alts := [], laidByText := true, laidKinds := [.data], laidTests := true, laidLooks := .later }
def OctetClassesUptoCardSaid : Prop := Claim7.holds Tryd.pinned (.plain (OpenSpec.upto octetClassesSpec)) octetClassesUptoCard

/-- THE SECOND FORM's CARD OF 'posthornlaw01.OctetBad'. -/
def octetBadUptoCard : Claim7 := { stood := { row := octetBadUptoRow, standIns := [], harness := (true, "7027de9651cbce3ced03a79adca8199aebafa4d922315a4761b9182293f0ee1d"), looks := false }, kinds := [], alts := [], laidByText := true, laidKinds := [.data], laidTests := true, laidLooks := .later }
def OctetBadUptoCardSaid : Prop := Claim7.holds Tryd.pinned (.plain (OpenSpec.upto octetBadSpec)) octetBadUptoCard

/-- THE SECOND FORM's CARD OF 'posthornlaw01.OctetSpan'. -/
def octetSpanUptoCard : Claim7 := { stood := { row := octetSpanUptoRow, standIns := [], harness := (true, "7027de9651cbce3ced03a79adca8199aebafa4d922315a4761b9182293f0ee1d"), looks := false }, kinds := [], alts := [], laidByText := true, laidKinds := [.data], laidTests := true, laidLooks := .later }
def OctetSpanUptoCardSaid : Prop := Claim7.holds Tryd.pinned (.plain (OpenSpec.upto octetSpanSpec)) octetSpanUptoCard

/-- THE SECOND FORM's CARD OF 'posthornlaw01.OctetReads'. -/
def octetReadsUptoCard : Claim7 := { stood := { row := octetReadsUptoRow, standIns := [], harness := (true, "7027de9651cbce3ced03a79adca8199aebafa4d922315a4761b9182293f0ee1d"), looks := false }, kinds := [], alts := [], laidByText := true, laidKinds := [.data, .data, .data, .data], laidTests := true, laidLooks := .later }
def OctetReadsUptoCardSaid : Prop := Claim7.holds Tryd.pinned (.plain (OpenSpec.upto octetReadsSpec)) octetReadsUptoCard

/-- THE SECOND FORM's CARD OF 'posthornlaw01.OctetHexes'. -/
def octetHexesUptoCard : Claim7 := { stood := { row := octetHexesUptoRow, standIns := [], harness := (true, "7027de9651cbce3ced03a79adca8199aebafa4d922315a4761b9182293f0ee1d"), looks := false }, kinds := [], alts := [], laidByText := true, laidKinds := [.data], laidTests := true, laidLooks := .later }
def OctetHexesUptoCardSaid : Prop := Claim7.holds Tryd.pinned (.plain (OpenSpec.upto octetHexesSpec)) octetHexesUptoCard
end Rows
end Go.Proofs.YtdgbkllhcoincaaDoor
