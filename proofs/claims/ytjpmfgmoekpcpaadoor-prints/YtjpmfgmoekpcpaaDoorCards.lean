/-
  DERIVED. GIVEN WITH THE SEED: THE CARDS: each row of YtjpmfgmoekpcpaaDoorRows.lean that lists a variable, with what it lists TIED to the program's text (the seventh form; the later family's looks); each row that meets fmt, with fmt's text TOLD by the authors' own Lean function (tested against real Go, not proved from fmt's source: count such statements apart). THE CARD IS WHAT COUNTS. Prove the row's statement (the work); the ties are given (YtjpmfgmoekpcpaaDoorTie.lean); close each card by the builder's one call (the guide's Derived/Test/ToyasCard.lean, 'card_holds'). Laid BY PROGRAM, IN A SANDBOX (cutbox-door.mjs). By AI agents, Wed Nov 11 2026. No macro, syntax, notation, axiom, sorry.
-/
import Derived.Test.YtjpmfgmoekpcpaaDoorRows
import GoSem.ClaimSeven
namespace Go.Proofs.YtjpmfgmoekpcpaaDoor
namespace Rows

/-- THE TIED CARD OF 'posthornlaw10.ParamParses'. -/
def paramParsesCard : Claim7 := { stood := { row := paramParsesRow, standIns := [], harness := (true, "5de8279548e78bc77637e0a11b501b1ac117b0830451bbae4737ad4f4bd3915a"), looks := false }, kinds := [], alts := [], laidByText := true, laidKinds := [.data, .data], laidTests := true, laidLooks := .later }
def ParamParsesCardSaid : Prop := Claim7.holds Tryd.pinned (.plain (OpenSpec.ofChange paramParsesSpec)) paramParsesCard

/-- THE TIED CARD OF 'posthornlaw10.ParamPrints'. -/
def paramPrintsCard : Claim7 := { stood := { row := paramPrintsRow, standIns := [], harness := (true, "5de8279548e78bc77637e0a11b501b1ac117b0830451bbae4737ad4f4bd3915a"), looks := false }, kinds := [], alts := [], laidByText := true, laidKinds := [.data, .data], laidTests := true, laidLooks := .later }
def ParamPrintsCardSaid : Prop := Claim7.holds Tryd.pinned (.plain (OpenSpec.ofChange paramPrintsSpec)) paramPrintsCard

/-- THE TIED CARD OF 'posthornlaw10.ParamXtexts'. -/
def paramXtextsCard : Claim7 := { stood := { row := paramXtextsRow, standIns := [], harness := (true, "5de8279548e78bc77637e0a11b501b1ac117b0830451bbae4737ad4f4bd3915a"), looks := false }, kinds := [], alts := [], laidByText := true, laidKinds := [.data], laidTests := true, laidLooks := .later }
def ParamXtextsCardSaid : Prop := Claim7.holds Tryd.pinned (.plain (OpenSpec.ofChange paramXtextsSpec)) paramXtextsCard

/-- THE TIED CARD OF 'posthornlaw10.ParamRcpts'. -/
def paramRcptsCard : Claim7 := { stood := { row := paramRcptsRow, standIns := [], harness := (true, "5de8279548e78bc77637e0a11b501b1ac117b0830451bbae4737ad4f4bd3915a"), looks := false }, kinds := [], alts := [], laidByText := true, laidKinds := [.data, .data, .data, .pinned], laidTests := true, laidLooks := .later }
def ParamRcptsCardSaid : Prop := Claim7.holds Tryd.pinned (.plain (OpenSpec.ofChange paramRcptsSpec)) paramRcptsCard

/-- THE SECOND FORM's CARD OF 'posthornlaw10.ParamParses'. -/
def paramParsesUptoCard : Claim7 := { stood := { row := paramParsesUptoRow, standIns := [], harness := (true, "5de8279548e78bc77637e0a11b501b1ac117b0830451bbae4737ad4f4bd3915a"), looks := false }, kinds := [], alts := [], laidByText := true, laidKinds := [.data, .data], laidTests := true, laidLooks := .later }
def ParamParsesUptoCardSaid : Prop := Claim7.holds Tryd.pinned (.plain (OpenSpec.upto paramParsesSpec)) paramParsesUptoCard

/-- THE SECOND FORM's CARD OF 'posthornlaw10.ParamPrints'. -/
def paramPrintsUptoCard : Claim7 := { stood := { row := paramPrintsUptoRow, standIns := [], harness := (true, "5de8279548e78bc77637e0a11b501b1ac117b0830451bbae4737ad4f4bd3915a"), looks := false }, kinds := [], alts := [], laidByText := true, laidKinds := [.data, .data], laidTests := true, laidLooks := .later }
def ParamPrintsUptoCardSaid : Prop := Claim7.holds Tryd.pinned (.plain (OpenSpec.upto paramPrintsSpec)) paramPrintsUptoCard

/-- THE SECOND FORM's CARD OF 'posthornlaw10.ParamXtexts'. -/
def paramXtextsUptoCard : Claim7 := { stood := { row := paramXtextsUptoRow, standIns := [], harness := (true, "5de8279548e78bc77637e0a11b501b1ac117b0830451bbae4737ad4f4bd3915a"), looks := false }, kinds := [], alts := [], laidByText := true, laidKinds := [.data], laidTests := true, laidLooks := .later }
def ParamXtextsUptoCardSaid : Prop := Claim7.holds Tryd.pinned (.plain (OpenSpec.upto paramXtextsSpec)) paramXtextsUptoCard

/-- THE SECOND FORM's CARD OF 'posthornlaw10.ParamRcpts'. -/
def paramRcptsUptoCard : Claim7 := { stood := { row := paramRcptsUptoRow, standIns := [], harness := (true, "5de8279548e78bc77637e0a11b501b1ac117b0830451bbae4737ad4f4bd3915a"), looks := false }, kinds := [], alts := [], laidByText := true, laidKinds := [.data, .data, .data, .pinned], laidTests := true, laidLooks := .later }
def ParamRcptsUptoCardSaid : Prop := Claim7.holds Tryd.pinned (.plain (OpenSpec.upto paramRcptsSpec)) paramRcptsUptoCard
end Rows
end Go.Proofs.YtjpmfgmoekpcpaaDoor
