/-
  NARROWER THAN 'FOR EVERY INPUT', by the rows' own cells (each row's printed sentence says how): CodeOnce: laid · CodeCuts: laid · CodeRowsBack: laid · CodeQuoteBack: laid · CodeQuoteOnce: laid.
  DERIVED. THE GIVEN ROWS OF THIS SEAT. 5 by the template 'for every input the law returns true; each argument reads behind the call as it read before'; 0 by the template 'total and deterministic' (their statements: YtenfopabdegmhabDoorTotals.lean).
  GIVEN WITH THE SEED: the statements are not yours to turn. If you find one false, say at which input.
  Laid BY PROGRAM, IN A SANDBOX (cutbox-rows.mjs): the forced cells as the released guide's own fill.sh prints them over the translation df9a145a6abf511b… (all of the seat's roots in one cut). By AI agents, Wed Nov 11 2026. No macro, syntax, notation, axiom, sorry.
-/
import Derived.Test.YtenfopabdegmhabDoorChecked
import GoSem.Claim
import GoSem.ClaimJoined
import GoSem.ClaimMapViews
import Derived.JoinedTies
import Derived.KernelRfl
namespace Go.Proofs.YtenfopabdegmhabDoor
/- THE CELL 'sum', in the pinned program and in every row, IS THE sha256 OF THE DUMP (.gsa) THAT YtenfopabdegmhabDoorProg.lean LOADS. Nothing in Lean hashes anything: it is a label: what it is worth is what the hold of that sum in a sandbox is worth. -/
noncomputable def Tryd.pinned : Pinned := { name := "ytenfopabdegmhabdoor", sum := "df9a145a6abf511b506dcf1880b547e387a2df958584a58289248718b6f71ec0", checked := Tryd.checked }
namespace Rows
def none {H : Type} : Left H := { results := [], args := [] }

/- WHAT THE LISTED PACKAGE-LEVEL VARIABLES READ AS WHEN THE CALL BEGINS. Each datum BY PROGRAM (the guide's laid-datum.mjs) off the statement by which the dump's own 'gosem.cut.vars' lays the variable. In a bare row this is a premise. The card (YtenfopabdegmhabDoorCards.lean) ties it to the program's text. -/
def laid_posthorn_octet_classes {H : Type} : DataW H := .agg [.lit (.string []), .lit (.string [65, 90, 97, 122]), .lit (.string [48, 57]), .lit (.string [48, 57, 65, 90, 97, 122]), .lit (.string [48, 57, 65, 70, 97, 102]), .lit (.string [48, 57, 65, 90, 97, 122, 33, 33, 35, 39, 42, 43, 45, 45, 47, 47, 61, 61, 63, 63, 94, 96, 123, 126]), .lit (.string [32, 33, 35, 91, 93, 126]), .lit (.string [33, 90, 94, 126]), .lit (.string [33, 60, 62, 126]), .lit (.string [33, 42, 44, 60, 62, 126]), .lit (.string [48, 57, 65, 90, 97, 122, 45, 45]), .lit (.string [33, 57, 59, 126]), .lit (.string [9, 9, 32, 126]), .lit (.string [0, 127]), .lit (.string [128, 255])]

/-- 'posthornlaw04.CodeOnce': WHATEVER THE INPUT: true; the input reads as it did. -/
def codeOnceSpec : ChangeSpec := { name := "codeOnce", fn := fun _ => fun
  | [d1, d2, d3] => { results := [.lit (.bool true)], args := [d1, d2, d3] }
  | _ => none }
def codeOnceRow : OpenClaim := { program := "ytenfopabdegmhabdoor", sum := "df9a145a6abf511b506dcf1880b547e387a2df958584a58289248718b6f71ec0", func := "posthorn/posthornlaw04.CodeOnce", spec := "codeOnce", inPlace := ["internal/bytealg.IndexByteString", "internal/bytealg.IndexByte", "internal/bytealg.Index"], named := ["posthorn/octet.classes", "internal/bytealg.MaxLen"], apart := false, laid := [("posthorn/octet.classes", laid_posthorn_octet_classes)] }
def CodeOnceSaid : Prop := codeOnceRow.holds Tryd.pinned (OpenSpec.ofChange codeOnceSpec)

/-- ITS FALSE NEIGHBOUR: 'it returns false'. Refute it at one input. -/
def codeOnceWrong : ChangeSpec := { name := "codeOnce", fn := fun _ => fun
  | [d1, d2, d3] => { results := [.lit (.bool false)], args := [d1, d2, d3] }
  | _ => none }
def CodeOnceWrongFalsely : Prop := codeOnceRow.holds Tryd.pinned (OpenSpec.ofChange codeOnceWrong)

/-- 'posthornlaw04.CodeCuts': WHATEVER THE INPUT: true; the input reads as it did. -/
def codeCutsSpec : ChangeSpec := { name := "codeCuts", fn := fun _ => fun
  | [d1, d2, d3] => { results := [.lit (.bool true)], args := [d1, d2, d3] }
  | _ => none }
def codeCutsRow : OpenClaim := { program := "ytenfopabdegmhabdoor", sum := "df9a145a6abf511b506dcf1880b547e387a2df958584a58289248718b6f71ec0", func := "posthorn/posthornlaw04.CodeCuts", spec := "codeCuts", inPlace := ["internal/bytealg.IndexByteString", "internal/bytealg.IndexByte", "internal/bytealg.Index"], named := ["posthorn/octet.classes", "internal/bytealg.MaxLen"], apart := false, laid := [("posthorn/octet.classes", laid_posthorn_octet_classes)] }
def CodeCutsSaid : Prop := codeCutsRow.holds Tryd.pinned (OpenSpec.ofChange codeCutsSpec)

/-- ITS FALSE NEIGHBOUR: 'it returns false'. Refute it at one input. -/
def codeCutsWrong : ChangeSpec := { name := "codeCuts", fn := fun _ => fun
  | [d1, d2, d3] => { results := [.lit (.bool false)], args := [d1, d2, d3] }
  | _ => none }
def CodeCutsWrongFalsely : Prop := codeCutsRow.holds Tryd.pinned (OpenSpec.ofChange codeCutsWrong)

/-- 'posthornlaw04.CodeRowsBack': WHATEVER THE INPUT: true; the input reads as it did. -/
def codeRowsBackSpec : ChangeSpec := { name := "codeRowsBack", fn := fun _ => fun
  | [d1, d2, d3] => { results := [.lit (.bool true)], args := [d1, d2, d3] }
  | _ => none }
def codeRowsBackRow : OpenClaim := { program := "ytenfopabdegmhabdoor", sum := "df9a145a6abf511b506dcf1880b547e387a2df958584a58289248718b6f71ec0", func := "posthorn/posthornlaw04.CodeRowsBack", spec := "codeRowsBack", inPlace := ["internal/bytealg.IndexByteString", "internal/bytealg.IndexByte", "internal/bytealg.Index", "internal/abi.NoEscape"], named := ["posthorn/octet.classes", "internal/bytealg.MaxLen"], apart := false, laid := [("posthorn/octet.classes", laid_posthorn_octet_classes)] }
def CodeRowsBackSaid : Prop := codeRowsBackRow.holds Tryd.pinned (OpenSpec.ofChange codeRowsBackSpec)

/-- ITS FALSE NEIGHBOUR: 'it returns false'. Refute it at one input. -/
def codeRowsBackWrong : ChangeSpec := { name := "codeRowsBack", fn := fun _ => fun
  | [d1, d2, d3] => { results := [.lit (.bool false)], args := [d1, d2, d3] }
  | _ => none }
def CodeRowsBackWrongFalsely : Prop := codeRowsBackRow.holds Tryd.pinned (OpenSpec.ofChange codeRowsBackWrong)

/-- 'posthornlaw04.CodeQuoteBack': WHATEVER THE INPUT: true; the input reads as it did. -/
def codeQuoteBackSpec : ChangeSpec := { name := "codeQuoteBack", fn := fun _ => fun
  | [d] => { results := [.lit (.bool true)], args := [d] }
  | _ => none }
def codeQuoteBackRow : OpenClaim := { program := "ytenfopabdegmhabdoor", sum := "df9a145a6abf511b506dcf1880b547e387a2df958584a58289248718b6f71ec0", func := "posthorn/posthornlaw04.CodeQuoteBack", spec := "codeQuoteBack", inPlace := ["internal/bytealg.IndexByteString", "internal/bytealg.IndexByte", "internal/bytealg.Index"], named := ["posthorn/octet.classes", "internal/bytealg.MaxLen"], apart := false, laid := [("posthorn/octet.classes", laid_posthorn_octet_classes)] }
def CodeQuoteBackSaid : Prop := codeQuoteBackRow.holds Tryd.pinned (OpenSpec.ofChange codeQuoteBackSpec)

/-- ITS FALSE NEIGHBOUR: 'it returns false'. Refute it at one input. -/
def codeQuoteBackWrong : ChangeSpec := { name := "codeQuoteBack", fn := fun _ => fun
  | [d] => { results := [.lit (.bool false)], args := [d] }
  | _ => none }
def CodeQuoteBackWrongFalsely : Prop := codeQuoteBackRow.holds Tryd.pinned (OpenSpec.ofChange codeQuoteBackWrong)

/-- 'posthornlaw04.CodeQuoteOnce': WHATEVER THE INPUT: true; the input reads as it did. -/
def codeQuoteOnceSpec : ChangeSpec := { name := "codeQuoteOnce", fn := fun _ => fun
  | [d1, d2] => { results := [.lit (.bool true)], args := [d1, d2] }
  | _ => none }
def codeQuoteOnceRow : OpenClaim := { program := "ytenfopabdegmhabdoor", sum := "df9a145a6abf511b506dcf1880b547e387a2df958584a58289248718b6f71ec0", func := "posthorn/posthornlaw04.CodeQuoteOnce", spec := "codeQuoteOnce", inPlace := ["internal/bytealg.IndexByteString", "internal/bytealg.IndexByte", "internal/bytealg.Index"], recurses := true, named := ["posthorn/octet.classes", "internal/bytealg.MaxLen"], apart := false, laid := [("posthorn/octet.classes", laid_posthorn_octet_classes)] }
def CodeQuoteOnceSaid : Prop := codeQuoteOnceRow.holds Tryd.pinned (OpenSpec.ofChange codeQuoteOnceSpec)

/-- ITS FALSE NEIGHBOUR: 'it returns false'. Refute it at one input. -/
def codeQuoteOnceWrong : ChangeSpec := { name := "codeQuoteOnce", fn := fun _ => fun
  | [d1, d2] => { results := [.lit (.bool false)], args := [d1, d2] }
  | _ => none }
def CodeQuoteOnceWrongFalsely : Prop := codeQuoteOnceRow.holds Tryd.pinned (OpenSpec.ofChange codeQuoteOnceWrong)

/- THE SECOND FORM. 'bulk': how many values and letters a reading holds, each counted each time it is reached (what is shared counts as often as it is met; a slice's spare places count too). A statement '..UptoSaid' is the law's where the arguments, and the package variables that the reading takes, are together of bulk at most 1048576: NARROWER than '..Said'. Prove '..Said' where nothing that the law and all that it calls make is longer than what came in: it says more and counts as full. Else prove '..UptoSaid'. A law counts once. -/
mutual
def uptoBulk {H : Type} : DataW H → Nat
  | .lit (.string bytes) => bytes.length + 1
  | .lit _ => 1
  | .nil => 1
  | .ptr d => uptoBulk d + 1
  | .slice elems spare => uptoBulkAll elems + uptoBulkAll spare + 1
  | .agg parts => uptoBulkAll parts + 1
  | .iface _ d => uptoBulk d + 1
  | .map entries => uptoBulkEntries entries + 1
  | .held _ => 1
def uptoBulkAll {H : Type} : List (DataW H) → Nat
  | [] => 0
  | d :: r => uptoBulk d + uptoBulkAll r
def uptoBulkEntries {H : Type} : List (Lit × DataW H) → Nat
  | [] => 0
  | x :: r => uptoBulkEntry x + uptoBulkEntries r
def uptoBulkEntry {H : Type} : Lit × DataW H → Nat
  | (.string bytes, d) => bytes.length + uptoBulk d + 1
  | (_, d) => uptoBulk d + 1
 end
def uptoSmall : (H : Type) → List (DataW H) → Bool := fun _ ds => decide (uptoBulkAll ds ≤ 1048576)
def OpenSpec.upto (s : _root_.Go.ChangeSpec) : _root_.Go.OpenSpec := { _root_.Go.OpenSpec.ofChange s with cond := some uptoSmall }

/-- 'posthornlaw04.CodeOnce', WHERE WHAT IT READS IS OF BULK AT MOST 1048576: true; the input reads as it did. -/
def codeOnceUptoRow : OpenClaim := { program := "ytenfopabdegmhabdoor", sum := "df9a145a6abf511b506dcf1880b547e387a2df958584a58289248718b6f71ec0", func := "posthorn/posthornlaw04.CodeOnce", spec := "codeOnce", inPlace := ["internal/bytealg.IndexByteString", "internal/bytealg.IndexByte", "internal/bytealg.Index"], named := ["posthorn/octet.classes", "internal/bytealg.MaxLen"], apart := false, laid := [("posthorn/octet.classes", laid_posthorn_octet_classes)], narrowed := true }
def CodeOnceUptoSaid : Prop := codeOnceUptoRow.holds Tryd.pinned (OpenSpec.upto codeOnceSpec)

/-- 'posthornlaw04.CodeCuts', WHERE WHAT IT READS IS OF BULK AT MOST 1048576: true; the input reads as it did. -/
def codeCutsUptoRow : OpenClaim := { program := "ytenfopabdegmhabdoor", sum := "df9a145a6abf511b506dcf1880b547e387a2df958584a58289248718b6f71ec0", func := "posthorn/posthornlaw04.CodeCuts", spec := "codeCuts", inPlace := ["internal/bytealg.IndexByteString", "internal/bytealg.IndexByte", "internal/bytealg.Index"], named := ["posthorn/octet.classes", "internal/bytealg.MaxLen"], apart := false, laid := [("posthorn/octet.classes", laid_posthorn_octet_classes)], narrowed := true }
def CodeCutsUptoSaid : Prop := codeCutsUptoRow.holds Tryd.pinned (OpenSpec.upto codeCutsSpec)

/-- 'posthornlaw04.CodeRowsBack', WHERE WHAT IT READS IS OF BULK AT MOST 1048576: true; the input reads as it did. -/
def codeRowsBackUptoRow : OpenClaim := { program := "ytenfopabdegmhabdoor", sum := "df9a145a6abf511b506dcf1880b547e387a2df958584a58289248718b6f71ec0", func := "posthorn/posthornlaw04.CodeRowsBack", spec := "codeRowsBack", inPlace := ["internal/bytealg.IndexByteString", "internal/bytealg.IndexByte", "internal/bytealg.Index", "internal/abi.NoEscape"], named := ["posthorn/octet.classes", "internal/bytealg.MaxLen"], apart := false, laid := [("posthorn/octet.classes", laid_posthorn_octet_classes)], narrowed := true }
def CodeRowsBackUptoSaid : Prop := codeRowsBackUptoRow.holds Tryd.pinned (OpenSpec.upto codeRowsBackSpec)

/-- 'posthornlaw04.CodeQuoteBack', WHERE WHAT IT READS IS OF BULK AT MOST 1048576: true; the input reads as it did. -/
def codeQuoteBackUptoRow : OpenClaim := { program := "ytenfopabdegmhabdoor", sum := "df9a145a6abf511b506dcf1880b547e387a2df958584a58289248718b6f71ec0", func := "posthorn/posthornlaw04.CodeQuoteBack", spec := "codeQuoteBack", inPlace := ["internal/bytealg.IndexByteString", "internal/bytealg.IndexByte", "internal/bytealg.Index"], named := ["posthorn/octet.classes", "internal/bytealg.MaxLen"], apart := false, laid := [("posthorn/octet.classes", laid_posthorn_octet_classes)], narrowed := true }
def CodeQuoteBackUptoSaid : Prop := codeQuoteBackUptoRow.holds Tryd.pinned (OpenSpec.upto codeQuoteBackSpec)

/-- 'posthornlaw04.CodeQuoteOnce', WHERE WHAT IT READS IS OF BULK AT MOST 1048576: true; the input reads as it did. -/
def codeQuoteOnceUptoRow : OpenClaim := { program := "ytenfopabdegmhabdoor", sum := "df9a145a6abf511b506dcf1880b547e387a2df958584a58289248718b6f71ec0", func := "posthorn/posthornlaw04.CodeQuoteOnce", spec := "codeQuoteOnce", inPlace := ["internal/bytealg.IndexByteString", "internal/bytealg.IndexByte", "internal/bytealg.Index"], recurses := true, named := ["posthorn/octet.classes", "internal/bytealg.MaxLen"], apart := false, laid := [("posthorn/octet.classes", laid_posthorn_octet_classes)], narrowed := true }
def CodeQuoteOnceUptoSaid : Prop := codeQuoteOnceUptoRow.holds Tryd.pinned (OpenSpec.upto codeQuoteOnceSpec)

end Rows
end Go.Proofs.YtenfopabdegmhabDoor
