/-
  NARROWER THAN 'FOR EVERY INPUT', by the rows' own cells (each row's printed sentence says how): CodeQuotes: laid · CodeUnquotes: laid · CodeBack: laid.
  DERIVED. THE GIVEN ROWS OF THIS SEAT. 3 by the template 'for every input the law returns true; each argument reads behind the call as it read before'; 0 by the template 'total and deterministic' (their statements: YtenfopabdegmhaaDoorTotals.lean).
  GIVEN WITH THE SEED: the statements are not yours to turn. If you find one false, say at which input.
  Laid BY PROGRAM, IN A SANDBOX (cutbox-rows.mjs): the forced cells as the released guide's own fill.sh prints them over the translation d270ab7803c0e4cc… (all of the seat's roots in one cut). By AI agents, Wed Nov 11 2026. No macro, syntax, notation, axiom, sorry.
-/
import Derived.Test.YtenfopabdegmhaaDoorChecked
import GoSem.Claim
import GoSem.ClaimJoined
import GoSem.ClaimMapViews
import Derived.JoinedTies
import Derived.KernelRfl
namespace Go.Proofs.YtenfopabdegmhaaDoor
/- THE CELL 'sum', in the pinned program and in every row, IS THE sha256 OF THE DUMP (.gsa) THAT YtenfopabdegmhaaDoorProg.lean LOADS. Nothing in Lean hashes anything: it is a label: what it is worth is what the hold of that sum in a sandbox is worth. -/
noncomputable def Tryd.pinned : Pinned := { name := "ytenfopabdegmhaadoor", sum := "d270ab7803c0e4cc0af73056a73cd5aa669f9955c1e89e21c33dacd23eda681b", checked := Tryd.checked }
namespace Rows
def none {H : Type} : Left H := { results := [], args := [] }

/- WHAT THE LISTED PACKAGE-LEVEL VARIABLES READ AS WHEN THE CALL BEGINS. Each datum BY PROGRAM (the guide's laid-datum.mjs) off the statement by which the dump's own 'gosem.cut.vars' lays the variable. In a bare row this is a premise. The card (YtenfopabdegmhaaDoorCards.lean) ties it to the program's text. -/
def laid_posthorn_octet_classes {H : Type} : DataW H := .agg [.lit (.string []), .lit (.string [65, 90, 97, 122]), .lit (.string [48, 57]), .lit (.string [48, 57, 65, 90, 97, 122]), .lit (.string [48, 57, 65, 70, 97, 102]), .lit (.string [48, 57, 65, 90, 97, 122, 33, 33, 35, 39, 42, 43, 45, 45, 47, 47, 61, 61, 63, 63, 94, 96, 123, 126]), .lit (.string [32, 33, 35, 91, 93, 126]), .lit (.string [33, 90, 94, 126]), .lit (.string [33, 60, 62, 126]), .lit (.string [33, 42, 44, 60, 62, 126]), .lit (.string [48, 57, 65, 90, 97, 122, 45, 45]), .lit (.string [33, 57, 59, 126]), .lit (.string [9, 9, 32, 126]), .lit (.string [0, 127]), .lit (.string [128, 255])]

/-- 'posthornlaw04.CodeQuotes': WHATEVER THE INPUT: true; the input reads as it did. -/
def codeQuotesSpec : ChangeSpec := { name := "codeQuotes", fn := fun _ => fun
  | [d] => { results := [.lit (.bool true)], args := [d] }
  | _ => none }
def codeQuotesRow : OpenClaim := { program := "ytenfopabdegmhaadoor", sum := "d270ab7803c0e4cc0af73056a73cd5aa669f9955c1e89e21c33dacd23eda681b", func := "posthorn/posthornlaw04.CodeQuotes", spec := "codeQuotes", inPlace := ["internal/bytealg.IndexByte", "internal/bytealg.Index"], named := ["internal/bytealg.MaxLen", "posthorn/octet.classes"], apart := false, laid := [("posthorn/octet.classes", laid_posthorn_octet_classes)] }
def CodeQuotesSaid : Prop := codeQuotesRow.holds Tryd.pinned (OpenSpec.ofChange codeQuotesSpec)

/-- ITS FALSE NEIGHBOUR: 'it returns false'. Refute it at one input. -/
def codeQuotesWrong : ChangeSpec := { name := "codeQuotes", fn := fun _ => fun
  | [d] => { results := [.lit (.bool false)], args := [d] }
  | _ => none }
def CodeQuotesWrongFalsely : Prop := codeQuotesRow.holds Tryd.pinned (OpenSpec.ofChange codeQuotesWrong)

/-- 'posthornlaw04.CodeUnquotes': WHATEVER THE INPUT: true; the input reads as it did. -/
def codeUnquotesSpec : ChangeSpec := { name := "codeUnquotes", fn := fun _ => fun
  | [d] => { results := [.lit (.bool true)], args := [d] }
  | _ => none }
def codeUnquotesRow : OpenClaim := { program := "ytenfopabdegmhaadoor", sum := "d270ab7803c0e4cc0af73056a73cd5aa669f9955c1e89e21c33dacd23eda681b", func := "posthorn/posthornlaw04.CodeUnquotes", spec := "codeUnquotes", recurses := true, named := ["posthorn/octet.classes"], apart := false, laid := [("posthorn/octet.classes", laid_posthorn_octet_classes)] }
def CodeUnquotesSaid : Prop := codeUnquotesRow.holds Tryd.pinned (OpenSpec.ofChange codeUnquotesSpec)

/-- ITS FALSE NEIGHBOUR: 'it returns false'. Refute it at one input. -/
def codeUnquotesWrong : ChangeSpec := { name := "codeUnquotes", fn := fun _ => fun
  | [d] => { results := [.lit (.bool false)], args := [d] }
  | _ => none }
def CodeUnquotesWrongFalsely : Prop := codeUnquotesRow.holds Tryd.pinned (OpenSpec.ofChange codeUnquotesWrong)

/-- 'posthornlaw04.CodeBack': WHATEVER THE INPUT: true; the input reads as it did. -/
def codeBackSpec : ChangeSpec := { name := "codeBack", fn := fun _ => fun
  | [d] => { results := [.lit (.bool true)], args := [d] }
  | _ => none }
def codeBackRow : OpenClaim := { program := "ytenfopabdegmhaadoor", sum := "d270ab7803c0e4cc0af73056a73cd5aa669f9955c1e89e21c33dacd23eda681b", func := "posthorn/posthornlaw04.CodeBack", spec := "codeBack", inPlace := ["internal/bytealg.IndexByteString", "internal/bytealg.IndexByte", "internal/bytealg.Index"], named := ["posthorn/octet.classes", "internal/bytealg.MaxLen"], apart := false, laid := [("posthorn/octet.classes", laid_posthorn_octet_classes)] }
def CodeBackSaid : Prop := codeBackRow.holds Tryd.pinned (OpenSpec.ofChange codeBackSpec)

/-- ITS FALSE NEIGHBOUR: 'it returns false'. Refute it at one input. -/
def codeBackWrong : ChangeSpec := { name := "codeBack", fn := fun _ => fun
  | [d] => { results := [.lit (.bool false)], args := [d] }
  | _ => none }
def CodeBackWrongFalsely : Prop := codeBackRow.holds Tryd.pinned (OpenSpec.ofChange codeBackWrong)

/- THE SECOND FORM. 'bulk': how many values and letters a reading holds, each counted each time it is reached (what is shared counts as often as it is met; a slice's spare places count too). A statement '..UptoSaid' is the law's where the arguments, and the package variables that the reading takes, are together of bulk at most 1048576: NARROWER than '..Said'. Prove '..Said' where nothing that the law and all that it calls make is longer than what came in: it says more and counts as full. Else prove '..UptoSaid'. A law counts once. -/
mutual
def uptoBulk {H : Type} : DataW H → Nat
  | .lit (.string bytes) => bytes.length + 1
  | .lit _ => 1
  | .nil => 1
  | .ptr d => uptoBulk d + 1
  | .slice elems spare => uptoBulkAll elems + uptoBulkAll spare + 1
  | .agg parts => uptoBulkAll parts + 1
  | .iface _ d => uptoBulk d + 1
  | .map entries => uptoBulkEntries entries + 1
  | .held _ => 1
def uptoBulkAll {H : Type} : List (DataW H) → Nat
  | [] => 0
  | d :: r => uptoBulk d + uptoBulkAll r
def uptoBulkEntries {H : Type} : List (Lit × DataW H) → Nat
  | [] => 0
  | x :: r => uptoBulkEntry x + uptoBulkEntries r
def uptoBulkEntry {H : Type} : Lit × DataW H → Nat
  | (.string bytes, d) => bytes.length + uptoBulk d + 1
  | (_, d) => uptoBulk d + 1
 end
def uptoSmall : (H : Type) → List (DataW H) → Bool := fun _ ds => decide (uptoBulkAll ds ≤ 1048576)
def OpenSpec.upto (s : _root_.Go.ChangeSpec) : _root_.Go.OpenSpec := { _root_.Go.OpenSpec.ofChange s with cond := some uptoSmall }

/-- 'posthornlaw04.CodeQuotes', WHERE WHAT IT READS IS OF BULK AT MOST 1048576: true; the input reads as it did. -/
def codeQuotesUptoRow : OpenClaim := { program := "ytenfopabdegmhaadoor", sum := "d270ab7803c0e4cc0af73056a73cd5aa669f9955c1e89e21c33dacd23eda681b", func := "posthorn/posthornlaw04.CodeQuotes", spec := "codeQuotes", inPlace := ["internal/bytealg.IndexByte", "internal/bytealg.Index"], named := ["internal/bytealg.MaxLen", "posthorn/octet.classes"], apart := false, laid := [("posthorn/octet.classes", laid_posthorn_octet_classes)], narrowed := true }
def CodeQuotesUptoSaid : Prop := codeQuotesUptoRow.holds Tryd.pinned (OpenSpec.upto codeQuotesSpec)

/-- 'posthornlaw04.CodeUnquotes', WHERE WHAT IT READS IS OF BULK AT MOST 1048576: true; the input reads as it did. -/
def codeUnquotesUptoRow : OpenClaim := { program := "ytenfopabdegmhaadoor", sum := "d270ab7803c0e4cc0af73056a73cd5aa669f9955c1e89e21c33dacd23eda681b", func := "posthorn/posthornlaw04.CodeUnquotes", spec := "codeUnquotes", recurses := true, named := ["posthorn/octet.classes"], apart := false, laid := [("posthorn/octet.classes", laid_posthorn_octet_classes)], narrowed := true }
def CodeUnquotesUptoSaid : Prop := codeUnquotesUptoRow.holds Tryd.pinned (OpenSpec.upto codeUnquotesSpec)

/-- 'posthornlaw04.CodeBack', WHERE WHAT IT READS IS OF BULK AT MOST 1048576: true; the input reads as it did. -/
def codeBackUptoRow : OpenClaim := { program := "ytenfopabdegmhaadoor", sum := "d270ab7803c0e4cc0af73056a73cd5aa669f9955c1e89e21c33dacd23eda681b", func := "posthorn/posthornlaw04.CodeBack", spec := "codeBack", inPlace := ["internal/bytealg.IndexByteString", "internal/bytealg.IndexByte", "internal/bytealg.Index"], named := ["posthorn/octet.classes", "internal/bytealg.MaxLen"], apart := false, laid := [("posthorn/octet.classes", laid_posthorn_octet_classes)], narrowed := true }
def CodeBackUptoSaid : Prop := codeBackUptoRow.holds Tryd.pinned (OpenSpec.upto codeBackSpec)

end Rows
end Go.Proofs.YtenfopabdegmhaaDoor
