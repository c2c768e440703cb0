/-
  NARROWER THAN 'FOR EVERY INPUT', by the rows' own cells (each row's printed sentence says how): DateNext: laid · DateOrders: laid · DateMoments: laid · DateDressed: laid.
  DERIVED. THE GIVEN ROWS OF THIS SEAT. 4 by the template 'for every input the law returns true; each argument reads behind the call as it read before'; 0 by the template 'total and deterministic' (their statements: YtedfnebadenmdabDoorTotals.lean).
  GIVEN WITH THE SEED: the statements are not yours to turn. If you find one false, say at which input.
  Laid BY PROGRAM, IN A SANDBOX (cutbox-rows.mjs): the forced cells as the released guide's own fill.sh prints them over the translation 3d83cd23462e43fd… (all of the seat's roots in one cut). By AI agents, Wed Nov 11 2026. No macro, syntax, notation, axiom, sorry.
-/
import Derived.Test.YtedfnebadenmdabDoorChecked
import GoSem.Claim
import GoSem.ClaimJoined
import GoSem.ClaimMapViews
import Derived.JoinedTies
import Derived.KernelRfl
namespace Go.Proofs.YtedfnebadenmdabDoor
/- THE CELL 'sum', in the pinned program and in every row, IS THE sha256 OF THE DUMP (.gsa) THAT YtedfnebadenmdabDoorProg.lean LOADS. Nothing in Lean hashes anything: it is a label: what it is worth is what the hold of that sum in a sandbox is worth. -/
noncomputable def Tryd.pinned : Pinned := { name := "ytedfnebadenmdabdoor", sum := "3d83cd23462e43fd24a7c87b3ac9ebb2bef029b11ff04557f057ea08416ded58", checked := Tryd.checked }
namespace Rows
def none {H : Type} : Left H := { results := [], args := [] }

/- WHAT THE LISTED PACKAGE-LEVEL VARIABLES READ AS WHEN THE CALL BEGINS. Each datum BY PROGRAM (the guide's laid-datum.mjs) off the statement by which the dump's own 'gosem.cut.vars' lays the variable. In a bare row this is a premise. The card (YtedfnebadenmdabDoorCards.lean) ties it to the program's text. -/
def laid_posthorn_octet_classes {H : Type} : DataW H := .agg [.lit (.string []), .lit (.string [65, 90, 97, 122]), .lit (.string [48, 57]), .lit (.string [48, 57, 65, 90, 97, 122]), .lit (.string [48, 57, 65, 70, 97, 102]), .lit (.string [48, 57, 65, 90, 97, 122, 33, 33, 35, 39, 42, 43, 45, 45, 47, 47, 61, 61, 63, 63, 94, 96, 123, 126]), .lit (.string [32, 33, 35, 91, 93, 126]), .lit (.string [33, 90, 94, 126]), .lit (.string [33, 60, 62, 126]), .lit (.string [33, 42, 44, 60, 62, 126]), .lit (.string [48, 57, 65, 90, 97, 122, 45, 45]), .lit (.string [33, 57, 59, 126]), .lit (.string [9, 9, 32, 126]), .lit (.string [0, 127]), .lit (.string [128, 255])]
def laid_posthorn_date_ahead {H : Type} : DataW H := .agg [.lit (.int .i16 0), .lit (.int .i16 31), .lit (.int .i16 59), .lit (.int .i16 90), .lit (.int .i16 120), .lit (.int .i16 151), .lit (.int .i16 181), .lit (.int .i16 212), .lit (.int .i16 243), .lit (.int .i16 273), .lit (.int .i16 304), .lit (.int .i16 334), .lit (.int .i16 365)]
def laid_posthorn_date_zoneNames {H : Type} : DataW H := .agg [.agg [.lit (.string [85, 84]), .lit (.int .i16 0)], .agg [.lit (.string [71, 77, 84]), .lit (.int .i16 0)], .agg [.lit (.string [69, 83, 84]), .lit (.int .i16 (-300))], .agg [.lit (.string [69, 68, 84]), .lit (.int .i16 (-240))], .agg [.lit (.string [67, 83, 84]), .lit (.int .i16 (-360))], .agg [.lit (.string [67, 68, 84]), .lit (.int .i16 (-300))], .agg [.lit (.string [77, 83, 84]), .lit (.int .i16 (-420))], .agg [.lit (.string [77, 68, 84]), .lit (.int .i16 (-360))], .agg [.lit (.string [80, 83, 84]), .lit (.int .i16 (-480))], .agg [.lit (.string [80, 68, 84]), .lit (.int .i16 (-420))]]
def laid_math_bits_deBruijn32tab {H : Type} : DataW H := .agg [.lit (.int .u8 0), .lit (.int .u8 1), .lit (.int .u8 28), .lit (.int .u8 2), .lit (.int .u8 29), .lit (.int .u8 14), .lit (.int .u8 24), .lit (.int .u8 3), .lit (.int .u8 30), .lit (.int .u8 22), .lit (.int .u8 20), .lit (.int .u8 15), .lit (.int .u8 25), .lit (.int .u8 17), .lit (.int .u8 4), .lit (.int .u8 8), .lit (.int .u8 31), .lit (.int .u8 27), .lit (.int .u8 13), .lit (.int .u8 23), .lit (.int .u8 21), .lit (.int .u8 19), .lit (.int .u8 16), .lit (.int .u8 7), .lit (.int .u8 26), .lit (.int .u8 12), .lit (.int .u8 18), .lit (.int .u8 6), .lit (.int .u8 11), .lit (.int .u8 5), .lit (.int .u8 10), .lit (.int .u8 9)]
def laid_math_bits_deBruijn64tab {H : Type} : DataW H := .agg [.lit (.int .u8 0), .lit (.int .u8 1), .lit (.int .u8 56), .lit (.int .u8 2), .lit (.int .u8 57), .lit (.int .u8 49), .lit (.int .u8 28), .lit (.int .u8 3), .lit (.int .u8 61), .lit (.int .u8 58), .lit (.int .u8 42), .lit (.int .u8 50), .lit (.int .u8 38), .lit (.int .u8 29), .lit (.int .u8 17), .lit (.int .u8 4), .lit (.int .u8 62), .lit (.int .u8 47), .lit (.int .u8 59), .lit (.int .u8 36), .lit (.int .u8 45), .lit (.int .u8 43), .lit (.int .u8 51), .lit (.int .u8 22), .lit (.int .u8 53), .lit (.int .u8 39), .lit (.int .u8 33), .lit (.int .u8 30), .lit (.int .u8 24), .lit (.int .u8 18), .lit (.int .u8 12), .lit (.int .u8 5), .lit (.int .u8 63), .lit (.int .u8 55), .lit (.int .u8 48), .lit (.int .u8 27), .lit (.int .u8 60), .lit (.int .u8 41), .lit (.int .u8 37), .lit (.int .u8 16), .lit (.int .u8 46), .lit (.int .u8 35), .lit (.int .u8 44), .lit (.int .u8 21), .lit (.int .u8 52), .lit (.int .u8 32), .lit (.int .u8 23), .lit (.int .u8 11), .lit (.int .u8 54), .lit (.int .u8 26), .lit (.int .u8 40), .lit (.int .u8 15), .lit (.int .u8 34), .lit (.int .u8 20), .lit (.int .u8 31), .lit (.int .u8 10), .lit (.int .u8 25), .lit (.int .u8 14), .lit (.int .u8 19), .lit (.int .u8 9), .lit (.int .u8 13), .lit (.int .u8 8), .lit (.int .u8 7), .lit (.int .u8 6)]
def laid_internal_strconv_uint64pow10 {H : Type} : DataW H := .agg [.lit (.int .u64 1), .lit (.int .u64 10), .lit (.int .u64 100), .lit (.int .u64 1000), .lit (.int .u64 10000), .lit (.int .u64 100000), .lit (.int .u64 1000000), .lit (.int .u64 10000000), .lit (.int .u64 100000000), .lit (.int .u64 1000000000), .lit (.int .u64 10000000000), .lit (.int .u64 100000000000), .lit (.int .u64 1000000000000), .lit (.int .u64 10000000000000), .lit (.int .u64 100000000000000), .lit (.int .u64 1000000000000000), .lit (.int .u64 10000000000000000), .lit (.int .u64 100000000000000000), .lit (.int .u64 1000000000000000000), .lit (.int .u64 10000000000000000000)]

/-- 'posthornlaw06.DateNext': WHATEVER THE INPUT: true; the input reads as it did. -/
def dateNextSpec : ChangeSpec := { name := "dateNext", fn := fun _ => fun
  | [d] => { results := [.lit (.bool true)], args := [d] }
  | _ => none }
def dateNextRow : OpenClaim := { program := "ytedfnebadenmdabdoor", sum := "3d83cd23462e43fd24a7c87b3ac9ebb2bef029b11ff04557f057ea08416ded58", func := "posthorn/posthornlaw06.DateNext", spec := "dateNext", named := ["posthorn/octet.classes", "posthorn/date.zoneNames", "posthorn/date.ahead"], apart := false, laid := [("posthorn/octet.classes", laid_posthorn_octet_classes), ("posthorn/date.ahead", laid_posthorn_date_ahead), ("posthorn/date.zoneNames", laid_posthorn_date_zoneNames)] }
def DateNextSaid : Prop := dateNextRow.holds Tryd.pinned (OpenSpec.ofChange dateNextSpec)

/-- ITS FALSE NEIGHBOUR: 'it returns false'. Refute it at one input. -/
def dateNextWrong : ChangeSpec := { name := "dateNext", fn := fun _ => fun
  | [d] => { results := [.lit (.bool false)], args := [d] }
  | _ => none }
def DateNextWrongFalsely : Prop := dateNextRow.holds Tryd.pinned (OpenSpec.ofChange dateNextWrong)

/-- 'posthornlaw06.DateOrders': WHATEVER THE INPUT: true; the input reads as it did. -/
def dateOrdersSpec : ChangeSpec := { name := "dateOrders", fn := fun _ => fun
  | [d1, d2] => { results := [.lit (.bool true)], args := [d1, d2] }
  | _ => none }
def dateOrdersRow : OpenClaim := { program := "ytedfnebadenmdabdoor", sum := "3d83cd23462e43fd24a7c87b3ac9ebb2bef029b11ff04557f057ea08416ded58", func := "posthorn/posthornlaw06.DateOrders", spec := "dateOrders", named := ["posthorn/octet.classes", "posthorn/date.zoneNames", "posthorn/date.ahead"], apart := false, laid := [("posthorn/octet.classes", laid_posthorn_octet_classes), ("posthorn/date.ahead", laid_posthorn_date_ahead), ("posthorn/date.zoneNames", laid_posthorn_date_zoneNames)] }
def DateOrdersSaid : Prop := dateOrdersRow.holds Tryd.pinned (OpenSpec.ofChange dateOrdersSpec)

/-- ITS FALSE NEIGHBOUR: 'it returns false'. Refute it at one input. -/
def dateOrdersWrong : ChangeSpec := { name := "dateOrders", fn := fun _ => fun
  | [d1, d2] => { results := [.lit (.bool false)], args := [d1, d2] }
  | _ => none }
def DateOrdersWrongFalsely : Prop := dateOrdersRow.holds Tryd.pinned (OpenSpec.ofChange dateOrdersWrong)

/-- 'posthornlaw06.DateMoments': WHATEVER THE INPUT: true; the input reads as it did. -/
def dateMomentsSpec : ChangeSpec := { name := "dateMoments", fn := fun _ => fun
  | [d1, d2, d3] => { results := [.lit (.bool true)], args := [d1, d2, d3] }
  | _ => none }
def dateMomentsRow : OpenClaim := { program := "ytedfnebadenmdabdoor", sum := "3d83cd23462e43fd24a7c87b3ac9ebb2bef029b11ff04557f057ea08416ded58", func := "posthorn/posthornlaw06.DateMoments", spec := "dateMoments", named := ["posthorn/octet.classes", "posthorn/date.zoneNames", "posthorn/date.ahead"], apart := false, laid := [("posthorn/octet.classes", laid_posthorn_octet_classes), ("posthorn/date.ahead", laid_posthorn_date_ahead), ("posthorn/date.zoneNames", laid_posthorn_date_zoneNames)] }
def DateMomentsSaid : Prop := dateMomentsRow.holds Tryd.pinned (OpenSpec.ofChange dateMomentsSpec)

/-- ITS FALSE NEIGHBOUR: 'it returns false'. Refute it at one input. -/
def dateMomentsWrong : ChangeSpec := { name := "dateMoments", fn := fun _ => fun
  | [d1, d2, d3] => { results := [.lit (.bool false)], args := [d1, d2, d3] }
  | _ => none }
def DateMomentsWrongFalsely : Prop := dateMomentsRow.holds Tryd.pinned (OpenSpec.ofChange dateMomentsWrong)

/-- 'posthornlaw06.DateDressed': WHATEVER THE INPUT: true; the input reads as it did. -/
def dateDressedSpec : ChangeSpec := { name := "dateDressed", fn := fun _ => fun
  | [d] => { results := [.lit (.bool true)], args := [d] }
  | _ => none }
def dateDressedRow : OpenClaim := { program := "ytedfnebadenmdabdoor", sum := "3d83cd23462e43fd24a7c87b3ac9ebb2bef029b11ff04557f057ea08416ded58", func := "posthorn/posthornlaw06.DateDressed", spec := "dateDressed", named := ["posthorn/octet.classes", "posthorn/date.zoneNames", "posthorn/date.ahead", "internal/strconv.uint64pow10", "math/bits.deBruijn32tab", "math/bits.deBruijn64tab"], apart := false, laid := [("math/bits.deBruijn32tab", laid_math_bits_deBruijn32tab), ("math/bits.deBruijn64tab", laid_math_bits_deBruijn64tab), ("internal/strconv.uint64pow10", laid_internal_strconv_uint64pow10), ("posthorn/octet.classes", laid_posthorn_octet_classes), ("posthorn/date.ahead", laid_posthorn_date_ahead), ("posthorn/date.zoneNames", laid_posthorn_date_zoneNames)] }
def DateDressedSaid : Prop := dateDressedRow.holds Tryd.pinned (OpenSpec.ofChange dateDressedSpec)

/-- ITS FALSE NEIGHBOUR: 'it returns false'. Refute it at one input. -/
def dateDressedWrong : ChangeSpec := { name := "dateDressed", fn := fun _ => fun
  | [d] => { results := [.lit (.bool false)], args := [d] }
  | _ => none }
def DateDressedWrongFalsely : Prop := dateDressedRow.holds Tryd.pinned (OpenSpec.ofChange dateDressedWrong)

/- THE SECOND FORM. 'bulk': how many values and letters a reading holds, each counted each time it is reached (what is shared counts as often as it is met; a slice's spare places count too). A statement '..UptoSaid' is the law's where the arguments, and the package variables that the reading takes, are together of bulk at most 1048576: NARROWER than '..Said'. Prove '..Said' where nothing that the law and all that it calls make is longer than what came in: it says more and counts as full. Else prove '..UptoSaid'. A law counts once. -/
mutual
def uptoBulk {H : Type} : DataW H → Nat
  | .lit (.string bytes) => bytes.length + 1
  | .lit _ => 1
  | .nil => 1
  | .ptr d => uptoBulk d + 1
  | .slice elems spare => uptoBulkAll elems + uptoBulkAll spare + 1
  | .agg parts => uptoBulkAll parts + 1
  | .iface _ d => uptoBulk d + 1
  | .map entries => uptoBulkEntries entries + 1
  | .held _ => 1
def uptoBulkAll {H : Type} : List (DataW H) → Nat
  | [] => 0
  | d :: r => uptoBulk d + uptoBulkAll r
def uptoBulkEntries {H : Type} : List (Lit × DataW H) → Nat
  | [] => 0
  | x :: r => uptoBulkEntry x + uptoBulkEntries r
def uptoBulkEntry {H : Type} : Lit × DataW H → Nat
  | (.string bytes, d) => bytes.length + uptoBulk d + 1
  | (_, d) => uptoBulk d + 1
 end
def uptoSmall : (H : Type) → List (DataW H) → Bool := fun _ ds => decide (uptoBulkAll ds ≤ 1048576)
def OpenSpec.upto (s : _root_.Go.ChangeSpec) : _root_.Go.OpenSpec := { _root_.Go.OpenSpec.ofChange s with cond := some uptoSmall }

/-- 'posthornlaw06.DateNext', WHERE WHAT IT READS IS OF BULK AT MOST 1048576: true; the input reads as it did. -/
def dateNextUptoRow : OpenClaim := { program := "ytedfnebadenmdabdoor", sum := "3d83cd23462e43fd24a7c87b3ac9ebb2bef029b11ff04557f057ea08416ded58", func := "posthorn/posthornlaw06.DateNext", spec := "dateNext", named := ["posthorn/octet.classes", "posthorn/date.zoneNames", "posthorn/date.ahead"], apart := false, laid := [("posthorn/octet.classes", laid_posthorn_octet_classes), ("posthorn/date.ahead", laid_posthorn_date_ahead), ("posthorn/date.zoneNames", laid_posthorn_date_zoneNames)], narrowed := true }
def DateNextUptoSaid : Prop := dateNextUptoRow.holds Tryd.pinned (OpenSpec.upto dateNextSpec)

/-- 'posthornlaw06.DateOrders', WHERE WHAT IT READS IS OF BULK AT MOST 1048576: true; the input reads as it did. -/
def dateOrdersUptoRow : OpenClaim := { program := "ytedfnebadenmdabdoor", sum := "3d83cd23462e43fd24a7c87b3ac9ebb2bef029b11ff04557f057ea08416ded58", func := "posthorn/posthornlaw06.DateOrders", spec := "dateOrders", named := ["posthorn/octet.classes", "posthorn/date.zoneNames", "posthorn/date.ahead"], apart := false, laid := [("posthorn/octet.classes", laid_posthorn_octet_classes), ("posthorn/date.ahead", laid_posthorn_date_ahead), ("posthorn/date.zoneNames", laid_posthorn_date_zoneNames)], narrowed := true }
def DateOrdersUptoSaid : Prop := dateOrdersUptoRow.holds Tryd.pinned (OpenSpec.upto dateOrdersSpec)

/-- 'posthornlaw06.DateMoments', WHERE WHAT IT READS IS OF BULK AT MOST 1048576: true; the input reads as it did. -/
def dateMomentsUptoRow : OpenClaim := { program := "ytedfnebadenmdabdoor", sum := "3d83cd23462e43fd24a7c87b3ac9ebb2bef029b11ff04557f057ea08416ded58", func := "posthorn/posthornlaw06.DateMoments", spec := "dateMoments", named := ["posthorn/octet.classes", "posthorn/date.zoneNames", "posthorn/date.ahead"], apart := false, laid := [("posthorn/octet.classes", laid_posthorn_octet_classes), ("posthorn/date.ahead", laid_posthorn_date_ahead), ("posthorn/date.zoneNames", laid_posthorn_date_zoneNames)], narrowed := true }
def DateMomentsUptoSaid : Prop := dateMomentsUptoRow.holds Tryd.pinned (OpenSpec.upto dateMomentsSpec)

/-- 'posthornlaw06.DateDressed', WHERE WHAT IT READS IS OF BULK AT MOST 1048576: true; the input reads as it did. -/
def dateDressedUptoRow : OpenClaim := { program := "ytedfnebadenmdabdoor", sum := "3d83cd23462e43fd24a7c87b3ac9ebb2bef029b11ff04557f057ea08416ded58", func := "posthorn/posthornlaw06.DateDressed", spec := "dateDressed", named := ["posthorn/octet.classes", "posthorn/date.zoneNames", "posthorn/date.ahead", "internal/strconv.uint64pow10", "math/bits.deBruijn32tab", "math/bits.deBruijn64tab"], apart := false, laid := [("math/bits.deBruijn32tab", laid_math_bits_deBruijn32tab), ("math/bits.deBruijn64tab", laid_math_bits_deBruijn64tab), ("internal/strconv.uint64pow10", laid_internal_strconv_uint64pow10), ("posthorn/octet.classes", laid_posthorn_octet_classes), ("posthorn/date.ahead", laid_posthorn_date_ahead), ("posthorn/date.zoneNames", laid_posthorn_date_zoneNames)], narrowed := true }
def DateDressedUptoSaid : Prop := dateDressedUptoRow.holds Tryd.pinned (OpenSpec.upto dateDressedSpec)

end Rows
end Go.Proofs.YtedfnebadenmdabDoor
