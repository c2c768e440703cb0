/-
  NARROWER THAN 'FOR EVERY INPUT', by the rows' own cells (each row's printed sentence says how): RunesKnown: laid · RunesReads: laid · RunesWrites: laid · RunesFeeds: laid · RunesUnpunies: laid · RunesBack: laid.
  DERIVED. THE GIVEN ROWS OF THIS SEAT. 6 by the template 'for every input the law returns true; each argument reads behind the call as it read before'; 0 by the template 'total and deterministic' (their statements: YtedgimkffkflbaaDoorTotals.lean).
  GIVEN WITH THE SEED: the statements are not yours to turn. If you find one false, say at which input.
  Laid BY PROGRAM, IN A SANDBOX (cutbox-rows.mjs): the forced cells as the released guide's own fill.sh prints them over the translation 6197b0478b670752… (all of the seat's roots in one cut). By AI agents, Wed Nov 11 2026. No macro, syntax, notation, axiom, sorry.
-/
import Derived.Test.YtedgimkffkflbaaDoorChecked
import GoSem.Claim
import GoSem.ClaimJoined
import GoSem.ClaimMapViews
import Derived.JoinedTies
import Derived.KernelRfl
namespace Go.Proofs.YtedgimkffkflbaaDoor
/- THE CELL 'sum', in the pinned program and in every row, IS THE sha256 OF THE DUMP (.gsa) THAT YtedgimkffkflbaaDoorProg.lean LOADS. Nothing in Lean hashes anything: it is a label: what it is worth is what the hold of that sum in a sandbox is worth. -/
noncomputable def Tryd.pinned : Pinned := { name := "ytedgimkffkflbaadoor", sum := "6197b0478b6707526b3ea311a048f2e8e7a093e95a8ee13496c5c091d79f7037", checked := Tryd.checked }
namespace Rows
def none {H : Type} : Left H := { results := [], args := [] }

/- WHAT THE LISTED PACKAGE-LEVEL VARIABLES READ AS WHEN THE CALL BEGINS. Each datum BY PROGRAM (the guide's laid-datum.mjs) off the statement by which the dump's own 'gosem.cut.vars' lays the variable. In a bare row this is a premise. The card (YtedgimkffkflbaaDoorCards.lean) ties it to the program's text. -/
def laid_posthorn_octet_classes {H : Type} : DataW H := .agg [.lit (.string []), .lit (.string [65, 90, 97, 122]), .lit (.string [48, 57]), .lit (.string [48, 57, 65, 90, 97, 122]), .lit (.string [48, 57, 65, 70, 97, 102]), .lit (.string [48, 57, 65, 90, 97, 122, 33, 33, 35, 39, 42, 43, 45, 45, 47, 47, 61, 61, 63, 63, 94, 96, 123, 126]), .lit (.string [32, 33, 35, 91, 93, 126]), .lit (.string [33, 90, 94, 126]), .lit (.string [33, 60, 62, 126]), .lit (.string [33, 42, 44, 60, 62, 126]), .lit (.string [48, 57, 65, 90, 97, 122, 45, 45]), .lit (.string [33, 57, 59, 126]), .lit (.string [9, 9, 32, 126]), .lit (.string [0, 127]), .lit (.string [128, 255])]
def laid_posthorn_runes_firsts {H : Type} : DataW H := .agg [.agg [.lit (.int .u8 194), .lit (.int .u8 223), .lit (.int .u8 1), .lit (.int .u8 128), .lit (.int .u8 191)], .agg [.lit (.int .u8 224), .lit (.int .u8 224), .lit (.int .u8 2), .lit (.int .u8 160), .lit (.int .u8 191)], .agg [.lit (.int .u8 225), .lit (.int .u8 236), .lit (.int .u8 2), .lit (.int .u8 128), .lit (.int .u8 191)], .agg [.lit (.int .u8 237), .lit (.int .u8 237), .lit (.int .u8 2), .lit (.int .u8 128), .lit (.int .u8 159)], .agg [.lit (.int .u8 238), .lit (.int .u8 239), .lit (.int .u8 2), .lit (.int .u8 128), .lit (.int .u8 191)], .agg [.lit (.int .u8 240), .lit (.int .u8 240), .lit (.int .u8 3), .lit (.int .u8 144), .lit (.int .u8 191)], .agg [.lit (.int .u8 241), .lit (.int .u8 243), .lit (.int .u8 3), .lit (.int .u8 128), .lit (.int .u8 191)], .agg [.lit (.int .u8 244), .lit (.int .u8 244), .lit (.int .u8 3), .lit (.int .u8 128), .lit (.int .u8 143)]]

/-- 'posthornlaw05.RunesKnown': WHATEVER THE INPUT: true; the input reads as it did. -/
def runesKnownSpec : ChangeSpec := { name := "runesKnown", fn := fun _ => fun
  | [] => { results := [.lit (.bool true)], args := [] }
  | _ => none }
def runesKnownRow : OpenClaim := { program := "ytedgimkffkflbaadoor", sum := "6197b0478b6707526b3ea311a048f2e8e7a093e95a8ee13496c5c091d79f7037", func := "posthorn/posthornlaw05.RunesKnown", spec := "runesKnown", inPlace := ["internal/abi.NoEscape"], unfollowed := true, recurses := true, named := ["posthorn/runes.firsts", "posthorn/octet.classes"], apart := false, laid := [("posthorn/octet.classes", laid_posthorn_octet_classes), ("posthorn/runes.firsts", laid_posthorn_runes_firsts)] }
def RunesKnownSaid : Prop := runesKnownRow.holds Tryd.pinned (OpenSpec.ofChange runesKnownSpec)

/-- ITS FALSE NEIGHBOUR: 'it returns false'. Refute it at one input. -/
def runesKnownWrong : ChangeSpec := { name := "runesKnown", fn := fun _ => fun
  | [] => { results := [.lit (.bool false)], args := [] }
  | _ => none }
def RunesKnownWrongFalsely : Prop := runesKnownRow.holds Tryd.pinned (OpenSpec.ofChange runesKnownWrong)

/-- 'posthornlaw05.RunesReads': WHATEVER THE INPUT: true; the input reads as it did. -/
def runesReadsSpec : ChangeSpec := { name := "runesReads", fn := fun _ => fun
  | [d] => { results := [.lit (.bool true)], args := [d] }
  | _ => none }
def runesReadsRow : OpenClaim := { program := "ytedgimkffkflbaadoor", sum := "6197b0478b6707526b3ea311a048f2e8e7a093e95a8ee13496c5c091d79f7037", func := "posthorn/posthornlaw05.RunesReads", spec := "runesReads", inPlace := ["internal/abi.NoEscape"], unfollowed := true, recurses := true, named := ["posthorn/runes.firsts", "posthorn/octet.classes"], apart := false, laid := [("posthorn/octet.classes", laid_posthorn_octet_classes), ("posthorn/runes.firsts", laid_posthorn_runes_firsts)] }
def RunesReadsSaid : Prop := runesReadsRow.holds Tryd.pinned (OpenSpec.ofChange runesReadsSpec)

/-- ITS FALSE NEIGHBOUR: 'it returns false'. Refute it at one input. -/
def runesReadsWrong : ChangeSpec := { name := "runesReads", fn := fun _ => fun
  | [d] => { results := [.lit (.bool false)], args := [d] }
  | _ => none }
def RunesReadsWrongFalsely : Prop := runesReadsRow.holds Tryd.pinned (OpenSpec.ofChange runesReadsWrong)

/-- 'posthornlaw05.RunesWrites': WHATEVER THE INPUT: true; the input reads as it did. -/
def runesWritesSpec : ChangeSpec := { name := "runesWrites", fn := fun _ => fun
  | [d] => { results := [.lit (.bool true)], args := [d] }
  | _ => none }
def runesWritesRow : OpenClaim := { program := "ytedgimkffkflbaadoor", sum := "6197b0478b6707526b3ea311a048f2e8e7a093e95a8ee13496c5c091d79f7037", func := "posthorn/posthornlaw05.RunesWrites", spec := "runesWrites", inPlace := ["internal/abi.NoEscape"], unfollowed := true, recurses := true, named := ["posthorn/runes.firsts", "posthorn/octet.classes"], apart := false, laid := [("posthorn/octet.classes", laid_posthorn_octet_classes), ("posthorn/runes.firsts", laid_posthorn_runes_firsts)] }
def RunesWritesSaid : Prop := runesWritesRow.holds Tryd.pinned (OpenSpec.ofChange runesWritesSpec)

/-- ITS FALSE NEIGHBOUR: 'it returns false'. Refute it at one input. -/
def runesWritesWrong : ChangeSpec := { name := "runesWrites", fn := fun _ => fun
  | [d] => { results := [.lit (.bool false)], args := [d] }
  | _ => none }
def RunesWritesWrongFalsely : Prop := runesWritesRow.holds Tryd.pinned (OpenSpec.ofChange runesWritesWrong)

/-- 'posthornlaw05.RunesFeeds': WHATEVER THE INPUT: true; the input reads as it did. -/
def runesFeedsSpec : ChangeSpec := { name := "runesFeeds", fn := fun _ => fun
  | [d] => { results := [.lit (.bool true)], args := [d] }
  | _ => none }
def runesFeedsRow : OpenClaim := { program := "ytedgimkffkflbaadoor", sum := "6197b0478b6707526b3ea311a048f2e8e7a093e95a8ee13496c5c091d79f7037", func := "posthorn/posthornlaw05.RunesFeeds", spec := "runesFeeds", inPlace := ["internal/abi.NoEscape"], unfollowed := true, recurses := true, named := ["posthorn/runes.firsts", "posthorn/octet.classes"], apart := false, laid := [("posthorn/octet.classes", laid_posthorn_octet_classes), ("posthorn/runes.firsts", laid_posthorn_runes_firsts)] }
def RunesFeedsSaid : Prop := runesFeedsRow.holds Tryd.pinned (OpenSpec.ofChange runesFeedsSpec)

/-- ITS FALSE NEIGHBOUR: 'it returns false'. Refute it at one input. -/
def runesFeedsWrong : ChangeSpec := { name := "runesFeeds", fn := fun _ => fun
  | [d] => { results := [.lit (.bool false)], args := [d] }
  | _ => none }
def RunesFeedsWrongFalsely : Prop := runesFeedsRow.holds Tryd.pinned (OpenSpec.ofChange runesFeedsWrong)

/-- 'posthornlaw05.RunesUnpunies': WHATEVER THE INPUT: true; the input reads as it did. -/
def runesUnpuniesSpec : ChangeSpec := { name := "runesUnpunies", fn := fun _ => fun
  | [d] => { results := [.lit (.bool true)], args := [d] }
  | _ => none }
def runesUnpuniesRow : OpenClaim := { program := "ytedgimkffkflbaadoor", sum := "6197b0478b6707526b3ea311a048f2e8e7a093e95a8ee13496c5c091d79f7037", func := "posthorn/posthornlaw05.RunesUnpunies", spec := "runesUnpunies", inPlace := ["internal/abi.NoEscape"], unfollowed := true, recurses := true, named := ["posthorn/octet.classes", "posthorn/runes.firsts"], apart := false, laid := [("posthorn/octet.classes", laid_posthorn_octet_classes), ("posthorn/runes.firsts", laid_posthorn_runes_firsts)] }
def RunesUnpuniesSaid : Prop := runesUnpuniesRow.holds Tryd.pinned (OpenSpec.ofChange runesUnpuniesSpec)

/-- ITS FALSE NEIGHBOUR: 'it returns false'. Refute it at one input. -/
def runesUnpuniesWrong : ChangeSpec := { name := "runesUnpunies", fn := fun _ => fun
  | [d] => { results := [.lit (.bool false)], args := [d] }
  | _ => none }
def RunesUnpuniesWrongFalsely : Prop := runesUnpuniesRow.holds Tryd.pinned (OpenSpec.ofChange runesUnpuniesWrong)

/-- 'posthornlaw05.RunesBack': WHATEVER THE INPUT: true; the input reads as it did. -/
def runesBackSpec : ChangeSpec := { name := "runesBack", fn := fun _ => fun
  | [d1, d2] => { results := [.lit (.bool true)], args := [d1, d2] }
  | _ => none }
def runesBackRow : OpenClaim := { program := "ytedgimkffkflbaadoor", sum := "6197b0478b6707526b3ea311a048f2e8e7a093e95a8ee13496c5c091d79f7037", func := "posthorn/posthornlaw05.RunesBack", spec := "runesBack", inPlace := ["internal/abi.NoEscape"], unfollowed := true, recurses := true, named := ["posthorn/runes.firsts", "posthorn/octet.classes"], apart := false, laid := [("posthorn/octet.classes", laid_posthorn_octet_classes), ("posthorn/runes.firsts", laid_posthorn_runes_firsts)] }
def RunesBackSaid : Prop := runesBackRow.holds Tryd.pinned (OpenSpec.ofChange runesBackSpec)

/-- ITS FALSE NEIGHBOUR: 'it returns false'. Refute it at one input. -/
def runesBackWrong : ChangeSpec := { name := "runesBack", fn := fun _ => fun
  | [d1, d2] => { results := [.lit (.bool false)], args := [d1, d2] }
  | _ => none }
def RunesBackWrongFalsely : Prop := runesBackRow.holds Tryd.pinned (OpenSpec.ofChange runesBackWrong)

/- THE SECOND FORM. 'bulk': how many values and letters a reading holds, each counted each time it is reached (what is shared counts as often as it is met; a slice's spare places count too). A statement '..UptoSaid' is the law's where the arguments, and the package variables that the reading takes, are together of bulk at most 1048576: NARROWER than '..Said'. Prove '..Said' where nothing that the law and all that it calls make is longer than what came in: it says more and counts as full. Else prove '..UptoSaid'. A law counts once. -/
mutual
def uptoBulk {H : Type} : DataW H → Nat
  | .lit (.string bytes) => bytes.length + 1
  | .lit _ => 1
  | .nil => 1
  | .ptr d => uptoBulk d + 1
  | .slice elems spare => uptoBulkAll elems + uptoBulkAll spare + 1
  | .agg parts => uptoBulkAll parts + 1
  | .iface _ d => uptoBulk d + 1
  | .map entries => uptoBulkEntries entries + 1
  | .held _ => 1
def uptoBulkAll {H : Type} : List (DataW H) → Nat
  | [] => 0
  | d :: r => uptoBulk d + uptoBulkAll r
def uptoBulkEntries {H : Type} : List (Lit × DataW H) → Nat
  | [] => 0
  | x :: r => uptoBulkEntry x + uptoBulkEntries r
def uptoBulkEntry {H : Type} : Lit × DataW H → Nat
  | (.string bytes, d) => bytes.length + uptoBulk d + 1
  | (_, d) => uptoBulk d + 1
 end
def uptoSmall : (H : Type) → List (DataW H) → Bool := fun _ ds => decide (uptoBulkAll ds ≤ 1048576)
def OpenSpec.upto (s : _root_.Go.ChangeSpec) : _root_.Go.OpenSpec := { _root_.Go.OpenSpec.ofChange s with cond := some uptoSmall }

/-- 'posthornlaw05.RunesKnown', WHERE WHAT IT READS IS OF BULK AT MOST 1048576: true; the input reads as it did. -/
def runesKnownUptoRow : OpenClaim := { program := "ytedgimkffkflbaadoor", sum := "6197b0478b6707526b3ea311a048f2e8e7a093e95a8ee13496c5c091d79f7037", func := "posthorn/posthornlaw05.RunesKnown", spec := "runesKnown", inPlace := ["internal/abi.NoEscape"], unfollowed := true, recurses := true, named := ["posthorn/runes.firsts", "posthorn/octet.classes"], apart := false, laid := [("posthorn/octet.classes", laid_posthorn_octet_classes), ("posthorn/runes.firsts", laid_posthorn_runes_firsts)], narrowed := true }
def RunesKnownUptoSaid : Prop := runesKnownUptoRow.holds Tryd.pinned (OpenSpec.upto runesKnownSpec)

/-- 'posthornlaw05.RunesReads', WHERE WHAT IT READS IS OF BULK AT MOST 1048576: true; the input reads as it did. -/
def runesReadsUptoRow : OpenClaim := { program := "ytedgimkffkflbaadoor", sum := "6197b0478b6707526b3ea311a048f2e8e7a093e95a8ee13496c5c091d79f7037", func := "posthorn/posthornlaw05.RunesReads", spec := "runesReads", inPlace := ["internal/abi.NoEscape"], unfollowed := true, recurses := true, named := ["posthorn/runes.firsts", "posthorn/octet.classes"], apart := false, laid := [("posthorn/octet.classes", laid_posthorn_octet_classes), ("posthorn/runes.firsts", laid_posthorn_runes_firsts)], narrowed := true }
def RunesReadsUptoSaid : Prop := runesReadsUptoRow.holds Tryd.pinned (OpenSpec.upto runesReadsSpec)

/-- 'posthornlaw05.RunesWrites', WHERE WHAT IT READS IS OF BULK AT MOST 1048576: true; the input reads as it did. -/
def runesWritesUptoRow : OpenClaim := { program := "ytedgimkffkflbaadoor", sum := "6197b0478b6707526b3ea311a048f2e8e7a093e95a8ee13496c5c091d79f7037", func := "posthorn/posthornlaw05.RunesWrites", spec := "runesWrites", inPlace := ["internal/abi.NoEscape"], unfollowed := true, recurses := true, named := ["posthorn/runes.firsts", "posthorn/octet.classes"], apart := false, laid := [("posthorn/octet.classes", laid_posthorn_octet_classes), ("posthorn/runes.firsts", laid_posthorn_runes_firsts)], narrowed := true }
def RunesWritesUptoSaid : Prop := runesWritesUptoRow.holds Tryd.pinned (OpenSpec.upto runesWritesSpec)

/-- 'posthornlaw05.RunesFeeds', WHERE WHAT IT READS IS OF BULK AT MOST 1048576: true; the input reads as it did. -/
def runesFeedsUptoRow : OpenClaim := { program := "ytedgimkffkflbaadoor", sum := "6197b0478b6707526b3ea311a048f2e8e7a093e95a8ee13496c5c091d79f7037", func := "posthorn/posthornlaw05.RunesFeeds", spec := "runesFeeds", inPlace := ["internal/abi.NoEscape"], unfollowed := true, recurses := true, named := ["posthorn/runes.firsts", "posthorn/octet.classes"], apart := false, laid := [("posthorn/octet.classes", laid_posthorn_octet_classes), ("posthorn/runes.firsts", laid_posthorn_runes_firsts)], narrowed := true }
def RunesFeedsUptoSaid : Prop := runesFeedsUptoRow.holds Tryd.pinned (OpenSpec.upto runesFeedsSpec)

/-- 'posthornlaw05.RunesUnpunies', WHERE WHAT IT READS IS OF BULK AT MOST 1048576: true; the input reads as it did. -/
def runesUnpuniesUptoRow : OpenClaim := { program := "ytedgimkffkflbaadoor", sum := "6197b0478b6707526b3ea311a048f2e8e7a093e95a8ee13496c5c091d79f7037", func := "posthorn/posthornlaw05.RunesUnpunies", spec := "runesUnpunies", inPlace := ["internal/abi.NoEscape"], unfollowed := true, recurses := true, named := ["posthorn/octet.classes", "posthorn/runes.firsts"], apart := false, laid := [("posthorn/octet.classes", laid_posthorn_octet_classes), ("posthorn/runes.firsts", laid_posthorn_runes_firsts)], narrowed := true }
def RunesUnpuniesUptoSaid : Prop := runesUnpuniesUptoRow.holds Tryd.pinned (OpenSpec.upto runesUnpuniesSpec)

/-- 'posthornlaw05.RunesBack', WHERE WHAT IT READS IS OF BULK AT MOST 1048576: true; the input reads as it did. -/
def runesBackUptoRow : OpenClaim := { program := "ytedgimkffkflbaadoor", sum := "6197b0478b6707526b3ea311a048f2e8e7a093e95a8ee13496c5c091d79f7037", func := "posthorn/posthornlaw05.RunesBack", spec := "runesBack", inPlace := ["internal/abi.NoEscape"], unfollowed := true, recurses := true, named := ["posthorn/runes.firsts", "posthorn/octet.classes"], apart := false, laid := [("posthorn/octet.classes", laid_posthorn_octet_classes), ("posthorn/runes.firsts", laid_posthorn_runes_firsts)], narrowed := true }
def RunesBackUptoSaid : Prop := runesBackUptoRow.holds Tryd.pinned (OpenSpec.upto runesBackSpec)

end Rows
end Go.Proofs.YtedgimkffkflbaaDoor
