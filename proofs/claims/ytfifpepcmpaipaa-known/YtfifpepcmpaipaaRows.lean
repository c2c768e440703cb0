/-
  No cell of these rows narrows 'for every input' (looked for: loops, veiled, ifaces, maps, wideKeys, modest, calm, conditions, laid).
  DERIVED. THE GIVEN ROWS OF THIS SEAT. 6 by the template 'for every input the law returns true; each argument reads behind the call as it read before'; 0 by the template 'total and deterministic' (their statements: YtfifpepcmpaipaaTotals.lean).
  GIVEN WITH THE SEED: the statements are not yours to turn. If you find one false, say at which input.
  Laid BY PROGRAM, IN A SANDBOX (cutbox-rows.mjs): the forced cells as the released guide's own fill.sh prints them over the translation 3a5f6f5f7f84dcd8… (all of the seat's roots in one cut). By AI agents, Wed Nov 11 2026. No macro, syntax, notation, axiom, sorry.
-/
import Derived.Test.YtfifpepcmpaipaaChecked
import GoSem.Claim
import GoSem.ClaimJoined
import GoSem.ClaimMapViews
import Derived.JoinedTies
import Derived.KernelRfl
namespace Go.Proofs.Ytfifpepcmpaipaa
/- THE CELL 'sum', in the pinned program and in every row, IS THE sha256 OF THE DUMP (.gsa) THAT YtfifpepcmpaipaaProg.lean LOADS. Nothing in Lean hashes anything: it is a label: what it is worth is what the hold of that sum in a sandbox is worth. -/
noncomputable def Try.pinned : Pinned := { name := "ytfifpepcmpaipaa", sum := "3a5f6f5f7f84dcd8ab30683ab5532aedd60d47c0883a1d1af7131bb81697c07c", checked := Try.checked }
namespace Rows
def none {H : Type} : Left H := { results := [], args := [] }

/-- 'posthornlaw14.DotsKnown': WHATEVER THE INPUT: true; the input reads as it did. -/
def dotsKnownSpec : ChangeSpec := { name := "dotsKnown", fn := fun _ => fun
  | [] => { results := [.lit (.bool true)], args := [] }
  | _ => none }
def dotsKnownRow : OpenClaim := { program := "ytfifpepcmpaipaa", sum := "3a5f6f5f7f84dcd8ab30683ab5532aedd60d47c0883a1d1af7131bb81697c07c", func := "posthorn/posthornlaw14.DotsKnown", spec := "dotsKnown", apart := false }
def DotsKnownSaid : Prop := dotsKnownRow.holds Try.pinned (OpenSpec.ofChange dotsKnownSpec)

/-- ITS FALSE NEIGHBOUR: 'it returns false'. Refute it at one input. -/
def dotsKnownWrong : ChangeSpec := { name := "dotsKnown", fn := fun _ => fun
  | [] => { results := [.lit (.bool false)], args := [] }
  | _ => none }
def DotsKnownWrongFalsely : Prop := dotsKnownRow.holds Try.pinned (OpenSpec.ofChange dotsKnownWrong)

/-- 'posthornlaw14.DotsChecks': WHATEVER THE INPUT: true; the input reads as it did. -/
def dotsChecksSpec : ChangeSpec := { name := "dotsChecks", fn := fun _ => fun
  | [d1, d2] => { results := [.lit (.bool true)], args := [d1, d2] }
  | _ => none }
def dotsChecksRow : OpenClaim := { program := "ytfifpepcmpaipaa", sum := "3a5f6f5f7f84dcd8ab30683ab5532aedd60d47c0883a1d1af7131bb81697c07c", func := "posthorn/posthornlaw14.DotsChecks", spec := "dotsChecks", apart := false }
def DotsChecksSaid : Prop := dotsChecksRow.holds Try.pinned (OpenSpec.ofChange dotsChecksSpec)

/-- ITS FALSE NEIGHBOUR: 'it returns false'. Refute it at one input. -/
def dotsChecksWrong : ChangeSpec := { name := "dotsChecks", fn := fun _ => fun
  | [d1, d2] => { results := [.lit (.bool false)], args := [d1, d2] }
  | _ => none }
def DotsChecksWrongFalsely : Prop := dotsChecksRow.holds Try.pinned (OpenSpec.ofChange dotsChecksWrong)

/-- 'posthornlaw14.DotsTakes': WHATEVER THE INPUT: true; the input reads as it did. -/
def dotsTakesSpec : ChangeSpec := { name := "dotsTakes", fn := fun _ => fun
  | [d1, d2, d3] => { results := [.lit (.bool true)], args := [d1, d2, d3] }
  | _ => none }
def dotsTakesRow : OpenClaim := { program := "ytfifpepcmpaipaa", sum := "3a5f6f5f7f84dcd8ab30683ab5532aedd60d47c0883a1d1af7131bb81697c07c", func := "posthorn/posthornlaw14.DotsTakes", spec := "dotsTakes", apart := false }
def DotsTakesSaid : Prop := dotsTakesRow.holds Try.pinned (OpenSpec.ofChange dotsTakesSpec)

/-- ITS FALSE NEIGHBOUR: 'it returns false'. Refute it at one input. -/
def dotsTakesWrong : ChangeSpec := { name := "dotsTakes", fn := fun _ => fun
  | [d1, d2, d3] => { results := [.lit (.bool false)], args := [d1, d2, d3] }
  | _ => none }
def DotsTakesWrongFalsely : Prop := dotsTakesRow.holds Try.pinned (OpenSpec.ofChange dotsTakesWrong)

/-- 'posthornlaw14.DotsBack': WHATEVER THE INPUT: true; the input reads as it did. -/
def dotsBackSpec : ChangeSpec := { name := "dotsBack", fn := fun _ => fun
  | [d1, d2, d3] => { results := [.lit (.bool true)], args := [d1, d2, d3] }
  | _ => none }
def dotsBackRow : OpenClaim := { program := "ytfifpepcmpaipaa", sum := "3a5f6f5f7f84dcd8ab30683ab5532aedd60d47c0883a1d1af7131bb81697c07c", func := "posthorn/posthornlaw14.DotsBack", spec := "dotsBack", unfollowed := true, recurses := true, apart := false }
def DotsBackSaid : Prop := dotsBackRow.holds Try.pinned (OpenSpec.ofChange dotsBackSpec)

/-- ITS FALSE NEIGHBOUR: 'it returns false'. Refute it at one input. -/
def dotsBackWrong : ChangeSpec := { name := "dotsBack", fn := fun _ => fun
  | [d1, d2, d3] => { results := [.lit (.bool false)], args := [d1, d2, d3] }
  | _ => none }
def DotsBackWrongFalsely : Prop := dotsBackRow.holds Try.pinned (OpenSpec.ofChange dotsBackWrong)

/-- 'posthornlaw14.DotsCut': WHATEVER THE INPUT: true; the input reads as it did. -/
def dotsCutSpec : ChangeSpec := { name := "dotsCut", fn := fun _ => fun
  | [d1, d2, d3, d4] => { results := [.lit (.bool true)], args := [d1, d2, d3, d4] }
  | _ => none }
def dotsCutRow : OpenClaim := { program := "ytfifpepcmpaipaa", sum := "3a5f6f5f7f84dcd8ab30683ab5532aedd60d47c0883a1d1af7131bb81697c07c", func := "posthorn/posthornlaw14.DotsCut", spec := "dotsCut", apart := false }
def DotsCutSaid : Prop := dotsCutRow.holds Try.pinned (OpenSpec.ofChange dotsCutSpec)

/-- ITS FALSE NEIGHBOUR: 'it returns false'. Refute it at one input. -/
def dotsCutWrong : ChangeSpec := { name := "dotsCut", fn := fun _ => fun
  | [d1, d2, d3, d4] => { results := [.lit (.bool false)], args := [d1, d2, d3, d4] }
  | _ => none }
def DotsCutWrongFalsely : Prop := dotsCutRow.holds Try.pinned (OpenSpec.ofChange dotsCutWrong)

/-- 'posthornlaw14.DotsEnd': WHATEVER THE INPUT: true; the input reads as it did. -/
def dotsEndSpec : ChangeSpec := { name := "dotsEnd", fn := fun _ => fun
  | [d1, d2] => { results := [.lit (.bool true)], args := [d1, d2] }
  | _ => none }
def dotsEndRow : OpenClaim := { program := "ytfifpepcmpaipaa", sum := "3a5f6f5f7f84dcd8ab30683ab5532aedd60d47c0883a1d1af7131bb81697c07c", func := "posthorn/posthornlaw14.DotsEnd", spec := "dotsEnd", inPlace := ["internal/bytealg.IndexByte", "internal/bytealg.Index"], named := ["internal/bytealg.MaxLen"], apart := false }
def DotsEndSaid : Prop := dotsEndRow.holds Try.pinned (OpenSpec.ofChange dotsEndSpec)

/-- ITS FALSE NEIGHBOUR: 'it returns false'. Refute it at one input. -/
def dotsEndWrong : ChangeSpec := { name := "dotsEnd", fn := fun _ => fun
  | [d1, d2] => { results := [.lit (.bool false)], args := [d1, d2] }
  | _ => none }
def DotsEndWrongFalsely : Prop := dotsEndRow.holds Try.pinned (OpenSpec.ofChange dotsEndWrong)

/- THE SECOND FORM. 'bulk': how many values and letters a reading holds, each counted each time it is reached (what is shared counts as often as it is met; a slice's spare places count too). A statement '..UptoSaid' is the law's where the arguments, and the package variables that the reading takes, are together of bulk at most 1048576: NARROWER than '..Said'. Prove '..Said' where nothing that the law and all that it calls make is longer than what came in: it says more and counts as full. Else prove '..UptoSaid'. A law counts once. -/
mutual
def uptoBulk {H : Type} : DataW H → Nat
  | .lit (.string bytes) => bytes.length + 1
  | .lit _ => 1
  | .nil => 1
  | .ptr d => uptoBulk d + 1
  | .slice elems spare => uptoBulkAll elems + uptoBulkAll spare + 1
  | .agg parts => uptoBulkAll parts + 1
  | .iface _ d => uptoBulk d + 1
  | .map entries => uptoBulkEntries entries + 1
  | .held _ => 1
def uptoBulkAll {H : Type} : List (DataW H) → Nat
  | [] => 0
  | d :: r => uptoBulk d + uptoBulkAll r
def uptoBulkEntries {H : Type} : List (Lit × DataW H) → Nat
  | [] => 0
  | x :: r => uptoBulkEntry x + uptoBulkEntries r
def uptoBulkEntry {H : Type} : Lit × DataW H → Nat
  | (.string bytes, d) => bytes.length + uptoBulk d + 1
  | (_, d) => uptoBulk d + 1
 end
def uptoSmall : (H : Type) → List (DataW H) → Bool := fun _ ds => decide (uptoBulkAll ds ≤ 1048576)
def OpenSpec.upto (s : _root_.Go.ChangeSpec) : _root_.Go.OpenSpec := { _root_.Go.OpenSpec.ofChange s with cond := some uptoSmall }

/-- 'posthornlaw14.DotsKnown', WHERE WHAT IT READS IS OF BULK AT MOST 1048576: true; the input reads as it did. -/
def dotsKnownUptoRow : OpenClaim := { program := "ytfifpepcmpaipaa", sum := "3a5f6f5f7f84dcd8ab30683ab5532aedd60d47c0883a1d1af7131bb81697c07c", func := "posthorn/posthornlaw14.DotsKnown", spec := "dotsKnown", apart := false, narrowed := true }
def DotsKnownUptoSaid : Prop := dotsKnownUptoRow.holds Try.pinned (OpenSpec.upto dotsKnownSpec)

/-- 'posthornlaw14.DotsChecks', WHERE WHAT IT READS IS OF BULK AT MOST 1048576: true; the input reads as it did. -/
def dotsChecksUptoRow : OpenClaim := { program := "ytfifpepcmpaipaa", sum := "3a5f6f5f7f84dcd8ab30683ab5532aedd60d47c0883a1d1af7131bb81697c07c", func := "posthorn/posthornlaw14.DotsChecks", spec := "dotsChecks", apart := false, narrowed := true }
def DotsChecksUptoSaid : Prop := dotsChecksUptoRow.holds Try.pinned (OpenSpec.upto dotsChecksSpec)

/-- 'posthornlaw14.DotsTakes', WHERE WHAT IT READS IS OF BULK AT MOST 1048576: true; the input reads as it did. -/
def dotsTakesUptoRow : OpenClaim := { program := "ytfifpepcmpaipaa", sum := "3a5f6f5f7f84dcd8ab30683ab5532aedd60d47c0883a1d1af7131bb81697c07c", func := "posthorn/posthornlaw14.DotsTakes", spec := "dotsTakes", apart := false, narrowed := true }
def DotsTakesUptoSaid : Prop := dotsTakesUptoRow.holds Try.pinned (OpenSpec.upto dotsTakesSpec)

/-- 'posthornlaw14.DotsBack', WHERE WHAT IT READS IS OF BULK AT MOST 1048576: true; the input reads as it did. -/
def dotsBackUptoRow : OpenClaim := { program := "ytfifpepcmpaipaa", sum := "3a5f6f5f7f84dcd8ab30683ab5532aedd60d47c0883a1d1af7131bb81697c07c", func := "posthorn/posthornlaw14.DotsBack", spec := "dotsBack", unfollowed := true, recurses := true, apart := false, narrowed := true }
def DotsBackUptoSaid : Prop := dotsBackUptoRow.holds Try.pinned (OpenSpec.upto dotsBackSpec)

/-- 'posthornlaw14.DotsCut', WHERE WHAT IT READS IS OF BULK AT MOST 1048576: true; the input reads as it did. -/
def dotsCutUptoRow : OpenClaim := { program := "ytfifpepcmpaipaa", sum := "3a5f6f5f7f84dcd8ab30683ab5532aedd60d47c0883a1d1af7131bb81697c07c", func := "posthorn/posthornlaw14.DotsCut", spec := "dotsCut", apart := false, narrowed := true }
def DotsCutUptoSaid : Prop := dotsCutUptoRow.holds Try.pinned (OpenSpec.upto dotsCutSpec)

/-- 'posthornlaw14.DotsEnd', WHERE WHAT IT READS IS OF BULK AT MOST 1048576: true; the input reads as it did. -/
def dotsEndUptoRow : OpenClaim := { program := "ytfifpepcmpaipaa", sum := "3a5f6f5f7f84dcd8ab30683ab5532aedd60d47c0883a1d1af7131bb81697c07c", func := "posthorn/posthornlaw14.DotsEnd", spec := "dotsEnd", inPlace := ["internal/bytealg.IndexByte", "internal/bytealg.Index"], named := ["internal/bytealg.MaxLen"], apart := false, narrowed := true }
def DotsEndUptoSaid : Prop := dotsEndUptoRow.holds Try.pinned (OpenSpec.upto dotsEndSpec)

end Rows
end Go.Proofs.Ytfifpepcmpaipaa
