/-
  A framer in plain words: what it stands in, and what a Take tells and leaves.
-/
import Derived.Test.YthnjbnhmdjpfpaaLnP
import Derived.Test.YthnjbnhmdjpfpaaDtP
namespace Go.Proofs.Ythnjbnhmdjpfpaa

/-- An item: none, a line, a bad one, bytes of a body, an end. -/
inductive Fi where
  | no
  | line (l : List UInt8)
  | bad (y : Int)
  | body (l : List UInt8)
  | fin (y : Int) (h : Bool)
/-- What a framer stands in: a line of which these bytes came; a body; a chunk of which so many octets are wanting, so many of them to be told. -/
inductive Fs where
  | ln (s : List UInt8)
  | dt (d : Ds)
  | ch (n r : Nat)
def Fi.ofIt : It → Fi
  | .no => .no
  | .line l => .line l
  | .bad y => .bad y
def Fi.ofIm : Im → Fi
  | .no => .no
  | .body l => .body l
  | .fin y h => .fin y h
def Fs.md : Fs → Nat
  | .ln _ => 1
  | .dt _ => 2
  | .ch _ _ => 3
/-- The state behind an item of a body. -/
def Fs.ofIm (d : Ds) : Im → Fs
  | .fin _ _ => .ln []
  | _ => .dt d
def Fs.held (m : Nat) : Fs → Nat
  | .ln s => heldN m s
  | .dt d => d.held
  | .ch _ _ => 0
def chI (n r : Nat) (l : List UInt8) : Fi := if 0 < min (min l.length n) r then .body (l.take (min (min l.length n) r)) else if n - min l.length n = 0 then .fin 0 false else .no
def chS (n r : Nat) (l : List UInt8) : Fs := if 0 < min (min l.length n) r then .ch (n - min l.length n) (r - min (min l.length n) r) else if n - min l.length n = 0 then .ln [] else .ch (n - min l.length n) (r - min (min l.length n) r)
/-- Take: how many bytes, the item, the state behind it. -/
def ftk (m t a : Nat) : Fs → List UInt8 → Nat × Fi × Fs
  | .ln s, l => ((tk m s l).1, .ofIt (tk m s l).2.1, .ln (tk m s l).2.2)
  | .dt d, l => ((d.run t a l).1, .ofIm (imOf a (d.run t a l).2.1 (d.run t a l).2.2), .ofIm (stOf (d.run t a l).2.1 (d.run t a l).2.2) (imOf a (d.run t a l).2.1 (d.run t a l).2.2))
  | .ch n r, l => (min l.length n, chI n r l, chS n r l)
end Go.Proofs.Ythnjbnhmdjpfpaa
