/-
  Which replies may be, and how they are written: no Go in sight.
-/
import Derived.Test.YtbfgefgadplcjaaDoorRyP
import Derived.Test.YtbfgefgadplcjaaDoorProg
namespace Go.Proofs.YtbfgefgadplcjaaDoor

def dcW (n : Int) : List UInt8 := Lib.decDigits (IntKind.u64.wrap n).toNat
def isCd (n : Int) : Bool := decide ((dcW n).length = 3) && (digB 0 ((dcW n).getD 0 0) && digB 1 ((dcW n).getD 1 0) && digB 2 ((dcW n).getD 2 0))
def txtB (l : List UInt8) : Bool := l.all txB
def mayB (code : Int) (s : Stt) : Bool := decide (s = (0, 0, 0)) || (isSt s && decide (s.1 = code / 100))
def hdL (code : Int) (s : Stt) (last : Bool) : List UInt8 := dcI code ++ [if last then 32 else 45] ++ (if s = (0, 0, 0) then [] else wrSt s ++ [32])
def arB (r : Ry) : Bool := decide (1 ≤ r.ls.length) && decide (r.ls.length ≤ 64) && r.ls.all (fun t => decide (t.length + (hdL r.code r.st true).length ≤ 510) && txtB t)
def mayR (r : Ry) : Bool := isCd r.code && mayB r.code r.st && arB r && !(decide (r.st = (0, 0, 0)) && decide (comSt r.code r.ls ≠ (0, 0, 0)))
def chkR (r : Ry) : Int := if mayR r then 0 else 120
/-- The rows from a place on. -/
def rwsL (code : Int) (s : Stt) (n : Nat) : Nat → List (List UInt8) → List UInt8
  | _, [] => []
  | i, t :: r => hdL code s (decide (i + 1 = n)) ++ t ++ [13, 10] ++ rwsL code s n (i + 1) r
def prL (r : Ry) : List UInt8 := rwsL r.code r.st r.ls.length 0 r.ls
end Go.Proofs.YtbfgefgadplcjaaDoor
