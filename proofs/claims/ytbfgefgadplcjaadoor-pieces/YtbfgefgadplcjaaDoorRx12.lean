/-
  A reply as a ring holds it: the code, the status, where its lines lie.
-/
import Derived.Test.YtbfgefgadplcjaaDoorRyP
namespace Go.Proofs.YtbfgefgadplcjaaDoor

structure Rx where
  c : Int
  s : Stt
  a : Option Addr
  n : Nat
  k : Nat
def Rx.nil : Rx := ⟨0, (0, 0, 0), none, 0, 0⟩
end Go.Proofs.YtbfgefgadplcjaaDoor
