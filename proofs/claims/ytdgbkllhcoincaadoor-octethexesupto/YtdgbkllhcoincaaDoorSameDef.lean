/-
  Two texts the same but for capitals.
-/
import Derived.Test.YtdgbkllhcoincaaDoorPureUp
namespace Go.Proofs.YtdgbkllhcoincaaDoor

/-- Two texts are the same but for capitals. -/
def sameB (a b : ByteArray) : Bool := (upS a).toList == (upS b).toList
end Go.Proofs.YtdgbkllhcoincaaDoor
