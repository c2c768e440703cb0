/-
  The program's wrongRoute.
-/
import Derived.Test.YtfjpkfhbmldmfabGreatDoorXx9
namespace Go.Proofs.YtfjpkfhbmldmfabGreatDoor
open Go.RowKit
def ckT (r:List Ho) (wide:Bool):Nat:=if 16<r.length∨r.all (fun h=>decide (h.k=1))=false then 92 else ckR r wide
end Go.Proofs.YtfjpkfhbmldmfabGreatDoor
