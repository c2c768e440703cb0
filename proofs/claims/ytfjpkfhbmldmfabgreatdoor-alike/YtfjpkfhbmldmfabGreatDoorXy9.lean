/-
  The program's wrongBox.
-/
import Derived.Test.YtfjpkfhbmldmfabGreatDoorXr9
import Derived.Test.YtfjpkfhbmldmfabGreatDoorCk8
import Derived.Test.YtfjpkfhbmldmfabGreatDoorLate5
namespace Go.Proofs.YtfjpkfhbmldmfabGreatDoor
open Go.RowKit
def ckM (l:List UInt8) (h:Ho) (wide:Bool):Nat:=if ckL l wide≠0 then ckL l wide else check h wide
open Go.RowKit
def ckT (r:List Ho) (wide:Bool):Nat:=if 16<r.length∨r.all (fun h=>decide (h.k=1))=false then 92 else ckR r wide
end Go.Proofs.YtfjpkfhbmldmfabGreatDoor
