/-
  An address of the sixth kind is written in at most one byte more than it was read of.
-/
import Derived.Test.YtfjpkfhbmldmfabGreatDoorRpP
import Derived.Test.YtfjpkfhbmldmfabGreatDoorAdF
namespace Go.Proofs.YtfjpkfhbmldmfabGreatDoor
theorem escL_two:∀l:List UInt8,(escL l).length≤2*l.length
 |[]=>Nat.le_refl _
 |c::r=>by
  have:=escL_two r
  rw[escL_cons]
  split<;>simp only[List.length_cons]<;>omega
end Go.Proofs.YtfjpkfhbmldmfabGreatDoor
