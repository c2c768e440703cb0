/-
  The document's order.
-/
import Derived.Test.YtfjpkfhbmldmfaaGreatDoorBck
import Derived.Test.YtfjpkfhbmldmfaaGreatDoorWst
import Derived.Test.YtfjpkfhbmldmfaaGreatDoorRUn
import Derived.Test.YtfjpkfhbmldmfaaGreatDoorLate5
namespace Go.Proofs.YtfjpkfhbmldmfaaGreatDoor
open Go.RowKit
open Go.RowKit
end Go.Proofs.YtfjpkfhbmldmfaaGreatDoor
