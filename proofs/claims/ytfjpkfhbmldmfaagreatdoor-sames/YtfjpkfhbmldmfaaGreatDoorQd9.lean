/-
  The document's local.
-/
import Derived.Test.YtfjpkfhbmldmfaaGreatDoorQc9
import Derived.Lib.ConvBytes
namespace Go.Proofs.YtfjpkfhbmldmfaaGreatDoor
open Go.RowKit
end Go.Proofs.YtfjpkfhbmldmfaaGreatDoor
