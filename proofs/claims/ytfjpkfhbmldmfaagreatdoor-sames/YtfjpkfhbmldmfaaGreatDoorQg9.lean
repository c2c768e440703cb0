/-
  The document's Box, and named.
-/
import Derived.Test.YtfjpkfhbmldmfaaGreatDoorQf9
namespace Go.Proofs.YtfjpkfhbmldmfaaGreatDoor
open Go.RowKit
end Go.Proofs.YtfjpkfhbmldmfaaGreatDoor
