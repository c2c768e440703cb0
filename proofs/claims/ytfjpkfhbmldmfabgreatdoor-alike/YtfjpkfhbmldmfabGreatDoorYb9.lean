/-
  The program's Wide; the statements' own same, sameHosts, longer.
-/
import Derived.Test.YtfjpkfhbmldmfabGreatDoorXz9
namespace Go.Proofs.YtfjpkfhbmldmfabGreatDoor
open Go.RowKit
open Go.RowKit
end Go.Proofs.YtfjpkfhbmldmfabGreatDoor
