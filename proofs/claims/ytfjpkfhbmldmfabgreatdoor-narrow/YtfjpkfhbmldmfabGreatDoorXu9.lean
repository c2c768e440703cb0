/-
  The program's Forward.
-/
import Derived.Test.YtfjpkfhbmldmfabGreatDoorXt9
namespace Go.Proofs.YtfjpkfhbmldmfabGreatDoor
open Go.RowKit

end Go.Proofs.YtfjpkfhbmldmfabGreatDoor
