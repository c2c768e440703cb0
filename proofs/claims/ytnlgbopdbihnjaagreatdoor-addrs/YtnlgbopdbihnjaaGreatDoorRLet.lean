/-
  The document's letters.
-/
import Derived.Test.YtnlgbopdbihnjaaGreatDoorRStp
import Derived.Test.YtnlgbopdbihnjaaGreatDoorLate5
namespace Go.Proofs.YtnlgbopdbihnjaaGreatDoor
open Go.RowKit

end Go.Proofs.YtnlgbopdbihnjaaGreatDoor
