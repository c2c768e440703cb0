/-
  The document's order.
-/
import Derived.Test.YtnlgbopdbihnjaaGreatDoorRStp
import Derived.Test.YtnlgbopdbihnjaaGreatDoorWst
import Derived.Test.YtnlgbopdbihnjaaGreatDoorRUn
import Derived.Test.YtnlgbopdbihnjaaGreatDoorLate5
namespace Go.Proofs.YtnlgbopdbihnjaaGreatDoor
open Go.RowKit

end Go.Proofs.YtnlgbopdbihnjaaGreatDoor
/-
  The document's letters.
-/
namespace Go.Proofs.YtnlgbopdbihnjaaGreatDoor
open Go.RowKit

end Go.Proofs.YtnlgbopdbihnjaaGreatDoor
