/-
  The document's zone.
-/
import Derived.Test.YtedfnebadenmdaaDoorRzp
import Derived.Test.YtedfnebadenmdaaDoorRzn
import Derived.Test.YtedfnebadenmdaaDoorRzl
namespace Go.Proofs.YtedfnebadenmdaaDoor
open Go.RowKit

theorem rzone_rd (g : Nat) (s : ByteArray) (k : Nat) (e p : Int) (w : World) (hr : Rd0 64 w g s k e p) (hs : s.size ≤ maxLen) :
    Calls Tryd.prog 45 #[.pointer (some ⟨g, 0, none⟩)] w fun x w' => ∃ v k' e' p', x = .returned (.int .i64 v) ∧ -6000 ≤ v ∧ v ≤ 6000 ∧ Rd0 64 w' g s k' e' p' ∧ Step s.size pZone (stOf s k e p) (stOf s k' e' p') v ∧ But g w w' := by
  by_cases h43 : standB s k 43 = true
  · exact rzone_pos g s k e p w hr hs h43
  by_cases h45 : standB s k 45 = true
  · exact rzone_neg g s k e p w hr hs h45
  exact rzone_let g s k e p w hr hs (by simpa using h43) (by simpa using h45)
end Go.Proofs.YtedfnebadenmdaaDoor
