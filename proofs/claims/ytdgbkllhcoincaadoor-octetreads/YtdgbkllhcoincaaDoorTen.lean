/-
  The contract of octet.Decimal at ten.
-/
import Derived.Test.YtdgbkllhcoincaaDoorProg
import Derived.WalkKit
import Derived.WalkSpells
namespace Go.Proofs.YtdgbkllhcoincaaDoor
open Go.RowKit

theorem ret_str {a b : ByteArray} (h : a = b) : Ending.returned (.string a) = .returned (.string b) := by rw [h]

set_option maxRecDepth 100000 in
set_option maxHeartbeats 400000 in
theorem dec_ten (w : World) : Calls Tryd.prog 24 #[.int .u64 10] w fun e w' => e = .returned (.string ⟨#[49, 48]⟩) ∧ w' = w := by
  go_enter Tryd.func24, Tryd.ntmps24
  go_wp2
  go_ret
  exact ⟨ret_str (by decide +kernel), rfl⟩
end Go.Proofs.YtdgbkllhcoincaaDoor
