/-
  The statements' own within.
-/
import Derived.Test.YtbfgefgadplcjaaDoorPp12
import Derived.Test.YtbfgefgadplcjaaDoorMdR
namespace Go.Proofs.YtbfgefgadplcjaaDoor
open Go.RowKit
set_option maxRecDepth 100000 in
theorem within_any (n : Int) (w : World) : Calls Tryd.prog 33 #[.int .i64 n] w fun e w' => e = .returned (.int .i64 (wiN 1000 n)) ∧ w' = w := by
  have h1 := Int.lt_tmod_of_pos n (show (0 : Int) < 1000 by decide)
  have h2 := Int.tmod_lt_of_pos n (show (0 : Int) < 1000 by decide)
  unfold wiN
  generalize hm : n.tmod 1000 = m at *
  have hw : IntKind.i64.wrap m = m := by rw [IntKind.wrap_i64]; omega
  have hw2 : IntKind.i64.wrap (m + 1000) = m + 1000 := by rw [IntKind.wrap_i64]; omega
  by_cases h0 : m < 0
  · rw [if_pos h0]
    go_enter Tryd.func33, Tryd.ntmps33
    go_wp2
    go_ret
    exact ⟨rfl, rfl⟩
  · rw [if_neg h0]
    go_enter Tryd.func33, Tryd.ntmps33
    go_wp2
    go_ret
    exact ⟨rfl, rfl⟩
end Go.Proofs.YtbfgefgadplcjaaDoor
