/-
  The contract of the document's Same.
-/
import Derived.Test.YtpepjiocjcjeeaaSame
import Derived.Test.YtpepjiocjcjeeaaRUpT
namespace Go.Proofs.Ytpepjiocjcjeeaa
open Go.RowKit

set_option maxHeartbeats 400000 in
theorem rsamet_any (a b : ByteArray) (w : World) (ha : a.size ≤ 140737488351232) (hb : b.size ≤ 140737488351232) :
    Calls Try.prog 17 #[.string a, .string b] w fun e w' => e = .returned (.bool (sameB a b)) ∧ Below w.heap.size w w' := by
  go_enter Try.func17, Try.ntmps17
  go_wp2_with fail
  refine (rupper_any a _ ha).mono ?_
  rintro e w1 ⟨rfl, hb1⟩
  go_wp2_with fail
  refine (rupper_any b _ hb).mono ?_
  rintro e w2 ⟨rfl, hb2⟩
  go_wp2
  go_ret
  exact ⟨rfl, hb1.trans (hb2.mono hb1.size)⟩
end Go.Proofs.Ytpepjiocjcjeeaa
