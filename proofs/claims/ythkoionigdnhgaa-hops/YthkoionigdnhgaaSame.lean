/-
  The contract of octet.Same.
-/
import Derived.Test.YthkoionigdnhgaaUpper
namespace Go.Proofs.Ythkoionigdnhgaa
open Go.RowKit

/-- Two texts are the same but for capitals. -/
def sameB (a b : ByteArray) : Bool := (upS a).toList == (upS b).toList

set_option maxHeartbeats 400000 in
theorem same_any (a b : ByteArray) (w : World) (ha : a.size ≤ maxLen) (hb : b.size ≤ maxLen) :
    Calls Try.prog 15 #[.string a, .string b] w fun e w' => e = .returned (.bool (sameB a b)) ∧ Below w.heap.size w w' := by
  go_enter Try.func15, Try.ntmps15
  go_wp2_with fail
  refine (upper_any a _ ha).mono ?_
  rintro e w1 ⟨rfl, hb1⟩
  go_wp2_with fail
  refine (upper_any b _ hb).mono ?_
  rintro e w2 ⟨rfl, hb2⟩
  go_wp2
  go_ret
  exact ⟨rfl, hb1.trans (hb2.mono hb1.size)⟩
end Go.Proofs.Ythkoionigdnhgaa
