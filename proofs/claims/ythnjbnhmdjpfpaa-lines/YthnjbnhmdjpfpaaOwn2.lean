/-
  The shape of a row of one's own.
-/
import Derived.Test.YthnjbnhmdjpfpaaBase
namespace Go.Proofs.Ythnjbnhmdjpfpaa
open Go.RowKit

theorem own_cap {w : World} {base n cap : Nat} {a : Option Addr} {xs : List Value} (h : w.ownsRow base 5 1 (.slice a n cap) n xs) : cap ≤ 9223372036854775807 := by
  obtain ⟨_, ⟨h1, _⟩ | ⟨g, c, cur, hv, _, _, _, h3, _⟩⟩ := h
  · injection h1 with _ _ e
    omega
  · injection hv with _ _ e
    unfold maxLen at h3
    omega
theorem own_shape {w : World} {base n : Nat} {v : Value} {xs : List Value} (h : w.ownsRow base 5 1 v n xs) : ∃ a cap, v = .slice a n cap := by
  rcases h.2 with ⟨rfl, h0⟩ | ⟨g, cap, cur, hv, _⟩
  · exact ⟨none, 0, by rw [h0]⟩
  · exact ⟨_, _, hv⟩
end Go.Proofs.Ythnjbnhmdjpfpaa
