/-
  Behind a line with its line end the next bytes are read as by a new liner, in plain words.
-/
import Derived.Test.YthjcjecimidedaaRnP
namespace Go.Proofs.Ythjcjecimidedaa

theorem rn_crlf (m : Nat) (s : List UInt8) : ∃ x, rn m s [120, 13, 10] = ([x], []) := by
  rw [rn_cons, if_neg (by cases hfB s <;> decide), rn_cons, if_neg (by rw [hfB_snoc]; decide), rn_cons, if_pos (by rw [hfB_snoc]; decide)]
  exact ⟨_, rfl⟩
theorem rn_ahead (m : Nat) (l : List UInt8) : ∃ xs, xs ≠ [] ∧ rn m [] (l ++ [120, 13, 10]) = (xs, []) ∧ ∀ b, rn m [] ((l ++ [120, 13, 10]) ++ b) = (xs ++ (rn m [] b).1, (rn m [] b).2) := by
  obtain ⟨x, hx⟩ := rn_crlf m (rn m [] l).2
  have h1 : rn m [] (l ++ [120, 13, 10]) = ((rn m [] l).1 ++ [x], []) := by rw [rn_append, hx]
  exact ⟨_, by simp, h1, fun b => by rw [rn_append, h1]⟩
end Go.Proofs.Ythjcjecimidedaa
