/-
  The document's Check.
-/
import Derived.Test.YtnlgbopdbihnjaaGreatDoorRn8
import Derived.Test.YtnlgbopdbihnjaaGreatDoorCk8
namespace Go.Proofs.YtnlgbopdbihnjaaGreatDoor
open Go.RowKit

/-- The first i bytes are as they may be. -/
def Okb (z : Nat) (l : List Nat) (i : Nat) : Prop := ∀ j, j < i → z ≤ j → l.getD j 0 = 0
theorem Okb.step {z : Nat} {l : List Nat} {i : Nat} (h : Okb z l i) (hi : z ≤ i → l.getD i 0 = 0) : Okb z l (i + 1) := fun j h1 h2 => by
  rcases Nat.lt_or_ge j i with h' | h'
  · exact h j h' h2
  · obtain rfl : j = i := by omega
    exact hi h2
theorem Okb.drop {z : Nat} {l : List Nat} (hl : l.length = 16) (h : Okb z l 16) : l.drop z = List.replicate (16 - z) 0 := by
  refine List.ext_getElem (by rw [List.length_drop, hl, List.length_replicate]) fun j h1 h2 => ?_
  rw [List.length_drop] at h1
  have := h (z + j) (by omega) (by omega)
  rw [List.getD_eq_getElem?_getD, List.getElem?_eq_getElem (by omega), Option.getD_some] at this
  rw [List.getElem_drop, this, List.getElem_replicate]
end Go.Proofs.YtnlgbopdbihnjaaGreatDoor
