/-
  Of lists that came in: one that is not there has no room.
-/
import Derived.Test.YtekjhfhakodooaaOpen
namespace Go.Proofs.Ytekjhfhakodooaa
open Go.ChangeShapes Go.WideShapes Go.ChangeAt Go.RowKit

/-- A list that is not there has no room. -/
theorem open_none {H : Type} {enc : TypeId × Value → H} {W : World} {a : Option Addr} {len cap : Nat} {d : DataW H} {p : List MemPlace}
    (h : DataW.Trod enc Try.prog W 0 (fun _ => true) true 22 (.slice a len cap) d p) : a = none → cap = 0 := by
  obtain ⟨fuel, hf⟩ := h
  rcases open_ints Try.underlying22 Try.underlying5 (by kernel_rfl) hf with ⟨hcs, _⟩ | ⟨x, l, c, zs, hcs, _⟩
  · simp [Value.cells] at hcs
    exact fun _ => hcs.2.2
  · simp [Value.cells] at hcs
    intro e
    rw [e] at hcs
    cases hcs.1
end Go.Proofs.Ytekjhfhakodooaa
