/-
  Lists of constant bytes.
-/
import Derived.Test.YtedgimkffkflbabDoorBase
import Derived.Lib.SlBytesConst
namespace Go.Proofs.YtedgimkffkflbabDoor
open Go.RowKit

/-- Bytes that have just been laid, marked or not. -/
theorem const_bts (w : World) (l : List UInt8) (fr : Nat × Nat) : Bts (some ⟨w.heap.size, 0, none⟩) l (w.alloc (.cells (rowV l) 5 fr)) :=
  .inr ⟨w.heap.size, 0, rfl, by simp, fun j hj => by rw [Nat.zero_add, cell_of_row _ _ j _ 5 fr (heap_alloc_last w _)]; exact rowV_at l j hj⟩
end Go.Proofs.YtedgimkffkflbabDoor
