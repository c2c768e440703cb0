/-
  The document's Is, as the program's.
-/
import Derived.Test.YtjpmfgmoekpcpabGreatDoorRi10
namespace Go.Proofs.YtjpmfgmoekpcpabGreatDoor
open Go.RowKit

theorem ris_is (c : Int) (b : UInt8) (w : World) : Calls Tryz.prog 44 #[.int .i64 c, .int .u8 (b.toNat : Int)] w fun e w' => e = .returned (.bool (isB c (b.toNat : Int))) ∧ w' = w := by
  rw [is_ref c (b.toNat : Int) (by omega) (by have := b.toNat_lt; omega)]
  exact ris_any c _ w
end Go.Proofs.YtjpmfgmoekpcpabGreatDoor
