/-
  Bytes that lie in a row of memory.
-/
import Derived.WalkKit
import Derived.Below
namespace Go.Proofs.YtjpmfgmoekpcpabGreatDoor
open Go.RowKit

/-- The bytes of s lie in block g from place o on. -/
def RowAt (s : ByteArray) (g o : Nat) (w : World) : Prop := ∀ j, (h : j < s.size) → w.cell? ⟨g, o + j, none⟩ = some (.int .u8 (s[j].toNat : Int))

theorem RowAt.below {s : ByteArray} {g o B : Nat} {w w' : World} (h : RowAt s g o w) (hb : Below B w w') (hg : g < B) : RowAt s g o w' := fun j hj =>
  (hb.cell (p := ⟨g, o + j, none⟩) hg).trans (h j hj)
end Go.Proofs.YtjpmfgmoekpcpabGreatDoor
