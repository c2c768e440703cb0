/-
  A world for the witnesses: the settled one, the tables holding what their initialisers lay.
-/
import Derived.Test.YtdgbkllhcoincaaDoorTab
import Derived.Test.YtdgbkllhcoincaaDoorCards
import Derived.Test.YtdgbkllhcoincaaDoorTie
import Derived.Deep.DeepHandedRow
import Derived.ShutString
import Derived.SizedLaws
import Derived.ChangeOld
namespace Go.Proofs.YtdgbkllhcoincaaDoor
open Go.RowKit

theorem own : ownKnob Tryd.prog.godebug = none := by kernel_rfl

/-- A table's data as cells. -/
def datCells : DataW Unit → Array Value
  | .agg l => (l.map fun
    | .lit (.int k z) => Value.int k z
    | .lit (.string b) => Value.string ⟨b.toArray⟩
    | _ => Value.int .i64 0).toArray
  | _ => #[]

def layCells (d : DataW Unit) : Obj → Obj
  | .cells _ t frozen => .cells (datCells d) t frozen
  | o => o

noncomputable def laidWorld (os : Os) : World :=
  { World.holding Tryd.prog os ⟨#[], #[], []⟩ with heap := ((((World.holding Tryd.prog os ⟨#[], #[], []⟩).heap.modify 0 (layCells Rows.laid_posthorn_octet_classes)).modify 1 (layCells Rows.laid_internal_strconv_uint64pow10)).modify 2 (layCells Rows.laid_math_bits_deBruijn32tab)).modify 3 (layCells Rows.laid_math_bits_deBruijn64tab) }

theorem Table.below {w w' : World} (h : Table w) (hb : Below w.heap.size w w') : Table w' := by
  intro c hc
  have h0 : (0 : Nat) < w.heap.size := by
    have := h c hc
    rcases Nat.lt_or_ge 0 w.heap.size with h' | h'
    · exact h'
    · simp [World.cell?, Array.getElem?_eq_none h'] at this
  rw [hb.cell (p := ⟨0, c, none⟩) h0]
  exact h c hc
end Go.Proofs.YtdgbkllhcoincaaDoor
