/-
  What the rows' list gives the walks (the program's two tables), and a world for the witnesses.
-/
import Derived.Test.YtlkflikhbkhpeabDoorBehind
import Derived.Test.YtlkflikhbkhpeabDoorRows
import Derived.Test.YtlkflikhbkhpeabDoorCards
import Derived.Test.YtlkflikhbkhpeabDoorTie
import Derived.ProofKit
import Derived.OpenShut
import Derived.Lib.LaidTab
import Derived.Deep.DeepHandedRow
import Derived.ShutString
import Derived.SizedLaws
import Derived.ChangeOld
namespace Go.Proofs.YtlkflikhbkhpeabDoor
open Go.ChangeShapes Go.WideShapes Go.ChangeAt Go.RowKit

theorem own : ownKnob Tryd.prog.godebug = none := by kernel_rfl
theorem laidOut : laidOutB Tryd.prog = true := by kernel_rfl
theorem gSin : Tryd.prog.globalNamed "posthorn/hash.sines" = some 0 := by kernel_rfl
theorem tSin : (Tryd.prog.globals[(0 : Nat)]?).map (·.type) = some 64 := by kernel_rfl
theorem gTrn : Tryd.prog.globalNamed "posthorn/hash.turns" = some 1 := by kernel_rfl
theorem tTrn : (Tryd.prog.globals[(1 : Nat)]?).map (·.type) = some 24 := by kernel_rfl
theorem cellsSin : Tryd.prog.cellsOf 64 = 64 := by kernel_rfl
theorem cellsTrn : Tryd.prog.cellsOf 24 = 16 := by kernel_rfl
theorem cellsU : Tryd.prog.cellsOf 41 = 1 := by kernel_rfl
theorem cells5 : Tryd.prog.cellsOf 5 = 1 := by kernel_rfl
theorem laid_sin : (Rows.laid_posthorn_hash_sines : DataW Unit) = Lib.tabData .u32 kZ := by kernel_rfl
theorem laid_trn : (Rows.laid_posthorn_hash_turns : DataW Unit) = Lib.tabData .u8 sZ := by kernel_rfl

theorem tabs_of {W : World} (h : laidMet Tryd.prog [("posthorn/hash.sines", Rows.laid_posthorn_hash_sines), ("posthorn/hash.turns", Rows.laid_posthorn_hash_turns)] W) : Tabs W := by
  obtain ⟨ps, ⟨g, t, cs, fuel, p, q, hg, ht, hv, hd, ⟨g', t', cs', fuel', p', q', hg', ht', hv', hd', _, _⟩, _⟩, _⟩ := h
  obtain rfl := Option.some.inj (gSin.symm.trans hg)
  obtain rfl := Option.some.inj (tSin.symm.trans ht)
  obtain rfl := Option.some.inj (gTrn.symm.trans hg')
  obtain rfl := Option.some.inj (tTrn.symm.trans ht')
  rw [laid_sin] at hd
  rw [laid_trn] at hd'
  have e := Lib.cells_of_tab Tryd.underlying64 Tryd.underlying41 cellsU cellsSin hd
  have e' := Lib.cells_of_tab Tryd.underlying24 Tryd.underlying5 cells5 cellsTrn hd'
  constructor
  · intro i hi
    rw [World.var?_cell gSin hv i, ← Array.getElem?_toList, e]
    have : ∀ j : Fin 64, kZ.getD j.val 0 = ((kk j.val).toNat : Int) := by decide +kernel
    rw [← this ⟨i, hi⟩]
    have hl : i < kZ.length := hi
    simp [List.getElem?_eq_getElem hl]
  · intro i hi
    rw [World.var?_cell gTrn hv' i, ← Array.getElem?_toList, e']
    have : ∀ j : Fin 16, sZ.getD j.val 0 = ((sL.getD j.val 0 : Nat) : Int) := by decide +kernel
    rw [← this ⟨i, hi⟩]
    have hl : i < sZ.length := hi
    simp [List.getElem?_eq_getElem hl]

/-- A table's data as cells. -/
def datCells : DataW Unit → Array Value
  | .agg l => (l.map fun
    | .lit (.int k z) => Value.int k z
    | _ => Value.int .i64 0).toArray
  | _ => #[]
def layCells (d : DataW Unit) : Obj → Obj
  | .cells _ t frozen => .cells (datCells d) t frozen
  | o => o
noncomputable def laidWorld (os : Os) : World :=
  { World.holding Tryd.prog os ⟨#[], #[], []⟩ with heap := ((World.holding Tryd.prog os ⟨#[], #[], []⟩).heap.modify 0 (layCells Rows.laid_posthorn_hash_sines)).modify 1 (layCells Rows.laid_posthorn_hash_turns) }
end Go.Proofs.YtlkflikhbkhpeabDoor
