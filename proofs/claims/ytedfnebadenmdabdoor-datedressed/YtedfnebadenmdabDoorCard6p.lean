/-
  What the longer list of variables gives the walks: the tables, and the powers of ten; a world for the witnesses.
-/
import Derived.Test.YtedfnebadenmdabDoorCard6
import Derived.Test.YtedfnebadenmdabDoorDecm
namespace Go.Proofs.YtedfnebadenmdabDoor
open Go.ChangeShapes Go.WideShapes Go.ChangeAt Go.RowKit

theorem gPow : Tryd.prog.globalNamed "internal/strconv.uint64pow10" = some 3 := by kernel_rfl
theorem tPow : (Tryd.prog.globals[(3 : Nat)]?).map (·.type) = some 103 := by kernel_rfl
theorem cellsPow : Tryd.prog.cellsOf 103 = 20 := by kernel_rfl
theorem cellsU64 : Tryd.prog.cellsOf 43 = 1 := by kernel_rfl
theorem laid_pow : (Rows.laid_internal_strconv_uint64pow10 : DataW Unit) = Lib.tabData .u64 Lib.pow10Tab := by kernel_rfl
/-- All tables. -/
structure Tbp (w : World) : Prop where
  tb : Tbl w
  pw : PowTab w
theorem tabs6_of {W : World} {a b : String × DataW Unit} (h : laidMet Tryd.prog [a, b, ("internal/strconv.uint64pow10", Rows.laid_internal_strconv_uint64pow10), ("posthorn/octet.classes", Rows.laid_posthorn_octet_classes), ("posthorn/date.ahead", Rows.laid_posthorn_date_ahead), ("posthorn/date.zoneNames", Rows.laid_posthorn_date_zoneNames)] W) (_ : W.ShapedOpen Tryd.prog) : Tbp W := by
  obtain ⟨ps, ⟨_, _, _, _, _, _, _, _, _, _, ⟨_, _, _, _, _, _, _, _, _, _, ⟨g3, t3, cs3, fuel3, p3, q3, hg3, ht3, hv3, hd3, ⟨g, t, cs, fuel, p, q, hg, ht, hv, hd, ⟨g', t', cs', fuel', p', q', hg', ht', hv', hd', ⟨g2, t2, cs2, fuel2, p2, q2, hg2, ht2, hv2, hd2, _, _⟩, _⟩, _⟩, _⟩, _⟩, _⟩, _⟩ := h
  obtain rfl := Option.some.inj (gCl.symm.trans hg)
  obtain rfl := Option.some.inj (tCl.symm.trans ht)
  obtain rfl := Option.some.inj (gAh.symm.trans hg')
  obtain rfl := Option.some.inj (tAh.symm.trans ht')
  obtain rfl := Option.some.inj (gZn.symm.trans hg2)
  obtain rfl := Option.some.inj (tZn.symm.trans ht2)
  obtain rfl := Option.some.inj (gPow.symm.trans hg3)
  obtain rfl := Option.some.inj (tPow.symm.trans ht3)
  have h1 := table_of_trod hv hd
  refine ⟨⟨h1, ahd_of_trod hv' hd', znm_of_trod hv2 hd2, cell_lt (h1 0 (by omega))⟩, ?_⟩
  rw [laid_pow] at hd3
  unfold PowTab Lib.TabIs
  rw [hv3, ← Lib.cells_of_tab Tryd.underlying103 Tryd.underlying43 cellsU64 cellsPow hd3]
noncomputable def laidWorld6 (os : Os) : World :=
  { World.holding Tryd.prog os ⟨#[], #[], []⟩ with heap := (((((((World.holding Tryd.prog os ⟨#[], #[], []⟩).heap.modify 2 (layCells Rows.laid_posthorn_octet_classes)).modify 0 (layCells Rows.laid_posthorn_date_ahead)).modify 1 (layCells Rows.laid_posthorn_date_zoneNames)).modify 3 (layCells Rows.laid_internal_strconv_uint64pow10)).modify 4 (layCells Rows.laid_math_bits_deBruijn32tab)).modify 5 (layCells Rows.laid_math_bits_deBruijn64tab)) }
end Go.Proofs.YtedfnebadenmdabDoor
