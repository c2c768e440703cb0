/-
  What the row's list gives the walks: the library's table of powers of ten.
-/
import Derived.Test.YtdgbkllhcoincaaDoorDec
import Derived.Test.YtdgbkllhcoincaaDoorRows
import Derived.ProofKit
import Derived.Lib.LaidTab
namespace Go.Proofs.YtdgbkllhcoincaaDoor
open Go.ChangeShapes Go.WideShapes Go.ChangeAt Go.RowKit

theorem gPow : Tryd.prog.globalNamed "internal/strconv.uint64pow10" = some 1 := by kernel_rfl
theorem tPow : (Tryd.prog.globals[(1 : Nat)]?).map (·.type) = some 69 := by kernel_rfl
theorem cellsPow : Tryd.prog.cellsOf 69 = 20 := by kernel_rfl
theorem cellsU64 : Tryd.prog.cellsOf 39 = 1 := by kernel_rfl
theorem laid_pow : (Rows.laid_internal_strconv_uint64pow10 : DataW Unit) = Lib.tabData .u64 Lib.pow10Tab := by kernel_rfl

theorem pow_of_third {W : World} {a b c : String × DataW Unit} (h : laidMet Tryd.prog [a, b, ("internal/strconv.uint64pow10", Rows.laid_internal_strconv_uint64pow10), c] W) : PowTab W := by
  obtain ⟨ps, ⟨_, _, _, _, _, _, _, _, _, _, ⟨_, _, _, _, _, _, _, _, _, _, ⟨g, t, cs, fuel, p, q, hg, ht, hv, hd, _, _⟩, _⟩, _⟩, _⟩ := h
  obtain rfl := Option.some.inj (gPow.symm.trans hg)
  obtain rfl := Option.some.inj (tPow.symm.trans ht)
  rw [laid_pow] at hd
  unfold PowTab Lib.TabIs
  rw [hv, ← Lib.cells_of_tab Tryd.underlying69 Tryd.underlying39 cellsU64 cellsPow hd]
end Go.Proofs.YtdgbkllhcoincaaDoor
