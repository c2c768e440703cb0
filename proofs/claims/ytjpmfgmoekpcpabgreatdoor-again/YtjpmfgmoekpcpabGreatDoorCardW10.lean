/-
  What a row's list gives the walks of the texts that wake: the tables; a world for the witnesses.
-/
import Derived.Test.YtjpmfgmoekpcpabGreatDoorWk10
import Derived.Test.YtjpmfgmoekpcpabGreatDoorCardP10
import Derived.LaidLaws
import Derived.Shelf.Vars
namespace Go.Proofs.YtjpmfgmoekpcpabGreatDoor
open Go.ChangeShapes Go.WideShapes Go.ChangeAt Go.RowKit

theorem ml_of {W : World} (h : W.ShapedOpen Tryz.prog) : ∃ m, W.cell? ⟨1, 0, none⟩ = some (.int .i64 m) :=
  cell_of_shapedOpen_int (t := 3) (zero := #[.int .i64 0]) h (of_decide_eq_true (by kernel_rfl)) (by kernel_rfl) rfl (by kernel_rfl) (by kernel_rfl) Tryz.underlying3
theorem tabsW_of {W : World} (h : laidMet Tryz.prog [("math/bits.deBruijn32tab", Rows.laid_math_bits_deBruijn32tab), ("math/bits.deBruijn64tab", Rows.laid_math_bits_deBruijn64tab), ("internal/strconv.uint64pow10", Rows.laid_internal_strconv_uint64pow10), ("unicode/utf8.acceptRanges", Rows.laid_unicode_utf8_acceptRanges), ("strconv.ErrRange", Rows.laid_strconv_ErrRange), ("strconv.ErrSyntax", Rows.laid_strconv_ErrSyntax), ("posthorn/octet.classes", Rows.laid_posthorn_octet_classes), ("posthorn/runes.firsts", Rows.laid_posthorn_runes_firsts), ("unicode/utf8.first", Rows.laid_unicode_utf8_first)] W) (hsh : W.ShapedOpen Tryz.prog) : Tw W := by
  obtain ⟨ps, ⟨g0, t0, cs0, fuel0, p0, q0, hg0, ht0, hv0, hd0, ⟨g1, t1, cs1, fuel1, p1, q1, hg1, ht1, hv1, hd1, ⟨g2, t2, cs2, fuel2, p2, q2, hg2, ht2, hv2, hd2, ⟨g3, t3, cs3, fuel3, p3, q3, hg3, ht3, hv3, hd3, ⟨g4, t4, cs4, fuel4, p4, q4, hg4, ht4, hv4, hd4, ⟨g5, t5, cs5, fuel5, p5, q5, hg5, ht5, hv5, hd5, ⟨g6, t6, cs6, fuel6, p6, q6, hg6, ht6, hv6, hd6, ⟨g7, t7, cs7, fuel7, p7, q7, hg7, ht7, hv7, hd7, ⟨g8, t8, cs8, fuel8, p8, q8, hg8, ht8, hv8, hd8, _, _⟩, _⟩, _⟩, _⟩, _⟩, _⟩, _⟩, _⟩, _⟩, _⟩ := h
  obtain rfl := Option.some.inj (gCl.symm.trans hg6)
  obtain rfl := Option.some.inj (tCl.symm.trans ht6)
  obtain rfl := Option.some.inj (gFs.symm.trans hg7)
  obtain rfl := Option.some.inj (tFs.symm.trans ht7)
  exact ⟨table_of_trod hv6 hd6, fst_of_trod hv7 hd7, ml_of hsh⟩
abbrev rangeS : ByteArray := ⟨#[118, 97, 108, 117, 101, 32, 111, 117, 116, 32, 111, 102, 32, 114, 97, 110, 103, 101]⟩
abbrev synS : ByteArray := ⟨#[105, 110, 118, 97, 108, 105, 100, 32, 115, 121, 110, 116, 97, 120]⟩
noncomputable def low8 : Nat := (World.holding Tryz.prog default ⟨#[], #[], []⟩).heap.size
def layPtr (b : Nat) : Obj → Obj
  | .cells _ t frozen => .cells #[.iface 264 (.pointer (some ⟨b, 0, none⟩))] t frozen
  | o => o
noncomputable def laidWorldW (os : Os) : World :=
  { World.holding Tryz.prog os ⟨#[.cells #[.string rangeS] 266, .cells #[.string synS] 266], #[], []⟩ with heap := ((((((((((World.holding Tryz.prog os ⟨#[.cells #[.string rangeS] 266, .cells #[.string synS] 266], #[], []⟩).heap.modify 4 (layCells Rows.laid_math_bits_deBruijn32tab)).modify 5 (layCells Rows.laid_math_bits_deBruijn64tab)).modify 2 (layCells Rows.laid_internal_strconv_uint64pow10)).modify 7 (layCells Rows.laid_unicode_utf8_acceptRanges)).modify 9 (layPtr (low8))).modify 8 (layPtr (low8 + 1))).modify 0 (layCells Rows.laid_posthorn_octet_classes)).modify 3 (layCells Rows.laid_posthorn_runes_firsts)).modify 6 (layCells Rows.laid_unicode_utf8_first)) }

end Go.Proofs.YtjpmfgmoekpcpabGreatDoor
