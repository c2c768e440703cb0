/-
  What a row's list and the world's shape give the walks; a world for the witnesses.
-/
import Derived.Test.YtbfgefgadplcjaaDoorSt12
import Derived.Test.YtbfgefgadplcjaaDoorRows
import Derived.Test.YtbfgefgadplcjaaDoorCards
import Derived.Test.YtbfgefgadplcjaaDoorTie
import Derived.ProofKit
import Derived.OpenShut
import Derived.Lib.LaidTab
import Derived.Deep.DeepHandedRow
import Derived.ShutString
import Derived.SizedLaws
import Derived.ChangeOld
namespace Go.Proofs.YtbfgefgadplcjaaDoor
open Go.ChangeShapes Go.WideShapes Go.ChangeAt Go.RowKit

theorem gCl : Tryd.prog.globalNamed "posthorn/octet.classes" = some 1 := by kernel_rfl
theorem tCl : (Tryd.prog.globals[(1 : Nat)]?).map (·.type) = some 131 := by kernel_rfl
theorem cellsStr : Tryd.prog.cellsOf 9 = 1 := by kernel_rfl
theorem laid_rows : (Rows.laid_posthorn_octet_classes : DataW Unit) = .agg (classRows.map fun l => .lit (.string l)) := rfl
theorem table_of_trod {enc : TypeId × Value → Unit} {W : World} {base : Nat} {sp : Nat → Bool} {held : Bool} {cs : Array Value} {fuel : Nat} {p : List MemPlace}
    (hv : W.var? Tryd.prog "posthorn/octet.classes" = some cs)
    (hd : DataW.trod enc Tryd.prog W base sp held fuel 131 cs.toList = some (Rows.laid_posthorn_octet_classes, p)) : Table W := by
  obtain ⟨xs, m, _, hx, hlen, hn, hel⟩ := DataW.trod_array Tryd.underlying131 hd
  rw [laid_rows] at hx
  simp only [Prod.mk.injEq, DataW.agg.injEq] at hx
  obtain ⟨hx, -⟩ := hx
  intro c hc
  have h1 := hel c hc
  have hxc : c < xs.length := by omega
  rw [List.getElem?_eq_getElem hxc] at h1
  obtain ⟨s, e1, e2, _⟩ := DataW.trod_string Tryd.underlying9 h1
  have h2 := congrArg (fun l => l[c]?) hx
  simp only [List.getElem?_map, List.getElem?_eq_getElem hxc, Option.map_some, e2] at h2
  have hcl : c < classRows.length := hc
  rw [List.getElem?_eq_getElem hcl] at h2
  simp only [Option.map_some, Option.some.injEq, DataW.lit.injEq, Lit.string.injEq] at h2
  have h3 := World.var?_cell gCl hv c
  rw [h3]
  rw [cellsStr, Nat.mul_one] at e1
  have h4 := congrArg (fun l => l[0]?) e1
  simp only [List.getElem?_take, List.getElem?_drop] at h4
  have h5 : cs[c]? = some (.string s) := by simpa using h4
  rw [h5]
  have h6 : classRows.getD c [] = s.data.toList := by
    rw [List.getD_eq_getElem?_getD, List.getElem?_eq_getElem hcl, Option.getD_some, h2]
  rw [h6]

theorem own : ownKnob Tryd.prog.godebug = none := by kernel_rfl

theorem gPow : Tryd.prog.globalNamed "internal/strconv.uint64pow10" = some 3 := by kernel_rfl
theorem tPow : (Tryd.prog.globals[(3 : Nat)]?).map (·.type) = some 140 := by kernel_rfl
theorem cellsPow : Tryd.prog.cellsOf 140 = 20 := by kernel_rfl
theorem cellsU64 : Tryd.prog.cellsOf 91 = 1 := by kernel_rfl
theorem laid_pow : (Rows.laid_internal_strconv_uint64pow10 : DataW Unit) = Lib.tabData .u64 Lib.pow10Tab := by kernel_rfl
theorem gT64 : Tryd.prog.globalNamed "math/bits.deBruijn64tab" = some 7 := by kernel_rfl
theorem gDg : Tryd.prog.globalNamed "posthorn/reply.codeDigits" = some 0 := by kernel_rfl
theorem tDg : (Tryd.prog.globals[(0 : Nat)]?).map (·.type) = some 113 := by kernel_rfl
theorem cellsDg : Tryd.prog.cellsOf 112 = 2 := by kernel_rfl
theorem cells5 : Tryd.prog.cellsOf 5 = 1 := by kernel_rfl
def dgRows : List (List Int) := [[50, 53], [48, 53], [48, 57]]
def dgAt (c i : Nat) : Int := (dgRows.getD c []).getD i 0
theorem laid_dg : (Rows.laid_posthorn_reply_codeDigits : DataW Unit) = .agg (dgRows.map fun r => .agg (r.map fun x => .lit (.int .u8 x))) := rfl
theorem dig_of_trod {enc : TypeId × Value → Unit} {W : World} {base : Nat} {sp : Nat → Bool} {held : Bool} {cs : Array Value} {fuel : Nat} {p : List MemPlace}
    (hv : W.var? Tryd.prog "posthorn/reply.codeDigits" = some cs)
    (hd : DataW.trod enc Tryd.prog W base sp held fuel 113 cs.toList = some (Rows.laid_posthorn_reply_codeDigits, p)) : DigT W := by
  obtain ⟨xs, m, _, hx, hlen, hn, hel⟩ := DataW.trod_array Tryd.underlying113 hd
  rw [laid_dg] at hx
  simp only [Prod.mk.injEq, DataW.agg.injEq] at hx
  obtain ⟨hx, -⟩ := hx
  have key : ∀ c, c < 3 → ∀ i, i < 2 → cs[c * 2 + i]? = some (.int .u8 (dgAt c i)) := by
    intro c hc i hi
    have h1 := hel c hc
    have hxc : c < xs.length := by omega
    rw [List.getElem?_eq_getElem hxc, cellsDg] at h1
    obtain ⟨ys, n, _, hy, hl, hyl, hf⟩ := DataW.trod_struct Tryd.underlying112 h1
    have hrow : c < dgRows.length := hc
    have e1 := congrArg (fun l => l[c]?) hx
    simp only [List.getElem?_map, List.getElem?_eq_getElem hxc, List.getElem?_eq_getElem hrow, Option.map_some, Option.some.injEq, hy, DataW.agg.injEq] at e1
    have hr5 : (dgRows[c]).length = 2 := by
      have : ∀ k : Fin 3, (dgRows[k.val]'k.isLt).length = 2 := by decide
      exact this ⟨c, hc⟩
    have hyi : i < ys.length := by
      have := congrArg List.length e1
      simp only [List.length_map, hr5] at this
      omega
    have e2 := congrArg (fun l => l[i]?) e1
    simp only [List.getElem?_map, List.getElem?_eq_getElem hyi, List.getElem?_eq_getElem (show i < (dgRows[c]).length by omega), Option.map_some, Option.some.injEq] at e2
    have hat : dgAt c i = (dgRows[c])[i]'(by omega) := by
      unfold dgAt
      simp [List.getD_eq_getElem?_getD, List.getElem?_eq_getElem hrow, List.getElem?_eq_getElem (show i < (dgRows[c]).length by omega)]
    have go : ∀ (f : Field), f.type = 5 → f.offset = i → DataW.trod enc Tryd.prog W base sp held n f.type (((List.take 2 (List.drop (c * 2) cs.toList)).drop f.offset).take (Tryd.prog.cellsOf f.type)) = ys[i]? → cs[c * 2 + i]? = some (.int .u8 (dgAt c i)) := by
      intro f ft fo h
      rw [ft, fo, cells5, List.getElem?_eq_getElem hyi] at h
      obtain ⟨z, e3, e4, _⟩ := DataW.trod_int Tryd.underlying5 h
      rw [e4] at e2
      simp only [DataW.lit.injEq, Lit.int.injEq, true_and] at e2
      have h4 := congrArg (fun l => l[0]?) e3
      simp only [List.getElem?_take, List.getElem?_drop] at h4
      rw [hat, e2]
      simpa [show i < 2 from hi] using h4
    have hcase : i = 0 ∨ i = 1 := by omega
    rcases hcase with rfl | rfl
    · exact go _ rfl rfl (hf 0 _ rfl)
    · exact go _ rfl rfl (hf 1 _ rfl)
  have cel := fun c => World.var?_cell gDg hv c
  exact ⟨(cel 0).trans (key 0 (by decide) 0 (by decide)), (cel 1).trans (key 0 (by decide) 1 (by decide)), (cel 2).trans (key 1 (by decide) 0 (by decide)), (cel 3).trans (key 1 (by decide) 1 (by decide)), (cel 4).trans (key 2 (by decide) 0 (by decide)), (cel 5).trans (key 2 (by decide) 1 (by decide))⟩
theorem laidOut : laidOutB Tryd.prog = true := by kernel_rfl
theorem cell_lt {w : World} {g k : Nat} {v : Value} (h : w.cell? ⟨g, k, none⟩ = some v) : g < w.heap.size := by
  rcases Nat.lt_or_ge g w.heap.size with h' | h'
  · exact h'
  · simp [World.cell?, Array.getElem?_eq_none h'] at h
theorem ml_of {W : World} (h : W.ShapedOpen Tryd.prog) : ∃ m, W.cell? ⟨2, 0, none⟩ = some (.int .i64 m) :=
  cell_of_shapedOpen_int (t := 3) (zero := #[.int .i64 0]) h (of_decide_eq_true (by kernel_rfl)) (by kernel_rfl) rfl (by kernel_rfl) (by kernel_rfl) Tryd.underlying3
theorem tabs_of {W : World} (h : laidMet Tryd.prog [("math/bits.deBruijn32tab", Rows.laid_math_bits_deBruijn32tab), ("math/bits.deBruijn64tab", Rows.laid_math_bits_deBruijn64tab), ("internal/strconv.uint64pow10", Rows.laid_internal_strconv_uint64pow10), ("unicode/utf8.acceptRanges", Rows.laid_unicode_utf8_acceptRanges), ("posthorn/octet.classes", Rows.laid_posthorn_octet_classes), ("posthorn/reply.codeDigits", Rows.laid_posthorn_reply_codeDigits), ("unicode/utf8.first", Rows.laid_unicode_utf8_first)] W) (hsh : W.ShapedOpen Tryd.prog) : Tb W := by
  obtain ⟨ps, ⟨g0, t0, cs0, fuel0, p0, q0, hg0, ht0, hv0, hd0, ⟨g1, t1, cs1, fuel1, p1, q1, hg1, ht1, hv1, hd1, ⟨g2, t2, cs2, fuel2, p2, q2, hg2, ht2, hv2, hd2, ⟨g3, t3, cs3, fuel3, p3, q3, hg3, ht3, hv3, hd3, ⟨g4, t4, cs4, fuel4, p4, q4, hg4, ht4, hv4, hd4, ⟨g5, t5, cs5, fuel5, p5, q5, hg5, ht5, hv5, hd5, _, _⟩, _⟩, _⟩, _⟩, _⟩, _⟩, _⟩ := h
  obtain rfl := Option.some.inj (gCl.symm.trans hg4)
  obtain rfl := Option.some.inj (tCl.symm.trans ht4)
  obtain rfl := Option.some.inj (gDg.symm.trans hg5)
  obtain rfl := Option.some.inj (tDg.symm.trans ht5)
  obtain rfl := Option.some.inj (gPow.symm.trans hg2)
  obtain rfl := Option.some.inj (tPow.symm.trans ht2)
  obtain rfl := Option.some.inj (gT64.symm.trans hg1)
  refine ⟨dig_of_trod hv5 hd5, table_of_trod hv4 hd4, ?_, ml_of hsh, ?_⟩
  · rw [laid_pow] at hd2
    unfold PowTab Lib.TabIs
    rw [hv2, ← Lib.cells_of_tab Tryd.underlying140 Tryd.underlying91 cellsU64 cellsPow hd2]
  · have h7 : 7 < W.heap.size := by
      unfold World.var? at hv1
      rw [gT64, Option.bind_some] at hv1
      rcases Nat.lt_or_ge 7 W.heap.size with h | h
      · exact h
      · rw [Array.getElem?_eq_none h] at hv1
        cases hv1
    exact h7
/-- A table's data as cells. -/
def litC : DataW Unit → List Value
  | .lit (.int k z) => [Value.int k z]
  | .lit (.string b) => [Value.string ⟨b.toArray⟩]
  | _ => []
def rowC : DataW Unit → List Value
  | .agg l => l.flatMap litC
  | d => litC d
def datCells : DataW Unit → Array Value
  | .agg l => (l.flatMap rowC).toArray
  | _ => #[]
def layCells (d : DataW Unit) : Obj → Obj
  | .cells _ t frozen => .cells (datCells d) t frozen
  | o => o

noncomputable def laidWorld (os : Os) : World :=
  { World.holding Tryd.prog os ⟨#[], #[], []⟩ with heap := (((((((World.holding Tryd.prog os ⟨#[], #[], []⟩).heap.modify 6 (layCells Rows.laid_math_bits_deBruijn32tab)).modify 7 (layCells Rows.laid_math_bits_deBruijn64tab)).modify 3 (layCells Rows.laid_internal_strconv_uint64pow10)).modify 5 (layCells Rows.laid_unicode_utf8_acceptRanges)).modify 1 (layCells Rows.laid_posthorn_octet_classes)).modify 0 (layCells Rows.laid_posthorn_reply_codeDigits)).modify 4 (layCells Rows.laid_unicode_utf8_first) }
end Go.Proofs.YtbfgefgadplcjaaDoor
