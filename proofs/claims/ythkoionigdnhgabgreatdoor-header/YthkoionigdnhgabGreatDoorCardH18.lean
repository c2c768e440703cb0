/-
  What a row's list gives the walks: the tables; a world for the witnesses.
-/
import Derived.Test.YthkoionigdnhgabGreatDoorXo9
import Derived.Test.YthkoionigdnhgabGreatDoorRows
import Derived.Test.YthkoionigdnhgabGreatDoorCards
import Derived.Test.YthkoionigdnhgabGreatDoorTie
import Derived.ProofKit
import Derived.OpenShut
import Derived.Lib.LaidTab
import Derived.LaidLaws
import Derived.Deep.DeepHandedRow
import Derived.ShutString
import Derived.SizedLaws
import Derived.ChangeOld
import Derived.Shelf.Vars
namespace Go.Proofs.YthkoionigdnhgabGreatDoor
open Go.ChangeShapes Go.WideShapes Go.ChangeAt Go.RowKit

theorem gPowH : Tryz.prog.globalNamed "internal/strconv.uint64pow10" = some 7 := by kernel_rfl
theorem gCl : Tryz.prog.globalNamed "posthorn/octet.classes" = some 2 := by kernel_rfl
theorem tCl : (Tryz.prog.globals[(2 : Nat)]?).map (·.type) = some 184 := by kernel_rfl
theorem cellsStr : Tryz.prog.cellsOf 9 = 1 := by kernel_rfl
theorem gFs : Tryz.prog.globalNamed "posthorn/runes.firsts" = some 6 := by kernel_rfl
theorem tFs : (Tryz.prog.globals[(6 : Nat)]?).map (·.type) = some 257 := by kernel_rfl
theorem cellsFf : Tryz.prog.cellsOf 256 = 5 := by kernel_rfl
theorem cellsFs : Tryz.prog.cellsOf 257 = 40 := by kernel_rfl

theorem laid_rows : (Rows.laid_posthorn_octet_classes : DataW Unit) = .agg (classRows.map fun l => .lit (.string l)) := rfl
theorem laid_fst : (Rows.laid_posthorn_runes_firsts : DataW Unit) = .agg (fsRows.map fun r => .agg (r.map fun x => .lit (.int .u8 x))) := rfl

theorem table_of_trod {enc : TypeId × Value → Unit} {W : World} {base : Nat} {sp : Nat → Bool} {held : Bool} {cs : Array Value} {fuel : Nat} {p : List MemPlace}
    (hv : W.var? Tryz.prog "posthorn/octet.classes" = some cs)
    (hd : DataW.trod enc Tryz.prog W base sp held fuel 184 cs.toList = some (Rows.laid_posthorn_octet_classes, p)) : Table W := by
  obtain ⟨xs, m, _, hx, hlen, hn, hel⟩ := DataW.trod_array Tryz.underlying184 hd
  rw [laid_rows] at hx
  simp only [Prod.mk.injEq, DataW.agg.injEq] at hx
  obtain ⟨hx, -⟩ := hx
  intro c hc
  have h1 := hel c hc
  have hxc : c < xs.length := by omega
  rw [List.getElem?_eq_getElem hxc] at h1
  obtain ⟨s, e1, e2, _⟩ := DataW.trod_string Tryz.underlying9 h1
  have h2 := congrArg (fun l => l[c]?) hx
  simp only [List.getElem?_map, List.getElem?_eq_getElem hxc, Option.map_some, e2] at h2
  have hcl : c < classRows.length := hc
  rw [List.getElem?_eq_getElem hcl] at h2
  simp only [Option.map_some, Option.some.injEq, DataW.lit.injEq, Lit.string.injEq] at h2
  have h3 := World.var?_cell gCl hv c
  rw [h3]
  rw [cellsStr, Nat.mul_one] at e1
  have h4 := congrArg (fun l => l[0]?) e1
  simp only [List.getElem?_take, List.getElem?_drop] at h4
  have h5 : cs[c]? = some (.string s) := by simpa using h4
  rw [h5]
  have h6 : classRows.getD c [] = s.data.toList := by
    rw [List.getD_eq_getElem?_getD, List.getElem?_eq_getElem hcl, Option.getD_some, h2]
  rw [h6]

theorem fst_of_trod {enc : TypeId × Value → Unit} {W : World} {base : Nat} {sp : Nat → Bool} {held : Bool} {cs : Array Value} {fuel : Nat} {p : List MemPlace}
    (hv : W.var? Tryz.prog "posthorn/runes.firsts" = some cs)
    (hd : DataW.trod enc Tryz.prog W base sp held fuel 257 cs.toList = some (Rows.laid_posthorn_runes_firsts, p)) : Fst W := by
  obtain ⟨xs, m, _, hx, hlen, hn, hel⟩ := DataW.trod_array Tryz.underlying257 hd
  rw [laid_fst] at hx
  simp only [Prod.mk.injEq, DataW.agg.injEq] at hx
  obtain ⟨hx, -⟩ := hx
  have key : ∀ c, c < 8 → ∀ i, i < 5 → cs[c * 5 + i]? = some (.int .u8 (fsAt c i)) := by
    intro c hc i hi
    have h1 := hel c hc
    have hxc : c < xs.length := by omega
    rw [List.getElem?_eq_getElem hxc, cellsFf] at h1
    obtain ⟨ys, n, _, hy, hl, hyl, hf⟩ := DataW.trod_struct Tryz.underlying256 h1
    have hrow : c < fsRows.length := hc
    have e1 := congrArg (fun l => l[c]?) hx
    simp only [List.getElem?_map, List.getElem?_eq_getElem hxc, List.getElem?_eq_getElem hrow, Option.map_some, Option.some.injEq, hy, DataW.agg.injEq] at e1
    have hr5 : (fsRows[c]).length = 5 := by
      have : ∀ k : Fin 8, (fsRows[k.val]'k.isLt).length = 5 := by decide
      exact this ⟨c, hc⟩
    have hyi : i < ys.length := by
      have := congrArg List.length e1
      simp only [List.length_map, hr5] at this
      omega
    have e2 := congrArg (fun l => l[i]?) e1
    simp only [List.getElem?_map, List.getElem?_eq_getElem hyi, List.getElem?_eq_getElem (show i < (fsRows[c]).length by omega), Option.map_some, Option.some.injEq] at e2
    have hat : fsAt c i = (fsRows[c])[i]'(by omega) := by
      unfold fsAt
      simp [List.getD_eq_getElem?_getD, List.getElem?_eq_getElem hrow, List.getElem?_eq_getElem (show i < (fsRows[c]).length by omega)]
    have go : ∀ (f : Field), f.type = 5 → f.offset = i → DataW.trod enc Tryz.prog W base sp held n f.type (((List.take 5 (List.drop (c * 5) cs.toList)).drop f.offset).take (Tryz.prog.cellsOf f.type)) = ys[i]? → cs[c * 5 + i]? = some (.int .u8 (fsAt c i)) := by
      intro f ft fo h
      rw [ft, fo, cells5, List.getElem?_eq_getElem hyi] at h
      obtain ⟨z, e3, e4, _⟩ := DataW.trod_int Tryz.underlying5 h
      rw [e4] at e2
      simp only [DataW.lit.injEq, Lit.int.injEq, true_and] at e2
      have h4 := congrArg (fun l => l[0]?) e3
      simp only [List.getElem?_take, List.getElem?_drop] at h4
      rw [hat, e2]
      simpa [show i < 5 from hi] using h4
    have hcase : i = 0 ∨ i = 1 ∨ i = 2 ∨ i = 3 ∨ i = 4 := by omega
    rcases hcase with rfl | rfl | rfl | rfl | rfl
    · exact go _ rfl rfl (hf 0 _ rfl)
    · exact go _ rfl rfl (hf 1 _ rfl)
    · exact go _ rfl rfl (hf 2 _ rfl)
    · exact go _ rfl rfl (hf 3 _ rfl)
    · exact go _ rfl rfl (hf 4 _ rfl)
  have hsz : cs.size = 40 := by
    have := hlen
    rw [cellsFs] at this
    simpa using this
  have hcs : cs = fsCells := by
    apply Array.ext_getElem?
    intro j
    by_cases hj : j < 40
    · have := key (j / 5) (by omega) (j % 5) (by omega)
      rw [show j / 5 * 5 + j % 5 = j from by omega] at this
      rw [this]
      have h : ∀ k : Fin 40, fsCells[k.val]? = some (.int .u8 (fsAt (k.val / 5) (k.val % 5))) := by
        intro k
        have : ∀ k : Fin 40, (fsRows.flatten)[k.val]? = some (fsAt (k.val / 5) (k.val % 5)) := by decide
        unfold fsCells
        rw [List.getElem?_toArray, List.getElem?_map, this k]
        rfl
      exact (h ⟨j, hj⟩).symm
    · have h40 : fsCells.size = 40 := by decide
      rw [Array.getElem?_eq_none (by omega), Array.getElem?_eq_none (by omega)]
  unfold World.var? at hv
  rw [gFs] at hv
  simp only [Option.bind_some] at hv
  split at hv
  · rename_i c t fr hh
    injection hv with hv
    rw [hv, hcs] at hh
    exact ⟨t, fr, hh⟩
  · cases hv

theorem own : ownKnob Tryz.prog.godebug = none := by kernel_rfl
theorem laidOut : laidOutB Tryz.prog = true := by kernel_rfl
theorem cell_lt {w : World} {g k : Nat} {v : Value} (h : w.cell? ⟨g, k, none⟩ = some v) : g < w.heap.size := by
  rcases Nat.lt_or_ge g w.heap.size with h' | h'
  · exact h'
  · simp [World.cell?, Array.getElem?_eq_none h'] at h

theorem tPow : (Tryz.prog.globals[(7 : Nat)]?).map (·.type) = some 263 := by kernel_rfl
theorem cellsPow : Tryz.prog.cellsOf 263 = 20 := by kernel_rfl
theorem cellsU64 : Tryz.prog.cellsOf 168 = 1 := by kernel_rfl
theorem laid_pow : (Rows.laid_internal_strconv_uint64pow10 : DataW Unit) = Lib.tabData .u64 Lib.pow10Tab := by kernel_rfl
theorem gT64 : Tryz.prog.globalNamed "math/bits.deBruijn64tab" = some 11 := by kernel_rfl
theorem tT64 : (Tryz.prog.globals[(11 : Nat)]?).map (·.type) = some 276 := by kernel_rfl
set_option maxRecDepth 100000 in
theorem t64_15 : ∃ l : List (DataW Unit), (Rows.laid_math_bits_deBruijn64tab : DataW Unit) = .agg l ∧ l[15]? = some (.lit (.int .u8 4)) := ⟨_, rfl, rfl⟩
set_option maxRecDepth 100000 in
theorem t64_of_trod {enc : TypeId × Value → Unit} {W : World} {base : Nat} {sp : Nat → Bool} {held : Bool} {cs : Array Value} {fuel : Nat} {p : List MemPlace}
    (hv : W.var? Tryz.prog "math/bits.deBruijn64tab" = some cs)
    (hd : DataW.trod enc Tryz.prog W base sp held fuel 276 cs.toList = some (Rows.laid_math_bits_deBruijn64tab, p)) : W.cell? ⟨11, 15, none⟩ = some (.int .u8 4) := by
  obtain ⟨xs, m, _, hx, hlen, hn, hel⟩ := DataW.trod_array Tryz.underlying276 hd
  obtain ⟨l, hl, h15⟩ := t64_15
  rw [hl] at hx
  simp only [Prod.mk.injEq, DataW.agg.injEq] at hx
  obtain ⟨rfl, -⟩ := hx
  have h1 := hel 15 (by omega)
  have hxc : 15 < xs.length := by omega
  rw [List.getElem?_eq_getElem hxc, cells5] at h1
  obtain ⟨z, e1, e2, _⟩ := DataW.trod_int Tryz.underlying5 h1
  simp only [List.getElem?_map, List.getElem?_eq_getElem hxc, Option.map_some, e2, Option.some.injEq, DataW.lit.injEq, Lit.int.injEq, true_and] at h15
  subst h15
  have h3 := World.var?_cell gT64 hv 15
  rw [h3]
  have h4 := congrArg (fun l => l[0]?) e1
  simp only [List.getElem?_take, List.getElem?_drop] at h4
  simpa using h4
theorem ml_of {W : World} (h : W.ShapedOpen Tryz.prog) : ∃ m, W.cell? ⟨0, 0, none⟩ = some (.int .i64 m) :=
  cell_of_shapedOpen_int (t := 3) (zero := #[.int .i64 0]) h (of_decide_eq_true (by kernel_rfl)) (by kernel_rfl) rfl (by kernel_rfl) (by kernel_rfl) Tryz.underlying3
theorem tabsH_of {W : World} (h : laidMet Tryz.prog [("math/bits.deBruijn32tab", Rows.laid_math_bits_deBruijn32tab), ("math/bits.deBruijn64tab", Rows.laid_math_bits_deBruijn64tab), ("internal/strconv.uint64pow10", Rows.laid_internal_strconv_uint64pow10), ("unicode/utf8.acceptRanges", Rows.laid_unicode_utf8_acceptRanges), ("posthorn/octet.classes", Rows.laid_posthorn_octet_classes), ("posthorn/runes.firsts", Rows.laid_posthorn_runes_firsts), ("unicode/utf8.first", Rows.laid_unicode_utf8_first)] W) (hsh : W.ShapedOpen Tryz.prog) : Td W := by
  obtain ⟨ps, ⟨g0, t0, cs0, fuel0, p0, q0, hg0, ht0, hv0, hd0, ⟨g1, t1, cs1, fuel1, p1, q1, hg1, ht1, hv1, hd1, ⟨g2, t2, cs2, fuel2, p2, q2, hg2, ht2, hv2, hd2, ⟨g3, t3, cs3, fuel3, p3, q3, hg3, ht3, hv3, hd3, ⟨g4, t4, cs4, fuel4, p4, q4, hg4, ht4, hv4, hd4, ⟨g5, t5, cs5, fuel5, p5, q5, hg5, ht5, hv5, hd5, ⟨g6, t6, cs6, fuel6, p6, q6, hg6, ht6, hv6, hd6, _, _⟩, _⟩, _⟩, _⟩, _⟩, _⟩, _⟩, _⟩ := h
  obtain rfl := Option.some.inj (gCl.symm.trans hg4)
  obtain rfl := Option.some.inj (tCl.symm.trans ht4)
  obtain rfl := Option.some.inj (gFs.symm.trans hg5)
  obtain rfl := Option.some.inj (tFs.symm.trans ht5)
  obtain rfl := Option.some.inj (gPowH.symm.trans hg2)
  obtain rfl := Option.some.inj (tPow.symm.trans ht2)
  obtain rfl := Option.some.inj (gT64.symm.trans hg1)
  obtain rfl := Option.some.inj (tT64.symm.trans ht1)
  have h1 := table_of_trod hv4 hd4
  have hp : PowTab W := by
    rw [laid_pow] at hd2
    unfold PowTab Lib.TabIs
    rw [hv2, ← Lib.cells_of_tab Tryz.underlying263 Tryz.underlying168 cellsU64 cellsPow hd2]
  have hT : Td W := ⟨⟨h1, cell_lt (h1 0 (by omega)), fst_of_trod hv5 hd5, t64_of_trod hv1 hd1⟩, hp, ml_of hsh⟩
  exact hT

/-- A table's data as cells. -/
def litC : DataW Unit → List Value
  | .lit (.int k z) => [Value.int k z]
  | .lit (.string b) => [Value.string ⟨b.toArray⟩]
  | _ => []
def rowC : DataW Unit → List Value
  | .agg l => l.flatMap litC
  | d => litC d
def datCells : DataW Unit → Array Value
  | .agg l => (l.flatMap rowC).toArray
  | _ => #[]
def layCells (d : DataW Unit) : Obj → Obj
  | .cells _ t frozen => .cells (datCells d) t frozen
  | o => o

noncomputable def laidWorldH (os : Os) : World :=
  { World.holding Tryz.prog os ⟨#[], #[], []⟩ with heap := (((((((World.holding Tryz.prog os ⟨#[], #[], []⟩).heap.modify 10 (layCells Rows.laid_math_bits_deBruijn32tab)).modify 11 (layCells Rows.laid_math_bits_deBruijn64tab)).modify 7 (layCells Rows.laid_internal_strconv_uint64pow10)).modify 5 (layCells Rows.laid_unicode_utf8_acceptRanges)).modify 2 (layCells Rows.laid_posthorn_octet_classes)).modify 6 (layCells Rows.laid_posthorn_runes_firsts)).modify 4 (layCells Rows.laid_unicode_utf8_first) }
end Go.Proofs.YthkoionigdnhgabGreatDoor
