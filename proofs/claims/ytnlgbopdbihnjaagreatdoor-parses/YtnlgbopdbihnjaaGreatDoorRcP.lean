/-
  What a row's list gives the walks: the tables, the two errors; a world for the witnesses; hosts and addresses as they came in.
-/
import Derived.Test.YtnlgbopdbihnjaaGreatDoorWk8
import Derived.Test.YtnlgbopdbihnjaaGreatDoorRows
import Derived.Test.YtnlgbopdbihnjaaGreatDoorCards
import Derived.Test.YtnlgbopdbihnjaaGreatDoorTie
import Derived.ProofKit
import Derived.OpenShut
import Derived.Lib.LaidTab
import Derived.LaidLaws
import Derived.Deep.DeepHandedRow
import Derived.ShutString
import Derived.SizedLaws
import Derived.ChangeOld
import Derived.Shelf.Vars
import Derived.Test.YtnlgbopdbihnjaaGreatDoorWd8
namespace Go.Proofs.YtnlgbopdbihnjaaGreatDoor
open Go.ChangeShapes Go.WideShapes Go.ChangeAt Go.RowKit

theorem gCl : Tryz.prog.globalNamed "posthorn/octet.classes" = some 0 := by kernel_rfl
theorem tCl : (Tryz.prog.globals[(0 : Nat)]?).map (·.type) = some 143 := by kernel_rfl
theorem cellsStr : Tryz.prog.cellsOf 9 = 1 := by kernel_rfl
theorem gFs : Tryz.prog.globalNamed "posthorn/runes.firsts" = some 3 := by kernel_rfl
theorem tFs : (Tryz.prog.globals[(3 : Nat)]?).map (·.type) = some 187 := by kernel_rfl
theorem cellsF : Tryz.prog.cellsOf 186 = 5 := by kernel_rfl
theorem cellsFs : Tryz.prog.cellsOf 187 = 40 := by kernel_rfl

theorem laid_rows : (Rows.laid_posthorn_octet_classes : DataW Unit) = .agg (classRows.map fun l => .lit (.string l)) := rfl
theorem laid_fst : (Rows.laid_posthorn_runes_firsts : DataW Unit) = .agg (fsRows.map fun r => .agg (r.map fun x => .lit (.int .u8 x))) := rfl

theorem table_of_trod {enc : TypeId × Value → Unit} {W : World} {base : Nat} {sp : Nat → Bool} {held : Bool} {cs : Array Value} {fuel : Nat} {p : List MemPlace}
    (hv : W.var? Tryz.prog "posthorn/octet.classes" = some cs)
    (hd : DataW.trod enc Tryz.prog W base sp held fuel 143 cs.toList = some (Rows.laid_posthorn_octet_classes, p)) : Table W := by
  obtain ⟨xs, m, _, hx, hlen, hn, hel⟩ := DataW.trod_array Tryz.underlying143 hd
  rw [laid_rows] at hx
  simp only [Prod.mk.injEq, DataW.agg.injEq] at hx
  obtain ⟨hx, -⟩ := hx
  intro c hc
  have h1 := hel c hc
  have hxc : c < xs.length := by omega
  rw [List.getElem?_eq_getElem hxc] at h1
  obtain ⟨s, e1, e2, _⟩ := DataW.trod_string Tryz.underlying9 h1
  have h2 := congrArg (fun l => l[c]?) hx
  simp only [List.getElem?_map, List.getElem?_eq_getElem hxc, Option.map_some, e2] at h2
  have hcl : c < classRows.length := hc
  rw [List.getElem?_eq_getElem hcl] at h2
  simp only [Option.map_some, Option.some.injEq, DataW.lit.injEq, Lit.string.injEq] at h2
  have h3 := World.var?_cell gCl hv c
  rw [h3]
  rw [cellsStr, Nat.mul_one] at e1
  have h4 := congrArg (fun l => l[0]?) e1
  simp only [List.getElem?_take, List.getElem?_drop] at h4
  have h5 : cs[c]? = some (.string s) := by simpa using h4
  rw [h5]
  have h6 : classRows.getD c [] = s.data.toList := by
    rw [List.getD_eq_getElem?_getD, List.getElem?_eq_getElem hcl, Option.getD_some, h2]
  rw [h6]

theorem fst_of_trod {enc : TypeId × Value → Unit} {W : World} {base : Nat} {sp : Nat → Bool} {held : Bool} {cs : Array Value} {fuel : Nat} {p : List MemPlace}
    (hv : W.var? Tryz.prog "posthorn/runes.firsts" = some cs)
    (hd : DataW.trod enc Tryz.prog W base sp held fuel 187 cs.toList = some (Rows.laid_posthorn_runes_firsts, p)) : Fst W := by
  obtain ⟨xs, m, _, hx, hlen, hn, hel⟩ := DataW.trod_array Tryz.underlying187 hd
  rw [laid_fst] at hx
  simp only [Prod.mk.injEq, DataW.agg.injEq] at hx
  obtain ⟨hx, -⟩ := hx
  have key : ∀ c, c < 8 → ∀ i, i < 5 → cs[c * 5 + i]? = some (.int .u8 (fsAt c i)) := by
    intro c hc i hi
    have h1 := hel c hc
    have hxc : c < xs.length := by omega
    rw [List.getElem?_eq_getElem hxc, cellsF] at h1
    obtain ⟨ys, n, _, hy, hl, hyl, hf⟩ := DataW.trod_struct Tryz.underlying186 h1
    have hrow : c < fsRows.length := hc
    have e1 := congrArg (fun l => l[c]?) hx
    simp only [List.getElem?_map, List.getElem?_eq_getElem hxc, List.getElem?_eq_getElem hrow, Option.map_some, Option.some.injEq, hy, DataW.agg.injEq] at e1
    have hr5 : (fsRows[c]).length = 5 := by
      have : ∀ k : Fin 8, (fsRows[k.val]'k.isLt).length = 5 := by decide
      exact this ⟨c, hc⟩
    have hyi : i < ys.length := by
      have := congrArg List.length e1
      simp only [List.length_map, hr5] at this
      omega
    have e2 := congrArg (fun l => l[i]?) e1
    simp only [List.getElem?_map, List.getElem?_eq_getElem hyi, List.getElem?_eq_getElem (show i < (fsRows[c]).length by omega), Option.map_some, Option.some.injEq] at e2
    have hat : fsAt c i = (fsRows[c])[i]'(by omega) := by
      unfold fsAt
      simp [List.getD_eq_getElem?_getD, List.getElem?_eq_getElem hrow, List.getElem?_eq_getElem (show i < (fsRows[c]).length by omega)]
    have go : ∀ (f : Field), f.type = 5 → f.offset = i → DataW.trod enc Tryz.prog W base sp held n f.type (((List.take 5 (List.drop (c * 5) cs.toList)).drop f.offset).take (Tryz.prog.cellsOf f.type)) = ys[i]? → cs[c * 5 + i]? = some (.int .u8 (fsAt c i)) := by
      intro f ft fo h
      rw [ft, fo, cells5, List.getElem?_eq_getElem hyi] at h
      obtain ⟨z, e3, e4, _⟩ := DataW.trod_int Tryz.underlying5 h
      rw [e4] at e2
      simp only [DataW.lit.injEq, Lit.int.injEq, true_and] at e2
      have h4 := congrArg (fun l => l[0]?) e3
      simp only [List.getElem?_take, List.getElem?_drop] at h4
      rw [hat, e2]
      simpa [show i < 5 from hi] using h4
    have hcase : i = 0 ∨ i = 1 ∨ i = 2 ∨ i = 3 ∨ i = 4 := by omega
    rcases hcase with rfl | rfl | rfl | rfl | rfl
    · exact go _ rfl rfl (hf 0 _ rfl)
    · exact go _ rfl rfl (hf 1 _ rfl)
    · exact go _ rfl rfl (hf 2 _ rfl)
    · exact go _ rfl rfl (hf 3 _ rfl)
    · exact go _ rfl rfl (hf 4 _ rfl)
  have hsz : cs.size = 40 := by
    have := hlen
    rw [cellsFs] at this
    simpa using this
  have hcs : cs = fsCells := by
    apply Array.ext_getElem?
    intro j
    by_cases hj : j < 40
    · have := key (j / 5) (by omega) (j % 5) (by omega)
      rw [show j / 5 * 5 + j % 5 = j from by omega] at this
      rw [this]
      have h : ∀ k : Fin 40, fsCells[k.val]? = some (.int .u8 (fsAt (k.val / 5) (k.val % 5))) := by
        intro k
        have : ∀ k : Fin 40, (fsRows.flatten)[k.val]? = some (fsAt (k.val / 5) (k.val % 5)) := by decide
        unfold fsCells
        rw [List.getElem?_toArray, List.getElem?_map, this k]
        rfl
      exact (h ⟨j, hj⟩).symm
    · have h40 : fsCells.size = 40 := by decide
      rw [Array.getElem?_eq_none (by omega), Array.getElem?_eq_none (by omega)]
  unfold World.var? at hv
  rw [gFs] at hv
  simp only [Option.bind_some] at hv
  split at hv
  · rename_i c t fr hh
    injection hv with hv
    rw [hv, hcs] at hh
    exact ⟨t, fr, hh⟩
  · cases hv

theorem own : ownKnob Tryz.prog.godebug = none := by kernel_rfl
theorem laidOut : laidOutB Tryz.prog = true := by kernel_rfl
theorem cell_lt {w : World} {g k : Nat} {v : Value} (h : w.cell? ⟨g, k, none⟩ = some v) : g < w.heap.size := by
  rcases Nat.lt_or_ge g w.heap.size with h' | h'
  · exact h'
  · simp [World.cell?, Array.getElem?_eq_none h'] at h

theorem gPow : Tryz.prog.globalNamed "internal/strconv.uint64pow10" = some 2 := by kernel_rfl
theorem tPow : (Tryz.prog.globals[(2 : Nat)]?).map (·.type) = some 175 := by kernel_rfl
theorem cellsPow : Tryz.prog.cellsOf 175 = 20 := by kernel_rfl
theorem cellsU64 : Tryz.prog.cellsOf 74 = 1 := by kernel_rfl
theorem laid_pow : (Rows.laid_internal_strconv_uint64pow10 : DataW Unit) = Lib.tabData .u64 Lib.pow10Tab := by kernel_rfl
theorem gT64 : Tryz.prog.globalNamed "math/bits.deBruijn64tab" = some 7 := by kernel_rfl
theorem tT64 : (Tryz.prog.globals[(7 : Nat)]?).map (·.type) = some 210 := by kernel_rfl
theorem gES : Tryz.prog.globalNamed "strconv.ErrSyntax" = some 4 := by kernel_rfl
theorem tES : (Tryz.prog.globals[(4 : Nat)]?).map (·.type) = some 113 := by kernel_rfl
set_option maxRecDepth 100000 in
theorem t64_15 : ∃ l : List (DataW Unit), (Rows.laid_math_bits_deBruijn64tab : DataW Unit) = .agg l ∧ l[15]? = some (.lit (.int .u8 4)) := ⟨_, rfl, rfl⟩
set_option maxRecDepth 100000 in
theorem t64_of_trod {enc : TypeId × Value → Unit} {W : World} {base : Nat} {sp : Nat → Bool} {held : Bool} {cs : Array Value} {fuel : Nat} {p : List MemPlace}
    (hv : W.var? Tryz.prog "math/bits.deBruijn64tab" = some cs)
    (hd : DataW.trod enc Tryz.prog W base sp held fuel 210 cs.toList = some (Rows.laid_math_bits_deBruijn64tab, p)) : W.cell? ⟨7, 15, none⟩ = some (.int .u8 4) := by
  obtain ⟨xs, m, _, hx, hlen, hn, hel⟩ := DataW.trod_array Tryz.underlying210 hd
  obtain ⟨l, hl, h15⟩ := t64_15
  rw [hl] at hx
  simp only [Prod.mk.injEq, DataW.agg.injEq] at hx
  obtain ⟨rfl, -⟩ := hx
  have h1 := hel 15 (by omega)
  have hxc : 15 < xs.length := by omega
  rw [List.getElem?_eq_getElem hxc, cells5] at h1
  obtain ⟨z, e1, e2, _⟩ := DataW.trod_int Tryz.underlying5 h1
  simp only [List.getElem?_map, List.getElem?_eq_getElem hxc, Option.map_some, e2, Option.some.injEq, DataW.lit.injEq, Lit.int.injEq, true_and] at h15
  subst h15
  have h3 := World.var?_cell gT64 hv 15
  rw [h3]
  have h4 := congrArg (fun l => l[0]?) e1
  simp only [List.getElem?_take, List.getElem?_drop] at h4
  simpa using h4
theorem es_of_trod {enc : TypeId × Value → Unit} {W : World} {base : Nat} {sp : Nat → Bool} {cs : Array Value} {fuel : Nat} {p : List MemPlace}
    (hv : W.var? Tryz.prog "strconv.ErrSyntax" = some cs)
    (hd : DataW.trod enc Tryz.prog W base sp false fuel 113 cs.toList = some (Rows.laid_strconv_ErrSyntax, p)) : ∃ te pe, W.cell? ⟨4, 0, none⟩ = some (.iface te pe) := by
  obtain ⟨_, u, v, e, _, _⟩ := iface_of_trod Tryz.underlying113 hd
  have h3 := World.var?_cell gES hv 0
  refine ⟨u, v, ?_⟩
  rw [h3]
  have h4 := congrArg (fun l => l[0]?) e
  simpa using h4
theorem ml_of {W : World} (h : W.ShapedOpen Tryz.prog) : ∃ m, W.cell? ⟨1, 0, none⟩ = some (.int .i64 m) :=
  cell_of_shapedOpen_int (t := 3) (zero := #[.int .i64 0]) h (of_decide_eq_true (by kernel_rfl)) (by kernel_rfl) rfl (by kernel_rfl) (by kernel_rfl) Tryz.underlying3
theorem tabs8_of {W : World} (h : laidMet Tryz.prog [("math/bits.deBruijn32tab", Rows.laid_math_bits_deBruijn32tab), ("math/bits.deBruijn64tab", Rows.laid_math_bits_deBruijn64tab), ("internal/strconv.uint64pow10", Rows.laid_internal_strconv_uint64pow10), ("unicode/utf8.acceptRanges", Rows.laid_unicode_utf8_acceptRanges), ("strconv.ErrRange", Rows.laid_strconv_ErrRange), ("strconv.ErrSyntax", Rows.laid_strconv_ErrSyntax), ("posthorn/octet.classes", Rows.laid_posthorn_octet_classes), ("posthorn/runes.firsts", Rows.laid_posthorn_runes_firsts), ("unicode/utf8.first", Rows.laid_unicode_utf8_first)] W) (hsh : W.ShapedOpen Tryz.prog) : Tc W := by
  obtain ⟨ps, ⟨g0, t0, cs0, fuel0, p0, q0, hg0, ht0, hv0, hd0, ⟨g1, t1, cs1, fuel1, p1, q1, hg1, ht1, hv1, hd1, ⟨g2, t2, cs2, fuel2, p2, q2, hg2, ht2, hv2, hd2, ⟨g3, t3, cs3, fuel3, p3, q3, hg3, ht3, hv3, hd3, ⟨g4, t4, cs4, fuel4, p4, q4, hg4, ht4, hv4, hd4, ⟨g5, t5, cs5, fuel5, p5, q5, hg5, ht5, hv5, hd5, ⟨g6, t6, cs6, fuel6, p6, q6, hg6, ht6, hv6, hd6, ⟨g7, t7, cs7, fuel7, p7, q7, hg7, ht7, hv7, hd7, ⟨g8, t8, cs8, fuel8, p8, q8, hg8, ht8, hv8, hd8, _, _⟩, _⟩, _⟩, _⟩, _⟩, _⟩, _⟩, _⟩, _⟩, _⟩ := h
  obtain rfl := Option.some.inj (gCl.symm.trans hg6)
  obtain rfl := Option.some.inj (tCl.symm.trans ht6)
  obtain rfl := Option.some.inj (gFs.symm.trans hg7)
  obtain rfl := Option.some.inj (tFs.symm.trans ht7)
  obtain rfl := Option.some.inj (gPow.symm.trans hg2)
  obtain rfl := Option.some.inj (tPow.symm.trans ht2)
  obtain rfl := Option.some.inj (gT64.symm.trans hg1)
  obtain rfl := Option.some.inj (tT64.symm.trans ht1)
  obtain rfl := Option.some.inj (gES.symm.trans hg5)
  obtain rfl := Option.some.inj (tES.symm.trans ht5)
  have h1 := table_of_trod hv6 hd6
  refine ⟨⟨h1, cell_lt (h1 0 (by omega)), fst_of_trod hv7 hd7, es_of_trod hv5 hd5, t64_of_trod hv1 hd1⟩, ?_, ml_of hsh⟩
  rw [laid_pow] at hd2
  unfold PowTab Lib.TabIs
  rw [hv2, ← Lib.cells_of_tab Tryz.underlying175 Tryz.underlying74 cellsU64 cellsPow hd2]

/-- A table's data as cells. -/
def litC : DataW Unit → List Value
  | .lit (.int k z) => [Value.int k z]
  | .lit (.string b) => [Value.string ⟨b.toArray⟩]
  | _ => []
def rowC : DataW Unit → List Value
  | .agg l => l.flatMap litC
  | d => litC d
def datCells : DataW Unit → Array Value
  | .agg l => (l.flatMap rowC).toArray
  | _ => #[]
def layCells (d : DataW Unit) : Obj → Obj
  | .cells _ t frozen => .cells (datCells d) t frozen
  | o => o

abbrev rangeS : ByteArray := ⟨#[118, 97, 108, 117, 101, 32, 111, 117, 116, 32, 111, 102, 32, 114, 97, 110, 103, 101]⟩
abbrev synS : ByteArray := ⟨#[105, 110, 118, 97, 108, 105, 100, 32, 115, 121, 110, 116, 97, 120]⟩
noncomputable def low8 : Nat := (World.holding Tryz.prog default ⟨#[], #[], []⟩).heap.size
def layPtr (b : Nat) : Obj → Obj
  | .cells _ t frozen => .cells #[.iface 206 (.pointer (some ⟨b, 0, none⟩))] t frozen
  | o => o
noncomputable def laidWorld8 (os : Os) : World :=
  { World.holding Tryz.prog os ⟨#[.cells #[.string rangeS] 208, .cells #[.string synS] 208], #[], []⟩ with heap := ((((((((((World.holding Tryz.prog os ⟨#[.cells #[.string rangeS] 208, .cells #[.string synS] 208], #[], []⟩).heap.modify 6 (layCells Rows.laid_math_bits_deBruijn32tab)).modify 7 (layCells Rows.laid_math_bits_deBruijn64tab)).modify 2 (layCells Rows.laid_internal_strconv_uint64pow10)).modify 9 (layCells Rows.laid_unicode_utf8_acceptRanges)).modify 5 (layPtr (low8))).modify 4 (layPtr (low8 + 1))).modify 0 (layCells Rows.laid_posthorn_octet_classes)).modify 3 (layCells Rows.laid_posthorn_runes_firsts)).modify 8 (layCells Rows.laid_unicode_utf8_first)) }

set_option maxRecDepth 100000 in
/-- A row of bytes that came in. -/
theorem bytes_of_trod {H : Type} {enc : TypeId × Value → H} {W : World} {b0 : Nat} {sp : Nat → Bool} {held : Bool} {T : TypeId} {n fuel : Nat} {cs : List Value} {x : DataW H × List MemPlace} (hu : Tryz.prog.underlying T = some (.array n 5)) (hc : Tryz.prog.cellsOf T = n) (h : DataW.trod enc Tryz.prog W b0 sp held fuel T cs = some x) :
    ∃ l : List Nat, l.length = n ∧ (∀ x ∈ l, x < 256) ∧ cs = l.map fun n => Value.int .u8 (n : Nat) := by
  obtain ⟨xs, m, _, _, hlen, hn, hel⟩ := DataW.trod_array hu h
  rw [hc] at hlen
  have key : ∀ i, i < n → ∃ z : Nat, z < 256 ∧ cs[i]? = some (.int .u8 (z : Nat)) := by
    intro i hi
    have h1 := hel i hi
    rw [List.getElem?_eq_getElem (show i < xs.length by omega), cells5] at h1
    obtain ⟨z, e1, _, e3⟩ := DataW.trod_int Tryz.underlying5 h1
    have b := bounds_u8 e3
    have h4 := congrArg (fun l => l[0]?) e1
    simp only [List.getElem?_take, List.getElem?_drop] at h4
    refine ⟨z.toNat, by omega, ?_⟩
    rw [Int.toNat_of_nonneg b.1]
    simpa using h4
  refine ⟨cs.map fun v => match v with | .int _ z => z.toNat | _ => 0, by simp [hlen], ?_, ?_⟩
  · intro x hx
    obtain ⟨v, hv, rfl⟩ := List.mem_map.1 hx
    obtain ⟨i, hi, rfl⟩ := List.getElem_of_mem hv
    obtain ⟨z, hz, e⟩ := key i (by omega)
    rw [List.getElem?_eq_getElem hi] at e
    rw [Option.some.inj e]
    simpa using hz
  · apply List.ext_getElem?
    intro i
    by_cases hi : i < n
    · obtain ⟨z, hz, e⟩ := key i hi
      rw [List.getElem?_map, List.getElem?_map, e]
      simp
    · rw [List.getElem?_eq_none (by omega), List.getElem?_eq_none (by simp; omega)]
set_option maxRecDepth 100000 in
theorem open_arr {H : Type} {enc : TypeId × Value → H} {W : World} {r : Reach} {b0 : Nat} {v : Value} {d : DataW H} {ps : List MemPlace} {T : TypeId} {n : Nat} (hu : Tryz.prog.underlying T = some (.array n 5)) (hc : Tryz.prog.cellsOf T = n) (hv : Value.okWide Tryz.prog W r b0 T v) (h : DataW.Trod enc Tryz.prog W 0 (fun _ => true) true T v d ps) :
    ∃ l : List Nat, v = .agg (bytesV l) ∧ l.length = n ∧ ∀ x ∈ l, x < 256 := by
  simp only [Value.okWide, hu] at hv
  obtain ⟨cs, rfl, hsz, _⟩ := hv
  obtain ⟨fuel, hf⟩ := h
  obtain ⟨l, h1, h2, h3⟩ := bytes_of_trod hu hc hf
  refine ⟨l, ?_, h1, h2⟩
  have h4 : cs.toList = l.map fun n => Value.int .u8 (n : Nat) := by simpa [Value.cells] using h3
  unfold bytesV
  rw [← h4, Array.toArray_toList]
theorem cellsT16 : Tryz.prog.cellsOf 26 = 16 := by kernel_rfl
theorem cellsT4 : Tryz.prog.cellsOf 46 = 4 := by kernel_rfl
theorem cellsT3 : Tryz.prog.cellsOf 3 = 1 := by kernel_rfl
set_option maxRecDepth 100000 in
/-- A host that came in. -/
theorem open_host {H : Type} {enc : TypeId × Value → H} {W : World} {r : Reach} {b0 : Nat} {v : Value} {d : DataW H} {ps : List MemPlace} (hv : Value.okWide Tryz.prog W r b0 28 v) (h : DataW.Trod enc Tryz.prog W 0 (fun _ => true) true 28 v d ps) :
    ∃ a : Ho, v = hostV a ∧ (a.Ok ∧ -9223372036854775808 ≤ a.k ∧ a.k ≤ 9223372036854775807) ∧ ∃ p q, d = .agg [p, .lit (.string a.n), q] := by
  obtain ⟨cs, rfl, hsz⟩ := okWide_struct Tryz.underlying28 hv
  have c18 : Tryz.prog.cellsOf 28 = 18 := by kernel_rfl
  rw [c18] at hsz
  obtain ⟨fuel, hf⟩ := h
  obtain ⟨ys, n, _, hx, hl, hyl, hfd⟩ := DataW.trod_struct Tryz.underlying28 hf
  have hy3 : ys.length = 3 := hyl
  obtain ⟨y0, y1, y2, rfl⟩ : ∃ a b c, ys = [a, b, c] := by
    match ys, hy3 with
    | [a, b, c], _ => exact ⟨a, b, c, rfl⟩
  have g0 : _ = some y0 := hfd 0 _ rfl
  have g1 : _ = some y1 := hfd 1 _ rfl
  have g2 : _ = some y2 := hfd 2 _ rfl
  obtain ⟨z0, a0, _, w0⟩ := DataW.trod_int Tryz.underlying3 g0
  obtain ⟨st, a1, d1, _⟩ := DataW.trod_string Tryz.underlying9 g1
  obtain ⟨l, l1, l2, l3⟩ := bytes_of_trod Tryz.underlying26 cellsT16 g2
  have e0 : cs[0]? = some (.int .i64 z0) := by
    have r0 := congrArg (fun l => l[0]?) a0
    simp only [List.getElem?_take, List.getElem?_drop] at r0
    simpa [Value.cells, cellsT3] using r0
  have e1 : cs[1]? = some (.string st) := by
    have r0 := congrArg (fun l => l[0]?) a1
    simp only [List.getElem?_take, List.getElem?_drop] at r0
    simpa [Value.cells, cellsStr] using r0
  have e2 : cs.toList.drop 2 = l.map fun n => Value.int .u8 (n : Nat) := by
    rw [← l3]
    show cs.toList.drop 2 = List.take (Tryz.prog.cellsOf 26) (List.drop 2 cs.toList)
    rw [cellsT16, List.take_of_length_le]
    simp [hsz]
  refine ⟨⟨z0, st.data.toList, l⟩, ?_, ⟨⟨l1, l2⟩, bounds_i64 w0⟩, ?_⟩
  · have hcs : cs.toList = Value.int .i64 z0 :: Value.string ⟨st.data.toList.toArray⟩ :: l.map fun n => Value.int .u8 (n : Nat) := by
      rw [← e2, Array.toArray_toList]
      have e0' : cs.toList[0]? = some (.int .i64 z0) := by simpa using e0
      have e1' : cs.toList[1]? = some (.string st) := by simpa using e1
      match hc : cs.toList with
      | [] => rw [hc] at e0'; simp at e0'
      | [_] => rw [hc] at e1'; simp at e1'
      | x :: y :: t =>
        rw [hc] at e0' e1'
        simp at e0' e1'
        rw [e0', e1']
        rfl
    unfold hostV hostC
    rw [← hcs, Array.toArray_toList]
  · have hd : d = .agg [y0.1, y1.1, y2.1] := congrArg Prod.fst hx
    have e3' : y1.1 = .lit (.string st.data.toList) := congrArg Prod.fst d1
    exact ⟨y0.1, y2.1, by rw [hd, ← e3']⟩
theorem host_size {H : Type} {ts : List TypeId} {ds : List (DataW H)} {d : DataW H} {r : List UInt8} {j : Nat} (h : (DataW.weightsEach Tryz.prog ts ds).all (· ≤ reachBytes) = true) (ht : ts[j]? = some 28) (hd : ds[j]? = some d) (e : ∃ p q, d = .agg [p, .lit (.string r), q]) : r.length ≤ 140737488351232 := by
  obtain ⟨p, q, rfl⟩ := e
  have hm : r.length ∈ (DataW.agg [p, .lit (.string r), q]).weights Tryz.prog 28 := by
    unfold DataW.weights
    rw [Tryz.underlying28]
    exact DataW.weights_mem_each (j := 1) (t := 9) (d := .lit (.string r)) rfl rfl _ (by simp [DataW.weights])
  have := List.all_eq_true.1 h _ (DataW.weights_mem_each ht hd _ hm)
  simp only [reachBytes] at this
  exact of_decide_eq_true this
end Go.Proofs.YtnlgbopdbihnjaaGreatDoor
/-
  Steps through a statement whose order is the text's, one operation at a time.
-/
namespace Go.Proofs.YtnlgbopdbihnjaaGreatDoor
open Go.RowKit

theorem wpList_yieldG {P : Program} {ops : Array Oper} {rest : List Oper} {op : Oper} {a : Act} {w : World} {Q : Exit → Act → World → Prop} (v : Value) (hw : Region.wanted op (yielded ops a.tmps) = true)
    (hy : (execOp a.eval op).run P w = .ok (.value v) w) (h : wpList P ops Q rest (a.put op.dst v) w) : wpList P ops Q (op :: rest) a w := by
  unfold wpList
  rw [if_pos hw]
  left
  unfold Oper.wp
  rw [hy]
  exact h
theorem wpList_skipG {P : Program} {ops : Array Oper} {rest : List Oper} {op : Oper} {a : Act} {w : World} {Q : Exit → Act → World → Prop} (hw : Region.wanted op (yielded ops a.tmps) = false)
    (h : wpList P ops Q rest (a.put op.dst undef) w) : wpList P ops Q (op :: rest) a w := by
  unfold wpList
  rw [if_neg (by rw [hw]; simp)]
  exact h
theorem wpList_onG {P : Program} {ops : Array Oper} {rest : List Oper} {op : Oper} {a : Act} {w : World} {Q : Exit → Act → World → Prop} (hw : Region.wanted op (yielded ops a.tmps) = true)
    (h : op.wp P a w (wpList P ops Q rest) Q) : wpList P ops Q (op :: rest) a w := by
  unfold wpList
  rw [if_pos hw]
  exact .inl h
theorem exec_neq16 {op : Oper} {a : Act} {w : World} (p q : Operand) (r : TypeId) (ho : op.op = .binOp .neq 26 p q r) (x y : List Nat) (hp : a.eval p = .agg (bytesV x)) (hq : a.eval q = .agg (bytesV y)) (hx : x.length = 16) (hy : y.length = 16) : (execOp a.eval op).run Tryz.prog w = .ok (.value (.bool (!decide (x = y)))) w := by
  have hgu : Tryz.prog.eqGuardType Tryz.prog.depth 26 = false := by kernel_rfl
  have h := neq16 x y hx hy w
  have hg := run_eqGuard_agg (P := Tryz.prog) w .neq 26 p q (bytesV x) (bytesV y) hgu
  unfold execOp
  simp only [ho, hp, hq, Sem.run_bind, hg, Result.andThen_ok, h, Sem.run_pure]
set_option maxRecDepth 100000 in
theorem eq4 (d : Nat) (a b : List Nat) (ha : a.length = 4) (hb : b.length = 4) (w : World) : (Op.equalIn (d + 2) 46 (.agg (bytesV a)) (.agg (bytesV b))).run Tryz.prog w = .ok (decide (a = b)) w := by
  obtain ⟨i, hi, _⟩ := info5e
  rw [run_equalIn_array w (d + 1) _ _ Tryz.underlying46 hi, cells5, eqItems_bytes d a b _ (fun i hi => by rw [List.mem_range] at hi; omega) w, eq_list a b 4 ha hb]
theorem neq4 (a b : List Nat) (ha : a.length = 4) (hb : b.length = 4) (w : World) : (binOp .neq 46 (.agg (bytesV a)) (.agg (bytesV b))).run Tryz.prog w = .ok (.bool (!decide (a = b))) w := by
  rw [run_neq_struct, eq4 9998 a b ha hb]
  rfl
theorem exec_neq4 {op : Oper} {a : Act} {w : World} (p q : Operand) (r : TypeId) (ho : op.op = .binOp .neq 46 p q r) (x y : List Nat) (hp : a.eval p = .agg (bytesV x)) (hq : a.eval q = .agg (bytesV y)) (hx : x.length = 4) (hy : y.length = 4) : (execOp a.eval op).run Tryz.prog w = .ok (.value (.bool (!decide (x = y)))) w := by
  have hgu : Tryz.prog.eqGuardType Tryz.prog.depth 46 = false := by kernel_rfl
  have h := neq4 x y hx hy w
  have hg := run_eqGuard_agg (P := Tryz.prog) w .neq 46 p q (bytesV x) (bytesV y) hgu
  unfold execOp
  simp only [ho, hp, hq, Sem.run_bind, hg, Result.andThen_ok, h, Sem.run_pure]
end Go.Proofs.YtnlgbopdbihnjaaGreatDoor
/-
  The document's Name, Tagged and Check in plain words; no Go in sight.
-/
namespace Go.Proofs.YtnlgbopdbihnjaaGreatDoor

def letB (c : UInt8) : Bool := (decide (65 ≤ c.toNat) && decide (c.toNat ≤ 90)) || (decide (97 ≤ c.toNat) && decide (c.toNat ≤ 122))
theorem ld_let (c : UInt8) : ldB c = (letB c || dgB c) := by
  unfold ldB letB
  cases dgB c <;> simp
theorem let_not {c : UInt8} (h : c = 45) : letB c = false ∧ dgB c = false := by
  subst h
  exact ⟨by decide, by decide⟩
/-- May the byte at a place not stand there? n: how many bytes of its label stand ahead of it. -/
def pwC (F a n : Nat) (c : UInt8) : Bool :=
  if letB c = false ∧ dgB c = false ∧ ¬ c = 45 ∧ ¬ (128 ≤ c.toNat ∧ a < F) then true
  else decide (63 ≤ n) || (decide (c = 45) && decide (n = 0))
theorem pwC_is (F a n : Nat) (c : UInt8) (hn : n ≤ 63) : pwC F a n c = true ↔ (n = 63 ∨ stB F a n c = false) := by
  unfold pwC stB
  rw [ld_let]
  by_cases h45 : c = 45
  · obtain ⟨h1, h2⟩ := let_not h45
    have h3 : ¬ 128 ≤ c.toNat := by subst h45; decide
    rw [if_neg (by rintro ⟨-, -, h, -⟩; exact h h45), h1, h2, decide_eq_true h45, decide_eq_false h3]
    simp
    omega
  · rw [decide_eq_false h45]
    by_cases hh : 128 ≤ c.toNat ∧ a < F
    · rw [if_neg (by rintro ⟨-, -, -, h⟩; exact h hh), decide_eq_true hh.1, decide_eq_true hh.2]
      simp
      omega
    · have h4 : (decide (128 ≤ c.toNat) && decide (a < F)) = false := by
        rw [Bool.and_eq_false_iff, decide_eq_false_iff_not, decide_eq_false_iff_not]
        by_cases h : 128 ≤ c.toNat
        · exact .inr fun h' => hh ⟨h, h'⟩
        · exact .inl h
      rw [h4]
      cases h1 : letB c
      · cases h2 : dgB c
        · rw [if_pos ⟨rfl, rfl, h45, hh⟩]
          simp
        · rw [if_neg (by rintro ⟨-, h, -⟩; cases h)]
          simp
          omega
      · rw [if_neg (by rintro ⟨h, -⟩; cases h)]
        simp
        omega
/-- Whether a text's place i is wrong, its label beginning at b. -/
def pw (F : Nat) (s : List UInt8) (b i : Nat) : Bool :=
  match s[i]? with
  | none => decide (i = b) || decide (s[i - 1]? = some 45)
  | some c => if c = 46 then decide (i = b) || decide (s[i - 1]? = some 45) else pwC F i (i - b) c
/-- How far the document's search has come. -/
structure NmAt (F : Nat) (s : List UInt8) (b i : Nat) (h : Bool) : Prop where
  le : b ≤ i
  most : i - b ≤ 63
  hyp : b < i → h = decide (s[i - 1]? = some 45)
  is : wdGo F 0 0 false s = wdGo F i (i - b) h (s.drop i)
theorem NmAt.start (F : Nat) (s : List UInt8) : NmAt F s 0 0 false := ⟨Nat.le_refl _, Nat.zero_le _, fun h => absurd h (by omega), by rw [List.drop_zero]⟩
theorem pw_end {s : List UInt8} {b i : Nat} {h : Bool} (hb : b ≤ i) (hh : b < i → h = decide (s[i - 1]? = some 45)) : (decide (i = b) || decide (s[i - 1]? = some 45)) = false ↔ (0 < i - b ∧ h = false) := by
  by_cases e : i = b
  · rw [decide_eq_true e]
    simp
    omega
  · have := hh (by omega)
    rw [decide_eq_false e, Bool.false_or, ← this]
    constructor
    · intro h; exact ⟨by omega, h⟩
    · exact fun h => h.2
theorem NmAt.wrong {F : Nat} {s : List UInt8} {b i : Nat} {h : Bool} (H : NmAt F s b i h) (hw : pw F s b i = true) : wdGo F 0 0 false s = some i := by
  rw [H.is]
  rcases Nat.lt_or_ge i s.length with hl | hl
  · rw [List.drop_eq_getElem_cons hl, wdGo]
    unfold pw at hw
    rw [List.getElem?_eq_getElem hl] at hw
    dsimp only at hw
    split at hw
    · rename_i hc
      rw [if_pos hc, if_neg]
      intro h'
      rw [(pw_end H.le H.hyp).2 h'] at hw
      cases hw
    · rename_i hc
      rw [if_neg hc, if_pos ((pwC_is F i (i - b) _ H.most).1 hw)]
  · rw [List.drop_eq_nil_of_le hl, wdGo]
    unfold pw at hw
    rw [List.getElem?_eq_none hl] at hw
    dsimp only at hw
    rw [if_neg]
    intro h'
    rw [(pw_end H.le H.hyp).2 h'] at hw
    cases hw
theorem NmAt.last {F : Nat} {s : List UInt8} {b i : Nat} {h : Bool} (H : NmAt F s b i h) (hi : i = s.length) (hw : pw F s b i = false) : wdGo F 0 0 false s = none := by
  rw [H.is, List.drop_eq_nil_of_le (by omega), wdGo]
  unfold pw at hw
  rw [List.getElem?_eq_none (by omega)] at hw
  dsimp only at hw
  rw [if_pos ((pw_end H.le H.hyp).1 hw)]
theorem NmAt.dot {F : Nat} {s : List UInt8} {b i : Nat} {h : Bool} (H : NmAt F s b i h) (hi : i < s.length) (hc : s[i] = 46) (hw : pw F s b i = false) : NmAt F s (i + 1) (i + 1) false := by
  refine ⟨Nat.le_refl _, by omega, fun h => absurd h (by omega), ?_⟩
  rw [H.is, List.drop_eq_getElem_cons hi, wdGo, if_pos hc]
  unfold pw at hw
  rw [List.getElem?_eq_getElem hi] at hw
  dsimp only at hw
  rw [if_pos hc] at hw
  rw [if_pos ((pw_end H.le H.hyp).1 hw), Nat.sub_self]
theorem NmAt.next {F : Nat} {s : List UInt8} {b i : Nat} {h : Bool} (H : NmAt F s b i h) (hi : i < s.length) (hc : ¬ s[i] = 46) (hw : pw F s b i = false) : NmAt F s b (i + 1) (decide (s[i] = 45)) := by
  unfold pw at hw
  rw [List.getElem?_eq_getElem hi] at hw
  dsimp only at hw
  rw [if_neg hc] at hw
  have hn : ¬ (i - b = 63 ∨ stB F i (i - b) s[i] = false) := fun h' => by rw [(pwC_is F i (i - b) _ H.most).2 h'] at hw; cases hw
  have hle := H.le
  have hm := H.most
  refine ⟨by omega, by omega, fun _ => ?_, ?_⟩
  · rw [Nat.add_sub_cancel, List.getElem?_eq_getElem hi]
    rw [Bool.eq_iff_iff]
    simp
  · rw [H.is, List.drop_eq_getElem_cons hi, wdGo, if_neg hc, if_neg hn, show i + 1 - b = i - b + 1 from by omega]

/-- The place that is wrong with a tag, a colon and a text. -/
def tgD (t : List UInt8) : Option Nat :=
  if spB lbB t < t.length ∧ ¬ t[spB lbB t]? = some 58 then some (spB lbB t)
  else if spB lbB t = t.length ∨ spB lbB t = 0 ∨ t[spB lbB t - 1]? = some 45 then some (spB lbB t)
  else if spB lbB t + 1 + spB plB (t.drop (spB lbB t + 1)) < t.length then some (spB lbB t + 1 + spB plB (t.drop (spB lbB t + 1)))
  else if spB lbB t + 1 = t.length then some t.length
  else none
theorem spB_stop (f : UInt8 → Bool) : ∀ (l : List UInt8) (h : spB f l < l.length), f l[spB f l] = false
  | [], h => by simp at h
  | c :: r, h => by
    cases hc : f c
    · have e : spB f (c :: r) = 0 := by rw [spB, if_neg (by rw [hc]; decide)]
      simp only [e]
      exact hc
    · have e : spB f (c :: r) = spB f r + 1 := by rw [spB, if_pos hc]
      simp only [e]
      rw [e, List.length_cons] at h
      exact spB_stop f r (by omega)
theorem spB_pre (f : UInt8 → Bool) : ∀ (l : List UInt8) (j : Nat) (h : j < l.length), j < spB f l → f l[j] = true
  | [], j, h, _ => by simp at h
  | c :: r, j, h, h' => by
    cases hc : f c
    · have e : spB f (c :: r) = 0 := by rw [spB, if_neg (by rw [hc]; decide)]
      omega
    · have e : spB f (c :: r) = spB f r + 1 := by rw [spB, if_pos hc]
      cases j with
      | zero => exact hc
      | succ j =>
        rw [List.getElem_cons_succ]
        exact spB_pre f r j _ (by omega)
theorem spB_eq (f : UInt8 → Bool) (l : List UInt8) (k : Nat) (hk : k ≤ l.length) (h1 : ∀ j (h : j < l.length), j < k → f l[j] = true) (h2 : ∀ h : k < l.length, f l[k] = false) : spB f l = k := by
  have hle := spB_le f l
  rcases Nat.lt_trichotomy (spB f l) k with h | h | h
  · have a := spB_stop f l (by omega)
    rw [h1 _ (by omega) h] at a
    cases a
  · exact h
  · have a := spB_pre f l k (by omega) h
    rw [h2 (by omega)] at a
    cases a
theorem colon_some : ∀ {t : List UInt8} {k : Nat}, colonAt t = some k → ∃ h : k < t.length, t[k] = 58 ∧ ∀ j (h' : j < t.length), j < k → t[j] ≠ 58
  | [], k, h => by cases h
  | c :: r, k, h => by
    rw [colonAt] at h
    by_cases hc : c = 58
    · rw [if_pos hc] at h
      cases h
      exact ⟨by simp, hc, fun j _ h => absurd h (by omega)⟩
    · rw [if_neg hc] at h
      cases hr : colonAt r with
      | none => rw [hr] at h; cases h
      | some q =>
        rw [hr] at h
        obtain rfl : q + 1 = k := by simpa using h
        obtain ⟨h1, h2, h3⟩ := colon_some hr
        refine ⟨by simp; omega, by simpa using h2, fun j hj hjk => ?_⟩
        cases j with
        | zero => exact hc
        | succ j => exact h3 j (by simpa using hj) (by omega)
theorem colon_none : ∀ {t : List UInt8}, colonAt t = none → ∀ j (h' : j < t.length), t[j] ≠ 58
  | [], _, j, h => by simp at h
  | c :: r, h, j, hj => by
    rw [colonAt] at h
    by_cases hc : c = 58
    · rw [if_pos hc] at h; cases h
    · rw [if_neg hc] at h
      cases j with
      | zero => exact hc
      | succ j => exact colon_none (by simpa using h) j (by simpa using hj)
theorem tgD_none {t : List UInt8} (h : colonAt t = none) : ∃ p, tgD t = some p := by
  unfold tgD
  by_cases h1 : spB lbB t < t.length
  · refine ⟨_, if_pos ⟨h1, ?_⟩⟩
    rw [List.getElem?_eq_getElem h1]
    intro e
    exact colon_none h _ h1 (by simpa using e)
  · have := spB_le lbB t
    refine ⟨spB lbB t, ?_⟩
    rw [if_neg (fun h => h1 h.1), if_pos (.inl (by omega))]
theorem lb_colon : lbB 58 = false := by decide
theorem spB_colon {t : List UInt8} {k : Nat} (h : colonAt t = some k) : spB lbB (t.take k) = spB lbB t ∧ spB lbB t ≤ k := by
  obtain ⟨hk, h1, h2⟩ := colon_some h
  have hle : spB lbB t ≤ k := by
    rcases Nat.lt_or_ge k (spB lbB t) with h' | h'
    · have := spB_pre lbB t k hk h'
      rw [h1, lb_colon] at this
      cases this
    · exact h'
  refine ⟨spB_eq lbB _ _ (by rw [List.length_take]; omega) (fun j hj h' => ?_) (fun hh => ?_), hle⟩
  · rw [List.getElem_take]
    exact spB_pre lbB t j _ h'
  · rw [List.getElem_take]
    rw [List.length_take] at hh
    exact spB_stop lbB t (by omega)
/-- What is wrong, where there is a colon. -/
theorem tgD_some {t : List UInt8} {k : Nat} (h : colonAt t = some k) : tagged t k = match tgD t with
    | none => (0, 0)
    | some p => (83, p) := by
  obtain ⟨hk, h1, h2⟩ := colon_some h
  obtain ⟨h3, h4⟩ := spB_colon h
  unfold tagged tgD
  rw [h3]
  rcases Nat.lt_or_ge (spB lbB t) k with hlt | hge
  · rw [if_pos (.inl hlt), if_pos ⟨by omega, by rw [List.getElem?_eq_getElem (by omega)]; intro e; exact h2 _ (by omega) hlt (by simpa using e)⟩]
  · have e : spB lbB t = k := by omega
    have n1 : ¬ (k < t.length ∧ ¬ t[k]? = some 58) := fun h => h.2 (by rw [List.getElem?_eq_getElem hk, h1])
    rw [e, if_neg n1]
    by_cases ha : k = 0 ∨ t[k - 1]? = some 45
    · rw [if_pos (.inr ha), if_pos (.inr ha)]
    · have n2 : ¬ (k < k ∨ k = 0 ∨ t[k - 1]? = some 45) := fun h => h.elim (by omega) ha
      have n3 : ¬ (k = t.length ∨ k = 0 ∨ t[k - 1]? = some 45) := fun h => h.elim (by omega) ha
      rw [if_neg n2, if_neg n3]
      have hl := spB_le plB (t.drop (k + 1))
      rw [List.length_drop] at hl
      by_cases hb : k + 1 + spB plB (t.drop (k + 1)) < t.length
      · rw [if_pos (.inl hb), if_pos hb]
      · rw [if_neg hb]
        by_cases hz : k + 1 = t.length
        · have e0 : spB plB (t.drop (k + 1)) = 0 := by omega
          rw [if_pos (.inr e0), if_pos hz, e0, Nat.add_zero, hz]
        · have n4 : ¬ (k + 1 + spB plB (t.drop (k + 1)) < t.length ∨ spB plB (t.drop (k + 1)) = 0) := by omega
          rw [if_neg n4, if_neg hz]

/-- The document's Check. -/
def ckD (h : Ho) (wide : Bool) : Nat :=
  if h.k < 1 ∨ 4 < h.k then 2
  else if (h.k = 2 ∨ h.k = 3) ∧ ¬ h.n = [] then 2
  else if (h.k = 1 ∨ h.k = 4) ∧ ¬ h.a = z16 then 2
  else if h.k = 2 ∧ ¬ h.a.drop 4 = List.replicate 12 0 then 2
  else if h.k = 1 then (wd wide h.n).1
  else if h.k = 4 ∧ 253 < h.n.length then 82
  else if h.k = 4 ∧ (¬ tgD h.n = none ∨ sixB h.n = true) then 83
  else 0
theorem ckD_is (h : Ho) (hl : h.a.length = 16) (wide : Bool) : ckD h wide = check h wide := by
  unfold ckD check
  by_cases k1 : h.k = 1
  · have a1 : ¬ (h.k < 1 ∨ 4 < h.k) := by omega
    have a2 : ¬ ((h.k = 2 ∨ h.k = 3) ∧ ¬ h.n = []) := by omega
    have a4 : ¬ (h.k = 2 ∧ ¬ h.a.drop 4 = List.replicate 12 0) := by omega
    rw [if_neg a1, if_neg a2, if_neg a4]
    simp only [if_pos k1]
    by_cases ha : h.a = z16
    · rw [if_neg (fun h => h.2 ha), if_pos ha]
    · rw [if_pos ⟨.inl k1, ha⟩, if_neg ha]
  simp only [if_neg k1]
  by_cases k2 : h.k = 2
  · have a1 : ¬ (h.k < 1 ∨ 4 < h.k) := by omega
    have a3 : ¬ ((h.k = 1 ∨ h.k = 4) ∧ ¬ h.a = z16) := by omega
    have a5 : ¬ (h.k = 4 ∧ 253 < h.n.length) := by omega
    have a6 : ¬ (h.k = 4 ∧ (¬ tgD h.n = none ∨ sixB h.n = true)) := by omega
    rw [if_neg a1, if_neg a3, if_neg a5, if_neg a6, if_pos k2]
    by_cases hn : h.n = []
    · rw [if_neg (fun h => h.2 hn)]
      by_cases hd : h.a.drop 4 = List.replicate 12 0
      · rw [if_neg (fun h => h.2 hd), if_pos]
        obtain ⟨k, n, a⟩ := h
        dsimp only at k2 hn hd ⊢
        unfold fourH
        rw [k2, hn, ← hd, List.take_append_drop]
      · rw [if_pos ⟨k2, hd⟩, if_neg]
        intro e
        have : h.a = h.a.take 4 ++ List.replicate 12 0 := congrArg Ho.a e
        have e2 := congrArg (List.drop 4) this
        have hd4 : (h.a.take 4).drop 4 = [] := List.drop_eq_nil_of_le (by rw [List.length_take]; omega)
        rw [List.drop_append_of_le_length (by rw [List.length_take]; omega), hd4, List.nil_append] at e2
        exact hd e2
    · rw [if_pos ⟨.inl k2, hn⟩, if_neg]
      intro e
      exact hn (congrArg Ho.n e)
  simp only [if_neg k2]
  by_cases k3 : h.k = 3
  · have a1 : ¬ (h.k < 1 ∨ 4 < h.k) := by omega
    have a3 : ¬ ((h.k = 1 ∨ h.k = 4) ∧ ¬ h.a = z16) := by omega
    have a4 : ¬ (h.k = 2 ∧ ¬ h.a.drop 4 = List.replicate 12 0) := by omega
    have a5 : ¬ (h.k = 4 ∧ 253 < h.n.length) := by omega
    have a6 : ¬ (h.k = 4 ∧ (¬ tgD h.n = none ∨ sixB h.n = true)) := by omega
    rw [if_neg a1, if_neg a3, if_neg a4, if_neg a5, if_neg a6, if_pos k3]
    by_cases hn : h.n = []
    · rw [if_neg (fun h => h.2 hn), if_pos hn]
    · rw [if_pos ⟨.inr k3, hn⟩, if_neg hn]
  simp only [if_neg k3]
  by_cases k4 : h.k = 4
  · have a1 : ¬ (h.k < 1 ∨ 4 < h.k) := by omega
    have a2 : ¬ ((h.k = 2 ∨ h.k = 3) ∧ ¬ h.n = []) := by omega
    have a4 : ¬ (h.k = 2 ∧ ¬ h.a.drop 4 = List.replicate 12 0) := by omega
    rw [if_neg a1, if_neg a2, if_neg a4, if_pos k4]
    by_cases ha : h.a = z16
    · rw [if_neg (fun h => h.2 ha), if_pos ha]
      unfold chTag
      by_cases hz : 253 < h.n.length
      · rw [if_pos ⟨k4, hz⟩, if_pos hz]
      · rw [if_neg (fun h => hz h.2), if_neg hz]
        cases hc : colonAt h.n with
        | none =>
          obtain ⟨p, hp⟩ := tgD_none hc
          rw [if_pos ⟨k4, .inl (by rw [hp]; simp)⟩]
        | some k =>
          dsimp only
          rw [tgD_some hc]
          cases ht : tgD h.n with
          | none =>
            cases h6 : sixB h.n
            · rw [if_neg (fun h => h.2.elim (fun h => h rfl) (fun h => by cases h))]
              rfl
            · rw [if_pos ⟨k4, .inr rfl⟩]
              rfl
          | some p =>
            rw [if_pos ⟨k4, .inl (by simp)⟩]
            cases sixB h.n <;> rfl
    · rw [if_pos ⟨.inr k4, ha⟩, if_neg ha]
  have a1 : h.k < 1 ∨ 4 < h.k := by omega
  rw [if_pos a1, if_neg k4]
end Go.Proofs.YtnlgbopdbihnjaaGreatDoor
