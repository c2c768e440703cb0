/-
  What a row's list gives the walks: the tables; a world for the witnesses; dates that came in.
-/
import Derived.Test.YtedfnebadenmdabDoorRdr6
import Derived.Test.YtedfnebadenmdabDoorRows
import Derived.Test.YtedfnebadenmdabDoorCards
import Derived.Test.YtedfnebadenmdabDoorTie
import Derived.ProofKit
import Derived.OpenShut
import Derived.Lib.LaidTab
import Derived.Deep.DeepHandedRow
import Derived.ShutString
import Derived.SizedLaws
import Derived.ChangeOld
import Derived.ChangeMaps5
namespace Go.Proofs.YtedfnebadenmdabDoor
open Go.ChangeShapes Go.WideShapes Go.ChangeAt Go.RowKit

theorem gCl : Tryd.prog.globalNamed "posthorn/octet.classes" = some 2 := by kernel_rfl
theorem tCl : (Tryd.prog.globals[(2 : Nat)]?).map (·.type) = some 94 := by kernel_rfl
theorem cellsStr : Tryd.prog.cellsOf 9 = 1 := by kernel_rfl
theorem gAh : Tryd.prog.globalNamed "posthorn/date.ahead" = some 0 := by kernel_rfl
theorem tAh : (Tryd.prog.globals[(0 : Nat)]?).map (·.type) = some 72 := by kernel_rfl
theorem cells16 : Tryd.prog.cellsOf 23 = 1 := by kernel_rfl
theorem cells8 : Tryd.prog.cellsOf 24 = 1 := by kernel_rfl
theorem gZn : Tryd.prog.globalNamed "posthorn/date.zoneNames" = some 1 := by kernel_rfl
theorem tZn : (Tryd.prog.globals[(1 : Nat)]?).map (·.type) = some 93 := by kernel_rfl
theorem cellsZ : Tryd.prog.cellsOf 92 = 2 := by kernel_rfl
theorem cellsZn : Tryd.prog.cellsOf 93 = 20 := by kernel_rfl

theorem laid_rows : (Rows.laid_posthorn_octet_classes : DataW Unit) = .agg (classRows.map fun l => .lit (.string l)) := rfl
def aheadL : List Int := [0, 31, 59, 90, 120, 151, 181, 212, 243, 273, 304, 334, 365]
theorem laid_ah : (Rows.laid_posthorn_date_ahead : DataW Unit) = .agg (aheadL.map fun x => .lit (.int .i16 x)) := rfl
theorem laid_zn : (Rows.laid_posthorn_date_zoneNames : DataW Unit) = .agg (zoneRows.map fun r => .agg [.lit (.string r.1), .lit (.int .i16 r.2)]) := rfl

theorem table_of_trod {enc : TypeId × Value → Unit} {W : World} {base : Nat} {sp : Nat → Bool} {held : Bool} {cs : Array Value} {fuel : Nat} {p : List MemPlace}
    (hv : W.var? Tryd.prog "posthorn/octet.classes" = some cs)
    (hd : DataW.trod enc Tryd.prog W base sp held fuel 94 cs.toList = some (Rows.laid_posthorn_octet_classes, p)) : Table W := by
  obtain ⟨xs, m, _, hx, hlen, hn, hel⟩ := DataW.trod_array Tryd.underlying94 hd
  rw [laid_rows] at hx
  simp only [Prod.mk.injEq, DataW.agg.injEq] at hx
  obtain ⟨hx, -⟩ := hx
  intro c hc
  have h1 := hel c hc
  have hxc : c < xs.length := by omega
  rw [List.getElem?_eq_getElem hxc] at h1
  obtain ⟨s, e1, e2, _⟩ := DataW.trod_string Tryd.underlying9 h1
  have h2 := congrArg (fun l => l[c]?) hx
  simp only [List.getElem?_map, List.getElem?_eq_getElem hxc, Option.map_some, e2] at h2
  have hcl : c < classRows.length := hc
  rw [List.getElem?_eq_getElem hcl] at h2
  simp only [Option.map_some, Option.some.injEq, DataW.lit.injEq, Lit.string.injEq] at h2
  have h3 := World.var?_cell gCl hv c
  rw [h3]
  rw [cellsStr, Nat.mul_one] at e1
  have h4 := congrArg (fun l => l[0]?) e1
  simp only [List.getElem?_take, List.getElem?_drop] at h4
  have h5 : cs[c]? = some (.string s) := by simpa using h4
  rw [h5]
  have h6 : classRows.getD c [] = s.data.toList := by
    rw [List.getD_eq_getElem?_getD, List.getElem?_eq_getElem hcl, Option.getD_some, h2]
  rw [h6]
theorem ahead_fin : ∀ c : Fin 13, aheadL[c.val]? = some (aheadN ((c.val : Int) + 1)) := by decide
theorem ahd_of_trod {enc : TypeId × Value → Unit} {W : World} {base : Nat} {sp : Nat → Bool} {held : Bool} {cs : Array Value} {fuel : Nat} {p : List MemPlace}
    (hv : W.var? Tryd.prog "posthorn/date.ahead" = some cs)
    (hd : DataW.trod enc Tryd.prog W base sp held fuel 72 cs.toList = some (Rows.laid_posthorn_date_ahead, p)) : Ahd W := by
  obtain ⟨xs, m, _, hx, hlen, hn, hel⟩ := DataW.trod_array Tryd.underlying72 hd
  rw [laid_ah] at hx
  simp only [Prod.mk.injEq, DataW.agg.injEq] at hx
  obtain ⟨hx, -⟩ := hx
  intro c hc
  have h1 := hel c hc
  have hxc : c < xs.length := by omega
  rw [List.getElem?_eq_getElem hxc] at h1
  obtain ⟨z, e1, e2, _⟩ := DataW.trod_int Tryd.underlying23 h1
  have h2 := congrArg (fun l => l[c]?) hx
  simp only [List.getElem?_map, List.getElem?_eq_getElem hxc, Option.map_some, e2, ahead_fin ⟨c, hc⟩] at h2
  simp only [Option.some.injEq, DataW.lit.injEq, Lit.int.injEq, true_and] at h2
  have h3 := World.var?_cell gAh hv c
  rw [h3]
  rw [cells16, Nat.mul_one] at e1
  have h4 := congrArg (fun l => l[0]?) e1
  simp only [List.getElem?_take, List.getElem?_drop] at h4
  have h5 : cs[c]? = some (.int .i16 z) := by simpa using h4
  rw [h5, h2]
set_option maxRecDepth 100000 in
theorem znm_of_trod {enc : TypeId × Value → Unit} {W : World} {base : Nat} {sp : Nat → Bool} {held : Bool} {cs : Array Value} {fuel : Nat} {p : List MemPlace}
    (hv : W.var? Tryd.prog "posthorn/date.zoneNames" = some cs)
    (hd : DataW.trod enc Tryd.prog W base sp held fuel 93 cs.toList = some (Rows.laid_posthorn_date_zoneNames, p)) : Znm W := by
  obtain ⟨xs, m, _, hx, hlen, hn, hel⟩ := DataW.trod_array Tryd.underlying93 hd
  rw [laid_zn] at hx
  simp only [Prod.mk.injEq, DataW.agg.injEq] at hx
  obtain ⟨hx, -⟩ := hx
  have key : ∀ c, c < 10 → cs[c * 2]? = some (.string ⟨(zoneRows.getD c ([], 0)).1.toArray⟩) ∧ cs[c * 2 + 1]? = some (.int .i16 (zoneRows.getD c ([], 0)).2) := by
    intro c hc
    have h1 := hel c hc
    have hxc : c < xs.length := by omega
    rw [List.getElem?_eq_getElem hxc, cellsZ] at h1
    obtain ⟨ys, n, _, hy, hl, hyl, hf⟩ := DataW.trod_struct Tryd.underlying92 h1
    have hrow : c < zoneRows.length := hc
    have e1 := congrArg (fun l => l[c]?) hx
    simp only [List.getElem?_map, List.getElem?_eq_getElem hxc, List.getElem?_eq_getElem hrow, Option.map_some, Option.some.injEq, hy, DataW.agg.injEq] at e1
    have hgd : zoneRows.getD c ([], 0) = zoneRows[c] := by rw [List.getD_eq_getElem?_getD, List.getElem?_eq_getElem hrow, Option.getD_some]
    rw [hgd]
    have l2 : ys.length = 2 := by
      have := congrArg List.length e1
      simpa using this.symm
    have g0 := hf 0 _ rfl
    have g1 := hf 1 _ rfl
    rw [List.getElem?_eq_getElem (by omega)] at g0 g1
    obtain ⟨s, a1, a2, _⟩ := DataW.trod_string Tryd.underlying9 g0
    obtain ⟨z, b1, b2, _⟩ := DataW.trod_int Tryd.underlying23 g1
    have q0 := congrArg (fun l => l[0]?) e1
    have q1 := congrArg (fun l => l[1]?) e1
    simp only [List.getElem?_map, List.getElem?_eq_getElem (show 0 < ys.length by omega), List.getElem?_eq_getElem (show 1 < ys.length by omega), Option.map_some, a2, b2] at q0 q1
    simp at q0 q1
    have r0 := congrArg (fun l => l[0]?) a1
    have r1 := congrArg (fun l => l[0]?) b1
    simp only [List.getElem?_take, List.getElem?_drop] at r0 r1
    refine ⟨?_, ?_⟩
    · rw [q0]
      simpa [cellsStr] using r0
    · rw [q1]
      simpa [cells16] using r1
  have hsz : cs.size = 20 := by
    have := hlen
    rw [cellsZn] at this
    simpa using this
  have hcs : cs = znCells := by
    apply Array.ext_getElem?
    intro j
    by_cases hj : j < 20
    · have h := key (j / 2) (by omega)
      have hz : ∀ k : Fin 10, znCells[k.val * 2]? = some (.string ⟨(zoneRows.getD k.val ([], 0)).1.toArray⟩) ∧ znCells[k.val * 2 + 1]? = some (.int .i16 (zoneRows.getD k.val ([], 0)).2) := by
        intro k
        match k with
        | ⟨0, _⟩ => exact ⟨rfl, rfl⟩
        | ⟨1, _⟩ => exact ⟨rfl, rfl⟩
        | ⟨2, _⟩ => exact ⟨rfl, rfl⟩
        | ⟨3, _⟩ => exact ⟨rfl, rfl⟩
        | ⟨4, _⟩ => exact ⟨rfl, rfl⟩
        | ⟨5, _⟩ => exact ⟨rfl, rfl⟩
        | ⟨6, _⟩ => exact ⟨rfl, rfl⟩
        | ⟨7, _⟩ => exact ⟨rfl, rfl⟩
        | ⟨8, _⟩ => exact ⟨rfl, rfl⟩
        | ⟨9, _⟩ => exact ⟨rfl, rfl⟩
        | ⟨n + 10, h⟩ => omega
      have h' := hz ⟨j / 2, by omega⟩
      by_cases e : j % 2 = 0
      · have ej : j / 2 * 2 = j := by omega
        rw [ej] at h
        simp only [ej] at h'
        rw [h.1, h'.1]
      · have ej : j / 2 * 2 + 1 = j := by omega
        rw [ej] at h
        simp only [ej] at h'
        rw [h.2, h'.2]
    · have h20 : znCells.size = 20 := by rfl
      rw [Array.getElem?_eq_none (by omega), Array.getElem?_eq_none (by omega)]
  unfold World.var? at hv
  rw [gZn] at hv
  simp only [Option.bind_some] at hv
  split at hv
  · rename_i c t fr hh
    injection hv with hv
    rw [hv, hcs] at hh
    exact ⟨t, fr, hh⟩
  · cases hv

theorem own : ownKnob Tryd.prog.godebug = none := by kernel_rfl
theorem laidOut : laidOutB Tryd.prog = true := by kernel_rfl
theorem cell_lt {w : World} {g k : Nat} {v : Value} (h : w.cell? ⟨g, k, none⟩ = some v) : g < w.heap.size := by
  rcases Nat.lt_or_ge g w.heap.size with h' | h'
  · exact h'
  · simp [World.cell?, Array.getElem?_eq_none h'] at h
theorem tabs_of {W : World} (h : laidMet Tryd.prog [("posthorn/octet.classes", Rows.laid_posthorn_octet_classes), ("posthorn/date.ahead", Rows.laid_posthorn_date_ahead), ("posthorn/date.zoneNames", Rows.laid_posthorn_date_zoneNames)] W) (_ : W.ShapedOpen Tryd.prog) : Tbl W := by
  obtain ⟨ps, ⟨g, t, cs, fuel, p, q, hg, ht, hv, hd, ⟨g', t', cs', fuel', p', q', hg', ht', hv', hd', ⟨g2, t2, cs2, fuel2, p2, q2, hg2, ht2, hv2, hd2, _, _⟩, _⟩, _⟩, _⟩ := h
  obtain rfl := Option.some.inj (gCl.symm.trans hg)
  obtain rfl := Option.some.inj (tCl.symm.trans ht)
  obtain rfl := Option.some.inj (gAh.symm.trans hg')
  obtain rfl := Option.some.inj (tAh.symm.trans ht')
  obtain rfl := Option.some.inj (gZn.symm.trans hg2)
  obtain rfl := Option.some.inj (tZn.symm.trans ht2)
  have h1 := table_of_trod hv hd
  exact ⟨h1, ahd_of_trod hv' hd', znm_of_trod hv2 hd2, cell_lt (h1 0 (by omega))⟩

/-- A table's data as cells. -/
def litC : DataW Unit → List Value
  | .lit (.int k z) => [Value.int k z]
  | .lit (.string b) => [Value.string ⟨b.toArray⟩]
  | _ => []
def rowC : DataW Unit → List Value
  | .agg l => l.flatMap litC
  | d => litC d
def datCells : DataW Unit → Array Value
  | .agg l => (l.flatMap rowC).toArray
  | _ => #[]
def layCells (d : DataW Unit) : Obj → Obj
  | .cells _ t frozen => .cells (datCells d) t frozen
  | o => o
noncomputable def laidWorld (os : Os) : World :=
  { World.holding Tryd.prog os ⟨#[], #[], []⟩ with heap := (((((World.holding Tryd.prog os ⟨#[], #[], []⟩).heap.modify 2 (layCells Rows.laid_posthorn_octet_classes)).modify 0 (layCells Rows.laid_posthorn_date_ahead)).modify 1 (layCells Rows.laid_posthorn_date_zoneNames))) }

set_option maxRecDepth 100000 in
/-- A date that came in. -/
theorem open_date {H : Type} {enc : TypeId × Value → H} {W : World} {r : Reach} {b0 : Nat} {v : Value} {d : DataW H} {ps : List MemPlace} (hv : Value.okWide Tryd.prog W r b0 34 v) (h : DataW.Trod enc Tryd.prog W 0 (fun _ => true) true 34 v d ps) :
    ∃ x : Dt, v = dtV x ∧ x.In := by
  obtain ⟨cs, rfl, hsz⟩ := okWide_struct Tryd.underlying34 hv
  have c7 : Tryd.prog.cellsOf 34 = 7 := by kernel_rfl
  rw [c7] at hsz
  obtain ⟨fuel, hf⟩ := h
  obtain ⟨ys, n, _, _, hl, hyl, hfd⟩ := DataW.trod_struct Tryd.underlying34 hf
  have key : ∀ (i : Nat) (f : Field) (k : IntKind), Tryd.prog.underlying f.type = some (.int k) → Tryd.prog.cellsOf f.type = 1 → f.offset = i → DataW.trod enc Tryd.prog W 0 (fun _ => true) true n f.type (((Value.agg cs).cells.toList.drop f.offset).take (Tryd.prog.cellsOf f.type)) = ys[i]? → i < ys.length → ∃ z, cs[i]? = some (.int k z) ∧ (Lit.int k z).wf = true := by
    intro i f k hu hc ho ht hi
    rw [List.getElem?_eq_getElem hi] at ht
    obtain ⟨z, a1, _, a3⟩ := DataW.trod_int hu ht
    refine ⟨z, ?_, a3⟩
    rw [hc, ho] at a1
    have r0 := congrArg (fun l => l[0]?) a1
    simp only [List.getElem?_take, List.getElem?_drop] at r0
    simpa [Value.cells] using r0
  have hy7 : ys.length = 7 := hyl
  obtain ⟨z0, e0, w0⟩ := key 0 _ .i16 Tryd.underlying23 cells16 rfl (hfd 0 _ rfl) (by omega)
  obtain ⟨z1, e1, w1⟩ := key 1 _ .i8 Tryd.underlying24 cells8 rfl (hfd 1 _ rfl) (by omega)
  obtain ⟨z2, e2, w2⟩ := key 2 _ .i8 Tryd.underlying24 cells8 rfl (hfd 2 _ rfl) (by omega)
  obtain ⟨z3, e3, w3⟩ := key 3 _ .i8 Tryd.underlying24 cells8 rfl (hfd 3 _ rfl) (by omega)
  obtain ⟨z4, e4, w4⟩ := key 4 _ .i8 Tryd.underlying24 cells8 rfl (hfd 4 _ rfl) (by omega)
  obtain ⟨z5, e5, w5⟩ := key 5 _ .i8 Tryd.underlying24 cells8 rfl (hfd 5 _ rfl) (by omega)
  obtain ⟨z6, e6, w6⟩ := key 6 _ .i16 Tryd.underlying23 cells16 rfl (hfd 6 _ rfl) (by omega)
  refine ⟨⟨z0, z1, z2, z3, z4, z5, z6⟩, ?_, ⟨(bounds_i16 w0).1, (bounds_i16 w0).2, (bounds_i8 w1).1, (bounds_i8 w1).2, (bounds_i8 w2).1, (bounds_i8 w2).2, (bounds_i8 w3).1, (bounds_i8 w3).2, (bounds_i8 w4).1, (bounds_i8 w4).2, (bounds_i8 w5).1, (bounds_i8 w5).2, (bounds_i16 w6).1, (bounds_i16 w6).2⟩⟩
  unfold dtV
  congr 1
  apply Array.ext_getElem?
  intro j
  by_cases hj : j < 7
  · have hc : j = 0 ∨ j = 1 ∨ j = 2 ∨ j = 3 ∨ j = 4 ∨ j = 5 ∨ j = 6 := by omega
    rcases hc with rfl | rfl | rfl | rfl | rfl | rfl | rfl
    · exact e0
    · exact e1
    · exact e2
    · exact e3
    · exact e4
    · exact e5
    · exact e6
  · rw [Array.getElem?_eq_none (by omega), Array.getElem?_eq_none (by simp; omega)]
end Go.Proofs.YtedfnebadenmdabDoor
