/-
  What the row's list gives the walks: the table of classes lies in its variable, a row a class.
-/
import Derived.Test.YtdgbkllhcoincaaDoorIs
import Derived.Test.YtdgbkllhcoincaaDoorRows
import Derived.ProofKit
import Derived.OpenShut
import Derived.Lib.LaidTab
namespace Go.Proofs.YtdgbkllhcoincaaDoor
open Go.ChangeShapes Go.WideShapes Go.ChangeAt Go.RowKit

theorem gCl : Tryd.prog.globalNamed "posthorn/octet.classes" = some 0 := by kernel_rfl
theorem tCl : (Tryd.prog.globals[(0 : Nat)]?).map (·.type) = some 52 := by kernel_rfl
theorem cellsCl : Tryd.prog.cellsOf 52 = 15 := by kernel_rfl
theorem cellsStr : Tryd.prog.cellsOf 9 = 1 := by kernel_rfl

theorem laid_rows : (Rows.laid_posthorn_octet_classes : DataW Unit) = .agg (classRows.map fun l => .lit (.string l)) := rfl

theorem table_of_trod {enc : TypeId × Value → Unit} {W : World} {base : Nat} {sp : Nat → Bool} {held : Bool} {cs : Array Value} {fuel : Nat} {p : List MemPlace}
    (hv : W.var? Tryd.prog "posthorn/octet.classes" = some cs)
    (hd : DataW.trod enc Tryd.prog W base sp held fuel 52 cs.toList = some (Rows.laid_posthorn_octet_classes, p)) : Table W := by
  obtain ⟨xs, m, _, hx, hlen, hn, hel⟩ := DataW.trod_array Tryd.underlying52 hd
  rw [laid_rows] at hx
  simp only [Prod.mk.injEq, DataW.agg.injEq] at hx
  obtain ⟨hx, -⟩ := hx
  intro c hc
  have h1 := hel c hc
  have hxc : c < xs.length := by omega
  rw [List.getElem?_eq_getElem hxc] at h1
  obtain ⟨s, e1, e2, _⟩ := DataW.trod_string Tryd.underlying9 h1
  have h2 := congrArg (fun l => l[c]?) hx
  simp only [List.getElem?_map, List.getElem?_eq_getElem hxc, Option.map_some, e2] at h2
  have hcl : c < classRows.length := hc
  rw [List.getElem?_eq_getElem hcl] at h2
  simp only [Option.map_some, Option.some.injEq, DataW.lit.injEq, Lit.string.injEq] at h2
  have h3 := World.var?_cell gCl hv c
  rw [h3]
  rw [cellsStr, Nat.mul_one] at e1
  have h4 := congrArg (fun l => l[0]?) e1
  simp only [List.getElem?_take, List.getElem?_drop] at h4
  have h5 : cs[c]? = some (.string s) := by simpa using h4
  rw [h5]
  have h6 : classRows.getD c [] = s.data.toList := by
    rw [List.getD_eq_getElem?_getD, List.getElem?_eq_getElem hcl, Option.getD_some, h2]
  rw [h6]

/-- The table stands first on the list. -/
theorem table_of_head {W : World} {rest : List (String × DataW Unit)} (h : laidMet Tryd.prog (("posthorn/octet.classes", Rows.laid_posthorn_octet_classes) :: rest) W) : Table W := by
  obtain ⟨ps, ⟨g, t, cs, fuel, p, q, hg, ht, hv, hd, _, _⟩, _⟩ := h
  obtain rfl := Option.some.inj (gCl.symm.trans hg)
  obtain rfl := Option.some.inj (tCl.symm.trans ht)
  exact table_of_trod hv hd

/-- The table stands fourth on the list. -/
theorem table_of_fourth {W : World} {a b c : String × DataW Unit} (h : laidMet Tryd.prog [a, b, c, ("posthorn/octet.classes", Rows.laid_posthorn_octet_classes)] W) : Table W := by
  obtain ⟨ps, ⟨_, _, _, _, _, _, _, _, _, _, ⟨_, _, _, _, _, _, _, _, _, _, ⟨_, _, _, _, _, _, _, _, _, _, ⟨g, t, cs, fuel, p, q, hg, ht, hv, hd, _, _⟩, _⟩, _⟩, _⟩, _⟩ := h
  obtain rfl := Option.some.inj (gCl.symm.trans hg)
  obtain rfl := Option.some.inj (tCl.symm.trans ht)
  exact table_of_trod hv hd
end Go.Proofs.YtdgbkllhcoincaaDoor
