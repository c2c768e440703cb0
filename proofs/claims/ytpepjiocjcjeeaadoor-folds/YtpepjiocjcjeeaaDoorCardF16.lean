/-
  What a row's list with three tables gives the walks; a world for the witnesses.
-/
import Derived.Test.YtpepjiocjcjeeaaDoorCardX10
namespace Go.Proofs.YtpepjiocjcjeeaaDoor
open Go.ChangeShapes Go.WideShapes Go.ChangeAt Go.RowKit

theorem tabsF_of {W : World} (h : laidMet Tryd.prog [("unicode/utf8.acceptRanges", Rows.laid_unicode_utf8_acceptRanges), ("posthorn/octet.classes", Rows.laid_posthorn_octet_classes), ("unicode/utf8.first", Rows.laid_unicode_utf8_first)] W) (_ : W.ShapedOpen Tryd.prog) : Table W := by
  obtain ⟨ps, ⟨g0, t0, cs0, fuel0, p0, q0, hg0, ht0, hv0, hd0, ⟨g1, t1, cs1, fuel1, p1, q1, hg1, ht1, hv1, hd1, _, _⟩, _⟩, _⟩ := h
  obtain rfl := Option.some.inj (gCl.symm.trans hg1)
  obtain rfl := Option.some.inj (tCl.symm.trans ht1)
  exact table_of_trod hv1 hd1
def litCF : DataW Unit → List Value
  | .lit (.int k z) => [Value.int k z]
  | .lit (.string b) => [Value.string ⟨b.toArray⟩]
  | _ => []
def rowCF : DataW Unit → List Value
  | .agg l => l.flatMap litCF
  | d => litCF d
def datCellsF : DataW Unit → Array Value
  | .agg l => (l.flatMap rowCF).toArray
  | _ => #[]
def layCellsF (d : DataW Unit) : Obj → Obj
  | .cells _ t frozen => .cells (datCellsF d) t frozen
  | o => o
noncomputable def laidWorldF (os : Os) : World :=
  { World.holding Tryd.prog os ⟨#[], #[], []⟩ with heap := (((World.holding Tryd.prog os ⟨#[], #[], []⟩).heap.modify 2 (layCellsF Rows.laid_unicode_utf8_acceptRanges)).modify 0 (layCellsF Rows.laid_posthorn_octet_classes)).modify 1 (layCellsF Rows.laid_unicode_utf8_first) }
theorem bulk_pos {H : Type} (d : DataW H) : 0 < Rows.uptoBulk d := by
  cases d <;> first | (rename_i l; cases l <;> simp [Rows.uptoBulk]) | simp [Rows.uptoBulk]
theorem bulk_len {H : Type} : ∀ l : List (DataW H), l.length ≤ Rows.uptoBulkAll l
  | [] => Nat.zero_le _
  | d :: r => by
    have h1 := bulk_pos d
    have h2 := bulk_len r
    simp only [Rows.uptoBulkAll, List.length_cons]
    omega
theorem bulk_slice {H : Type} {el sp l : List (DataW H)} (hk : Rows.uptoSmall H l = true) (h : DataW.slice el sp ∈ l) : el.length ≤ 1048576 := by
  have h1 : Rows.uptoBulkAll l ≤ 1048576 := of_decide_eq_true hk
  have h2 := bulk_mem h
  have h3 := bulk_len el
  simp only [Rows.uptoBulk] at h2
  omega
end Go.Proofs.YtpepjiocjcjeeaaDoor
