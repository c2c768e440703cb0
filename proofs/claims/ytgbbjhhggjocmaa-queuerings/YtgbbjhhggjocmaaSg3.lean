/-
  A row of three numbers each.
-/
import Derived.Test.YtgbbjhhggjocmaaCpy
import Derived.Test.YtgbbjhhggjocmaaOpen7
namespace Go.Proofs.Ytgbbjhhggjocmaa
open Go.RowKit

theorem Sg.cell3' {w : World} {a : Option Addr} {l : List (Int × Int × Int)} (h : Sg cel3 a l w) (k : Nat) (hk : k < l.length) : ∃ g o, a = some ⟨g, o, none⟩ ∧ g < w.heap.size ∧ w.cell? ⟨g, o + k * 3, none⟩ = some (.int .i64 l[k].1) ∧ w.cell? ⟨g, o + k * 3 + 1, none⟩ = some (.int .i64 l[k].2.1) ∧ w.cell? ⟨g, o + k * 3 + 2, none⟩ = some (.int .i64 l[k].2.2) := by
  rcases h with rfl | ⟨g, o, rfl, h⟩
  · simp at hk
  · have e0 := h _ _ (flat_at cel3_length l k 0 hk (by decide))
    have e1 := h _ _ (flat_at cel3_length l k 1 hk (by decide))
    have e2 := h _ _ (flat_at cel3_length l k 2 hk (by decide))
    exact ⟨g, o, rfl, lt_of_cell e0, e0, e1, e2⟩
theorem Sg.later3' {w w' : World} {a : Option Addr} {l : List (Int × Int × Int)} (h : Sg cel3 a l w) (hb : Below w.heap.size w w') : Sg cel3 a l w' := by
  rcases h with rfl | ⟨g, o, rfl, h⟩
  · exact .inl rfl
  · exact .inr ⟨g, o, rfl, fun j v hv => by
      have := h j v hv
      exact (hb.cell (p := ⟨g, o + j, none⟩) (lt_of_cell this)).trans this⟩
end Go.Proofs.Ytgbbjhhggjocmaa
