/-
  What was told, read.
-/
import Derived.Test.YthjcjecimidedaaAn13
namespace Go.Proofs.Ythjcjecimidedaa
open Go.RowKit

theorem td_elem {w : World} {g n c : Nat} {l : List Td} (h : Ow celT 51 4 w (.slice (some ⟨g, 0, none⟩) n c) l) (i : Nat) (hi : i < l.length) : w.cell? ⟨g, i * 4, none⟩ = some (.int .i64 (kdI l[i].i)) ∧ w.cell? ⟨g, i * 4 + 1, none⟩ = some (.string ⟨(txI l[i].i).toArray⟩) ∧ w.cell? ⟨g, i * 4 + 2, none⟩ = some (.int .i64 (yI l[i].i)) ∧ w.cell? ⟨g, i * 4 + 3, none⟩ = some (.int .i64 (l[i].n : Int)) := by
  have hl : (l.flatMap celT).length = l.length * 4 := flat_length celT_length l
  refine ⟨?_, ?_, ?_, ?_⟩
  · rw [h.cells (i * 4) (by omega)]; exact flat_at celT_length l i 0 hi (by decide)
  · rw [h.cells (i * 4 + 1) (by omega)]; exact flat_at celT_length l i 1 hi (by decide)
  · rw [h.cells (i * 4 + 2) (by omega)]; exact flat_at celT_length l i 2 hi (by decide)
  · rw [h.cells (i * 4 + 3) (by omega)]; exact flat_at celT_length l i 3 hi (by decide)

theorem ints_below {a : Option Addr} {zs : List Int} {w w' : World} {B : Nat} (h : IntsB a zs w) (hb : Below B w w') (hB : w.heap.size ≤ B) : IntsB a zs w' := by
  refine ⟨?_, h.2⟩
  rcases h.1 with e | ⟨g, o, e, hg, hc⟩
  · exact .inl e
  · exact .inr ⟨g, o, e, Nat.lt_of_lt_of_le hg (by have := hb.size; omega), fun j hj => (hb.cell (p := ⟨g, o + j, none⟩) (by show g < B; omega)).trans (hc j hj)⟩
end Go.Proofs.Ythjcjecimidedaa
