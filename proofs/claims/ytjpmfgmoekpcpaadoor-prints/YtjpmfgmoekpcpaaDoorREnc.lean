/-
  The document's Encode.
-/
import Derived.Test.YtjpmfgmoekpcpaaDoorRUt
import Derived.Test.YtjpmfgmoekpcpaaDoorBase2
import Derived.Test.YtjpmfgmoekpcpaaDoorGrown
namespace Go.Proofs.YtjpmfgmoekpcpaaDoor
open Go.RowKit

theorem noR_take (l : List Int) (k : Nat) (hk : k < l.length) (h : ∀ j (hj : j < l.length), j < k → isR l[j]) (hr : ¬ isR l[k]) : noR l = k := by
  induction l generalizing k with
  | nil => simp at hk
  | cons x t ih =>
    cases k with
    | zero => simp only [noR]; rw [if_neg (by simpa using hr)]
    | succ k =>
      simp only [noR]
      rw [if_pos (show isR x from h 0 (by simp) (by omega))]
      congr 1
      exact ih k (by simpa using hk) (fun j hj hjk => h (j + 1) (by simp; omega) (by omega)) (by simpa using hr)
theorem noR_full (l : List Int) (h : ∀ j (hj : j < l.length), isR l[j]) : noR l = l.length := by
  rw [noR_all]
  intro r hr
  obtain ⟨j, hj, rfl⟩ := List.getElem_of_mem hr
  exact h j hj

theorem bts_new (w : World) (l : List UInt8) : Bts (some ⟨w.heap.size, 0, none⟩) l (w.alloc (.cells (rowV l) 5)) := by
  refine .inr ⟨w.heap.size, 0, rfl, by simp, fun j hj => ?_⟩
  rw [Nat.zero_add, (Lies.new w (rowV l) 5).cell j, rowV_at l j hj]

end Go.Proofs.YtjpmfgmoekpcpaaDoor
