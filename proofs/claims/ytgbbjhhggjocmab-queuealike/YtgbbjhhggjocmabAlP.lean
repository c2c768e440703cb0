/-
  An order by which all are alike: the first is told first.
-/
import Derived.Test.YtgbbjhhggjocmabHbG
import Derived.Test.YtgbbjhhggjocmabOpen7
namespace Go.Proofs.Ytgbbjhhggjocmab
open Go.RowKit

theorem alike_cmp : Cmp 8 false := by
  refine ⟨Go.Proofs.enters_of Try.func8 (by kernel_rfl) rfl, fun a b w => ?_⟩
  have HB : Hid (Below w.heap.size w ((w.alloc (.cells #[.int .i64 a.1, .int .i64 a.2] 27)).alloc (.cells #[.int .i64 b.1, .int .i64 b.2] 27))) := ((Below.refl _ _).alloc (Nat.le_refl _) _).alloc (by simp) _
  unfold vTh kap
  go_enter Try.func8, Try.ntmps8
  go_wp2
  go_ret
  exact ⟨0, rfl, by simp, by simp, HB.out⟩
theorem lst_false : ∀ (M : List En) (e : En), (∀ x ∈ M, e.2 < x.2) → lst false e M = e
  | [], e, _ => rfl
  | x :: r, e, h => by
    unfold lst
    have h1 := h x List.mem_cons_self
    rw [if_neg (by unfold bf kap; simp; omega)]
    exact lst_false r e (fun y hy => h y (List.mem_cons_of_mem _ hy))
theorem top_false {M : List En} (h : Inc M) : topM false M = (M.map (·.1)).headD (0, 0) := by
  cases M with
  | nil => rfl
  | cons e M => show (lst false e M).1 = e.1; rw [lst_false M e (List.pairwise_cons.1 h).1]
theorem res_false {M : List En} (h : Inc M) : (resM false M).map (·.1) = (M.map (·.1)).tail := by
  cases M with
  | nil => rfl
  | cons e M => show ((e :: M).erase (lst false e M)).map (·.1) = M.map (·.1); rw [lst_false M e (List.pairwise_cons.1 h).1, List.erase_cons_head]
theorem Sg.cell3 {w : World} {a : Option Addr} {l : List (Int × Int × Int)} (h : Sg cel3 a l w) (k : Nat) (hk : k < l.length) : ∃ g o, a = some ⟨g, o, none⟩ ∧ g < w.heap.size ∧ w.cell? ⟨g, o + k * 3, none⟩ = some (.int .i64 l[k].1) ∧ w.cell? ⟨g, o + k * 3 + 1, none⟩ = some (.int .i64 l[k].2.1) ∧ w.cell? ⟨g, o + k * 3 + 2, none⟩ = some (.int .i64 l[k].2.2) := by
  rcases h with rfl | ⟨g, o, rfl, h⟩
  · simp at hk
  · have e0 := h _ _ (flat_at cel3_length l k 0 hk (by decide))
    have e1 := h _ _ (flat_at cel3_length l k 1 hk (by decide))
    have e2 := h _ _ (flat_at cel3_length l k 2 hk (by decide))
    exact ⟨g, o, rfl, lt_of_cell e0, e0, e1, e2⟩
theorem Sg.later3 {w w' : World} {a : Option Addr} {l : List (Int × Int × Int)} (h : Sg cel3 a l w) (hb : Below w.heap.size w w') : Sg cel3 a l w' := by
  rcases h with rfl | ⟨g, o, rfl, h⟩
  · exact .inl rfl
  · exact .inr ⟨g, o, rfl, fun j v hv => by
      have := h j v hv
      exact (hb.cell (p := ⟨g, o + j, none⟩) (lt_of_cell this)).trans this⟩
end Go.Proofs.Ytgbbjhhggjocmab
