/-
  The thing at a place.
-/
import Derived.Test.YtgbbjhhggjocmaaRwI
namespace Go.Proofs.Ytgbbjhhggjocmaa
open Go.RowKit

/-- What At tells of a row. -/
def atXI (l : List Int) (i : Int) : Int := if 0 ≤ i then l.getD i.toNat 0 else 0
theorem atXI_out (l : List Int) (i : Int) (h : ¬ (0 ≤ i ∧ i < (l.length : Int))) : atXI l i = 0 := by
  unfold atXI
  split
  · rw [List.getD_eq_getElem?_getD, List.getElem?_eq_none (by omega)]
    rfl
  · rfl
set_option maxHeartbeats 2000000 in
theorem atI_q (p q : Option Nat) (most : Nat) (l : List Int) (i : Int) (w : World) (h : RgI w p q most l) :
    Calls Try.prog 41 #[ptr p, .int .i64 i] w fun e w' => e = .returned (.tuple #[valI (atXI l i), .bool (atB l.length i)]) ∧ ∃ n, w' = w.drewN n := by
  have hln := lenI_any p q most l w h
  by_cases h0 : i < 0
  · have e1 : atXI l i = 0 := atXI_out l i (by omega)
    have e2 : atB l.length i = false := decide_eq_false (by omega)
    rw [e1, e2]
    clear h hln e1 e2
    unfold valI
    go_enter Try.func41, Try.ntmps41
    go_wp2
    go_ret2
    exact ⟨rfl, 0, rfl⟩
  · by_cases h1 : (l.length : Int) ≤ i
    · have e1 : atXI l i = 0 := atXI_out l i (by omega)
      have e2 : atB l.length i = false := decide_eq_false (by omega)
      rw [e1, e2]
      clear h e1 e2
      generalize l.length = n at *
      unfold valI
      go_enter Try.func41, Try.ntmps41
      go_wp2_with (go_at_call 14; refine hln.mono ?_; clear hln; rintro e w ⟨rfl, rfl⟩)
      go_ret2
      exact ⟨rfl, 0, rfl⟩
    · obtain ⟨j, rfl⟩ : ∃ j : Nat, i = (j : Int) := ⟨i.toNat, by omega⟩
      have hj : j < l.length := by omega
      cases h with
      | no => cases hj
      | zero b h => cases hj
      | made b q most A f c h =>
        rw [rwA_length] at *
        have hcA := h.cnt
        have hA : A ≠ [] := fun e => by rw [e] at hcA; simp at hcA; omega
        obtain ⟨g, rfl, hg⟩ := h.som hA
        have e2 : atB c (j : Int) = true := decide_eq_true (by omega)
        have hlt : (f + j) % A.length < A.length := Nat.mod_lt _ (by omega)
        have e1 : atXI (rwA 0 A f c) (j : Int) = A[(f + j) % A.length] := by
          unfold atXI
          rw [if_pos (by omega), Int.toNat_natCast, List.getD_eq_getElem?_getD, rwA_at _ _ _ _ _ hj, Option.getD_some, List.getD_eq_getElem?_getD, List.getElem?_eq_getElem hlt, Option.getD_some]
        rw [e1, e2]
        have HPL : Hid (∀ m, Calls Try.prog 53 #[.pointer (some ⟨b, 0, none⟩), .int .i64 (j : Int)] (w.drewN m) fun e w' => e = .returned (.int .i64 (((f + j) % A.length : Nat) : Int)) ∧ ∃ k, w' = (w.drewN m).drewN k) := fun m => placeI_any b (some g) most A f c j _ (h.drewN m) hA (by have := h.lid; have := h.room; omega)
        have c1 := h.cells.2.1
        unfold plc at c1
        dsimp only at c1
        have g1 : w.cell? ⟨g, (f + j) % A.length, none⟩ = some (valI A[(f + j) % A.length]) := by have := flat_at celI_length A ((f + j) % A.length) 0 hlt (by decide); rw [Nat.mul_one] at this; rw [hg.cell, List.getElem?_toArray]; exact this
        unfold valI ptr at *
        have hjc : (j : Int) < (c : Int) := by omega
        clear h hg e1 e2 h0 h1
        generalize A[(f + j) % A.length] = y at *
        generalize (f + j) % A.length = J at *
        clear hA hcA
        generalize A.length = N at *
        go_enter Try.func41, Try.ntmps41
        go_wp2_with (go_at_call 14; refine hln.mono ?_; clear hln; rintro e w ⟨rfl, rfl⟩)
        go_quiet (first | (go_at_call 53; refine Calls.quiet_of (HPL.out _)))
        go_wp2
        go_ret2
        exact ⟨rfl, _, rfl⟩
theorem atI_any (p q : Option Nat) (most : Nat) (l : List Int) (i : Int) (w : World) (h : RgI w p q most l) :
    Calls Try.prog 41 #[ptr p, .int .i64 i] w fun e w' => e = .returned (.tuple #[valI (atXI l i), .bool (atB l.length i)]) ∧ Below w.heap.size w w' :=
  (atI_q p q most l i w h).mono (fun e w' hh => by obtain ⟨h1, n, rfl⟩ := hh; exact ⟨h1, below_drewN w n⟩)
end Go.Proofs.Ytgbbjhhggjocmaa
