/-
  The plain mathematics of rows: no Go in sight.
-/
import Derived.Test.YtenfopabdegmhabDoorB64b
namespace Go.Proofs.YtenfopabdegmhabDoor

/-- Letters in rows of m, from the place j on. -/
def rg (m : Nat) : Nat → List UInt8 → List UInt8
  | _, [] => []
  | j, c :: r => c :: ((if (j + 1) % m = 0 ∨ r = [] then [13, 10] else []) ++ rg m (j + 1) r)

theorem rg_len (m : Nat) (l : List UInt8) : ∀ j, (rg m j l).length ≤ 3 * l.length := by
  induction l with
  | nil => intro j; simp [rg]
  | cons c r ih =>
    intro j
    have := ih (j + 1)
    simp only [rg, List.length_cons, List.length_append]
    split <;> simp <;> omega
theorem rg_row' (m : Nat) (l : List UInt8) : ∀ (j i : Nat), j % m = 0 → i < m → l ≠ [] → rg m (j + i) l = l.take (m - i) ++ 13 :: 10 :: rg m (j + m) (l.drop (m - i)) := by
  induction l with
  | nil => intro j i _ _ h; exact absurd rfl h
  | cons c r ih =>
    intro j i hj hi _
    have hmod : (j + i + 1) % m = (i + 1) % m := by
      rw [Nat.add_assoc, Nat.add_mod, hj, Nat.zero_add, Nat.mod_mod]
    obtain ⟨t, ht⟩ : ∃ t, m - i = t + 1 := ⟨m - i - 1, by omega⟩
    rw [ht, List.take_succ_cons, List.drop_succ_cons]
    by_cases hr : r = []
    · subst hr
      simp [rg]
    · by_cases he : i + 1 = m
      · have h0 : (j + i + 1) % m = 0 := by rw [hmod, he, Nat.mod_self]
        have ht0 : t = 0 := by omega
        subst ht0
        rw [rg, if_pos (.inl h0), List.take_zero, List.drop_zero, show j + i + 1 = j + m by omega]
        rfl
      · have h0 : ¬ ((j + i + 1) % m = 0 ∨ r = []) := by
          rw [hmod, Nat.mod_eq_of_lt (by omega)]
          intro h
          rcases h with h | h
          · omega
          · exact hr h
        have := ih j (i + 1) hj (by omega) hr
        rw [show m - (i + 1) = t by omega] at this
        rw [rg, if_neg h0, List.nil_append, Nat.add_assoc, this]
        rfl
/-- A row, and what stands behind it. -/
theorem rg_row (m j : Nat) (l : List UInt8) (hm : 0 < m) (hj : j % m = 0) (hl : l ≠ []) : rg m j l = l.take m ++ 13 :: 10 :: rg m (j + m) (l.drop m) := by
  have := rg_row' m l j 0 hj hm hl
  simpa using this
theorem rg_at (m : Nat) (l : List UInt8) (i : Nat) (h : i < l.length) : rg m i (l.drop i) = l[i] :: ((if (i + 1) % m = 0 ∨ i + 1 = l.length then [13, 10] else []) ++ rg m (i + 1) (l.drop (i + 1))) := by
  rw [← List.getElem_cons_drop h, rg]
  have : (l.drop (i + 1) = []) ↔ i + 1 = l.length := by
    rw [List.drop_eq_nil_iff]
    omega
  simp only [this]
end Go.Proofs.YtenfopabdegmhabDoor
