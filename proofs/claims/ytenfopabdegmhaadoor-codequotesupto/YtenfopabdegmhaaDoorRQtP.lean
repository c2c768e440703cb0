/-
  The plain mathematics of the document's Quote: no Go in sight.
-/
import Derived.Test.YtenfopabdegmhaaDoorQtP
namespace Go.Proofs.YtenfopabdegmhaaDoor

theorem crlf_none (l : List UInt8) : (∀ p : Nat, ¬ (l[p]? = some 13 ∧ l[p + 1]? = some 10)) → crlf l = none := by
  induction l with
  | nil => intro _; rfl
  | cons c r ih =>
    intro h
    have hr : crlf r = none := ih fun p hp => h (p + 1) (by simpa using hp)
    unfold crlf
    split
    · rename_i heq
      injection heq with e1 e2
      subst e1 e2
      exact absurd ⟨rfl, rfl⟩ (h 0)
    · rename_i heq
      injection heq with e1 e2
      subst e1 e2
      rw [hr]
      rfl
    · rfl
theorem crlf_some (l : List UInt8) : ∀ i : Nat, (∀ p : Nat, p < i → ¬ (l[p]? = some 13 ∧ l[p + 1]? = some 10)) → l[i]? = some 13 → l[i + 1]? = some 10 → crlf l = some i := by
  induction l with
  | nil => intro i _ h; simp at h
  | cons c r ih =>
    intro i h h13 h10
    cases i with
    | zero =>
      simp only [List.getElem?_cons_zero, Option.some.injEq] at h13
      subst h13
      cases r with
      | nil => simp at h10
      | cons d t =>
        simp only [Nat.zero_add, List.getElem?_cons_succ, List.getElem?_cons_zero, Option.some.injEq] at h10
        subst h10
        simp [crlf]
    | succ j =>
      have hr : crlf r = some j := ih j (fun p hp hx => h (p + 1) (by omega) (by simpa using hx)) (by simpa using h13) (by simpa using h10)
      unfold crlf
      split
      · rename_i heq
        injection heq with e1 e2
        subst e1 e2
        exact absurd ⟨rfl, rfl⟩ (h 0 (by omega))
      · rename_i heq
        injection heq with e1 e2
        subst e1 e2
        rw [hr]
        rfl
      · rename_i heq
        cases heq
/-- The document's Quote at place k: the line began at j, X is written. -/
structure Qd (l : List UInt8) (k j : Nat) (X : List UInt8) : Prop where
  jl : j ≤ l.length
  jk : j ≤ k + 1
  eq : X ++ quoteL (l.drop j) = quoteL l
  no : ∀ p, j ≤ p → p < k → ¬ (l[p]? = some 13 ∧ l[p + 1]? = some 10)
  at10 : j = k + 1 → l[k]? = some 10
theorem Qd.start (l : List UInt8) : Qd l 0 0 [] := ⟨Nat.zero_le _, by omega, rfl, fun p _ h => by omega, fun h => by omega⟩
theorem Qd.next {l X : List UInt8} {k j : Nat} (h : Qd l k j X) (hn : ¬ (l[k]? = some 13 ∧ l[k + 1]? = some 10)) : Qd l (k + 1) j X := by
  refine ⟨h.jl, by have := h.jk; omega, h.eq, fun p hp hk => ?_, fun e => by have := h.jk; omega⟩
  rcases Nat.lt_or_ge p k with h1 | h1
  · exact h.no p hp h1
  · obtain rfl : p = k := by omega
    exact hn
theorem Qd.hit {l X : List UInt8} {k j : Nat} (h : Qd l k j X) (h13 : l[k]? = some 13) (h10 : l[k + 1]? = some 10) : j ≤ k ∧ Qd l (k + 1) (k + 2) (X ++ qrow 0 ((l.take k).drop j) ++ [13, 10]) := by
  have hjk : j ≤ k := by
    rcases Nat.lt_or_ge k j with h1 | h1
    · have := h.at10 (by have := h.jk; omega)
      rw [this] at h13
      injection h13 with h13
      exact absurd h13 (by decide)
    · exact h1
  have hl := (List.getElem?_eq_some_iff.1 h10).1
  have hc : crlf (l.drop j) = some (k - j) := by
    refine crlf_some _ _ (fun p hp hx => ?_) ?_ ?_
    · rw [List.getElem?_drop, List.getElem?_drop] at hx
      exact h.no (j + p) (by omega) (by omega) hx
    · rw [List.getElem?_drop, show j + (k - j) = k by omega]
      exact h13
    · rw [List.getElem?_drop, show j + (k - j + 1) = k + 1 by omega]
      exact h10
  have hq := quote_some _ _ hc
  rw [List.drop_drop, show j + (k - j + 2) = k + 2 by omega, ← List.drop_take] at hq
  refine ⟨hjk, by omega, by omega, ?_, fun p hp hk => by omega, fun _ => h10⟩
  rw [← h.eq, hq]
  simp
theorem Qd.fin {l X : List UInt8} {k j : Nat} (h : Qd l k j X) (hk : ¬ k + 1 < l.length) : X ++ qrow 0 (l.drop j) = quoteL l := by
  have hc : crlf (l.drop j) = none := by
    refine crlf_none _ fun p hx => ?_
    rw [List.getElem?_drop, List.getElem?_drop] at hx
    have h1 := (List.getElem?_eq_some_iff.1 hx.2).1
    exact h.no (j + p) (by omega) (by omega) hx
  rw [← h.eq, quote_none _ hc]
end Go.Proofs.YtenfopabdegmhaaDoor
