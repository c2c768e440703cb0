/-
  The plain mathematics of quoted lines, on: no Go in sight.
-/
import Derived.Test.YtenfopabdegmhaaDoorQP
namespace Go.Proofs.YtenfopabdegmhaaDoor

theorem sign_len (c : UInt8) (b : Bool) : 1 ≤ (signQ c b).length ∧ (signQ c b).length ≤ 3 := by
  unfold signQ
  split <;> simp
theorem qrow_len (l : List UInt8) : ∀ r, (qrow r l).length ≤ 6 * l.length := by
  induction l with
  | nil => intro r; simp [qrow]
  | cons c t ih =>
    intro r
    have h1 := (sign_len c t.isEmpty).2
    have h2 := ih (signQ c t.isEmpty).length
    have h3 := ih (r + (signQ c t.isEmpty).length)
    unfold qrow
    generalize (if t.isEmpty = true then 0 else 1) = z
    split <;> simp only [List.length_cons, List.length_append] <;> omega
theorem qrow_at (l : List UInt8) (k r : Nat) (h : k < l.length) : qrow r (l.drop k) =
    if 76 < r + (signQ l[k] (decide (k + 1 = l.length))).length + (if k + 1 = l.length then 0 else 1) then 61 :: 13 :: 10 :: (signQ l[k] (decide (k + 1 = l.length)) ++ qrow (signQ l[k] (decide (k + 1 = l.length))).length (l.drop (k + 1)))
    else signQ l[k] (decide (k + 1 = l.length)) ++ qrow (r + (signQ l[k] (decide (k + 1 = l.length))).length) (l.drop (k + 1)) := by
  have e : (l.drop (k + 1)).isEmpty = decide (k + 1 = l.length) := by
    rw [Bool.eq_iff_iff, List.isEmpty_iff, List.drop_eq_nil_iff, decide_eq_true_eq]
    omega
  rw [← List.getElem_cons_drop h, qrow, e]
  by_cases hk : k + 1 = l.length <;> simp [hk]
theorem crlf_none_len (l : List UInt8) (h : l.length < 2) : crlf l = none := by
  match l, h with
  | [], _ => rfl
  | [c], _ =>
    unfold crlf
    split
    · rename_i heq; simp at heq
    · rename_i heq; injection heq with e1 e2; subst e2; rfl
    · rfl
theorem quoteF_len (n : Nat) : ∀ l : List UInt8, (quoteF n l).length ≤ 6 * l.length + 2 * n := by
  induction n with
  | zero => intro l; have := qrow_len l 0; simp only [quoteF]; omega
  | succ n ih =>
    intro l
    simp only [quoteF]
    cases hc : crlf l with
    | none => have := qrow_len l 0; simp only; omega
    | some i =>
      have h1 := crlf_lt l i hc
      have h2 := qrow_len (l.take i) 0
      have h3 := ih (l.drop (i + 2))
      rw [List.length_take] at h2
      rw [List.length_drop] at h3
      simp only [List.length_append, List.length_cons]
      omega
theorem quote_len (l : List UInt8) : (quoteL l).length ≤ 8 * l.length := by
  have := quoteF_len l.length l
  unfold quoteL
  omega
end Go.Proofs.YtenfopabdegmhaaDoor
