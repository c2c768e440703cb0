/-
  The plain mathematics of a base64 text in pieces: no Go in sight.
-/
import Derived.Test.YtenfopabdegmhabDoorOncP
import Derived.Test.YtenfopabdegmhabDoorRdr
namespace Go.Proofs.YtenfopabdegmhabDoor

/-- A reader that is spoilt. -/
theorem cuts_bad (l : List UInt8) (h : rdE [] l ≠ 0) : clE (rdT [] l) (rdE [] l) = rdE [] l ∧ unbE (noCr l) = rdE [] l ∧ unbA (noCr l) < (noCr l).length ∧ (decL (rdT [] l)).length ≤ unbA (noCr l) / 4 * 3 := by
  obtain ⟨hT, hE⟩ := rd_whole l
  have h1 : okN 0 (noCr l) < (noCr l).length := by
    rcases Nat.lt_or_ge (okN 0 (noCr l)) (noCr l).length with h1 | h1
    · exact h1
    · rw [hE, dif_neg (by omega)] at h
      exact absurd rfl h
  obtain ⟨e1, e2, _⟩ := unb_stop h1
  refine ⟨?_, ?_, by omega, ?_⟩
  · unfold clE
    rw [if_pos h]
  · rw [e1, hE, dif_pos h1]
  · have := decL_le (rdT [] l)
    rw [hT, List.length_take] at this
    rw [hT, e2]
    have h3 : min (okN 0 (noCr l)) (noCr l).length = okN 0 (noCr l) := Nat.min_eq_left (by omega)
    rw [h3] at this
    exact this
/-- One that is not. -/
theorem cuts_good (l : List UInt8) (h : rdE [] l = 0) : clE (rdT [] l) 0 = unbE (noCr l) ∧ (unbE (noCr l) ≠ 0 → unbA (noCr l) = (noCr l).length) ∧ (unbE (noCr l) = 0 → decL (rdT [] l) = unbL (noCr l)) := by
  have h0 := rdT_zero [] l h
  have hz := rdE_zero [] l h
  rw [List.nil_append] at h0
  have h1 : ¬ okN 0 (noCr l) < (noCr l).length := by
    have : stD 0 [] = 0 := rfl
    rw [this] at hz
    omega
  rw [h0]
  unfold clE
  rw [if_neg (by omega)]
  by_cases h2 : (noCr l).length % 4 ≠ 0
  · obtain ⟨e1, e2, _⟩ := unb_short h1 h2
    rw [if_pos h2, e1, e2]
    exact ⟨rfl, fun _ => rfl, fun e => by cases e⟩
  · obtain ⟨e1, e2, e3⟩ := unb_good h1 h2
    rw [if_neg h2, e1, e3]
    exact ⟨rfl, fun e => absurd rfl e, fun _ => rfl⟩
end Go.Proofs.YtenfopabdegmhabDoor
