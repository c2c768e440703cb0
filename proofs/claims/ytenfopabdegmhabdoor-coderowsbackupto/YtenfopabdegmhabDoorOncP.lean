/-
  The plain mathematics of a base64 text with something ahead or behind: no Go in sight.
-/
import Derived.Test.YtenfopabdegmhabDoorB64b
namespace Go.Proofs.YtenfopabdegmhabDoor

theorem unb_stop {L : List UInt8} (h1 : okN 0 L < L.length) : unbE L = errC L[okN 0 L] ∧ unbA L = okN 0 L ∧ unbL L = [] := by
  unfold unbE unbA unbL
  rw [dif_pos h1, if_pos h1, if_pos h1]
  exact ⟨rfl, rfl, rfl⟩
theorem unb_short {L : List UInt8} (h1 : ¬ okN 0 L < L.length) (h2 : L.length % 4 ≠ 0) : unbE L = 41 ∧ unbA L = L.length ∧ unbL L = [] := by
  unfold unbE unbA unbL
  rw [dif_neg h1, if_neg h1, if_neg h1, if_pos h2, if_pos h2, if_pos h2]
  exact ⟨rfl, rfl, rfl⟩
theorem unb_good {L : List UInt8} (h1 : ¬ okN 0 L < L.length) (h2 : ¬ L.length % 4 ≠ 0) : unbE L = 0 ∧ unbA L = 0 ∧ unbL L = decL L := by
  unfold unbE unbA unbL
  rw [dif_neg h1, if_neg h1, if_neg h1, if_neg h2, if_neg h2, if_neg h2]
  exact ⟨rfl, rfl, rfl⟩
theorem errC_two (c : UInt8) : errC c = 40 ∨ errC c = 41 := by
  unfold errC
  split
  · exact .inl rfl
  · exact .inr rfl
theorem unb_facts (L : List UInt8) (h : unbE L ≠ 0) : unbL L = [] ∧ unbA L ≤ L.length ∧ (unbE L = 40 ∨ unbE L = 41) ∧ (unbA L = L.length → unbE L = 41 ∧ L.length % 4 ≠ 0) := by
  by_cases h1 : okN 0 L < L.length
  · obtain ⟨e1, e2, e3⟩ := unb_stop h1
    refine ⟨e3, by omega, by rw [e1]; exact errC_two _, fun ha => by omega⟩
  · by_cases h2 : L.length % 4 ≠ 0
    · obtain ⟨e1, e2, e3⟩ := unb_short h1 h2
      exact ⟨e3, by omega, .inr e1, fun _ => ⟨e1, h2⟩⟩
    · exact absurd (unb_good h1 h2).1 h
theorem unb_again (L : List UInt8) (h : unbE L = 0) : encL (unbL L) = L ∧ unbA L = 0 := by
  by_cases h1 : okN 0 L < L.length
  · obtain ⟨e1, _, _⟩ := unb_stop h1
    rw [e1] at h
    exact absurd h (errC_pos _)
  · by_cases h2 : L.length % 4 ≠ 0
    · rw [(unb_short h1 h2).1] at h
      cases h
    · have hle := okN_le 0 L
      rw [(unb_good h1 h2).2.2]
      exact ⟨enc_dec (L.length / 4) L (by omega) (by omega), (unb_good h1 h2).2.1⟩
theorem okN_cut (d : Nat) (l m : List UInt8) (h : okN d l < l.length) : okN d (l ++ m) = okN d l := by
  induction l generalizing d with
  | nil => simp at h
  | cons c r ih =>
    unfold okN at h
    simp only [List.cons_append]
    unfold okN
    cases hn : nextD d c with
    | none => rfl
    | some d' =>
      rw [hn] at h
      simp only [List.length_cons] at h ⊢
      rw [ih d' (by omega)]
theorem unb_ahead (H L : List UInt8) (k : Nat) (hH : H.length = 4 * k) (hok : okN 0 H = H.length) (hst : stD 0 H = 0) (h : unbE L ≠ 0) : unbE (H ++ L) = unbE L ∧ unbA (H ++ L) = H.length + unbA L := by
  have ha := okN_append 0 H L hok
  rw [hst] at ha
  have hl : (H ++ L).length = H.length + L.length := List.length_append
  by_cases h1 : okN 0 L < L.length
  · obtain ⟨e1, e2, _⟩ := unb_stop h1
    obtain ⟨f1, f2, _⟩ := unb_stop (L := H ++ L) (by omega)
    refine ⟨?_, by omega⟩
    rw [e1, f1]
    congr 1
    simp only [ha]
    rw [List.getElem_append_right (by omega)]
    congr 1
    omega
  · by_cases h2 : L.length % 4 ≠ 0
    · obtain ⟨e1, e2, _⟩ := unb_short h1 h2
      obtain ⟨f1, f2, _⟩ := unb_short (L := H ++ L) (by omega) (by omega)
      rw [e1, e2, f1, f2, hl]
      exact ⟨rfl, rfl⟩
    · exact absurd (unb_good h1 h2).1 h
theorem unb_behind (L T : List UInt8) (h : unbE L ≠ 0) (ha : unbA L ≠ L.length) : unbE (L ++ T) = unbE L ∧ unbA (L ++ T) = unbA L := by
  by_cases h1 : okN 0 L < L.length
  · obtain ⟨e1, e2, _⟩ := unb_stop h1
    have hc := okN_cut 0 L T h1
    obtain ⟨f1, f2, _⟩ := unb_stop (L := L ++ T) (by rw [hc, List.length_append]; omega)
    refine ⟨?_, by omega⟩
    rw [e1, f1]
    congr 1
    simp only [hc]
    rw [List.getElem_append_left h1]
  · by_cases h2 : L.length % 4 ≠ 0
    · exact absurd (unb_short h1 h2).2.1 ha
    · exact absurd (unb_good h1 h2).1 h
end Go.Proofs.YtenfopabdegmhabDoor
