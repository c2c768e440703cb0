/-
  The plain mathematics of quoted texts side by side: no Go in sight.
-/
import Derived.Test.YtenfopabdegmhaaDoorQbL
namespace Go.Proofs.YtenfopabdegmhaaDoor

theorem ok_run (l : List UInt8) (h : unqOk l = true) : ∃ p c, runM q0 l = some ⟨0, p, c, unqL l⟩ := by
  unfold unqOk at h
  unfold unqL
  cases hr : runM q0 l with
  | none => rw [hr] at h; cases h
  | some t =>
    rw [hr] at h
    have hk : t.k = 0 := by simpa using h
    obtain ⟨k, p, c, o⟩ := t
    simp only at hk
    subst hk
    exact ⟨p, c, rfl⟩
theorem once_two (l : List UInt8) (h : unqOk l = true) : unqOk (l ++ ([13, 10] ++ l)) = true ∧ unqL (l ++ ([13, 10] ++ l)) = unqL l ++ ([13, 10] ++ unqL l) := by
  obtain ⟨p, c, e⟩ := ok_run l h
  have e3 : ∀ x : List UInt8, runM ⟨0, p, c, unqL l⟩ ([13, 10] ++ x) = runM (ahead (unqL l ++ [13, 10]) q0) x := fun x => by
    simp [runM, stepM, ahead, q0]
  have e4 : runM q0 (l ++ ([13, 10] ++ l)) = some ⟨0, p, c, unqL l ++ ([13, 10] ++ unqL l)⟩ := by
    rw [runM_append, e]
    simp only [Option.bind]
    rw [e3, runM_ahead, e]
    simp [ahead]
  constructor
  · unfold unqOk
    rw [e4]
    rfl
  · conv => lhs; unfold unqL
    rw [e4]
theorem once_later (l : List UInt8) : unqOk ([120, 13, 10] ++ l) = unqOk l ∧ unqA ([120, 13, 10] ++ l) = unqA l + 3 := by
  have e0 : runM q0 [120, 13, 10] = some (ahead [120, 13, 10] q0) := by
    have hv : valB 120 = true := by decide
    simp [runM, stepM, stepN, ahead, q0, hv]
  constructor
  · unfold unqOk
    rw [runM_append, e0]
    simp only [Option.bind]
    rw [runM_ahead]
    cases runM q0 l with
    | none => rfl
    | some t => rfl
  · unfold unqA
    rw [okM_append q0 _ _ _ e0, okM_ahead]
    simp
    omega
theorem okM_more (l m : List UInt8) : ∀ s : Qs, okM s l < l.length → okM s (l ++ m) = okM s l ∧ runM s (l ++ m) = none := by
  induction l with
  | nil => intro s h; simp [okM] at h
  | cons c r ih =>
    intro s h
    simp only [List.cons_append, okM, runM] at h ⊢
    cases hn : stepM s c with
    | none => exact ⟨rfl, rfl⟩
    | some s' =>
      rw [hn] at h
      simp only [List.length_cons] at h
      have := ih s' (by omega)
      simp only
      rw [this.1, this.2]
      exact ⟨rfl, rfl⟩
theorem once_more (l m : List UInt8) (h : unqA l < l.length) : unqOk (l ++ m) = false ∧ unqA (l ++ m) = unqA l := by
  obtain ⟨h1, h2⟩ := okM_more l m q0 h
  unfold unqOk unqA
  rw [h1, h2]
  exact ⟨rfl, rfl⟩
theorem unqL_le (l : List UInt8) (h : unqOk l = true) : (unqL l).length ≤ l.length := by
  obtain ⟨p, c, e⟩ := ok_run l h
  have := wt_run _ _ _ e
  simp [wt, q0] at this
  exact this
end Go.Proofs.YtenfopabdegmhaaDoor
