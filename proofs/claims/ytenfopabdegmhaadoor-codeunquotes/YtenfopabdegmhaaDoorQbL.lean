/-
  The plain mathematics of a quoted text's rows: what the machine takes is short rows of plain signs. No Go in sight.
-/
import Derived.Test.YtenfopabdegmhaaDoorQbP
namespace Go.Proofs.YtenfopabdegmhaaDoor

theorem hex_rng : ∀ c : Fin 256, hexB (UInt8.ofNat c.val) = true → 48 ≤ c.val ∧ c.val ≤ 126 := by decide +kernel
theorem hexB_rng (c : UInt8) (h : hexB c = true) : 48 ≤ c.toNat ∧ c.toNat ≤ 126 := by
  have := hex_rng ⟨c.toNat, c.toNat_lt⟩
  simp only [UInt8.ofNat_toNat] at this
  exact this h
/-- What a step within a row was. -/
theorem stepN_cases (t t' : Qs) (c : UInt8) (h : stepN t c = some t') : (c.toNat ≤ 126 ∧ (32 ≤ c.toNat ∨ c.toNat = 9)) ∧ ((c.toNat = 32 ∨ c.toNat = 9) → t'.k = 1) ∧ t'.o.length ≤ t.o.length + 1 := by
  unfold stepN at h
  repeat' split at h
  all_goals first | cases h | skip
  all_goals rename_i hk hc
  · have h1 := hc.1
    unfold valB at h1
    simp only [decide_eq_true_eq] at h1
    refine ⟨by omega, fun _ => by omega, by simp⟩
  · have h1 := hc.1
    unfold blkB at h1
    simp only [decide_eq_true_eq] at h1
    refine ⟨by omega, fun _ => rfl, by simp⟩
  · have h1 : c.toNat = 61 := by rw [hc.1]; rfl
    refine ⟨by omega, fun _ => by omega, by simp⟩
  · have h1 := hexB_rng c hc.1
    refine ⟨by omega, fun _ => by omega, by simp⟩
  · have h1 := hexB_rng c hc
    refine ⟨by omega, fun _ => by omega, by simp⟩
/-- What a step was. -/
theorem stepM_cases (t t' : Qs) (c : UInt8) (h : stepM t c = some t') :
    (c.toNat = 10 ∧ (t.k = 4 ∨ t.k = 5) ∧ t'.k = 0 ∧ t'.p = 0) ∨ (c.toNat = 13 ∧ t.k ≤ 3 ∧ (t'.k = 4 ∨ t'.k = 5) ∧ t'.p = t.p) ∨
    (c.toNat ≠ 10 ∧ c.toNat ≠ 13 ∧ (c.toNat ≤ 126 ∧ (32 ≤ c.toNat ∨ c.toNat = 9)) ∧ ((c.toNat = 32 ∨ c.toNat = 9) → t'.k = 1) ∧ t'.p = t.p + 1 ∧ t'.k ≤ 3 ∧ t.k ≤ 3 ∧ stepN t c = some t') := by
  unfold stepM at h
  split at h
  · rename_i e4
    split at h
    · rename_i e
      injection h with h
      subst h
      exact .inl ⟨by rw [e]; rfl, .inl e4, rfl, rfl⟩
    · cases h
  split at h
  · rename_i e4 e5
    split at h
    · rename_i e
      injection h with h
      subst h
      exact .inl ⟨by rw [e]; rfl, .inr e5, rfl, rfl⟩
    · cases h
  split at h
  · rename_i _ _ e
    injection h with h
    subst h
    exact .inr (.inl ⟨by rw [e.1]; rfl, by omega, .inl rfl, rfl⟩)
  split at h
  · rename_i _ _ _ e
    injection h with h
    subst h
    exact .inr (.inl ⟨by rw [e.1]; rfl, by omega, .inr rfl, rfl⟩)
  · obtain ⟨h1, h2, _⟩ := stepN_cases t t' c h
    obtain ⟨p1, p2, _⟩ := stepN_p t t' c h
    have hk : t.k ≤ 3 := by
      rcases Nat.lt_or_ge 3 t.k with h4 | h4
      · unfold stepN at h
        rw [if_neg (by omega), if_neg (by omega), if_neg (by omega)] at h
        cases h
      · exact h4
    exact .inr (.inr ⟨by omega, by omega, h1, h2, p1, p2, hk, h⟩)
/-- Rows stay short. -/
def shrt (t : Qs) : Prop := t.p ≤ 76 ∧ (t.k ≤ 3 → fits t)
theorem shrt_step (t t' : Qs) (c : UInt8) (hs : shrt t) (h : stepM t c = some t') : shrt t' := by
  rcases stepM_cases t t' c h with ⟨_, _, e0, ep⟩ | ⟨_, _, ek, ep⟩ | ⟨_, _, _, _, ep, ek, hk, hn⟩
  · exact ⟨by omega, fun _ => ⟨by omega, by omega, fun _ => by omega, fun _ => by omega⟩⟩
  · exact ⟨by have := hs.1; omega, fun h => by omega⟩
  · have := fits_step t t' c (hs.2 hk) hn
    exact ⟨this.2.1, fun _ => this⟩
/-- What is meant is no longer than what is written. -/
def wt (t : Qs) : Nat := t.o.length + (if t.k = 4 then 1 else 0)
theorem wt_step (t t' : Qs) (c : UInt8) (h : stepM t c = some t') : wt t' ≤ wt t + 1 := by
  unfold stepM at h
  unfold wt
  split at h
  · rename_i e4
    split at h
    · injection h with h
      subst h
      simp [e4]
    · cases h
  split at h
  · split at h
    · injection h with h
      subst h
      simp
      omega
    · cases h
  split at h
  · injection h with h
    subst h
    simp
  split at h
  · injection h with h
    subst h
    simp
    try omega
  · obtain ⟨_, _, h3⟩ := stepN_cases t t' c h
    obtain ⟨_, h2, _⟩ := stepN_p t t' c h
    rw [if_neg (by omega)]
    omega
theorem wt_run (l : List UInt8) : ∀ (t t' : Qs), runM t l = some t' → wt t' ≤ wt t + l.length := by
  induction l with
  | nil => intro t t' h; injection h with h; subst h; simp
  | cons c r ih =>
    intro t t' h
    simp only [runM] at h
    cases hn : stepM t c with
    | none => rw [hn] at h; cases h
    | some s =>
      rw [hn] at h
      have h1 := ih s t' h
      have h2 := wt_step t s c hn
      simp only [List.length_cons]
      omega
theorem quote_longer (l : List UInt8) : l.length ≤ (quoteL l).length := by
  obtain ⟨p, h, e⟩ := quote_run (l.length + 1) l (by omega)
  have := wt_run _ _ _ e
  simp [wt, q0] at this
  exact this
/-- Where a text that is taken stands at a place. -/
def stAt (l : List UInt8) (i : Nat) : Qs := (runM q0 (l.take i)).getD q0
structure Taken (l : List UInt8) : Prop where
  all : ∃ t, runM q0 l = some t ∧ t.k = 0
theorem quote_taken (l : List UInt8) : Taken (quoteL l) := by
  obtain ⟨p, h, e⟩ := quote_run (l.length + 1) l (by omega)
  exact ⟨_, e, rfl⟩
theorem Taken.at {l : List UInt8} (h : Taken l) (i : Nat) : runM q0 (l.take i) = some (stAt l i) := by
  obtain ⟨t, e, _⟩ := h.all
  unfold stAt
  cases hn : runM q0 (l.take i) with
  | some s => rfl
  | none =>
    rw [← List.take_append_drop i l, runM_append, hn] at e
    cases e
theorem Taken.step {l : List UInt8} (h : Taken l) (i : Nat) (hi : i < l.length) : stepM (stAt l i) l[i] = some (stAt l (i + 1)) := by
  rw [← runM_snoc l i hi _ _ (h.at i), h.at (i + 1)]
theorem Taken.last {l : List UInt8} (h : Taken l) : (stAt l l.length).k = 0 := by
  obtain ⟨t, e, hk⟩ := h.all
  have := h.at l.length
  rw [List.take_length, e] at this
  injection this with this
  rw [← this]
  exact hk
theorem stAt_zero (l : List UInt8) : stAt l 0 = q0 := rfl
theorem Taken.shrt {l : List UInt8} (h : Taken l) : ∀ i, i ≤ l.length → shrt (stAt l i)
  | 0, _ => ⟨by simp [stAt_zero, q0], fun _ => fits0⟩
  | i + 1, hi => shrt_step _ _ _ (h.shrt i (by omega)) (h.step i (by omega))
/-- A CR: a LF is behind it. -/
theorem Taken.cr {l : List UInt8} (h : Taken l) (i : Nat) (hi : i < l.length) (hc : l[i].toNat = 13) : (∃ h1 : i + 1 < l.length, l[i + 1].toNat = 10) ∧ (stAt l (i + 1)).p = (stAt l i).p := by
  rcases stepM_cases _ _ _ (h.step i hi) with ⟨e, _⟩ | ⟨_, _, ek, ep⟩ | ⟨_, e, _⟩
  · omega
  · refine ⟨?_, ep⟩
    rcases Nat.lt_or_ge (i + 1) l.length with h1 | h1
    · refine ⟨h1, ?_⟩
      rcases stepM_cases _ _ _ (h.step (i + 1) h1) with ⟨e, _⟩ | ⟨_, e, _⟩ | ⟨_, _, _, _, _, _, e, _⟩
      · exact e
      · omega
      · omega
    · have e : i + 1 = l.length := by omega
      have := h.last
      rw [← e] at this
      omega
  · exact absurd hc e
/-- A LF: a CR is ahead of it. -/
theorem Taken.lf {l : List UInt8} (h : Taken l) (i : Nat) (hi : i < l.length) (hc : l[i].toNat = 10) : (∃ h1 : 0 < i, (l[i - 1]'(by omega)).toNat = 13) ∧ (stAt l (i + 1)).p = 0 := by
  rcases stepM_cases _ _ _ (h.step i hi) with ⟨_, hk, _, ep⟩ | ⟨e, _⟩ | ⟨e, _⟩
  · refine ⟨?_, ep⟩
    rcases i with _ | j
    · simp [stAt_zero, q0] at hk
    · refine ⟨by omega, ?_⟩
      simp only [Nat.add_sub_cancel]
      rcases stepM_cases _ _ _ (h.step j (by omega)) with ⟨_, _, e, _⟩ | ⟨e, _⟩ | ⟨_, _, _, _, _, e, _⟩
      · omega
      · exact e
      · omega
  · omega
  · exact absurd hc e
/-- Any other. -/
theorem Taken.other {l : List UInt8} (h : Taken l) (i : Nat) (hi : i < l.length) (hc : l[i].toNat ≠ 10) (hc' : l[i].toNat ≠ 13) : l[i].toNat ≤ 126 ∧ (32 ≤ l[i].toNat ∨ l[i].toNat = 9) ∧ (stAt l (i + 1)).p = (stAt l i).p + 1 ∧ ((l[i].toNat = 32 ∨ l[i].toNat = 9) → ∃ h1 : i + 1 < l.length, l[i + 1].toNat ≠ 13) := by
  rcases stepM_cases _ _ _ (h.step i hi) with ⟨e, _⟩ | ⟨e, _⟩ | ⟨_, _, e1, e2, e3, _⟩
  · exact absurd e hc
  · exact absurd e hc'
  · refine ⟨e1.1, e1.2, e3, fun hb => ?_⟩
    have hk := e2 hb
    rcases Nat.lt_or_ge (i + 1) l.length with h1 | h1
    · refine ⟨h1, fun e => ?_⟩
      have hs := h.step (i + 1) h1
      have e13 : l[i + 1] = 13 := UInt8.toNat_inj.1 e
      rw [e13] at hs
      unfold stepM stepN at hs
      rw [hk] at hs
      simp [show valB 13 = false by decide, show blkB 13 = false by decide] at hs
    · have e : i + 1 = l.length := by omega
      have := h.last
      rw [← e] at this
      omega
end Go.Proofs.YtenfopabdegmhaaDoor
