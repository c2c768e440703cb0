/-
  What bytes may still become: the plain mathematics of UTF-8's beginnings, no Go in sight.
-/
import Derived.Test.YtedgimkffkflbabGreatDoorChk2
import Derived.Test.YtedgimkffkflbabGreatDoorRUtP
namespace Go.Proofs.YtedgimkffkflbabGreatDoor

/-- All that may be due. -/
def qs8 : List Q := [(0, 0, 0), (1, 128, 191), (2, 160, 191), (2, 128, 191), (2, 128, 159), (3, 144, 191), (3, 128, 191), (3, 128, 143)]
theorem begQ_mem {b : Nat} {q : Q} (h : begQ b = some q) : q ∈ qs8 := by
  unfold begQ at h
  repeat' (split at h)
  all_goals (first | (injection h with h; subst h; decide) | cases h)
theorem stepQ_mem {q q' : Q} {b : Nat} (hq : q ∈ qs8) (h : stepQ q b = some q') : q' ∈ qs8 := by
  have h3 : q.1 ≤ 3 := by
    have : ∀ q ∈ qs8, q.1 ≤ 3 := by decide
    exact this q hq
  unfold stepQ at h
  split at h
  · exact begQ_mem h
  · rename_i h0
    split at h
    · cases h
    · split at h
      · injection h with h; subst h; decide
      · rename_i h1
        injection h with h
        subst h
        have : q.1 = 2 ∨ q.1 = 3 := by omega
        rcases this with e | e
        · rw [e]; decide
        · rw [e]; decide
theorem runQ_mem : ∀ (l : List UInt8) (q q' : Q), q ∈ qs8 → runQ q l = some q' → q' ∈ qs8
  | [], q, q', hq, h => by
    simp only [runQ] at h
    injection h with h
    rw [← h]
    exact hq
  | b :: t, q, q', hq, h => by
    simp only [runQ, Option.bind_eq_some_iff] at h
    obtain ⟨q1, h1, h2⟩ := h
    exact runQ_mem t q1 q' (stepQ_mem hq h1) h2

theorem badUA_whole : ∀ (l : List UInt8) (q : Q) (n w : Nat), l ≠ [] → w ≤ n → (badUA q n w l = n + l.length ↔ ∃ q', runQ q l = some q' ∧ q'.1 = 0)
  | [], _, _, _, h, _ => absurd rfl h
  | b :: t, q, n, w, _, hw => by
    simp only [badUA, runQ]
    cases hs : stepQ q b.toNat with
    | none =>
      simp only [Option.bind_none, List.length_cons]
      constructor
      · intro h; omega
      · intro ⟨q', h, _⟩; cases h
    | some q1 =>
      simp only [Option.bind_some, List.length_cons]
      cases t with
      | nil =>
        simp only [badUA, runQ, List.length_nil]
        constructor
        · intro h
          refine ⟨q1, rfl, ?_⟩
          by_cases h0 : q1.1 = 0
          · exact h0
          · rw [if_neg h0] at h; omega
        · intro ⟨q', h, h0⟩
          injection h with h
          subst h
          rw [if_pos h0]
      | cons c t =>
        have := badUA_whole (c :: t) q1 (n + 1) (if q1.1 = 0 then n + 1 else w) (by simp) (by split <;> omega)
        rw [← this]
        constructor <;> intro h <;> omega
/-- Bytes are well-formed where the machine ends whole. -/
theorem badU_whole (l : List UInt8) : badU l = l.length ↔ ∃ q', runQ q0 l = some q' ∧ q'.1 = 0 := by
  cases l with
  | nil => exact ⟨fun _ => ⟨q0, rfl, rfl⟩, fun _ => rfl⟩
  | cons b t =>
    have := badUA_whole (b :: t) q0 0 0 (by simp) (Nat.le_refl _)
    rw [Nat.zero_add] at this
    exact this
theorem whole_bad (l : List UInt8) : wholeM (runM (some q0) l) = decide (badU l = l.length) := by
  have := badU_whole l
  show wholeM (runQ q0 l) = _
  cases h : runQ q0 l with
  | none =>
    rw [h] at this
    have hn : ¬ badU l = l.length := fun e => by obtain ⟨q', h1, _⟩ := this.1 e; cases h1
    rw [decide_eq_false hn]
    rfl
  | some q =>
    rw [h] at this
    by_cases h0 : q.1 = 0
    · rw [decide_eq_true (this.2 ⟨q, rfl, h0⟩)]
      simp [wholeM, h0]
    · have hn : ¬ badU l = l.length := fun e => by
        obtain ⟨q', h1, h2⟩ := this.1 e
        injection h1 with h1
        subst h1
        exact h0 h2
      rw [decide_eq_false hn]
      simp [wholeM, h0]

/-- The rows of k bytes out of four. -/
def waysK : Nat → List (List UInt8)
  | 0 => [[]]
  | k + 1 => (waysK k).flatMap fun w => [w ++ [128], w ++ [144], w ++ [160], w ++ [191]]
def wh (b m : List UInt8) : Bool := decide (badU (b ++ m) = (b ++ m).length)
theorem wh_run (b m : List UInt8) : wh b m = wholeM (runM (runM (some q0) b) m) := by
  unfold wh
  rw [← whole_bad, runM_append]
def allW : List (List UInt8) := waysK 0 ++ waysK 1 ++ waysK 2 ++ waysK 3
theorem qs8_all : ∀ q ∈ qs8, (allW.any fun m => wholeM (runM (some q) m)) = true := by decide +kernel
/-- Some of these ends fits just where bytes are a beginning. -/
theorem ways_ok (b : List UInt8) : (allW.any fun m => wh b m) = okM (runM (some q0) b) := by
  simp only [wh_run]
  cases h : runM (some q0) b with
  | none =>
    simp only [runM_none]
    rw [List.any_eq_false.2 (fun x _ => by simp [wholeM])]
    rfl
  | some q =>
    have hm : q ∈ qs8 := runQ_mem b q0 q (by decide) h
    rw [qs8_all q hm]
    rfl
end Go.Proofs.YtedgimkffkflbabGreatDoor
