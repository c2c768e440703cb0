/-
  The plain mathematics of rows that are read back: no Go in sight.
-/
import Derived.Test.YtenfopabdegmhabDoorOncP
import Derived.Test.YtenfopabdegmhabDoorRowsP
import Derived.Test.YtenfopabdegmhabDoorRdr
namespace Go.Proofs.YtenfopabdegmhabDoor

theorem next_letter (d : Nat) (c : UInt8) (h : (nextD d c).isSome = true) : 0 ≤ numI c ∨ c = 61 := by
  by_cases h1 : 0 ≤ numI c
  · exact .inl h1
  · by_cases h2 : c = 61
    · exact .inr h2
    · unfold nextD at h
      simp [h1, h2] at h
theorem ok_letters (l : List UInt8) : ∀ d, okN d l = l.length → ∀ c ∈ l, 0 ≤ numI c ∨ c = 61 := by
  induction l with
  | nil => intro d _ c hc; cases hc
  | cons x r ih =>
    intro d h c hc
    unfold okN at h
    cases hn : nextD d x with
    | none => rw [hn] at h; simp at h
    | some d' =>
      rw [hn] at h
      simp only [List.length_cons, Nat.add_right_cancel_iff] at h
      rcases List.mem_cons.1 hc with rfl | hc
      · exact next_letter d c (by rw [hn]; rfl)
      · exact ih d' h c hc
theorem letter_not : ∀ b : Fin 256, (0 ≤ numI (UInt8.ofNat b.val) ∨ UInt8.ofNat b.val = 61) → UInt8.ofNat b.val ≠ 13 ∧ UInt8.ofNat b.val ≠ 10 := by decide +kernel
theorem enc_not (l : List UInt8) : ∀ c ∈ encL l, c ≠ 13 ∧ c ≠ 10 := by
  intro c hc
  have h := ok_letters (encL l) 0 (enc_okN l) c hc
  have h2 := letter_not ⟨c.toNat, c.toNat_lt⟩
  simp only [UInt8.ofNat_toNat] at h2
  exact h2 h
theorem noCr_same (l : List UInt8) (h : ∀ c ∈ l, c ≠ 13 ∧ c ≠ 10) : noCr l = l := by
  unfold noCr
  refine List.filter_eq_self.2 fun c hc => ?_
  simp [h c hc]
theorem noCr_rg (m : Nat) (l : List UInt8) : ∀ j, noCr (rg m j l) = noCr l := by
  induction l with
  | nil => intro j; rfl
  | cons c r ih =>
    intro j
    have e : ∀ x : List UInt8, noCr (c :: x) = noCr [c] ++ noCr x := fun x => noCr_append [c] x
    rw [rg, e, noCr_append, ih (j + 1), e r]
    congr 1
    split <;> rfl
/-- A row. -/
theorem rb_step (M j : Nat) (L : List UInt8) (hM : 0 < M) (hj : j % M = 0) (hlt : j < L.length) :
    rg M j (L.drop j) = (L.drop j).take M ++ 13 :: 10 :: rg M (j + M) (L.drop (j + M)) := by
  have h := rg_row M j (L.drop j) hM hj (by
    intro e
    have := congrArg List.length e
    rw [List.length_drop] at this
    simp at this
    omega)
  rw [List.drop_drop] at h
  exact h
theorem rb_end (M j : Nat) (L : List UInt8) (h : L.length ≤ j) : rg M j (L.drop j) = [] := by
  rw [List.drop_eq_nil_of_le h]
  rfl
/-- What a reader tells of rows. -/
theorem rb_read (M : Nat) (l : List UInt8) : rdE [] (rg M 0 (encL l)) = 0 ∧ rdT [] (rg M 0 (encL l)) = encL l ∧ decL (rdT [] (rg M 0 (encL l))) = l ∧ clE (encL l) 0 = 0 := by
  have hn : noCr (rg M 0 (encL l)) = encL l := by rw [noCr_rg, noCr_same _ (enc_not l)]
  obtain ⟨hT, hE⟩ := rd_whole (rg M 0 (encL l))
  rw [hn] at hT
  have hT' : rdT [] (rg M 0 (encL l)) = encL l := by rw [hT, enc_okN, List.take_length]
  refine ⟨?_, hT', by rw [hT', dec_encL], ?_⟩
  · rw [hE, dif_neg (by simp only [hn, enc_okN]; omega)]
  · unfold clE
    rw [if_neg (by omega), if_neg (by rw [encL_len]; omega)]
end Go.Proofs.YtenfopabdegmhabDoor
