/-
  A reader over pieces, in plain words.
-/
import Derived.Test.YthnjbnhmdjpfpaaDtP
namespace Go.Proofs.Ythnjbnhmdjpfpaa

/-- Where a reader may stand. -/
theorem Ds.inn_p (t : Nat) (s : Ds) (c : UInt8) : (s.inn t c).p = 4 ∨ (s.inn t c).p = 5 := by
  unfold inn mid tl
  split <;> simp
theorem Ds.stp_pp (t : Nat) (s : Ds) (c : UInt8) : 1 ≤ (s.stp t c).p ∧ (s.stp t c).p ≤ 6 := by
  have h : ∀ x : Ds, 1 ≤ (x.inn t c).p ∧ (x.inn t c).p ≤ 6 := fun x => by rcases x.inn_p t c with h | h <;> omega
  unfold stp
  split
  · split
    · simp
    · exact h s
  · split
    · split
      · simp
      · exact h s
    · split
      · split
        · simp
        · exact h _
      · split
        · split
          · simp [tl]
          · exact h _
        · exact h s
theorem Ds.run_p (t a : Nat) : ∀ (l : List UInt8) (s : Ds), 1 ≤ s.p → s.p ≤ 6 → 1 ≤ (s.run t a l).2.2.p ∧ (s.run t a l).2.2.p ≤ 6
  | [], s, h1, h2 => ⟨h1, h2⟩
  | c :: r, s, h1, h2 => by
    by_cases h : s.p < 6
    · rw [run_cons h]
      exact run_p t a r _ (stp_pp t s c).1 (stp_pp t s c).2
    · rw [run_over h]
      exact ⟨h1, h2⟩
/-- As long as the end is not met all bytes are taken. -/
theorem Ds.run_all (t a : Nat) : ∀ (l : List UInt8) (s : Ds), (s.run t a l).2.2.p < 6 → (s.run t a l).1 = l.length
  | [], s, _ => rfl
  | c :: r, s, hx => by
    by_cases h : s.p < 6
    · rw [run_cons h] at hx ⊢
      simp only [List.length_cons]
      rw [run_all t a r _ hx]
    · rw [run_over h] at hx
      exact absurd hx h
/-- Bytes behind bytes. -/
theorem Ds.run_append (t a : Nat) : ∀ (l r : List UInt8) (s : Ds), s.run t a (l ++ r) = ((s.run t a l).1 + ((s.run t a l).2.2.run t a r).1, (s.run t a l).2.1 ++ ((s.run t a l).2.2.run t a r).2.1, ((s.run t a l).2.2.run t a r).2.2)
  | [], r, s => by simp [run]
  | c :: l, r, s => by
    by_cases h : s.p < 6
    · rw [List.cons_append, run_cons h, run_cons h, run_append t a l r]
      simp only [List.append_assoc]
      exact Prod.ext (by show _ + _ + 1 = _ + 1 + _; omega) rfl
    · simp [run_over h]
/-- Something is told only of bytes that are taken. -/
theorem Ds.run_pos (t a : Nat) (l : List UInt8) (s : Ds) (h : (s.run t a l).2.1 ≠ []) : 1 ≤ (s.run t a l).1 := by
  cases l with
  | nil => exact absurd rfl h
  | cons c r =>
    by_cases hp : s.p < 6
    · rw [run_cons hp]; simp
    · rw [run_over hp] at h; exact absurd rfl h
theorem Ds.run_size (t a : Nat) : ∀ (l : List UInt8) (s : Ds), (s.run t a l).2.2.size ≤ s.size + 2 * l.length ∧ (s.run t a l).2.2.row ≤ s.row + l.length ∧ (s.run t a l).2.1.length ≤ 2 * l.length
  | [], s => by simp [run]
  | c :: r, s => by
    by_cases h : s.p < 6
    · have h1 := run_size t a r (s.stp t c)
      have h2 := stp_size t s c
      have h3 := out_len a s c
      rw [run_cons h]
      simp only [List.length_cons, List.length_append]
      omega
    · rw [run_over h]
      simp
/-- What was heard of a stream: has it ended, and how? -/
def Ds.ended (s : Ds) : Bool := decide (s.p = 6)
def Ds.im (a : Nat) (s : Ds) : Im := if s.p = 6 then .fin (s.why a) s.high else .no
/-- The whole out of what was taken of it, the reader that stands behind, and the rest. -/
def Rest (t a : Nat) (T : Nat × List UInt8 × Ds) (n : Nat) (o : List UInt8) (x : Ds) (q : List UInt8) : Prop := T = (n + (x.run t a q).1, o ++ (x.run t a q).2.1, (x.run t a q).2.2)
theorem Rest.start (t a : Nat) (s : Ds) (q : List UInt8) : Rest t a (s.run t a q) 0 [] s q := by
  unfold Rest
  simp
/-- One Take. -/
theorem Rest.on {t a : Nat} {T : Nat × List UInt8 × Ds} {n : Nat} {o : List UInt8} {x : Ds} {q r : List UInt8} (h : Rest t a T n o x (q ++ r)) :
    Rest t a T (n + (x.run t a q).1) (o ++ (x.run t a q).2.1) (x.run t a q).2.2 (q.drop (x.run t a q).1 ++ r) := by
  unfold Rest at h ⊢
  rw [Ds.run_append] at h
  by_cases hp : (x.run t a q).2.2.p < 6
  · have hl := Ds.run_all t a q x hp
    rw [hl, List.drop_length, List.nil_append]
    rw [h, hl]
    simp [Nat.add_assoc]
  · rw [h]
    simp [Ds.run_over hp]
end Go.Proofs.Ythnjbnhmdjpfpaa
