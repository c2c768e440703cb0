/-
  All items of a row of bytes, in plain words: however it is cut, the same.
-/
import Derived.Test.YthjcjecimidedaaLnP
namespace Go.Proofs.Ythjcjecimidedaa

/-- An item, and how many bytes were taken for it. -/
structure Td where
  i : It
  n : Nat
/-- The items of bytes, and what stands behind the last line's end. -/
def rn (m : Nat) : List UInt8 → List UInt8 → List Td × List UInt8
  | s, [] => ([], s)
  | s, c :: r => if hfB s && c == 10 then (⟨lineOf m (bdy s), s.length + 1⟩ :: (rn m [] r).1, (rn m [] r).2) else rn m (s ++ [c]) r
theorem rn_cons (m : Nat) (s : List UInt8) (c : UInt8) (r : List UInt8) : rn m s (c :: r) = if hfB s && c == 10 then (⟨lineOf m (bdy s), s.length + 1⟩ :: (rn m [] r).1, (rn m [] r).2) else rn m (s ++ [c]) r := rfl
theorem rn_append (m : Nat) : ∀ (a s b : List UInt8), rn m s (a ++ b) = ((rn m s a).1 ++ (rn m (rn m s a).2 b).1, (rn m (rn m s a).2 b).2)
  | [], s, b => by simp [rn]
  | c :: r, s, b => by
    rw [List.cons_append, rn_cons, rn_cons]
    split
    · rw [rn_append m r [] b]
      simp
    · exact rn_append m r (s ++ [c]) b
/-- What is told of one Take. -/
def tds (i : It) (n : Nat) : List Td := match i with
  | .no => []
  | _ => [⟨i, n⟩]
theorem tds_no (n : Nat) : tds .no n = [] := rfl
theorem tds_it {i : It} (h : ¬ i = .no) (n : Nat) : tds i n = [⟨i, n⟩] := by cases i <;> first | rfl | exact absurd rfl h
theorem rn_take (m : Nat) : ∀ (b s : List UInt8), rn m s (b.take (tk m s b).1) = (tds (tk m s b).2.1 (s.length + (tk m s b).1), (tk m s b).2.2)
  | [], s => by simp [tk, rn, tds]
  | c :: r, s => by
    rw [tk_cons]
    split
    · rename_i h
      simp only [List.take_succ_cons, List.take_zero]
      rw [rn_cons, if_pos h]
      have := lineOf_no m (bdy s)
      rw [tds_it this]
      simp [rn]
    · rename_i h
      simp only [List.take_succ_cons]
      rw [rn_cons, if_neg h, rn_take m r (s ++ [c])]
      rw [List.length_append, List.length_singleton, Nat.add_assoc, Nat.add_comm 1]
where
  lineOf_no (m : Nat) (l : List UInt8) : ¬ lineOf m l = .no := by
    unfold lineOf
    split <;> intro h <;> cases h
theorem rn_len (m : Nat) : ∀ (b s : List UInt8), (rn m s b).1.length ≤ b.length ∧ (rn m s b).2.length ≤ s.length + b.length
  | [], s => by simp [rn]
  | c :: r, s => by
    rw [rn_cons]
    split
    · have := rn_len m r []
      simp at this ⊢
      omega
    · have := rn_len m r (s ++ [c])
      simp at this ⊢
      omega
/-- On to place p + k, out of what stood at p. -/
theorem rn_on (m p n : Nat) (b : List UInt8) {xs : List Td} {s : List UInt8} (h : rn m [] (b.take p) = (xs, s)) :
    rn m [] (b.take (p + (tk m s ((b.drop p).take n)).1)) = (xs ++ tds (tk m s ((b.drop p).take n)).2.1 (s.length + (tk m s ((b.drop p).take n)).1), (tk m s ((b.drop p).take n)).2.2) := by
  have hl := tk_len m ((b.drop p).take n) s
  rw [List.length_take, List.length_drop] at hl
  have e : b.take (p + (tk m s ((b.drop p).take n)).1) = b.take p ++ ((b.drop p).take n).take (tk m s ((b.drop p).take n)).1 := by
    rw [List.take_take, Nat.min_eq_left (by omega), List.take_add]
  rw [e, rn_append, h, rn_take]
theorem rn_told (m : Nat) : ∀ (b s : List UInt8), ∀ x ∈ (rn m s b).1, x.n ≤ s.length + b.length
  | [], s, x, h => by simp [rn] at h
  | c :: r, s, x, h => by
    rw [rn_cons] at h
    split at h
    · rcases List.mem_cons.1 h with e | h
      · rw [e]; simp
      · have := rn_told m r [] x h
        simp at this ⊢
        omega
    · have := rn_told m r (s ++ [c]) x h
      simp at this ⊢
      omega
end Go.Proofs.Ythjcjecimidedaa
