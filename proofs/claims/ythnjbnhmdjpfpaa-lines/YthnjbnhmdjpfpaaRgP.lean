/-
  A row that lies in places that go around: read, put in, taken out, laid anew.
-/
import Derived.Test.YthnjbnhmdjpfpaaProg
import Derived.WalkKit
namespace Go.Proofs.Ythnjbnhmdjpfpaa
open Go.RowKit

/-- The c things from place f on. -/
def rwA {α : Type} (d : α) (A : List α) (f c : Nat) : List α := (List.range c).map fun i => A.getD ((f + i) % A.length) d
theorem rwA_length {α : Type} (d : α) (A : List α) (f c : Nat) : (rwA d A f c).length = c := by simp [rwA]
theorem rwA_at {α : Type} (d : α) (A : List α) (f c i : Nat) (h : i < c) : (rwA d A f c)[i]? = some (A.getD ((f + i) % A.length) d) := by simp [rwA, h]
theorem rwA_zero {α : Type} (d : α) (A : List α) (f : Nat) : rwA d A f 0 = [] := rfl
theorem around_ne {f i c n : Nat} (hi : i < c) (hc : c < n) : (f + c) % n ≠ (f + i) % n := by
  intro h
  have h1 : (f + c - (f + i)) % n = 0 := Nat.sub_mod_eq_zero_of_mod_eq h
  have h2 : f + c - (f + i) = c - i := by omega
  rw [h2, Nat.mod_eq_of_lt (by omega)] at h1
  omega
theorem rwA_push {α : Type} (d : α) (A : List α) (f c : Nat) (x : α) (h : c < A.length) : rwA d (A.set ((f + c) % A.length) x) f (c + 1) = rwA d A f c ++ [x] := by
  unfold rwA
  rw [List.range_succ, List.map_append]
  congr 1
  · apply List.map_congr_left
    intro i hi
    have hi' : i < c := List.mem_range.1 hi
    rw [List.length_set, List.getD_eq_getElem?_getD, List.getD_eq_getElem?_getD, List.getElem?_set_ne (around_ne hi' h)]
  · have hl : (f + c) % A.length < A.length := Nat.mod_lt _ (by omega)
    simp [hl]
/-- Places in two pieces: those up to the end, and those that go on at the beginning. -/
theorem rwA_pieces {α : Type} (d : α) (A : List α) (f c : Nat) (hf : f < A.length) (hc : c ≤ A.length) :
    (A.drop f).take (min (f + c) A.length - f) ++ A.take (c - (min (f + c) A.length - f)) = rwA d A f c := by
  apply List.ext_getElem?
  intro i
  by_cases hi : i < c
  · rw [rwA_at d A f c i hi]
    by_cases h1 : f + i < A.length
    · have h2 : i < min (f + c) A.length - f := by omega
      rw [List.getElem?_append_left (by simp; omega), List.getElem?_take, if_pos h2, List.getElem?_drop, Nat.mod_eq_of_lt h1, List.getElem?_eq_getElem h1]
      simp [h1]
    · have h2 : min (f + c) A.length - f = A.length - f := by omega
      have h3 : (f + i) % A.length = f + i - A.length := by
        rw [Nat.mod_eq_sub_mod (by omega), Nat.mod_eq_of_lt (by omega)]
      have h4 : f + i - A.length < A.length := by omega
      rw [h2, h3, List.getElem?_append_right (by simp; omega)]
      simp only [List.length_take, List.length_drop, Nat.min_self]
      rw [List.getElem?_take, if_pos (by omega), show i - (A.length - f) = f + i - A.length by omega, List.getElem?_eq_getElem h4]
      simp [h4]
  · rw [List.getElem?_eq_none (by simp; omega), List.getElem?_eq_none (by rw [rwA_length]; omega)]
theorem rwA_anew {α : Type} (d : α) (l : List α) (t : List α) : rwA d (l ++ t) 0 l.length = l := by
  apply List.ext_getElem?
  intro i
  by_cases hi : i < l.length
  · rw [rwA_at d _ 0 _ i hi, Nat.zero_add, Nat.mod_eq_of_lt (by simp; omega), List.getD_eq_getElem?_getD, List.getElem?_append_left hi, List.getElem?_eq_getElem hi]
    rfl
  · rw [List.getElem?_eq_none (by rw [rwA_length]; omega), List.getElem?_eq_none (by omega)]
/-- Places from o on, n of them, cleared. -/
def clrA {α : Type} (d : α) (A : List α) (o n : Nat) : List α := A.take o ++ List.replicate n d ++ A.drop (o + n)
theorem clrA_length {α : Type} (d : α) (A : List α) (o n : Nat) (h : o + n ≤ A.length) : (clrA d A o n).length = A.length := by simp [clrA]; omega
theorem clrA_zero {α : Type} (d : α) (A : List α) (o : Nat) : clrA d A o 0 = A := by simp [clrA]
theorem clrA_at {α : Type} (d : α) (A : List α) (o n i : Nat) (h : o + n ≤ A.length) (hi : i < o ∨ o + n ≤ i) : (clrA d A o n)[i]? = A[i]? := by
  unfold clrA
  rcases hi with hi | hi
  · rw [List.append_assoc, List.getElem?_append_left (by simp; omega), List.getElem?_take, if_pos hi]
  · rw [List.getElem?_append_right (by simp; omega), List.getElem?_drop]
    congr 1
    simp
    omega
/-- The first n gone: the places behind them are the row that is left. -/
theorem rwA_drop {α : Type} (d : α) (A A' : List α) (f c n : Nat) (hn : n ≤ c) (hl : A'.length = A.length)
    (hA : ∀ i, n ≤ i → i < c → A'[(f + i) % A.length]? = A[(f + i) % A.length]?) : rwA d A' ((f + n) % A.length) (c - n) = (rwA d A f c).drop n := by
  apply List.ext_getElem?
  intro i
  by_cases hi : i < c - n
  · rw [rwA_at d _ _ _ i hi, List.getElem?_drop, rwA_at d _ _ _ (n + i) (by omega), hl]
    congr 1
    have e : ((f + n) % A.length + i) % A.length = (f + (n + i)) % A.length := by rw [Nat.mod_add_mod]; congr 1; omega
    rw [e, List.getD_eq_getElem?_getD, List.getD_eq_getElem?_getD, hA (n + i) (by omega) (by omega)]
  · rw [List.getElem?_eq_none (by rw [rwA_length]; omega), List.getElem?_eq_none (by simp [rwA_length]; omega)]
/-- Drop's two clearings. -/
theorem rwA_cleared {α : Type} (d : α) (A : List α) (f c n : Nat) (hf : f < A.length) (hc : c ≤ A.length) (hn : n ≤ c) :
    rwA d (clrA d (clrA d A f (min (f + n) A.length - f)) 0 (n - (min (f + n) A.length - f))) ((f + n) % A.length) (c - n) = (rwA d A f c).drop n := by
  have l1 : (clrA d A f (min (f + n) A.length - f)).length = A.length := clrA_length _ _ _ _ (by omega)
  refine rwA_drop d A _ f c n hn (by rw [clrA_length _ _ _ _ (by omega), l1]) fun i h1 h2 => ?_
  by_cases h3 : f + i < A.length
  · rw [Nat.mod_eq_of_lt h3, clrA_at _ _ _ _ _ (by omega) (.inr (by omega)), clrA_at _ _ _ _ _ (by omega) (.inr (by omega))]
  · have h4 : (f + i) % A.length = f + i - A.length := by rw [Nat.mod_eq_sub_mod (by omega), Nat.mod_eq_of_lt (by omega)]
    rw [h4, clrA_at _ _ _ _ _ (by omega) (.inr (by omega)), clrA_at _ _ _ _ _ (by omega) (.inl (by omega))]
theorem clrA_cleared_length {α : Type} (d : α) (A : List α) (f n : Nat) (hf : f ≤ A.length) (hn : n ≤ A.length) :
    (clrA d (clrA d A f (min (f + n) A.length - f)) 0 (n - (min (f + n) A.length - f))).length = A.length := by
  have l1 : (clrA d A f (min (f + n) A.length - f)).length = A.length := clrA_length _ _ _ _ (by omega)
  rw [clrA_length _ _ _ _ (by omega), l1]
/-- Two pieces laid at the head of cleared places. -/
theorem grown_list {α : Type} (d : α) (M a1 a2 : Nat) (m1 m2 : List α) (h1 : a1 = m1.length) (h2 : a2 = m2.length) (hM : a1 + a2 ≤ M) :
    ((List.replicate M d).take 0 ++ m1 ++ (List.replicate M d).drop (0 + m1.length)).take a1 ++ m2 ++ ((List.replicate M d).take 0 ++ m1 ++ (List.replicate M d).drop (0 + m1.length)).drop (a1 + m2.length) = m1 ++ m2 ++ List.replicate (M - (a1 + a2)) d := by
  subst h1 h2
  rw [List.take_zero, List.nil_append, List.take_append_of_le_length (Nat.le_refl _), List.take_length, Nat.zero_add, List.drop_append, List.drop_eq_nil_of_le (by omega), List.nil_append, List.drop_drop, List.drop_replicate]
  congr 2
  omega
end Go.Proofs.Ythnjbnhmdjpfpaa
