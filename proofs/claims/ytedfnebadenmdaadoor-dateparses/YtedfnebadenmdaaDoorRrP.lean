/-
  The plain mathematics of the document's reader: rows of bytes that are among others.
-/
import Derived.Test.YtedfnebadenmdaaDoorRdt
namespace Go.Proofs.YtedfnebadenmdaaDoor
open Go.RowKit

/-- A byte is one of these. -/
def inA (all : ByteArray) (b : UInt8) : Bool := all.data.toList.contains b
/-- How many bytes stand there that are of these. -/
def rowN (all : ByteArray) : List UInt8 → Nat
  | [] => 0
  | b :: r => if inA all b = true then rowN all r + 1 else 0
def oneOf (all s : ByteArray) (k : Nat) : Bool := match (s.data.toList.drop k).head? with
  | none => false
  | some b => inA all b
def figS : ByteArray := ⟨#[48, 49, 50, 51, 52, 53, 54, 55, 56, 57]⟩
def letS : ByteArray := ⟨#[65, 66, 67, 68, 69, 70, 71, 72, 73, 74, 75, 76, 77, 78, 79, 80, 81, 82, 83, 84, 85, 86, 87, 88, 89, 90, 97, 98, 99, 100, 101, 102, 103, 104, 105, 106, 107, 108, 109, 110, 111, 112, 113, 114, 115, 116, 117, 118, 119, 120, 121, 122]⟩
def blS : ByteArray := ⟨#[32, 9]⟩
theorem fig_fin : ∀ n : Fin 256, inA figS (UInt8.ofNat n.val) = isB 2 (n.val : Int) := by decide +kernel
theorem let_fin : ∀ n : Fin 256, inA letS (UInt8.ofNat n.val) = isB 1 (n.val : Int) := by decide +kernel
theorem inA_fig (b : UInt8) : inA figS b = isB 2 (b.toNat : Int) := by
  have := fig_fin ⟨b.toNat, b.toNat_lt⟩
  simpa using this
theorem inA_let (b : UInt8) : inA letS b = isB 1 (b.toNat : Int) := by
  have := let_fin ⟨b.toNat, b.toNat_lt⟩
  simpa using this
theorem inA_bl (b : UInt8) : inA blS b = isBl b := by
  unfold inA isBl blS
  simp only [List.contains_cons, List.contains_nil, Bool.or_false]
theorem rowN_bad {all : ByteArray} {c : Int} (h : ∀ b, inA all b = isB c ((b : UInt8).toNat : Int)) : ∀ l, rowN all l = badN c l
  | [] => rfl
  | b :: r => by
    unfold rowN badN
    rw [h b, rowN_bad h r]
theorem rowN_fig (l : List UInt8) : rowN figS l = badN 2 l := rowN_bad inA_fig l
theorem rowN_let (l : List UInt8) : rowN letS l = badN 1 l := rowN_bad inA_let l
theorem rowN_bl : ∀ l : List UInt8, rowN blS l = blN l
  | [] => rfl
  | b :: r => by
    unfold rowN blN
    rw [inA_bl b, rowN_bl r]
theorem rowN_le (all : ByteArray) : ∀ l : List UInt8, rowN all l ≤ l.length
  | [] => Nat.le_refl _
  | b :: r => by
    have := rowN_le all r
    unfold rowN
    split <;> simp <;> omega
theorem drop_cons (s : ByteArray) (k : Nat) (h : k < s.size) : s.data.toList.drop k = s[k] :: s.data.toList.drop (k + 1) := by
  have hk' : k < s.data.toList.length := by rw [Array.length_toList]; exact h
  rw [List.drop_eq_getElem_cons hk']
  rfl
theorem drop_end (s : ByteArray) (k : Nat) (h : ¬ k < s.size) : s.data.toList.drop k = [] := by
  apply List.drop_eq_nil_of_le
  rw [Array.length_toList]
  have : s.data.size = s.size := rfl
  omega
theorem oneOf_at (all s : ByteArray) (k : Nat) (h : k < s.size) : oneOf all s k = inA all s[k] := by
  unfold oneOf
  rw [head_drop s k h]
theorem oneOf_end (all s : ByteArray) (k : Nat) (h : ¬ k < s.size) : oneOf all s k = false := by
  unfold oneOf
  rw [head_end s k h]
theorem oneOf_lt {all s : ByteArray} {k : Nat} (h : oneOf all s k = true) : k < s.size := by
  rcases Nat.lt_or_ge k s.size with h' | h'
  · exact h'
  · rw [oneOf_end all s k (by omega)] at h
    cases h
theorem oneOf_yes {all s : ByteArray} {k : Nat} (h : oneOf all s k = true) : rowN all (s.data.toList.drop k) = rowN all (s.data.toList.drop (k + 1)) + 1 := by
  have hk := oneOf_lt h
  rw [oneOf_at all s k hk] at h
  rw [drop_cons s k hk, rowN, if_pos h]
theorem oneOf_no {all s : ByteArray} {k : Nat} (h : oneOf all s k = false) : rowN all (s.data.toList.drop k) = 0 := by
  by_cases hk : k < s.size
  · rw [oneOf_at all s k hk] at h
    rw [drop_cons s k hk, rowN, if_neg (by rw [h]; decide)]
  · rw [drop_end s k hk]
    rfl
theorem inA_one (b c : UInt8) : inA ⟨#[b]⟩ c = decide (some c = some b) := by
  unfold inA
  simp only [List.contains_cons, List.contains_nil, Bool.or_false]
  rw [Bool.eq_iff_iff]
  simp
theorem oneOf_one (b : UInt8) (s : ByteArray) (k : Nat) : oneOf ⟨#[b]⟩ s k = standB s k b := by
  unfold standB
  by_cases hk : k < s.size
  · rw [oneOf_at _ s k hk, head_drop s k hk, inA_one]
  · rw [oneOf_end _ s k hk, head_end s k hk]
    rfl
theorem inA_hit (all : ByteArray) (j : Nat) (h : j < all.size) (b : UInt8) (e : all[j] = b) : inA all b = true := by
  unfold inA
  rw [List.contains_iff_mem, ← e]
  exact Array.mem_toList_iff.2 (Array.getElem_mem h)
theorem inA_miss (all : ByteArray) (b : UInt8) (h : ∀ j, (hj : j < all.size) → all[j] ≠ b) : inA all b = false := by
  unfold inA
  rw [Bool.eq_false_iff]
  intro hc
  rw [List.contains_iff_mem] at hc
  obtain ⟨j, hj, e⟩ := List.getElem_of_mem hc
  have hj' : j < all.size := by rw [Array.length_toList] at hj; exact hj
  exact h j hj' (by rw [← e]; rfl)
theorem row_in (all s : ByteArray) (k : Nat) (h : k ≤ s.size) : k + rowN all (s.data.toList.drop k) ≤ s.size := by
  have := rowN_le all (s.data.toList.drop k)
  rw [List.length_drop, Array.length_toList] at this
  have e : s.data.size = s.size := rfl
  omega
end Go.Proofs.YtedfnebadenmdaaDoor
