/-
  The plain mathematics of a number's decimal digits, there and back.
-/
import Derived.Test.YtdgbkllhcoincaaDoorPureNum
import Derived.Lib.ItoaNum
import Derived.Lib.ItoaLen
namespace Go.Proofs.YtdgbkllhcoincaaDoor
open Go.Lib

theorem badN_of_all (c : Int) : ∀ (l : List UInt8), (∀ b ∈ l, isB c (b.toNat : Int) = true) → badN c l = l.length
  | [], _ => rfl
  | b :: r, h => by
    rw [badN, if_pos (h b (by simp)), badN_of_all c r (fun x hx => h x (by simp [hx]))]
    rfl
theorem dig_byte (d : Nat) (h : d < 10) : isB 2 ((UInt8.ofNat (48 + d)).toNat : Int) = true ∧ (UInt8.ofNat (48 + d)).toNat = 48 + d := by
  have e : (UInt8.ofNat (48 + d)).toNat = 48 + d := by simp; omega
  refine ⟨?_, e⟩
  rw [e]
  have := digit_fin ⟨48 + d, by omega⟩
  simp only at this
  rw [this]
  simp
  omega
theorem dec_all (u : Nat) : ∀ b ∈ decDigits u, isB 2 (b.toNat : Int) = true := by
  induction u using Nat.strongRecOn with
  | _ u ih =>
    rw [decDigits]
    by_cases h : u < 10
    · rw [dif_pos h]
      intro b hb
      have : b = UInt8.ofNat (48 + u) := by simpa using hb
      subst this
      exact (dig_byte u h).1
    · rw [dif_neg h]
      intro b hb
      rcases List.mem_append.1 hb with hb | hb
      · exact ih (u / 10) (by omega) b hb
      · have : b = UInt8.ofNat (48 + u % 10) := by simpa using hb
        subst this
        exact (dig_byte (u % 10) (by omega)).1
theorem numV_join (l : List UInt8) (b : UInt8) : numV (l ++ [b]) = numV l * 10 + (b.toNat - 48) := by
  unfold numV
  rw [List.foldl_append]
  rfl
theorem dec_val (u : Nat) : numV (decDigits u) = u := by
  induction u using Nat.strongRecOn with
  | _ u ih =>
    rw [decDigits]
    by_cases h : u < 10
    · rw [dif_pos h]
      show 0 * 10 + ((UInt8.ofNat (48 + u)).toNat - 48) = u
      rw [(dig_byte u h).2]
      omega
    · rw [dif_neg h, numV_join, ih (u / 10) (by omega), (dig_byte (u % 10) (by omega)).2]
      omega
theorem dec_ok (u : Nat) (h : u < 18446744073709551616) : numOk (decDigits u) := by
  refine ⟨?_, ?_, badN_of_all 2 _ (dec_all u)⟩
  · rw [decDigits_length]; exact nDigits_pos u
  · rw [decDigits_length]; exact nDigits_le20 u h
theorem dec_size (u : Nat) (h : u < 18446744073709551616) : (⟨(decDigits u).toArray⟩ : ByteArray).size ≤ 20 := by
  show (decDigits u).toArray.size ≤ 20
  rw [List.size_toArray, decDigits_length]
  exact nDigits_le20 u h
end Go.Proofs.YtdgbkllhcoincaaDoor
