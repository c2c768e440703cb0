/-
  The plain mathematics of a date's text, read again.
-/
import Derived.Test.YtedfnebadenmdabDoorPrt
import Derived.Test.YtedfnebadenmdabDoorParB
namespace Go.Proofs.YtedfnebadenmdabDoor
open Go.Lib

theorem dig_byte (d : Nat) (h : d < 10) : isB 2 ((UInt8.ofNat (48 + d)).toNat : Int) = true ∧ (UInt8.ofNat (48 + d)).toNat = 48 + d := by
  have e : (UInt8.ofNat (48 + d)).toNat = 48 + d := by simp; omega
  refine ⟨?_, e⟩
  rw [e]
  have := digit_fin ⟨48 + d, by omega⟩
  simp only at this
  rw [this]
  simp
  omega
theorem dec_all (u : Nat) : ∀ b ∈ decDigits u, isB 2 (b.toNat : Int) = true := by
  induction u using Nat.strongRecOn with
  | _ u ih =>
    rw [decDigits]
    by_cases h : u < 10
    · rw [dif_pos h]
      intro b hb
      have : b = UInt8.ofNat (48 + u) := by simpa using hb
      subst this
      exact (dig_byte u h).1
    · rw [dif_neg h]
      intro b hb
      rcases List.mem_append.1 hb with hb | hb
      · exact ih (u / 10) (by omega) b hb
      · have : b = UInt8.ofNat (48 + u % 10) := by simpa using hb
        subst this
        exact (dig_byte (u % 10) (by omega)).1
theorem numV_join (l : List UInt8) (b : UInt8) : numV (l ++ [b]) = numV l * 10 + (b.toNat - 48) := by
  unfold numV
  rw [List.foldl_append]
  rfl
theorem dec_val (u : Nat) : numV (decDigits u) = u := by
  induction u using Nat.strongRecOn with
  | _ u ih =>
    rw [decDigits]
    by_cases h : u < 10
    · rw [dif_pos h]
      show 0 * 10 + ((UInt8.ofNat (48 + u)).toNat - 48) = u
      rw [(dig_byte u h).2]
      omega
    · rw [dif_neg h, numV_join, ih (u / 10) (by omega), (dig_byte (u % 10) (by omega)).2]
      omega
theorem numV_nought (k : Nat) (l : List UInt8) : numV (List.replicate k 48 ++ l) = numV l := by
  induction k with
  | zero => rfl
  | succ k ih =>
    rw [List.replicate_succ, List.cons_append]
    have : numV ((48 : UInt8) :: (List.replicate k 48 ++ l)) = numV (List.replicate k 48 ++ l) := rfl
    rw [this, ih]
theorem pad_val (wd n : Nat) : numV (padL wd n) = n := by
  unfold padL
  rw [numV_nought, dec_val]
theorem pad_all (wd n : Nat) : ∀ b ∈ padL wd n, isB 2 (b.toNat : Int) = true := by
  intro b hb
  unfold padL at hb
  rcases List.mem_append.1 hb with h | h
  · have : b = 48 := (List.mem_replicate.1 h).2
    subst this
    decide
  · exact dec_all n b h
theorem nDig2 {n : Nat} (h : n < 100) : nDigits n ≤ 2 := by
  by_cases c : n < 10
  · rw [nDigits_small c]; omega
  · rw [nDigits_big c, nDigits_small (by omega)]; omega
theorem nDig4 {n : Nat} (h : n < 10000) : nDigits n ≤ 4 := by
  by_cases c : n < 100
  · have := nDig2 c; omega
  · rw [nDigits_big (by omega), nDigits_big (by omega)]
    have := nDig2 (n := n / 10 / 10) (by omega)
    omega
theorem pad_len2 {n : Nat} (h : n < 100) : (padL 2 n).length = 2 := by
  have := nDig2 h
  unfold padL
  rw [List.length_append, List.length_replicate, decDigits_length]
  omega
theorem pad_len4 {n : Nat} (h : n < 10000) : (padL 4 n).length = 4 := by
  have := nDig4 h
  unfold padL
  rw [List.length_append, List.length_replicate, decDigits_length]
  omega
theorem pad_len1 {n : Nat} (h : n < 100) : 1 ≤ (padL 1 n).length ∧ (padL 1 n).length ≤ 2 := by
  have := nDig2 h
  have := nDigits_pos n
  unfold padL
  rw [List.length_append, List.length_replicate, decDigits_length]
  omega
/-- The names' letters. -/
def wdM (i : Nat) : List UInt8 := (nmS wdS i).data.toList
def moM (i : Nat) : List UInt8 := (nmS moS i).data.toList
theorem wdM_facts : ∀ i : Fin 7, (∀ b ∈ wdM i.val, isB 1 (b.toNat : Int) = true) ∧ nameAt wdL (upL (wdM i.val)) = some i.val ∧ wdM i.val ≠ [] := by decide +kernel
theorem moM_facts : ∀ i : Fin 12, (∀ b ∈ moM i.val, isB 1 (b.toNat : Int) = true) ∧ nameAt moL (upL (moM i.val)) = some i.val ∧ moM i.val ≠ [] := by decide +kernel
theorem printB_list (wd d m1 y h mi sc : Nat) (sg : UInt8) (zh zm : Nat) : (printB wd d m1 y h mi sc ⟨#[sg]⟩ zh zm).data.toList =
    wdM wd ++ 44 :: ([32] ++ (padL 1 d ++ ([32] ++ (moM m1 ++ ([32] ++ (padL 4 y ++ ([32] ++ (padL 2 h ++ 58 :: (padL 2 mi ++ 58 :: (padL 2 sc ++ ([32] ++ (sg :: (padL 2 zh ++ (padL 2 zm ++ [])))))))))))))) := by
  unfold printB padS wdM moM
  simp [ByteArray.data_append]
/-- A blank ends a row of digits, and one of letters. -/
theorem bl_no (g r : List UInt8) (h : ∀ b, (g ++ r).head? = some b → isBl b = true) : (∀ b, (g ++ r).head? = some b → isB 2 (b.toNat : Int) = false) ∧ (∀ b, (g ++ r).head? = some b → isB 1 (b.toNat : Int) = false) := by
  have key : ∀ b, isBl b = true → isB 2 (b.toNat : Int) = false ∧ isB 1 (b.toNat : Int) = false := by
    intro b hb
    unfold isBl at hb
    simp only [Bool.or_eq_true, beq_iff_eq] at hb
    rcases hb with rfl | rfl <;> decide
  exact ⟨fun b hb => (key b (h b hb)).1, fun b hb => (key b (h b hb)).2⟩
end Go.Proofs.YtedfnebadenmdabDoor
