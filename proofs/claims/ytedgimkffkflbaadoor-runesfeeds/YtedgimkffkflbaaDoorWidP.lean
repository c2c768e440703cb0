/-
  The plain mathematics of Punycode's digits and of the bias: no Go in sight.
-/
namespace Go.Proofs.YtedgimkffkflbaaDoor

/-- The bound of the digit number i. -/
def bnd (i bias : Nat) : Nat := min (max (36 * (i + 1) - bias) 1) 26
theorem bnd_pos (i bias : Nat) : 1 ≤ bnd i bias := by unfold bnd; omega
theorem bnd_le (i bias : Nat) : bnd i bias ≤ 26 := by unfold bnd; omega
/-- The byte of a digit. -/
def dgt (v : Nat) : UInt8 := if v < 26 then UInt8.ofNat (97 + v) else UInt8.ofNat (22 + v)
theorem digs_less {q i bias : Nat} (h : ¬ q < bnd i bias) : (q - bnd i bias) / (36 - bnd i bias) < q := by
  have h1 := bnd_pos i bias
  have := Nat.div_le_self (q - bnd i bias) (36 - bnd i bias)
  omega
/-- The digits of a number. -/
def digs (q i bias : Nat) : List UInt8 :=
  if _h : q < bnd i bias then [dgt q]
  else dgt (bnd i bias + (q - bnd i bias) % (36 - bnd i bias)) :: digs ((q - bnd i bias) / (36 - bnd i bias)) (i + 1) bias
termination_by q
decreasing_by exact digs_less _h
theorem digs_last {q i bias : Nat} (h : q < bnd i bias) : digs q i bias = [dgt q] := by rw [digs, dif_pos h]
theorem digs_more {q i bias : Nat} (h : ¬ q < bnd i bias) : digs q i bias = dgt (bnd i bias + (q - bnd i bias) % (36 - bnd i bias)) :: digs ((q - bnd i bias) / (36 - bnd i bias)) (i + 1) bias := by rw [digs, dif_neg h]
theorem digs_length (q i bias : Nat) : (digs q i bias).length ≤ q + 1 := by
  induction q using Nat.strongRecOn generalizing i with
  | _ q ih =>
    by_cases h : q < bnd i bias
    · rw [digs_last h]; simp
    · rw [digs_more h]
      have h1 := digs_less h
      have := ih _ h1 (i + 1)
      simp only [List.length_cons]
      omega
/-- Steps have few digits. -/
theorem digs_short (q i bias : Nat) : ∀ k, q < 10 ^ k → (digs q i bias).length ≤ k + 1 := by
  induction q using Nat.strongRecOn generalizing i with
  | _ q ih =>
    intro k hk
    by_cases h : q < bnd i bias
    · rw [digs_last h]; simp
    · rw [digs_more h]
      have h1 := digs_less h
      have h2 := bnd_pos i bias
      have h3 := bnd_le i bias
      cases k with
      | zero => simp at hk; omega
      | succ k =>
        have h4 : (q - bnd i bias) / (36 - bnd i bias) < 10 ^ k := by
          rw [Nat.div_lt_iff_lt_mul (by omega)]
          rw [Nat.pow_succ] at hk
          have : 10 ^ k * 10 ≤ 10 ^ k * (36 - bnd i bias) := Nat.mul_le_mul_left _ (by omega)
          omega
        have := ih _ h1 (i + 1) k h4
        simp only [List.length_cons]
        omega
/-- The bias, as it goes down. -/
def biasL (d k : Nat) : Nat := if _h : 455 < d then biasL (d / 35) (k + 36) else k + 36 * d / (d + 38)
termination_by d
decreasing_by omega
theorem biasL_go {d k : Nat} (h : 455 < d) : biasL d k = biasL (d / 35) (k + 36) := by rw [biasL, dif_pos h]
theorem biasL_end {d k : Nat} (h : ¬ 455 < d) : biasL d k = k + 36 * d / (d + 38) := by rw [biasL, dif_neg h]
theorem biasL_le (d : Nat) : ∀ k, biasL d k ≤ k + d + 36 := by
  induction d using Nat.strongRecOn with
  | _ d ih =>
    intro k
    by_cases h : 455 < d
    · rw [biasL_go h]
      have := ih (d / 35) (by omega) (k + 36)
      omega
    · rw [biasL_end h]
      have : 36 * d / (d + 38) ≤ 36 := by
        rw [← Nat.lt_succ_iff, Nat.div_lt_iff_lt_mul (by omega)]
        omega
      omega
/-- The bias behind a step. -/
def biasB (s h : Nat) (first : Bool) : Nat := biasL ((if first then s / 700 else s / 2) + (if first then s / 700 else s / 2) / h) 0
theorem biasB_le (s h : Nat) (first : Bool) : biasB s h first ≤ 2 * s + 36 := by
  unfold biasB
  have h1 : (if first then s / 700 else s / 2) ≤ s / 2 := by split <;> omega
  generalize (if first then s / 700 else s / 2) = d at h1
  have := Nat.div_le_self d h
  have := biasL_le (d + d / h) 0
  omega
end Go.Proofs.YtedgimkffkflbaaDoor
/-
  The plain mathematics of the order of wide runes: no Go in sight.
-/
namespace Go.Proofs.YtedgimkffkflbaaDoor

/-- The rune at a place. -/
def rn (l : List Int) (k : Nat) : Int := l.getD k 0
theorem rn_get (l : List Int) (k : Nat) (h : k < l.length) : rn l k = l[k] := by simp [rn, List.getD_eq_getElem?_getD, List.getElem?_eq_getElem h]
/-- Which of two places comes first. -/
def ltW (l : List Int) (a b : Nat) : Bool := decide (rn l a < rn l b ∨ (rn l a = rn l b ∧ a < b))
def leW (l : List Int) (a b : Nat) : Bool := !ltW l b a
theorem leW_iff (l : List Int) (a b : Nat) : leW l a b = true ↔ (rn l a < rn l b ∨ (rn l a = rn l b ∧ a ≤ b)) := by
  unfold leW ltW
  simp only [Bool.not_eq_true', decide_eq_false_iff_not]
  omega
theorem leW_trans (l : List Int) (a b c : Nat) (h1 : leW l a b = true) (h2 : leW l b c = true) : leW l a c = true := by
  rw [leW_iff] at *
  omega
theorem leW_total (l : List Int) (a b : Nat) : (leW l a b || leW l b a) = true := by
  rw [Bool.or_eq_true, leW_iff, leW_iff]
  omega
/-- The places of wide runes below k, from the left. -/
def wideK (l : List Int) (k : Nat) : List Nat := (List.range k).filter fun j => decide (128 ≤ rn l j)
theorem wideK_succ (l : List Int) (k : Nat) : wideK l (k + 1) = wideK l k ++ (if 128 ≤ rn l k then [k] else []) := by
  unfold wideK
  rw [List.range_succ, List.filter_append]
  congr 1
  by_cases h : 128 ≤ rn l k
  · simp [h]
  · simp [h]
theorem wideK_lt {l : List Int} {k j : Nat} (h : j ∈ wideK l k) : j < k ∧ 128 ≤ rn l j := by
  unfold wideK at h
  rw [List.mem_filter] at h
  exact ⟨List.mem_range.1 h.1, by simpa using h.2⟩
theorem wideK_length (l : List Int) (k : Nat) : (wideK l k).length ≤ k := by
  have := List.length_filter_le (fun j => decide (128 ≤ rn l j)) (List.range k)
  rw [List.length_range] at this
  exact this
/-- The order of the wide runes. -/
def ordW (l : List Int) : List Nat := (wideK l l.length).mergeSort (leW l)
theorem ordW_mem {l : List Int} {j : Nat} (h : j ∈ ordW l) : j < l.length ∧ 128 ≤ rn l j := by
  unfold ordW at h
  rw [List.mem_mergeSort] at h
  exact wideK_lt h
theorem ordW_length (l : List Int) : (ordW l).length ≤ l.length := by
  unfold ordW
  rw [List.length_mergeSort]
  exact wideK_length l l.length
end Go.Proofs.YtedgimkffkflbaaDoor
