/-
  The plain mathematics of the order of wide runes: no Go in sight.
-/
namespace Go.Proofs.YtedgimkffkflbaaDoor

/-- The rune at a place. -/
def rn (l : List Int) (k : Nat) : Int := l.getD k 0
theorem rn_get (l : List Int) (k : Nat) (h : k < l.length) : rn l k = l[k] := by simp [rn, List.getD_eq_getElem?_getD, List.getElem?_eq_getElem h]
/-- Which of two places comes first. -/
def ltW (l : List Int) (a b : Nat) : Bool := decide (rn l a < rn l b ∨ (rn l a = rn l b ∧ a < b))
def leW (l : List Int) (a b : Nat) : Bool := !ltW l b a
theorem leW_iff (l : List Int) (a b : Nat) : leW l a b = true ↔ (rn l a < rn l b ∨ (rn l a = rn l b ∧ a ≤ b)) := by
  unfold leW ltW
  simp only [Bool.not_eq_true', decide_eq_false_iff_not]
  omega
theorem leW_trans (l : List Int) (a b c : Nat) (h1 : leW l a b = true) (h2 : leW l b c = true) : leW l a c = true := by
  rw [leW_iff] at *
  omega
theorem leW_total (l : List Int) (a b : Nat) : (leW l a b || leW l b a) = true := by
  rw [Bool.or_eq_true, leW_iff, leW_iff]
  omega
/-- The places of wide runes below k, from the left. -/
def wideK (l : List Int) (k : Nat) : List Nat := (List.range k).filter fun j => decide (128 ≤ rn l j)
theorem wideK_succ (l : List Int) (k : Nat) : wideK l (k + 1) = wideK l k ++ (if 128 ≤ rn l k then [k] else []) := by
  unfold wideK
  rw [List.range_succ, List.filter_append]
  congr 1
  by_cases h : 128 ≤ rn l k
  · simp [h]
  · simp [h]
theorem wideK_lt {l : List Int} {k j : Nat} (h : j ∈ wideK l k) : j < k ∧ 128 ≤ rn l j := by
  unfold wideK at h
  rw [List.mem_filter] at h
  exact ⟨List.mem_range.1 h.1, by simpa using h.2⟩
theorem wideK_length (l : List Int) (k : Nat) : (wideK l k).length ≤ k := by
  have := List.length_filter_le (fun j => decide (128 ≤ rn l j)) (List.range k)
  rw [List.length_range] at this
  exact this
/-- The order of the wide runes. -/
def ordW (l : List Int) : List Nat := (wideK l l.length).mergeSort (leW l)
theorem ordW_mem {l : List Int} {j : Nat} (h : j ∈ ordW l) : j < l.length ∧ 128 ≤ rn l j := by
  unfold ordW at h
  rw [List.mem_mergeSort] at h
  exact wideK_lt h
theorem ordW_length (l : List Int) : (ordW l).length ≤ l.length := by
  unfold ordW
  rw [List.length_mergeSort]
  exact wideK_length l l.length
end Go.Proofs.YtedgimkffkflbaaDoor
