/-
  A message's lines, and how many of its header's are of the name Received.
-/
import Derived.Lib.IndexMore
import Derived.Lib.IndexLaws
namespace Go.Proofs.Ythkoionigdnhgaa

/-- One byte more: the lines so far, and the line that stands open. -/
def hlS (s : List (List UInt8) × List UInt8) (c : UInt8) : List (List UInt8) × List UInt8 := if c = 10 ∧ s.2.getLast? = some 13 then (s.1 ++ [s.2.dropLast], []) else (s.1, s.2 ++ [c])
def hlF (s : List (List UInt8) × List UInt8) (xs : List UInt8) : List (List UInt8) × List UInt8 := xs.foldl hlS s
/-- The lines of a message. -/
def lnsH (xs : List UInt8) : List (List UInt8) := (hlF ([], []) xs).1 ++ [(hlF ([], []) xs).2]
def hopN (rc : List UInt8 → Bool) : List (List UInt8) → Nat
  | [] => 0
  | l :: r => if l = [] then 0 else (if rc l = true then 1 else 0) + hopN rc r
/-- How many of the header's lines are so. -/
def hopsB (rc : List UInt8 → Bool) (xs : List UInt8) : Nat := hopN rc (lnsH xs)
/-- No line end stands there. -/
def noCL (l : List UInt8) : Prop := ∀ i : Nat, l[i]? = some 13 → l[i + 1]? ≠ some 10

theorem hlF_shift : ∀ (xs : List UInt8) (A B : List (List UInt8)) (cur : List UInt8), hlF (A ++ B, cur) xs = (A ++ (hlF (B, cur) xs).1, (hlF (B, cur) xs).2)
  | [], A, B, cur => rfl
  | c :: t, A, B, cur => by
    unfold hlF
    rw [List.foldl_cons, List.foldl_cons]
    unfold hlS
    by_cases h : c = 10 ∧ cur.getLast? = some 13
    · rw [if_pos h, if_pos h, List.append_assoc]
      exact hlF_shift t A (B ++ [cur.dropLast]) []
    · rw [if_neg h, if_neg h]
      exact hlF_shift t A B (cur ++ [c])
theorem hlF_app (s : List (List UInt8) × List UInt8) (a b : List UInt8) : hlF s (a ++ b) = hlF (hlF s a) b := by unfold hlF; rw [List.foldl_append]
theorem noCL_front {a b : List UInt8} (h : noCL (a ++ b)) : noCL a := by
  intro i hi
  have hlt : i < a.length := (List.getElem?_eq_some_iff.1 hi).1
  have := h i (by rw [List.getElem?_append_left hlt]; exact hi)
  intro e
  have hlt2 : i + 1 < a.length := (List.getElem?_eq_some_iff.1 e).1
  rw [List.getElem?_append_left hlt2] at this
  exact this e
theorem last_get (l : List UInt8) : l.getLast? = l[l.length - 1]? := List.getLast?_eq_getElem? 
theorem hlF_no : ∀ (xs cur : List UInt8) (A : List (List UInt8)), noCL (cur ++ xs) → hlF (A, cur) xs = (A, cur ++ xs)
  | [], cur, A, _ => by simp [hlF]
  | c :: t, cur, A, h => by
    have hn : ¬ (c = 10 ∧ cur.getLast? = some 13) := by
      rintro ⟨rfl, h2⟩
      have hne : cur ≠ [] := by rintro rfl; simp at h2
      have hp : 0 < cur.length := List.length_pos_iff.2 hne
      rw [last_get] at h2
      refine h (cur.length - 1) (by rw [List.getElem?_append_left (by omega)]; exact h2) ?_
      rw [show cur.length - 1 + 1 = cur.length by omega, List.getElem?_append_right (Nat.le_refl _)]
      simp
    have := hlF_no t (cur ++ [c]) A (by simpa using h)
    unfold hlF at this ⊢
    rw [List.foldl_cons]
    unfold hlS
    rw [if_neg hn]
    unfold hlS at this
    rw [this]
    simp
theorem lns_no {xs : List UInt8} (h : noCL xs) : lnsH xs = [xs] := by
  unfold lnsH
  rw [hlF_no xs [] [] (by simpa using h)]
  simp
theorem lns_cut {l r : List UInt8} (h : noCL (l ++ [13])) : lnsH (l ++ 13 :: 10 :: r) = l :: lnsH r := by
  unfold lnsH
  have e : l ++ 13 :: 10 :: r = (l ++ [13]) ++ ([10] ++ r) := by simp
  rw [e, hlF_app, hlF_no (l ++ [13]) [] [] (by simpa using h), hlF_app]
  have : hlF ([], [] ++ (l ++ [13])) [10] = ([l], []) := by
    unfold hlF
    rw [List.foldl_cons, List.foldl_nil]
    unfold hlS
    rw [if_pos ⟨rfl, by simp⟩]
    simp
  rw [this]
  have := hlF_shift r [l] [] []
  rw [List.append_nil] at this
  rw [this]
  simp
theorem hops_no (rc : List UInt8 → Bool) (h0 : rc [] = false) {xs : List UInt8} (h : noCL xs) : hopsB rc xs = if rc xs = true then 1 else 0 := by
  unfold hopsB
  rw [lns_no h]
  unfold hopN
  by_cases e : xs = []
  · subst e
    simp [h0]
  · rw [if_neg e]
    simp [hopN]
theorem hops_cut (rc : List UInt8 → Bool) {l r : List UInt8} (h : noCL (l ++ [13])) : hopsB rc (l ++ 13 :: 10 :: r) = if l = [] then 0 else (if rc l = true then 1 else 0) + hopsB rc r := by
  unfold hopsB
  rw [lns_cut h]
  rfl
theorem hops_nil (rc : List UInt8 → Bool) (h0 : rc [] = false) : hopsB rc [] = 0 := by rw [hops_no rc h0 (by intro i h; simp at h), h0]; rfl
/-- Where the first line end stands. -/
theorem index_crlf (xs : List UInt8) : (Lib.index xs [13, 10] = -1 ∧ noCL xs) ∨ (∃ i : Nat, Lib.index xs [13, 10] = i ∧ i + 2 ≤ xs.length ∧ xs = xs.take i ++ 13 :: 10 :: xs.drop (i + 2) ∧ noCL (xs.take i ++ [13])) := by
  have occ : ∀ j : Nat, xs[j]? = some 13 → xs[j + 1]? = some 10 → Lib.occAt xs [13, 10] j = true := by
    intro j h1 h2
    have e1 := List.drop_eq_getElem_cons (List.getElem?_eq_some_iff.1 h1).1
    have e2 := List.drop_eq_getElem_cons (List.getElem?_eq_some_iff.1 h2).1
    obtain ⟨q1, h1⟩ := List.getElem?_eq_some_iff.1 h1
    obtain ⟨q2, h2⟩ := List.getElem?_eq_some_iff.1 h2
    unfold Lib.occAt
    rw [e1, e2, h1, h2]
    simp [List.isPrefixOf]
  rcases Lib.index_spec xs [13, 10] with ⟨h1, h2⟩ | ⟨i, h1, h2, h3, h4⟩
  · refine .inl ⟨h1, fun i a b => ?_⟩
    have := h2 i (Nat.le_of_lt (List.getElem?_eq_some_iff.1 a).1)
    rw [occ i a b] at this
    cases this
  · have hr := Lib.index_room xs [13, 10] (by rw [h1]; omega)
    have hr2 : i + 2 ≤ xs.length := by rw [h1] at hr; simp at hr; omega
    have hd : ∃ r, xs.drop i = 13 :: 10 :: r := by
      unfold Lib.occAt at h3
      obtain ⟨r, hr⟩ := List.isPrefixOf_iff_prefix.1 h3
      exact ⟨r, by rw [← hr]; rfl⟩
    obtain ⟨r, hd⟩ := hd
    have hr3 : xs.drop (i + 2) = r := by rw [← List.drop_drop, hd]; rfl
    refine .inr ⟨i, h1, hr2, ?_, ?_⟩
    · rw [hr3, ← hd, List.take_append_drop]
    · intro j a b
      have hl : (xs.take i ++ [13]).length = i + 1 := by rw [List.length_append, List.length_take]; simp; omega
      have hj : j + 1 < i + 1 := by have := (List.getElem?_eq_some_iff.1 b).1; omega
      have e : ∀ k : Nat, k < i → (xs.take i ++ [13])[k]? = xs[k]? := fun k hk => by
        rw [List.getElem?_append_left (by rw [List.length_take]; omega), List.getElem?_take, if_pos hk]
      rw [e j (by omega)] at a
      by_cases hj2 : j + 1 < i
      · rw [e (j + 1) hj2] at b
        have := h4 j (by omega)
        rw [occ j a b] at this
        cases this
      · obtain rfl : j + 1 = i := by omega
        rw [List.getElem?_append_right (by rw [List.length_take]; omega)] at b
        rw [List.length_take, show j + 1 - min (j + 1) xs.length = 0 by omega] at b
        simp at b
/-- The header's lines. -/
def hdrL : List (List UInt8) → List (List UInt8)
  | [] => []
  | l :: r => if l = [] then [] else l :: hdrL r
theorem hdr_hops (rc : List UInt8 → Bool) : ∀ L : List (List UInt8), (hdrL L).countP rc = hopN rc L
  | [] => rfl
  | l :: r => by
    unfold hdrL hopN
    by_cases h : l = []
    · rw [if_pos h, if_pos h]; rfl
    · rw [if_neg h, if_neg h, List.countP_cons, hdr_hops rc r]
      by_cases e : rc l = true
      · simp [e]; omega
      · simp [e]
theorem hdr_at : ∀ (L : List (List UInt8)) (k : Nat), k < L.length → (∀ j, j < k → L[j]? ≠ some []) → L[k]? = some [] → hdrL L = L.take k
  | [], k, h, _, _ => by simp at h
  | l :: r, 0, _, _, h => by
    simp at h
    simp [hdrL, h]
  | l :: r, k + 1, h, hn, hk => by
    have hl : l ≠ [] := fun e => hn 0 (by omega) (by simp [e])
    unfold hdrL
    rw [if_neg hl, List.take_succ_cons, hdr_at r k (by simpa using h) (fun j hj => by have := hn (j + 1) (by omega); simpa using this) (by simpa using hk)]
theorem hdr_all : ∀ (L : List (List UInt8)), (∀ j, j < L.length → L[j]? ≠ some []) → hdrL L = L
  | [], _ => rfl
  | l :: r, hn => by
    have hl : l ≠ [] := fun e => hn 0 (by simp) (by simp [e])
    unfold hdrL
    rw [if_neg hl, hdr_all r (fun j hj => by have := hn (j + 1) (by simpa using hj); simpa using this)]
/-- The document's walk: one byte more. -/
theorem hlF_next (xs : List UInt8) (k : Nat) (hk : k < xs.length) : hlF ([], []) (xs.take (k + 1)) = hlS (hlF ([], []) (xs.take k)) xs[k] := by
  rw [← List.take_append_getElem hk, hlF_app]
  rfl
theorem hlF_len : ∀ (xs : List UInt8) (s : List (List UInt8) × List UInt8), (hlF s xs).2.length ≤ s.2.length + xs.length ∧ (hlF s xs).1.length ≤ s.1.length + xs.length
  | [], s => by simp [hlF]
  | c :: t, s => by
    have h := hlF_len t (hlS s c)
    unfold hlF at h ⊢
    rw [List.foldl_cons]
    unfold hlS at h ⊢
    by_cases e : c = 10 ∧ s.2.getLast? = some 13
    · rw [if_pos e] at h ⊢
      simp at h ⊢
      omega
    · rw [if_neg e] at h ⊢
      simp at h ⊢
      omega
/-- What stands open is the end of what was read. -/
theorem hlF_open : ∀ (k : Nat) (xs : List UInt8), k ≤ xs.length → (hlF ([], []) (xs.take k)).2 = (xs.take k).drop (k - (hlF ([], []) (xs.take k)).2.length) ∧ (hlF ([], []) (xs.take k)).2.length ≤ k
  | 0, xs, _ => by simp [hlF]
  | k + 1, xs, hk => by
    obtain ⟨h1, h2⟩ := hlF_open k xs (by omega)
    rw [hlF_next xs k (by omega)]
    generalize hlF ([], []) (xs.take k) = S at *
    obtain ⟨A, cur⟩ := S
    dsimp only at *
    unfold hlS
    by_cases e : xs[k] = 10 ∧ cur.getLast? = some 13
    · rw [if_pos e]
      refine ⟨?_, by simp⟩
      dsimp only
      rw [List.drop_eq_nil_of_le (by rw [List.length_take]; simp; omega)]
    · rw [if_neg e]
      refine ⟨?_, by simp; omega⟩
      dsimp only
      rw [List.length_append, List.length_singleton, show k + 1 - (cur.length + 1) = k - cur.length by omega, ← List.take_append_getElem (show k < xs.length by omega), List.drop_append_of_le_length (by rw [List.length_take]; omega), ← h1]
end Go.Proofs.Ythkoionigdnhgaa
