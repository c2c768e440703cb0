/-
  The document's lines, in plain words; what they tell of a body of whole lines.
-/
import Derived.Test.YtfifpepcmpaipaaAgP
namespace Go.Proofs.Ytfifpepcmpaipaa

/-- Is the last byte a CR? -/
def hfB (s : List UInt8) : Bool := s.getLast? == some 13
/-- The lines that are ended, and what stands behind the last line end; cur: what was met of the line. -/
def lns : List UInt8 → List UInt8 → List (List UInt8) × List UInt8
  | cur, [] => ([], cur)
  | cur, c :: r => if (c == 10 && hfB cur) = true then (cur.dropLast :: (lns [] r).1, (lns [] r).2) else lns (cur ++ [c]) r
theorem lns_cons (cur : List UInt8) (c : UInt8) (r : List UInt8) : lns cur (c :: r) = if (c == 10 && hfB cur) = true then (cur.dropLast :: (lns [] r).1, (lns [] r).2) else lns (cur ++ [c]) r := rfl
theorem hfB_snoc (s : List UInt8) (c : UInt8) : hfB (s ++ [c]) = (c == 13) := by simp [hfB]
theorem hfB_is {s : List UInt8} (h : hfB s = true) : ∃ x, s = x ++ [13] := by
  have h2 : s.getLast? = some 13 := by simpa [hfB] using h
  rw [List.getLast?_eq_some_iff] at h2
  exact h2
/-- A dot more ahead of what begins with one. -/
def sc (x : List UInt8) : List UInt8 := (if x.head? = some 46 then [46] else []) ++ x
def sx (x : List UInt8) : List UInt8 := sc x ++ [13, 10]
theorem sc_snoc (x : List UInt8) (c : UInt8) : sc (x ++ [c]) = sc x ++ (if (x.isEmpty && c == 46) = true then [46, c] else [c]) := by
  cases x with
  | nil =>
    unfold sc
    by_cases h : c = 46 <;> simp [h]
  | cons d x => simp [sc]
/-- What of a row goes on without a bare byte. -/
theorem bare_cases {cur : List UInt8} {c : UInt8} {r : List UInt8} (h : whE (hfB cur) (c :: r) = false) : (c = 10 ∧ hfB cur = true ∧ whE false r = false) ∨ (¬ c = 10 ∧ hfB cur = false ∧ whE (hfB (cur ++ [c])) r = false) := by
  rw [whE_cons] at h
  split at h
  · cases h
  · rename_i hn
    by_cases h10 : c = 10
    · subst h10
      refine .inl ⟨rfl, ?_, by simpa using h⟩
      cases hh : hfB cur <;> simp [hh] at hn ⊢
    · refine .inr ⟨h10, ?_, by rw [hfB_snoc]; exact h⟩
      cases hh : hfB cur <;> simp [hh, h10] at hn ⊢
theorem lns_stf : ∀ (r cur : List UInt8), whE (hfB cur) r = false → ((lns cur r).1.map sx).flatten ++ sc (lns cur r).2 = sc cur ++ stf cur.isEmpty r
  | [], cur, _ => by simp [lns, stf]
  | c :: r, cur, h => by
    rcases bare_cases h with ⟨rfl, h1, h2⟩ | ⟨h10, h1, h2⟩
    · obtain ⟨x, rfl⟩ := hfB_is h1
      rw [lns_cons, if_pos (by rw [h1]; rfl), stf_cons]
      have ih := lns_stf r [] (by simpa [hfB] using h2)
      simp only [List.map_cons, List.flatten_cons, List.append_assoc, ih]
      rw [sc_snoc]
      simp [sx, sc]
    · rw [lns_cons, if_neg (by simp [h10]), lns_stf r (cur ++ [c]) h2, stf_cons, sc_snoc, beq_false_of_ne h10, show (cur ++ [c]).isEmpty = false from by cases cur <;> rfl]
      simp
theorem lns_rest : ∀ (r cur : List UInt8), whE (hfB cur) r = false → ((lns cur r).2 = [] ↔ (r = [] ∧ cur = []) ∨ r.getLast? = some 10)
  | [], cur, _ => by simp [lns]
  | c :: r, cur, h => by
    have hlast : ∀ d, ((c :: r).getLast? = some d) ↔ (r = [] ∧ c = d) ∨ r.getLast? = some d := fun d => by
      cases r with
      | nil => simp
      | cons e r => simp [List.getLast?_cons_cons]
    rcases bare_cases h with ⟨rfl, h1, h2⟩ | ⟨h10, h1, h2⟩
    · rw [lns_cons, if_pos (by rw [h1]; rfl)]
      dsimp only
      rw [lns_rest r [] (by simpa [hfB] using h2), hlast]
      simp
    · rw [lns_cons, if_neg (by simp [h10]), lns_rest r (cur ++ [c]) h2, hlast]
      simp [h10]
theorem lns_long (t : Nat) : ∀ (r cur : List UInt8) (i b : Nat), whE (hfB cur) r = false → b + cur.length = i → lgE t i b r = (lns cur r).1.any (fun x => decide (t < x.length))
  | [], cur, i, b, _, _ => by simp [lns, lgE]
  | c :: r, cur, i, b, h, hi => by
    rcases bare_cases h with ⟨rfl, h1, h2⟩ | ⟨h10, h1, h2⟩
    · rw [lns_cons, if_pos (by rw [h1]; rfl), lgE_cons, if_pos rfl, List.any_cons, ← lns_long t r [] (i + 1) (i + 1) (by simpa [hfB] using h2) (by simp)]
      obtain ⟨x, rfl⟩ := hfB_is h1
      simp only [List.dropLast_concat]
      rw [List.length_append] at hi
      by_cases hl : t + 1 + b < i
      · rw [if_pos hl, decide_eq_true (by simp at hi; omega)]
        rfl
      · rw [if_neg hl, decide_eq_false (by simp at hi; omega)]
        rfl
    · rw [lns_cons, if_neg (by simp [h10]), lgE_cons, if_neg h10, lns_long t r (cur ++ [c]) (i + 1) b h2 (by simp; omega)]
/-- The document's answers. -/
theorem whole_lns (l : List UInt8) : wholeI l = if whE false l = true then 130 else if (lns [] l).2 = [] then 0 else 141 := by
  unfold wholeI
  by_cases h : whE false l = true
  · rw [if_pos h, if_pos h]
  · rw [if_neg h, if_neg h]
    have := lns_rest l [] (by simpa [hfB] using h)
    unfold lastOk
    by_cases h0 : (lns [] l).2 = []
    · rw [if_pos h0]
      rcases this.1 h0 with ⟨e, _⟩ | e
      · simp [e]
      · simp [e]
    · rw [if_neg h0]
      have h1 : ¬ l = [] := fun e => h0 (this.2 (.inl ⟨e, rfl⟩))
      have h2 : ¬ l.getLast? = some 10 := fun e => h0 (this.2 (.inr e))
      rw [if_neg (by
        intro e
        rw [Bool.or_eq_true, beq_iff_eq, beq_iff_eq] at e
        rcases e with e | e
        · exact h1 (List.getLast?_eq_none_iff.1 e)
        · exact h2 e)]
theorem whole_ok {l : List UInt8} (h : wholeI l = 0) : whE false l = false ∧ (lns [] l).2 = [] := by
  rw [whole_lns] at h
  split at h
  · cases h
  · split at h
    · rename_i h1 h2
      exact ⟨by simpa using h1, h2⟩
    · cases h
theorem stuff_lns {l : List UInt8} (h : wholeI l = 0) : ((lns [] l).1.map sx).flatten ++ [46, 13, 10] = stuffL l := by
  obtain ⟨h1, h2⟩ := whole_ok h
  have := lns_stf l [] (by simpa [hfB] using h1)
  rw [h2] at this
  unfold stuffL
  rw [show stf true l = sc [] ++ stf ([] : List UInt8).isEmpty l from rfl, ← this]
  simp [sc]
theorem check_lns {t : Nat} {l : List UInt8} (h : wholeI l = 0) : checkI t l = if ((lns [] l).1 ++ [(lns [] l).2]).any (fun x => decide (t < x.length)) = true then 140 else 0 := by
  obtain ⟨h1, h2⟩ := whole_ok h
  unfold checkI
  rw [if_pos h, lns_long t l [] 0 0 (by simpa [hfB] using h1) rfl, h2]
  simp
end Go.Proofs.Ytfifpepcmpaipaa
