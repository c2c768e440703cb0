/-
  What comes of rows, of a chunk, of a body, in plain words.
-/
import Derived.Test.YthnjbnhmdjpfpaaFhP
namespace Go.Proofs.Ythnjbnhmdjpfpaa

theorem tk_row (m : Nat) : ∀ (p s r : List UInt8), hfB s = false → bareB p = false → tk m s (p ++ 13 :: 10 :: r) = (p.length + 2, lineOf m (s ++ p), [])
  | [], s, r, hs, _ => by
    have h1 : tk m (s ++ [13]) (10 :: r) = (1, lineOf m s, []) := by
      rw [tk_cons, hfB_snoc, bdy_snoc]
      simp
    rw [List.nil_append, tk_cons, hs, Bool.false_and, if_neg (by simp), h1]
    simp
  | c :: p, s, r, hs, hb => by
    have hc : (c == 13 || c == 10) = false ∧ bareB p = false := by
      unfold bareB at hb ⊢
      rw [List.any_cons] at hb
      simpa using hb
    have h13 : (c == 13) = false := by
      have := hc.1
      simp only [Bool.or_eq_false_iff] at this
      exact this.1
    rw [List.cons_append, tk_cons, hs, Bool.false_and, if_neg (by simp), tk_row m p (s ++ [c]) r (by rw [hfB_snoc, h13]) hc.2]
    simp
theorem line_is {m : Nat} {p : List UInt8} (h : bareB p = false) (hl : p.length ≤ m) : lineOf m p = .line p := by
  have : whyI m p = 0 := by
    unfold whyI
    rw [h, if_neg (by simp), if_neg (by omega)]
  unfold lineOf
  rw [if_pos this]
/-- A row with its line end. -/
theorem all_row {m t a : Nat} {T : List Tu} {K : Nat} (hK : Calm a T K) (p r : List UInt8) (o : List Fi) (j : Nat) (h : bareB p = false) (hl : p.length ≤ m) :
    Pg.all m t a T K ⟨.ln [], o, j⟩ (p ++ 13 :: 10 :: r) = Pg.all m t a T K (Pg.on T ⟨.ln [], o, j⟩ (.line p) (.ln [])) r := by
  have e : ftk m t a (.ln []) (p ++ 13 :: 10 :: r) = (p.length + 2, .line p, .ln []) := by
    simp only [ftk, tk_row m p [] r rfl h, List.nil_append, line_is h hl, Fi.ofIt]
  have hs := (said_any (m := m) (t := t) hK ⟨.ln [], o, j⟩ (p ++ 13 :: 10 :: r) trivial).2
  dsimp only at hs
  rw [e] at hs
  rw [hs (by simp)]
  congr 1
  rw [List.drop_append]
  simp
theorem on_plain (p : Pg) (x : Fi) (s : Fs) (hx : x.stop = true) : p.on [] x s = ⟨s, pu p.o x, p.j⟩ := by
  unfold Pg.on
  rw [if_pos hx]
  rfl
/-- Rows come as rows. -/
theorem all_rows {m t a : Nat} {K : Nat} (hK : Calm a ([] : List Tu) K) : ∀ (ps : List (List UInt8)) (o : List Fi) (j : Nat), (∀ p ∈ ps, bareB p = false ∧ p.length ≤ m) →
    Pg.all m t a [] K ⟨.ln [], o, j⟩ (ps.flatMap (fun p => p ++ [13, 10])) = ⟨.ln [], o ++ ps.map Fi.line, j⟩
  | [], o, j, _ => by
    rw [List.flatMap_nil, Pg.all_nil rfl]
    simp
  | p :: ps, o, j, h => by
    have hp := h p (by simp)
    have e : (p :: ps).flatMap (fun p => p ++ [13, 10]) = p ++ 13 :: 10 :: ps.flatMap (fun p => p ++ [13, 10]) := by simp
    rw [e, all_row hK p _ o j hp.1 hp.2, on_plain _ _ _ rfl]
    have := all_rows (m := m) (t := t) hK ps (pu o (.line p)) j (fun q hq => h q (by simp [hq]))
    rw [this]
    simp [pu]
/-- A chunk: its octets, then its end. -/
theorem all_chunk {m t a : Nat} {T : List Tu} {K : Nat} (hK : Calm a T K) (c r : List UInt8) (rm : Nat) (o : List Fi) (j : Nat) :
    Pg.all m t a T K ⟨.ch c.length rm, o, j⟩ (c ++ r) = Pg.all m t a T K (Pg.on T ⟨.ch c.length rm, if 0 < min c.length rm then pu o (.body (c.take rm)) else o, j⟩ (.fin 0 false) (.ln [])) r := by
  have hm : min (c ++ r).length c.length = c.length := by rw [List.length_append]; omega
  have hs := said_any (m := m) (t := t) hK ⟨.ch c.length rm, o, j⟩ (c ++ r) trivial
  by_cases h0 : 0 < min c.length rm
  · have e : ftk m t a (.ch c.length rm) (c ++ r) = (c.length, .body (c.take rm), .ch 0 (rm - min c.length rm)) := by
      simp only [ftk, chI, chS, hm, if_pos h0, Nat.sub_self]
      congr 2
      rw [List.take_append_of_le_length (Nat.min_le_left _ _)]
      congr 1
      rcases Nat.le_total rm c.length with h | h
      · rw [Nat.min_eq_right h]
      · rw [Nat.min_eq_left h, List.take_length, List.take_of_length_le h]
    dsimp only at hs
    rw [e] at hs
    rw [hs.2 (by simp), if_pos h0, Pg.on_body, List.drop_left]
    have hf := Pg.all_fire (m := m) (t := t) hK ⟨.ch 0 (rm - min c.length rm), pu o (.body (c.take rm)), j⟩ r
    rw [← hf]
    rfl
  · have e : ftk m t a (.ch c.length rm) (c ++ r) = (c.length, .fin 0 false, .ln []) := by
      simp [ftk, chI, chS, h0]
    dsimp only at hs
    rw [e] at hs
    rw [hs.2 (by simp), if_neg h0, List.drop_left]
end Go.Proofs.Ythnjbnhmdjpfpaa
