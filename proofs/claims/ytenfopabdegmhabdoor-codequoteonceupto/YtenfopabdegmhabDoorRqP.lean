/-
  The plain mathematics of the document's rows of quoted text: no Go in sight.
-/
import Derived.Test.YtenfopabdegmhabDoorQbL
namespace Go.Proofs.YtenfopabdegmhabDoor

/-- What the document's row tells: the bytes, is the end soft, is it a row at all. -/
def rowT (l : List UInt8) : List UInt8 := match rowR l with
  | some (o, _) => o
  | none => []
def rowS (l : List UInt8) : Bool := match rowR l with
  | some (_, s) => s
  | none => false
def rowK (l : List UInt8) : Bool := (rowR l).isSome
theorem row_yes {l o : List UInt8} {s : Bool} (h : rowR l = some (o, s)) : rowT l = o ∧ rowS l = s ∧ rowK l = true := by
  unfold rowT rowS rowK
  rw [h]
  exact ⟨rfl, rfl, rfl⟩
theorem row_no {l : List UInt8} (h : rowR l = none) : rowT l = [] ∧ rowS l = false ∧ rowK l = false := by
  unfold rowT rowS rowK
  rw [h]
  exact ⟨rfl, rfl, rfl⟩
theorem n_val {l : List UInt8} {i k p : Nat} {h : UInt8} {X : List UInt8} (hs : runN q0 (l.take i) = some ⟨k, p, h, X⟩) (hk : k ≤ 1) (hi : i < l.length) (hv : valB l[i] = true) (hp : p ≤ 75) : runN q0 (l.take (i + 1)) = some ⟨0, p + 1, 0, X ++ [l[i]]⟩ := by
  rw [runN_snoc l i hi _ _ hs]
  have h01 : k = 0 ∨ k = 1 := by omega
  rcases h01 with rfl | rfl <;> simp [stepN, hv, hp]
theorem n_blk {l : List UInt8} {i k p : Nat} {h : UInt8} {X : List UInt8} (hs : runN q0 (l.take i) = some ⟨k, p, h, X⟩) (hk : k ≤ 1) (hi : i < l.length) (hb : blkB l[i] = true) (hp : p ≤ 74) : runN q0 (l.take (i + 1)) = some ⟨1, p + 1, 0, X ++ [l[i]]⟩ := by
  obtain ⟨_, _, n3⟩ := blk_not _ hb
  rw [runN_snoc l i hi _ _ hs]
  have h01 : k = 0 ∨ k = 1 := by omega
  rcases h01 with rfl | rfl <;> simp [stepN, n3, hb, hp]
theorem n_eq {l : List UInt8} {i k p : Nat} {h : UInt8} {X : List UInt8} (hs : runN q0 (l.take i) = some ⟨k, p, h, X⟩) (hk : k ≤ 1) (hi : i < l.length) (he : l[i] = 61) (hp : p ≤ 75) : runN q0 (l.take (i + 1)) = some ⟨2, p + 1, 0, X⟩ := by
  rw [runN_snoc l i hi _ _ hs, he]
  have n1 : valB 61 = false := by decide
  have n2 : blkB 61 = false := by decide
  have h01 : k = 0 ∨ k = 1 := by omega
  rcases h01 with rfl | rfl <;> simp [stepN, n1, n2, hp]
theorem n_none {l : List UInt8} {i : Nat} {t : Qs} (hs : runN q0 (l.take i) = some t) (hi : i < l.length) (hn : stepN t l[i] = none) : rowR l = none := by
  have h1 : runN q0 (l.take (i + 1)) = none := by rw [runN_snoc l i hi _ _ hs, hn]
  unfold rowR
  rw [runN_none l (i + 1) q0 h1]
theorem n_end {l : List UInt8} {i k p : Nat} {h : UInt8} {X : List UInt8} (hs : runN q0 (l.take i) = some ⟨k, p, h, X⟩) (hi : i = l.length) : rowR l = if k = 0 then some (X, false) else if k = 2 then some (X, true) else none := by
  rw [hi, List.take_length] at hs
  unfold rowR
  rw [hs]
/-- = at the end. -/
theorem n_soft {l : List UInt8} {i k p : Nat} {h : UInt8} {X : List UInt8} (hs : runN q0 (l.take i) = some ⟨k, p, h, X⟩) (hk : k ≤ 1) (hi : i < l.length) (hl : i + 1 = l.length) (he : l[i] = 61) (hp : p ≤ 75) : rowR l = some (X, true) := by
  have := n_end (n_eq hs hk hi he hp) hl
  simpa using this
/-- = and two digits. -/
theorem n_two {l : List UInt8} {i k : Nat} {h : UInt8} {X : List UInt8} (hs : runN q0 (l.take i) = some ⟨k, i, h, X⟩) (hk : k ≤ 1) (hi : i + 2 < l.length) (hl : l.length ≤ 76) (he : l[i] = 61) (h1 : hexB l[i + 1] = true) (h2 : hexB l[i + 2] = true) :
    runN q0 (l.take (i + 3)) = some ⟨0, i + 3, 0, X ++ [UInt8.ofNat (hexV l[i + 1].toNat * 16 + hexV l[i + 2].toNat)]⟩ := by
  have e1 := n_eq hs hk (by omega) he (by omega)
  have e2 : runN q0 (l.take (i + 1 + 1)) = some ⟨3, i + 1 + 1, l[i + 1], X⟩ := by
    rw [runN_snoc l (i + 1) (by omega) _ _ e1]
    simp [stepN, h1]
    omega
  have e3 := runN_snoc l (i + 1 + 1) (by omega) _ _ e2
  rw [show i + 3 = i + 1 + 1 + 1 by omega, e3]
  simp only [stepN]
  have h2' : hexB l[i + 1 + 1] = true := h2
  simp [h2']
/-- = and something else. -/
theorem n_twono {l : List UInt8} {i k : Nat} {h : UInt8} {X : List UInt8} (hs : runN q0 (l.take i) = some ⟨k, i, h, X⟩) (hk : k ≤ 1) (hi : i + 1 < l.length) (hl : l.length ≤ 76) (he : l[i] = 61) (hn : ∀ h2 : i + 2 < l.length, ¬ (hexB l[i + 1] = true ∧ hexB l[i + 2] = true)) : rowR l = none := by
  have e1 := n_eq hs hk (by omega) he (by omega)
  by_cases h1 : hexB l[i + 1] = true ∧ i + 1 ≤ 74
  · obtain ⟨h1, h74⟩ := h1
    have e2 : runN q0 (l.take (i + 1 + 1)) = some ⟨3, i + 1 + 1, l[i + 1], X⟩ := by
      rw [runN_snoc l (i + 1) (by omega) _ _ e1]
      simp [stepN, h1, h74]
    rcases Nat.lt_or_ge (i + 2) l.length with h2 | h2
    · refine n_none e2 h2 ?_
      have h3 : ¬ hexB l[i + 1 + 1] = true := fun e => hn h2 ⟨h1, e⟩
      simp [stepN, h3]
    · have := n_end e2 (by omega)
      simpa using this
  · refine n_none e1 hi ?_
    simp only [stepN]
    rw [if_neg (by omega), if_pos trivial, if_neg h1]
/-- No sign. -/
theorem n_no {l : List UInt8} {i k : Nat} {h : UInt8} {X : List UInt8} (hs : runN q0 (l.take i) = some ⟨k, i, h, X⟩) (hk : k ≤ 1) (hi : i < l.length) (hv : valB l[i] = false) (he : l[i] ≠ 61) (hb : blkB l[i] = true → i + 1 = l.length) : rowR l = none := by
  have h01 : k = 0 ∨ k = 1 := by omega
  by_cases hb1 : blkB l[i] = true
  · have hl := hb hb1
    by_cases hp : i ≤ 74
    · have := n_end (n_blk hs hk hi hb1 hp) hl
      simpa using this
    · refine n_none hs hi ?_
      rcases h01 with rfl | rfl <;> simp [stepN, hv, he, hp]
  · refine n_none hs hi ?_
    rcases h01 with rfl | rfl <;> simp [stepN, hv, he, hb1]

/-! The document's Unquote, place by place. -/
/-- At place i: the row began at j, X is what the rows ahead mean, t is where the machine stands. -/
structure Rq (l : List UInt8) (i j : Nat) (X : List UInt8) (t : Qs) : Prop where
  le : j ≤ i
  il : i ≤ l.length
  run : runM q0 (l.take i) = some t
  row : (t.k ≤ 3 ∧ ∃ Y, runN q0 ((l.take i).drop j) = some ⟨t.k, t.p, t.h, Y⟩ ∧ t.o = X ++ Y) ∨
    ((t.k = 4 ∨ t.k = 5) ∧ ∃ Y p h, j < i ∧ l[i - 1]? = some 13 ∧ runN q0 ((l.take (i - 1)).drop j) = some ⟨if t.k = 4 then 0 else 2, p, h, Y⟩ ∧ t.o = X ++ Y)
theorem Rq.start (l : List UInt8) : Rq l 0 0 [] q0 := ⟨Nat.le_refl _, Nat.zero_le _, rfl, .inl ⟨by simp [q0], [], rfl, rfl⟩⟩
theorem stepN_13 (t : Qs) : stepN t 13 = none := by
  have n1 : valB 13 = false := by decide
  have n2 : blkB 13 = false := by decide
  have n3 : hexB 13 = false := by decide
  unfold stepN
  simp [n1, n2, n3]
theorem drop_snoc (l : List UInt8) (i j : Nat) (hj : j ≤ i) (hi : i < l.length) : (l.take (i + 1)).drop j = (l.take i).drop j ++ [l[i]] := by
  rw [List.take_succ_eq_append_getElem hi, List.drop_append_of_le_length (by rw [List.length_take]; omega)]
/-- Behind a CR: is the place behind a CR of this row? -/
theorem Rq.cr {l X : List UInt8} {i j : Nat} {t : Qs} (h : Rq l i j X t) : (t.k = 4 ∨ t.k = 5) ↔ (j < i ∧ l[i - 1]? = some 13) := by
  rcases h.row with ⟨hk, Y, e, _⟩ | ⟨hk, Y, p, hh, hlt, h13, e, _⟩
  · constructor
    · intro h; omega
    · rintro ⟨hlt, h13⟩
      exfalso
      obtain ⟨hl, h13'⟩ := List.getElem?_eq_some_iff.1 h13
      have e1 := drop_snoc l (i - 1) j (by omega) hl
      rw [show i - 1 + 1 = i by omega, h13'] at e1
      rw [e1, runN_append] at e
      cases hr : runN q0 ((l.take (i - 1)).drop j) with
      | none => rw [hr] at e; cases e
      | some s =>
        rw [hr] at e
        simp [Option.bind, runN, stepN_13] at e
  · exact ⟨fun _ => ⟨hlt, h13⟩, fun _ => hk⟩
/-- CR LF: the row is told, and another one begins. -/
theorem Rq.lf {l X : List UInt8} {i j : Nat} {t : Qs} (h : Rq l i j X t) (hk : t.k = 4 ∨ t.k = 5) (hi : i < l.length) (h10 : l[i] = 10) :
    rowK ((l.take (i - 1)).drop j) = true ∧ Rq l (i + 1) (i + 1) (X ++ rowT ((l.take (i - 1)).drop j) ++ (if rowS ((l.take (i - 1)).drop j) = true then [] else [13, 10])) ⟨0, 0, 0, if t.k = 4 then t.o ++ [13, 10] else t.o⟩ := by
  have hrun := (m_lf (l := l) (i := i) h.run hk).1 (by rw [List.getElem?_eq_getElem hi, h10])
  rcases h.row with ⟨h3, _⟩ | ⟨_, Y, p, hh, hlt, h13, e, eo⟩
  · omega
  have hr : rowR ((l.take (i - 1)).drop j) = some (Y, if t.k = 4 then false else true) := by
    unfold rowR
    rw [e]
    rcases hk with e4 | e5
    · simp [e4]
    · simp [e5]
  obtain ⟨r1, r2, r3⟩ := row_yes hr
  refine ⟨r3, Nat.le_refl _, by omega, hrun, .inl ⟨by simp, [], ?_, ?_⟩⟩
  · rw [List.drop_eq_nil_of_le (by rw [List.length_take]; omega)]
    rfl
  · rw [r1, r2, eo]
    rcases hk with e4 | e5
    · simp [e4]
    · simp [e5]
/-- Behind a CR anything else ends it. -/
theorem Rq.lfno {l X : List UInt8} {i j : Nat} {t : Qs} (h : Rq l i j X t) (hk : t.k = 4 ∨ t.k = 5) (hi : i < l.length) (h10 : l[i] ≠ 10) : unqOk l = false ∧ unqA l = i :=
  (m_lf (l := l) (i := i) h.run hk).2 (by rw [List.getElem?_eq_getElem hi]; simpa using h10) h.il
theorem goes_snoc (r : List UInt8) (c : UInt8) : goesB (r ++ [c]) = ((runN q0 (r ++ [c])).isSome || (decide (c = 13) && (rowR r).isSome)) := by
  unfold goesB
  simp
/-- It goes on. -/
theorem Rq.on {l X : List UInt8} {i j : Nat} {t : Qs} (h : Rq l i j X t) (hk : t.k ≤ 3) (hi : i < l.length) :
    (goesB ((l.take (i + 1)).drop j) = true → ∃ t', Rq l (i + 1) j X t') ∧ (goesB ((l.take (i + 1)).drop j) = false → unqOk l = false ∧ unqA l = i) := by
  obtain ⟨Y, e, eo⟩ : ∃ Y, runN q0 ((l.take i).drop j) = some ⟨t.k, t.p, t.h, Y⟩ ∧ t.o = X ++ Y := by
    rcases h.row with ⟨_, h⟩ | ⟨h45, _⟩
    · exact h
    · omega
  have hs := drop_snoc l i j h.le hi
  rw [hs, goes_snoc]
  by_cases hc : l[i] = 13
  · have hn : runN q0 ((l.take i).drop j ++ [l[i]]) = none := by
      rw [runN_append, e, hc]
      simp [Option.bind, runN, stepN_13]
    rw [hn]
    have hr : (rowR ((l.take i).drop j)).isSome = (decide (t.k = 0) || decide (t.k = 2)) := by
      unfold rowR
      rw [e]
      simp only
      by_cases h0 : t.k = 0
      · simp [h0]
      · by_cases h2 : t.k = 2
        · simp [h2]
        · simp [h0, h2]
    rw [hr]
    simp only [hc, Option.isSome_none, Bool.false_or, decide_true, Bool.true_and]
    constructor
    · intro hg
      have h02 : t.k = 0 ∨ t.k = 2 := by simpa using hg
      have hst : stepM t l[i] = some ⟨if t.k = 0 then 4 else 5, t.p, 0, t.o⟩ := by
        rw [hc]
        unfold stepM
        rcases h02 with h0 | h2
        · simp [h0]
        · simp [h2]
      have hrun : runM q0 (l.take (i + 1)) = some ⟨if t.k = 0 then 4 else 5, t.p, 0, t.o⟩ := by rw [runM_snoc l i hi _ _ h.run, hst]
      refine ⟨_, Nat.le_succ_of_le h.le, hi, hrun, .inr ⟨?_, Y, t.p, t.h, ?_, ?_, ?_, eo⟩⟩
      · rcases h02 with h0 | h2
        · simp [h0]
        · simp [h2]
      · have := h.le; omega
      · rw [Nat.add_sub_cancel, List.getElem?_eq_getElem hi, hc]
      · rw [Nat.add_sub_cancel, e]
        rcases h02 with h0 | h2
        · simp [h0]
        · simp [h2]
    · intro hg
      have h02 : ¬ t.k = 0 ∧ ¬ t.k = 2 := by simpa using hg
      refine un_stop h.run hi ?_
      rw [hc]
      unfold stepM
      rw [if_neg (by omega), if_neg (by omega), if_neg (by rintro ⟨_, h⟩; exact h02.1 h), if_neg (by rintro ⟨_, h⟩; exact h02.2 h), stepN_13]
  · have hst : stepM t l[i] = (stepN ⟨t.k, t.p, t.h, Y⟩ l[i]).map (ahead X) := by
      rw [← stepN_ahead]
      have ea : ahead X ⟨t.k, t.p, t.h, Y⟩ = t := by
        cases t
        simp only [ahead] at eo ⊢
        rw [eo]
      rw [ea]
      unfold stepM
      rw [if_neg (by omega), if_neg (by omega), if_neg (by rintro ⟨h, _⟩; exact hc h), if_neg (by rintro ⟨h, _⟩; exact hc h)]
    have hrn : runN q0 ((l.take i).drop j ++ [l[i]]) = stepN ⟨t.k, t.p, t.h, Y⟩ l[i] := by
      rw [runN_append, e]
      simp only [Option.bind, runN]
      cases stepN ⟨t.k, t.p, t.h, Y⟩ l[i] <;> rfl
    rw [hrn]
    simp only [hc, decide_false, Bool.false_and, Bool.or_false]
    cases hx : stepN ⟨t.k, t.p, t.h, Y⟩ l[i] with
    | none =>
      refine ⟨fun h => (by cases h), fun _ => ?_⟩
      rw [hx] at hst
      exact un_stop h.run hi hst
    | some s =>
      refine ⟨fun _ => ?_, fun h => by cases h⟩
      rw [hx] at hst hrn
      refine ⟨ahead X s, Nat.le_succ_of_le h.le, hi, by rw [runM_snoc l i hi _ _ h.run, hst]; rfl, .inl ⟨(stepN_p _ _ _ hx).2.1, s.o, ?_, rfl⟩⟩
      rw [hs, hrn]
      rfl
/-- At the end. -/
theorem Rq.fin {l X : List UInt8} {i j : Nat} {t : Qs} (h : Rq l i j X t) (hi : i = l.length) :
    (rowS (l.drop j) = false ∧ rowK (l.drop j) = true → unqOk l = true ∧ unqL l = X ++ rowT (l.drop j)) ∧ (rowS (l.drop j) = true ∨ rowK (l.drop j) = false → unqOk l = false ∧ unqA l = l.length) := by
  have hrun := h.run
  have hx := h.run
  rw [hi, List.take_length] at hrun
  have hend : t.k ≠ 0 → unqOk l = false ∧ unqA l = l.length := fun hk => by rw [← hi]; exact un_end h.run hi hk
  rcases h.row with ⟨hk, Y, e, eo⟩ | ⟨hk, Y, p, hh, hlt, h13, e, eo⟩
  · rw [hi, List.take_length] at e
    have hr : rowR (l.drop j) = if t.k = 0 then some (Y, false) else if t.k = 2 then some (Y, true) else none := by
      unfold rowR
      rw [e]
    by_cases h0 : t.k = 0
    · rw [if_pos h0] at hr
      obtain ⟨r1, r2, r3⟩ := row_yes hr
      rw [r1, r2, r3]
      refine ⟨fun _ => ?_, fun h => by simp at h⟩
      unfold unqOk unqL
      rw [hrun]
      exact ⟨by simpa using h0, eo⟩
    · rw [if_neg h0] at hr
      refine ⟨fun hg => ?_, fun _ => hend h0⟩
      by_cases h2 : t.k = 2
      · rw [if_pos h2] at hr
        obtain ⟨r1, r2, r3⟩ := row_yes hr
        rw [r2] at hg
        cases hg.1
      · rw [if_neg h2] at hr
        obtain ⟨r1, r2, r3⟩ := row_no hr
        rw [r3] at hg
        cases hg.2
  · refine ⟨fun hg => ?_, fun _ => hend (by omega)⟩
    exfalso
    have hn : rowR (l.drop j) = none := by
      obtain ⟨hl, h13'⟩ := List.getElem?_eq_some_iff.1 h13
      have e1 := drop_snoc l (i - 1) j (by omega) hl
      rw [show i - 1 + 1 = i by omega, h13', hi, List.take_length] at e1
      unfold rowR
      rw [e1, runN_append, show l.length - 1 = i - 1 by omega, e]
      simp [Option.bind, runN, stepN_13]
    rw [(row_no hn).2.2] at hg
    cases hg.2
theorem dig_two (l : List UInt8) (i e : Nat) (hi : i ≤ l.length) (he : e = min (i + 2) l.length) :
    (badN 4 ((l.take e).drop i) = 0 ∧ ∀ c, l[i]? = some c → hexB c = false) ∨
    (badN 4 ((l.take e).drop i) = 1 ∧ ∃ h : i < l.length, hexB l[i] = true ∧ ∀ c, l[i + 1]? = some c → hexB c = false) ∨
    (badN 4 ((l.take e).drop i) = 2 ∧ e = i + 2 ∧ ∃ (h : i + 1 < l.length), hexB l[i] = true ∧ hexB l[i + 1] = true ∧ (l.take e).drop i = [l[i], l[i + 1]]) := by
  have e1 : (l.take e).drop i = (l.drop i).take 2 := by
    rw [List.drop_take]
    rcases Nat.le_total (i + 2) l.length with h | h
    · rw [he, Nat.min_eq_left h, show i + 2 - i = 2 by omega]
    · rw [he, Nat.min_eq_right h, List.take_of_length_le (by simp), List.take_of_length_le (by simp; omega)]
  rw [e1]
  rcases Nat.lt_or_ge i l.length with h1 | h1
  · have d1 := List.drop_eq_getElem_cons h1
    cases hx : hexB l[i] with
    | false =>
      refine .inl ⟨?_, fun c hc => ?_⟩
      · rw [d1, List.take_succ_cons, badN, if_neg (by unfold hexB at hx; rw [hx]; decide)]
      · rw [List.getElem?_eq_getElem h1] at hc
        injection hc with hc
        rw [← hc]
        exact hx
    | true =>
      have hx' : isB 4 (l[i].toNat : Int) = true := hx
      rcases Nat.lt_or_ge (i + 1) l.length with h2 | h2
      · have d2 := List.drop_eq_getElem_cons h2
        cases hy : hexB l[i + 1] with
        | false =>
          refine .inr (.inl ⟨?_, h1, hx, fun c hc => ?_⟩)
          · rw [d1, d2, List.take_succ_cons, List.take_succ_cons, badN, if_pos hx', badN, if_neg (by unfold hexB at hy; rw [hy]; decide)]
          · rw [List.getElem?_eq_getElem h2] at hc
            injection hc with hc
            rw [← hc]
            exact hy
        | true =>
          refine .inr (.inr ⟨?_, by omega, h2, hx, hy, ?_⟩)
          · rw [d1, d2, List.take_succ_cons, List.take_succ_cons, List.take_zero, badN, if_pos hx', badN, if_pos (show isB 4 (l[i + 1].toNat : Int) = true from hy), badN]
          · rw [d1, d2, List.take_succ_cons, List.take_succ_cons, List.take_zero]
      · have d2 : l.drop (i + 1) = [] := List.drop_eq_nil_of_le h2
        refine .inr (.inl ⟨?_, h1, hx, fun c hc => ?_⟩)
        · rw [d1, d2, List.take_succ_cons, List.take_nil, badN, if_pos hx', badN]
        · rw [List.getElem?_eq_none h2] at hc
          cases hc
  · refine .inl ⟨?_, fun c hc => ?_⟩
    · rw [List.drop_eq_nil_of_le h1, List.take_nil, badN]
    · rw [List.getElem?_eq_none h1] at hc
      cases hc
/-- What a row means is short. -/
theorem runN_o (l : List UInt8) : ∀ (s t : Qs), runN s l = some t → t.o.length + s.p ≤ s.o.length + t.p := by
  induction l with
  | nil => intro s t h; injection h with h; subst h; omega
  | cons c r ih =>
    intro s t h
    simp only [runN] at h
    cases hn : stepN s c with
    | none => rw [hn] at h; cases h
    | some s' =>
      rw [hn] at h
      have h1 := ih s' t h
      have h2 := (stepN_cases s s' c hn).2.2
      have h3 := (stepN_p s s' c hn).1
      omega
theorem rowT_le (l : List UInt8) : (rowT l).length ≤ 76 := by
  unfold rowT rowR
  cases hr : runN q0 l with
  | none => simp
  | some t =>
    have h1 := runN_o l q0 t hr
    have h2 := (runN_fits q0 t l fits0 hr).1.2.1
    simp [q0] at h1
    simp only
    by_cases h0 : t.k = 0
    · rw [if_pos h0]
      simp only
      omega
    · rw [if_neg h0]
      by_cases h2 : t.k = 2
      · rw [if_pos h2]
        simp only
        omega
      · rw [if_neg h2]
        simp
theorem Rq.len {l X : List UInt8} {i j : Nat} {t : Qs} (h : Rq l i j X t) : X.length ≤ i := by
  have h1 := wt_run _ _ _ h.run
  rw [List.length_take, Nat.min_eq_left h.il] at h1
  have h2 : X.length ≤ t.o.length := by
    rcases h.row with ⟨_, Y, _, e⟩ | ⟨_, Y, p, hh, _, _, _, e⟩
    · rw [e]; simp
    · rw [e]; simp
  have h3 : wt q0 = 0 := rfl
  rw [h3] at h1
  unfold wt at h1
  omega
theorem Rq.le3 {l X : List UInt8} {i j : Nat} {t : Qs} (h : Rq l i j X t) (hk : ¬ (t.k = 4 ∨ t.k = 5)) : t.k ≤ 3 := by
  rcases h.row with ⟨h, _⟩ | ⟨h, _⟩
  · exact h
  · exact absurd h hk
end Go.Proofs.YtenfopabdegmhabDoor
