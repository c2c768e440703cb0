/-
  Parse, plainly.
-/
import Derived.Test.YtpepjiocjcjeeabDoorPd16
namespace Go.Proofs.YtpepjiocjcjeeabDoor

theorem rws_head (l : List UInt8) (f : Nat) : ∃ r, rws l f = (f, rwE l f) :: r := by
  cases h : leH (l.drop (rwE l f)) with
  | true => exact ⟨_, rws_on l f h⟩
  | false => exact ⟨_, rws_off l f h⟩
/-- What Parse has read when the row at f comes. -/
structure Pst (l : List UInt8) (k f : Nat) (ps : List Plc) : Prop where
  rows : (rws l 0).drop k = rws l f
  low : f ≤ l.length
  few : ps.length ≤ 4096
  ok : ∀ p ∈ ps, PlOk l p ∧ p.t ≤ f
  res : prsF l = prsR l (rws l f) ps
theorem Pst.zero (l : List UInt8) : Pst l 0 0 [] := ⟨rfl, Nat.zero_le _, Nat.zero_le _, fun _ h => by simp at h, rfl⟩
theorem Pst.oks {l : List UInt8} {k f : Nat} {ps : List Plc} (h : Pst l k f ps) : ∀ p ∈ ps, PlOk l p := fun p hp => (h.ok p hp).1
theorem Pst.row {l : List UInt8} {k f : Nat} {ps : List Plc} (h : Pst l k f ps) (hk : k < (rws l 0).length) : rwk l k = (f, rwE l f) := by
  obtain ⟨r, hr⟩ := rws_head l f
  have h1 := h.rows
  rw [hr, List.drop_eq_getElem_cons hk, rwk_eq l k hk] at h1
  exact (List.cons.inj h1).1
theorem Pst.more {l : List UInt8} {k f : Nat} {ps : List Plc} (h : Pst l k f ps) : k < (rws l 0).length := by
  rcases Nat.lt_or_ge k (rws l 0).length with h1 | h1
  · exact h1
  · obtain ⟨r, hr⟩ := rws_head l f
    have h2 := h.rows
    rw [hr, List.drop_eq_nil_of_le h1] at h2
    cases h2
theorem Pst.endA {l : List UInt8} {k f : Nat} {ps : List Plc} (h : Pst l k f ps) (he : f = l.length) : prsF l = .ok (ps, f) := by
  obtain ⟨r, hr⟩ := rws_head l f
  rw [h.res, hr, prsR, if_pos he]
theorem Pst.endB {l : List UInt8} {k f : Nat} {ps : List Plc} (h : Pst l k f ps) (he : f ≠ l.length) (hb : leH (l.drop f) = true) : prsF l = .ok (ps, f + 2) := by
  obtain ⟨r, hr⟩ := rws_head l f
  rw [h.res, hr, prsR, if_neg he, if_pos hb]
theorem Pst.bad {l : List UInt8} {k f : Nat} {ps : List Plc} (h : Pst l k f ps) (he : f ≠ l.length) (hb : leH (l.drop f) = false) {e : Nat × Nat} (ht : tkH l ps f (rwE l f) = .error e) : prsF l = .error e := by
  obtain ⟨r, hr⟩ := rws_head l f
  rw [h.res, hr, prsR, if_neg he, if_neg (by rw [hb]; decide), ht]
theorem ite_or {α : Type} (c : Prop) [Decidable c] (a b : α) : (if c then a else b) = a ∨ (if c then a else b) = b := by
  by_cases h : c
  · rw [if_pos h]; exact .inl rfl
  · rw [if_neg h]; exact .inr rfl
theorem tk_cases (l : List UInt8) (ps : List Plc) (f t : Nat) : tkH l ps f t = .error (160, f + 998) ∨ tkH l ps f t = .error (160, t) ∨ (leH (l.drop t) = true ∧ (tkH l ps f t = foldH l ps f t ∨ tkH l ps f t = begH l ps f t)) := by
  unfold tkH
  by_cases h1 : 998 < t - f
  · rw [if_pos h1]; exact .inl rfl
  · rw [if_neg h1]
    by_cases h2 : leH (l.drop t) = false
    · rw [if_pos h2]; exact .inr (.inl rfl)
    · rw [if_neg h2]
      exact .inr (.inr ⟨by simpa using h2, ite_or _ _ _⟩)
theorem fold_cases (l : List UInt8) (ps : List Plc) (f t : Nat) : foldH l ps f t = .error (161, f) ∨ (ps ≠ [] ∧ foldH l ps f t = .ok (setLast ps t)) := by
  unfold foldH
  by_cases h : ps = [] ∨ fldB (stE l f t) = false
  · rw [if_pos h]; exact .inl rfl
  · rw [if_neg h]; exact .inr ⟨fun e => h (.inl e), rfl⟩
theorem beg_cases (l : List UInt8) (ps : List Plc) (f t : Nat) : (∃ p, begH l ps f t = .error (160, p)) ∨ (badN 11 (stE l f t) ≠ t - f ∧ ps.length ≠ 4096 ∧ begH l ps f t = .ok (ps ++ [⟨f, f + badN 11 (stE l f t), t⟩])) := by
  unfold begH
  dsimp only
  by_cases h : badN 11 (stE l f t) = 0 ∨ badN 11 (stE l f t) = t - f ∨ l[f + badN 11 (stE l f t)]? ≠ some 58
  · rw [if_pos h]; exact .inl ⟨_, rfl⟩
  · rw [if_neg h]
    by_cases h4 : ps.length = 4096
    · rw [if_pos h4]; exact .inl ⟨_, rfl⟩
    · rw [if_neg h4]; exact .inr ⟨fun e => h (.inr (.inl e)), h4, rfl⟩
theorem tk_err {l : List UInt8} {ps : List Plc} {f t : Nat} {e : Nat × Nat} (h : tkH l ps f t = .error e) : e.1 = 160 ∨ e.1 = 161 := by
  rcases tk_cases l ps f t with h1 | h1 | ⟨_, h1 | h1⟩
  · rw [h1] at h; cases h; exact .inl rfl
  · rw [h1] at h; cases h; exact .inl rfl
  · rcases fold_cases l ps f t with h2 | ⟨_, h2⟩
    · rw [h1, h2] at h; cases h; exact .inr rfl
    · rw [h1, h2] at h; cases h
  · rcases beg_cases l ps f t with ⟨p, h2⟩ | ⟨_, _, h2⟩
    · rw [h1, h2] at h; cases h; exact .inl rfl
    · rw [h1, h2] at h; cases h
theorem Pst.next {l : List UInt8} {k f : Nat} {ps qs : List Plc} (h : Pst l k f ps) (he : f ≠ l.length) (hb : leH (l.drop f) = false) (ht : tkH l ps f (rwE l f) = .ok qs) : Pst l (k + 1) (rwE l f + 2) qs := by
  have hge := rwE_ge l f
  have hle := rwE_le l f h.low
  have hq : leH (l.drop (rwE l f)) = true ∧ qs.length ≤ 4096 ∧ ∀ p ∈ qs, PlOk l p ∧ p.t ≤ rwE l f := by
    rcases tk_cases l ps f (rwE l f) with h1 | h1 | ⟨hon, h1 | h1⟩
    · rw [h1] at ht; cases ht
    · rw [h1] at ht; cases ht
    · rcases fold_cases l ps f (rwE l f) with h2 | ⟨hne, h2⟩
      · rw [h1, h2] at ht; cases ht
      · rw [h1, h2] at ht
        cases ht
        refine ⟨hon, by rw [setLast_len]; exact h.few, ?_⟩
        obtain ⟨q, p, rfl⟩ := snoc_of ps hne
        rw [setLast_snoc]
        intro x hx
        rcases List.mem_append.1 hx with hx | hx
        · have := h.ok x (List.mem_append_left _ hx)
          exact ⟨this.1, by omega⟩
        · obtain rfl := List.mem_singleton.1 hx
          have h1 := h.ok p (List.mem_append_right _ (List.mem_singleton.2 rfl))
          obtain ⟨⟨h2, h3, h4⟩, h5⟩ := h1
          exact ⟨⟨h2, by dsimp only; omega, hle⟩, Nat.le_refl _⟩
    · rcases beg_cases l ps f (rwE l f) with ⟨p, h2⟩ | ⟨hn2, hn4, h2⟩
      · rw [h1, h2] at ht; cases ht
      · rw [h1, h2] at ht
        cases ht
        have hfw := h.few
        refine ⟨hon, by rw [List.length_append]; simp only [List.length_cons, List.length_nil]; omega, ?_⟩
        intro x hx
        rcases List.mem_append.1 hx with hx | hx
        · have := h.ok x hx
          exact ⟨this.1, by omega⟩
        · obtain rfl := List.mem_singleton.1 hx
          have hbl := badN_le 11 (stE l f (rwE l f))
          rw [stE_len l f _ hle] at hbl
          exact ⟨⟨by dsimp only; omega, by dsimp only; omega, hle⟩, Nat.le_refl _⟩
  obtain ⟨hon, hq⟩ := hq
  have hlt := leH_lt l _ hon
  have hr := rws_on l f hon
  refine ⟨?_, by omega, hq.1, fun p hp => ⟨(hq.2 p hp).1, by have := (hq.2 p hp).2; omega⟩, ?_⟩
  · have h1 := h.rows
    rw [hr] at h1
    rw [← List.drop_drop, h1]
    rfl
  · rw [h.res, hr, prsR, if_neg he, if_neg (by rw [hb]; decide), ht]
/-- The three things that Parse tells. -/
def fsP (l : List UInt8) (r : Except (Nat × Nat) (List Plc × Nat)) : List Fd := match r with
  | .ok (ps, _) => ps.map (fdOf l)
  | .error _ => []
def btP (r : Except (Nat × Nat) (List Plc × Nat)) : Nat := match r with
  | .ok (_, a) => a
  | .error _ => 0
def spP (r : Except (Nat × Nat) (List Plc × Nat)) : Nat × Nat := match r with
  | .ok _ => (0, 0)
  | .error e => e
end Go.Proofs.YtpepjiocjcjeeabDoor
/-
  The document's Parse, plainly.
-/
namespace Go.Proofs.YtpepjiocjcjeeabDoor

theorem stE_app (l : List UInt8) (a b c : Nat) (h1 : a ≤ b) (h2 : b ≤ c) (h3 : c ≤ l.length) : stE l a b ++ stE l b c = stE l a c := by
  unfold stE
  have e : l.take c = l.take b ++ (l.take c).drop b := by
    have := List.take_append_drop b (l.take c)
    rw [List.take_take, Nat.min_eq_left h2] at this
    exact this.symm
  calc (l.take b).drop a ++ (l.take c).drop b = (l.take b ++ (l.take c).drop b).drop a := (List.drop_append_of_le_length (by rw [List.length_take]; omega)).symm
    _ = (l.take c).drop a := by rw [← e]
theorem stE_crlf (l : List UInt8) (a : Nat) (h : leH (l.drop a) = true) : stE l a (a + 2) = [13, 10] := by
  have hlt := leH_lt l a h
  unfold leH at h
  rw [Bool.and_eq_true, beq_iff_eq, beq_iff_eq, List.getElem?_drop, List.getElem?_drop, Nat.add_zero] at h
  rw [List.getElem?_eq_getElem (by omega), List.getElem?_eq_getElem (by omega)] at h
  have e1 := stE_next l a (a + 1) (by omega) hlt
  have e2 := stE_next l a a (Nat.le_refl _) (by omega)
  rw [stE_nil] at e2
  rw [e1, e2, Option.some.inj h.1, Option.some.inj h.2]
  rfl
/-- What the document's Parse knows when a row begins. -/
structure Pdt (l : List UInt8) (f : Nat) (ps : List Plc) : Prop where
  st : ∃ k, Pst l k f ps
  la : ∀ q p, ps = q ++ [p] → p.t + 2 = f ∧ leH (l.drop p.t) = true
theorem Pdt.zero (l : List UInt8) : Pdt l 0 [] := ⟨⟨0, Pst.zero l⟩, fun q p h => by simp at h⟩
theorem tk_on {l : List UInt8} {ps qs : List Plc} {f t : Nat} (h : tkH l ps f t = .ok qs) : leH (l.drop t) = true := by
  rcases tk_cases l ps f t with h1 | h1 | ⟨h1, _⟩
  · rw [h1] at h; cases h
  · rw [h1] at h; cases h
  · exact h1
theorem tk_last {l : List UInt8} {ps qs : List Plc} {f t : Nat} (h : tkH l ps f t = .ok qs) : ∀ q p, qs = q ++ [p] → p.t = t := by
  intro q p e
  have key : ∃ q' p', qs = q' ++ [p'] ∧ p'.t = t := by
    rcases tk_cases l ps f t with h1 | h1 | ⟨_, h1 | h1⟩
    · rw [h1] at h; cases h
    · rw [h1] at h; cases h
    · rcases fold_cases l ps f t with h2 | ⟨hne, h2⟩
      · rw [h1, h2] at h; cases h
      · rw [h1, h2] at h
        cases h
        obtain ⟨q', p', rfl⟩ := snoc_of ps hne
        rw [setLast_snoc]
        exact ⟨_, _, rfl, rfl⟩
    · rcases beg_cases l ps f t with ⟨p, h2⟩ | ⟨_, _, h2⟩
      · rw [h1, h2] at h; cases h
      · rw [h1, h2] at h
        cases h
        exact ⟨_, _, rfl, rfl⟩
  obtain ⟨q', p', e', ht⟩ := key
  rw [e] at e'
  have := (List.append_inj' e' rfl).2
  rw [(List.cons.inj this).1]
  exact ht
theorem Pdt.next {l : List UInt8} {f : Nat} {ps qs : List Plc} (h : Pdt l f ps) (he : f ≠ l.length) (hb : leH (l.drop f) = false) (ht : tkH l ps f (rwE l f) = .ok qs) : Pdt l (rwE l f + 2) qs := by
  obtain ⟨k, hk⟩ := h.st
  refine ⟨⟨k + 1, hk.next he hb ht⟩, fun q p e => ?_⟩
  have := tk_last ht q p e
  rw [this]
  exact ⟨rfl, tk_on ht⟩
theorem fd_fold (l : List UInt8) (p : Plc) (f t : Nat) (hp : PlOk l p) (hf : p.t + 2 = f) (hl : leH (l.drop p.t) = true) (hft : f ≤ t) (ht : t ≤ l.length) : fdOf l ⟨p.f, p.c, t⟩ = ⟨(fdOf l p).name, (fdOf l p).body ++ [13, 10] ++ stE l f t⟩ := by
  obtain ⟨h1, h2, h3⟩ := hp
  unfold fdOf
  dsimp only
  congr 1
  rw [← stE_crlf l p.t hl, stE_app l _ _ _ h2 (by omega) (by omega), hf, stE_app l _ _ _ (by omega) hft ht]
theorem fd_beg (l : List UInt8) (f a t : Nat) (ha : f + a + 1 ≤ t) : fdOf l ⟨f, f + a, t⟩ = ⟨(stE l f t).take a, (stE l f t).drop (a + 1)⟩ := by
  unfold fdOf stE
  dsimp only
  congr 1
  · rw [List.take_drop, List.take_take, Nat.min_eq_left (by omega)]
  · rw [List.drop_drop, Nat.add_assoc]
theorem cells_last (xs : List Fd) (x : Fd) (b : List UInt8) : (cellsF (xs ++ [x])).set (xs.length * 2 + 1) (.string (tx b)) = cellsF (xs ++ [⟨x.name, b⟩]) := by
  have hl : (cellsF xs).length = xs.length * 2 := by rw [cellsF_length]; omega
  rw [cellsF_append, cellsF_append, List.set_append_right _ _ (by rw [hl]; omega), hl, show xs.length * 2 + 1 - xs.length * 2 = 1 by omega]
  rfl
/-- The row at f begins with a blank, or not. -/
theorem tk_blank (l : List UInt8) (ps : List Plc) (f t : Nat) (c : UInt8) (hc : l[f]? = some c) (h1 : t - f ≤ 998) (h2 : leH (l.drop t) = true) : tkH l ps f t = if blB c = true then foldH l ps f t else begH l ps f t := by
  unfold tkH
  rw [if_neg (by omega), if_neg (by rw [h2]; decide), hc]
theorem tk_long (l : List UInt8) (ps : List Plc) (f t : Nat) (h1 : 998 < t - f) : tkH l ps f t = .error (160, f + 998) := by
  unfold tkH
  rw [if_pos h1]
theorem tk_open (l : List UInt8) (ps : List Plc) (f t : Nat) (h1 : t - f ≤ 998) (h2 : leH (l.drop t) = false) : tkH l ps f t = .error (160, t) := by
  unfold tkH
  rw [if_neg (by omega), if_pos h2]
theorem fldB_all (l : List UInt8) (f t : Nat) (c : UInt8) (r : List UInt8) (h : stE l f t = c :: r) (hc : blB c = true) : fldB (stE l f t) = !(stE l f t).all blB := by
  unfold fldB
  rw [h]
  dsimp only
  rw [hc, Bool.true_and, List.not_all_eq_any_not]
theorem fold_doc (l : List UInt8) (ps : List Plc) (f t : Nat) (c : UInt8) (r : List UInt8) (h : stE l f t = c :: r) (hc : blB c = true) : foldH l ps f t = if (stE l f t).all blB = true ∨ ps = [] then .error (161, f) else .ok (setLast ps t) := by
  unfold foldH
  rw [fldB_all l f t c r h hc]
  by_cases h1 : ps = []
  · rw [if_pos (.inl h1), if_pos (.inr h1)]
  · by_cases h2 : (stE l f t).all blB = true
    · rw [if_pos (.inr (by rw [h2]; rfl)), if_pos (.inl h2)]
    · rw [if_neg (by simp [h1, h2]), if_neg (by simp [h1, h2])]
end Go.Proofs.YtpepjiocjcjeeabDoor
