/-
  The document's Check, plainly: its stretches of name, colon and body.
-/
import Derived.Test.YtpepjiocjcjeeabDoorDcP
namespace Go.Proofs.YtpepjiocjcjeeabDoor

theorem drop_cat (P l : List UInt8) (f : Nat) : (P ++ l).drop (P.length + f) = l.drop f := by rw [List.drop_append, List.drop_eq_nil_of_le (by omega)]; simp
theorem feE_cat (P l : List UInt8) : ∀ (n f : Nat), l.length - f = n → f ≤ l.length → feE (P ++ l) (P.length + f) = P.length + feE l f := by
  intro n
  induction n with
  | zero =>
    intro f h hf
    rw [feE_end l f (by omega), feE_end _ _ (by rw [List.length_append]; omega)]
  | succ n ih =>
    intro f h hf
    have hd := drop_cat P l f
    cases hc : leH (l.drop f) with
    | true => rw [feE_hit l f hc, feE_hit _ _ (by rw [hd]; exact hc)]
    | false =>
      rw [feE_on l f (by omega) hc, feE_on _ _ (by rw [List.length_append]; omega) (by rw [hd]; exact hc), Nat.add_assoc]
      exact ih (f + 1) (by omega) (by omega)
theorem dws_cat (P l : List UInt8) : ∀ (n f : Nat), l.length - f = n → f ≤ l.length → dws (P ++ l) (P.length + f) = (dws l f).map fun p => (P.length + p.1, P.length + p.2) := by
  intro n
  induction n using Nat.strongRecOn with
  | ind n ih =>
    intro f h hf
    have h1 := feE_ge l _ f rfl
    have h2 := feE_cat P l _ f rfl hf
    cases hc : leH (l.drop (feE l f)) with
    | true =>
      have h3 := leH_lt l _ hc
      rw [dws_on l f hc, dws_on _ _ (by rw [h2, drop_cat]; exact hc), List.map_cons, h2, Nat.add_assoc, ih (l.length - (feE l f + 2)) (by omega) (feE l f + 2) rfl (by omega)]
    | false => rw [dws_off l f hc, dws_off _ _ (by rw [h2, drop_cat]; exact hc), h2]; rfl
theorem feE_pre (P l : List UInt8) (hP : ∀ c ∈ P, crB c = false) : feE (P ++ l) 0 = P.length + feE l 0 := by
  rw [← feE_cat P l _ 0 rfl (Nat.zero_le _), Nat.add_zero]
  refine feE_jump _ 0 _ (Nat.zero_le _) (by rw [List.length_append]; omega) (fun j _ h2 => le_cr _ j (by rw [List.length_append]; omega) ?_)
  rw [List.getElem_append_left h2]
  exact hP _ (List.getElem_mem h2)
/-- The body's stretches behind the first. -/
def dwt (l : List UInt8) : List (Nat × Nat) := if leH (l.drop (feE l 0)) = true then dws l (feE l 0 + 2) else []
theorem dws_zero (l : List UInt8) : dws l 0 = (0, feE l 0) :: dwt l := by
  unfold dwt
  cases hc : leH (l.drop (feE l 0)) with
  | true => rw [dws_on l 0 hc, if_pos rfl]
  | false => rw [dws_off l 0 hc, if_neg (by decide)]
theorem dwt_cat (P l : List UInt8) (hP : ∀ c ∈ P, crB c = false) : dwt (P ++ l) = (dwt l).map fun p => (P.length + p.1, P.length + p.2) := by
  unfold dwt
  rw [feE_pre P l hP, drop_cat]
  cases hc : leH (l.drop (feE l 0)) with
  | true =>
    have h3 := leH_lt l _ hc
    rw [if_pos rfl, if_pos rfl, Nat.add_assoc, dws_cat P l _ _ rfl (by omega)]
  | false => rw [if_neg (by decide), if_neg (by decide)]; rfl
theorem stE_cat (P l : List UInt8) (f t : Nat) : stE (P ++ l) (P.length + f) (P.length + t) = stE l f t := by
  unfold stE
  rw [List.take_append, List.take_of_length_le (by omega), Nat.add_sub_cancel_left, drop_cat]
theorem stE_pre (P l : List UInt8) (t : Nat) : stE (P ++ l) 0 (P.length + t) = P ++ stE l 0 t := by
  unfold stE
  rw [List.drop_zero, List.drop_zero, List.take_append, List.take_of_length_le (by omega), Nat.add_sub_cancel_left]
theorem dws_in (l : List UInt8) : ∀ (n f : Nat), l.length - f = n → f ≤ l.length → ∀ p ∈ dws l f, f ≤ p.1 ∧ p.1 ≤ p.2 ∧ p.2 ≤ l.length := by
  intro n
  induction n using Nat.strongRecOn with
  | ind n ih =>
    intro f hn hf p hp
    have h1 := feE_ge l _ f rfl
    have h2 := feE_le l _ f rfl hf
    cases hc : leH (l.drop (feE l f)) with
    | true =>
      rw [dws_on l f hc] at hp
      have h3 := leH_lt l _ hc
      rcases List.mem_cons.1 hp with rfl | hp
      · exact ⟨Nat.le_refl _, h1, h2⟩
      · have := ih (l.length - (feE l f + 2)) (by omega) (feE l f + 2) rfl (by omega) p hp
        omega
    | false =>
      rw [dws_off l f hc, List.mem_singleton] at hp
      subst hp
      exact ⟨Nat.le_refl _, h1, h2⟩
theorem dwt_in (l : List UInt8) (p : Nat × Nat) (hp : p ∈ dwt l) : 2 ≤ p.1 ∧ p.1 ≤ p.2 ∧ p.2 ≤ l.length := by
  unfold dwt at hp
  cases hc : leH (l.drop (feE l 0)) with
  | true =>
    rw [hc, if_pos rfl] at hp
    have h3 := leH_lt l _ hc
    have := dws_in l _ (feE l 0 + 2) rfl (by omega) p hp
    omega
  | false => rw [hc, if_neg (by decide)] at hp; cases hp
/-- The first CR or LF of a stretch is that of the whole. -/
theorem rwE_st (l : List UInt8) (f t : Nat) (h1 : f ≤ t) (h2 : t ≤ l.length) : (rwE (stE l f t) 0 < t - f) ↔ rwE l f < t := by
  have hl : (stE l f t).length = t - f := stE_len l f t h2
  have hg : ∀ j (hj : j < t - f), (stE l f t)[j]'(by rw [hl]; exact hj) = l[f + j] := fun j hj => by
    unfold stE
    rw [List.getElem_drop, List.getElem_take]
  constructor
  · intro h
    have hs := rwE_stop (stE l f t) 0 (by rw [hl]; exact h)
    rw [hg _ h] at hs
    apply Classical.byContradiction
    intro hn
    have := rwE_in l f (f + rwE (stE l f t) 0) (by omega) (by omega) (by omega)
    rw [this] at hs
    cases hs
  · intro h
    have h0 := rwE_ge l f
    have hs := rwE_stop l f (by omega)
    apply Classical.byContradiction
    intro hn
    have hr := rwE_in (stE l f t) 0 (rwE l f - f) (by omega) (by omega) (by rw [hl]; omega)
    rw [hg _ (by omega)] at hr
    have e : f + (rwE l f - f) = rwE l f := by omega
    simp only [e] at hr
    rw [hs] at hr
    cases hr
theorem rwE_pre (P l : List UInt8) (hP : ∀ c ∈ P, crB c = false) : rwE (P ++ l) 0 = P.length + rwE l 0 := by
  unfold rwE
  rw [List.drop_zero, List.drop_zero, List.takeWhile_append_of_pos (fun c hc => by rw [hP c hc]; rfl)]
  simp
/-- What the document tells of the stretches of a name, a colon and a body. -/
def dS (ss : List (List UInt8)) : Nat := if (ss.any fun t => decide (rwE t 0 < t.length) || decide (998 < t.length)) then 160 else if ((ss.drop 1).any fun t => !fldB t) then 161 else 0
def dStr (X : List UInt8) : List (List UInt8) := (dws X 0).map fun p => stE X p.1 p.2
theorem dS_is (P l : List UInt8) (hP : ∀ c ∈ P, crB c = false) (nl : Nat) (hnl : P.length = nl + 1) : dS (dStr (P ++ l)) = dCk nl l (dws l 0) 0 := by
  have hfl := feE_le l _ 0 rfl (Nat.zero_le _)
  have e1 : dStr (P ++ l) = (P ++ stE l 0 (feE l 0)) :: (dwt l).map fun p => stE l p.1 p.2 := by
    unfold dStr
    rw [dws_zero, feE_pre P l hP, dwt_cat P l hP, List.map_cons, stE_pre, List.map_map]
    congr 1
    apply List.map_congr_left
    intro p _
    exact stE_cat P l p.1 p.2
  have hlen : (stE l 0 (feE l 0)).length = feE l 0 := by rw [stE_len _ _ _ hfl]; omega
  have b0 : (decide (rwE (P ++ stE l 0 (feE l 0)) 0 < (P ++ stE l 0 (feE l 0)).length) || decide (998 < (P ++ stE l 0 (feE l 0)).length)) = dBad nl l (0, feE l 0) := by
    unfold dBad
    rw [rwE_pre P _ hP, List.length_append, hlen]
    dsimp only
    rw [if_pos rfl]
    congr 1
    · rw [Bool.eq_iff_iff, decide_eq_true_eq, decide_eq_true_eq, ← rwE_st l 0 (feE l 0) (Nat.zero_le _) hfl]
      omega
    · rw [Bool.eq_iff_iff, decide_eq_true_eq, decide_eq_true_eq]
      omega
  have bt : (((dwt l).map fun p => stE l p.1 p.2).any fun t => decide (rwE t 0 < t.length) || decide (998 < t.length)) = (dwt l).any (dBad nl l) := by
    rw [List.any_map]
    rw [Bool.eq_iff_iff, List.any_eq_true, List.any_eq_true]
    have key : ∀ p ∈ dwt l, ((fun t => decide (rwE t 0 < t.length) || decide (998 < t.length)) ∘ fun p => stE l p.1 p.2) p = dBad nl l p := fun p hp => by
      obtain ⟨h1, h2, h3⟩ := dwt_in l p hp
      unfold dBad
      rw [if_neg (show ¬ p.1 = 0 by omega)]
      show (decide (rwE (stE l p.1 p.2) 0 < (stE l p.1 p.2).length) || decide (998 < (stE l p.1 p.2).length)) = _
      rw [stE_len _ _ _ h3]
      congr 1
      rw [Bool.eq_iff_iff, decide_eq_true_eq, decide_eq_true_eq]
      exact rwE_st l p.1 p.2 h2 h3
    constructor
    · rintro ⟨p, hp, h⟩
      exact ⟨p, hp, by rw [← key p hp]; exact h⟩
    · rintro ⟨p, hp, h⟩
      exact ⟨p, hp, by rw [key p hp]; exact h⟩
  have ft : (((dwt l).map fun p => stE l p.1 p.2).any fun t => !fldB t) = (dwt l).any fun p => decide (p.1 ≠ 0) && !fldB (stE l p.1 p.2) := by
    rw [List.any_map]
    rw [Bool.eq_iff_iff, List.any_eq_true, List.any_eq_true]
    constructor
    · rintro ⟨p, hp, h⟩
      have h1 := (dwt_in l p hp).1
      exact ⟨p, hp, by rw [decide_eq_true (show p.1 ≠ 0 by omega), Bool.true_and]; exact h⟩
    · rintro ⟨p, hp, h⟩
      rw [Bool.and_eq_true] at h
      exact ⟨p, hp, h.2⟩
  unfold dS dCk
  rw [e1, dws_zero, List.any_cons, List.any_cons, b0, bt, List.drop_one, List.tail_cons, ft, List.any_cons]
  have z : (decide ((0, feE l 0).1 ≠ 0) && !fldB (stE l (0, feE l 0).1 (0, feE l 0).2)) = false := by
    have : decide ((0, feE l 0).1 ≠ 0) = false := decide_eq_false (fun h => h rfl)
    rw [this, Bool.false_and]
  rw [z, Bool.false_or]
  have z2 : (0 = 161 ∨ ((dwt l).any fun p => decide (p.1 ≠ 0) && !fldB (stE l p.1 p.2)) = true) ↔ ((dwt l).any fun p => decide (p.1 ≠ 0) && !fldB (stE l p.1 p.2)) = true := by simp
  by_cases h1 : (dBad nl l (0, feE l 0) || (dwt l).any (dBad nl l)) = true
  · rw [if_pos h1, if_pos h1]
  · rw [if_neg h1, if_neg h1]
    by_cases h2 : ((dwt l).any fun p => decide (p.1 ≠ 0) && !fldB (stE l p.1 p.2)) = true
    · rw [if_pos h2, if_pos (z2.2 h2)]
    · rw [if_neg h2, if_neg (fun h => h2 (z2.1 h))]
theorem badN_full (c : Int) : ∀ (l : List UInt8), badN c l = l.length → ∀ x ∈ l, isB c (x.toNat : Int) = true
  | [], _, x, h => by cases h
  | b :: r, h, x, hx => by
    have hb : isB c (b.toNat : Int) = true := by
      apply Classical.byContradiction
      intro hn
      rw [badN, if_neg hn] at h
      simp at h
    rw [badN, if_pos hb] at h
    rcases List.mem_cons.1 hx with rfl | hx
    · exact hb
    · exact badN_full c r (by simpa using h) x hx
theorem nm_cr_fin : ∀ b : Fin 256, isB 11 (b.val : Int) = true → crB (UInt8.ofNat b.val) = false := by decide +kernel
theorem nm_cr (nm : List UInt8) (h : nmB nm = true) : ∀ c ∈ nm, crB c = false := fun c hc => by
  unfold nmB at h
  rw [Bool.and_eq_true, beq_iff_eq] at h
  have := nm_cr_fin ⟨c.toNat, c.toNat_lt⟩ (badN_full 11 nm h.2 c hc)
  simpa using this
theorem chk_doc (nm bd : List UInt8) : chkF nm bd = if nmB nm then dS (dStr (nm ++ [58] ++ bd)) else 160 := by
  unfold chkF
  cases h : nmB nm with
  | false => rfl
  | true =>
    rw [if_pos rfl, if_pos rfl, ck_is nm.length bd _ 0 rfl (Nat.zero_le _) 0 0 (.inl rfl)]
    refine (dS_is (nm ++ [58]) bd (fun c hc => ?_) nm.length (by simp)).symm
    rcases List.mem_append.1 hc with hc | hc
    · exact nm_cr nm h c hc
    · rw [List.mem_singleton.1 hc]
      rfl
end Go.Proofs.YtpepjiocjcjeeabDoor
