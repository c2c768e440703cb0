/-
  The document's rows against the program's, plainly.
-/
import Derived.Test.YtpepjiocjcjeeabDoorRc16
namespace Go.Proofs.YtpepjiocjcjeeabDoor

/-- The first line end from f on, or the end. -/
def feE (l : List UInt8) (f : Nat) : Nat :=
  if h : f < l.length then (if leH (l.drop f) = true then f else feE l (f + 1)) else f
termination_by l.length - f
theorem feE_end (l : List UInt8) (f : Nat) (h : ¬ f < l.length) : feE l f = f := by rw [feE, dif_neg h]
theorem feE_hit (l : List UInt8) (f : Nat) (h : leH (l.drop f) = true) : feE l f = f := by
  rw [feE, dif_pos (by have := leH_lt l f h; omega), if_pos h]
theorem feE_on (l : List UInt8) (f : Nat) (h : f < l.length) (hn : leH (l.drop f) = false) : feE l f = feE l (f + 1) := by
  rw [feE, dif_pos h, if_neg (by rw [hn]; decide)]
theorem feE_ge (l : List UInt8) : ∀ (n f : Nat), l.length - f = n → f ≤ feE l f := by
  intro n
  induction n with
  | zero =>
    intro f h
    rw [feE_end l f (by omega)]
    exact Nat.le_refl _
  | succ n ih =>
    intro f h
    cases hc : leH (l.drop f) with
    | true => rw [feE_hit l f hc]; exact Nat.le_refl _
    | false =>
      rw [feE_on l f (by omega) hc]
      have := ih (f + 1) (by omega)
      omega
theorem feE_le (l : List UInt8) : ∀ (n f : Nat), l.length - f = n → f ≤ l.length → feE l f ≤ l.length := by
  intro n
  induction n with
  | zero =>
    intro f h hf
    rw [feE_end l f (by omega)]
    exact hf
  | succ n ih =>
    intro f h hf
    cases hc : leH (l.drop f) with
    | true => rw [feE_hit l f hc]; exact hf
    | false =>
      rw [feE_on l f (by omega) hc]
      exact ih (f + 1) (by omega) (by omega)
/-- No line end from f up to g: the first one from f on is the first one from g on. -/
theorem feE_jump (l : List UInt8) (f g : Nat) (hfg : f ≤ g) (hg : g ≤ l.length) (h : ∀ j, f ≤ j → j < g → leH (l.drop j) = false) : feE l f = feE l g := by
  induction g with
  | zero =>
    obtain rfl : f = 0 := by omega
    rfl
  | succ g ih =>
    rcases Nat.lt_or_ge g f with hlt | hge
    · obtain rfl : f = g + 1 := by omega
      rfl
    · rw [ih hge (by omega) (fun j h1 h2 => h j h1 (by omega)), feE_on l g (by omega) (h g hge (by omega))]
theorem le_cr (l : List UInt8) (j : Nat) (h : j < l.length) (hc : crB l[j] = false) : leH (l.drop j) = false := by
  rw [leH_at, List.getElem?_eq_getElem h]
  have : (some l[j] == some (13 : UInt8)) = false := by
    rw [beq_eq_false_iff_ne]
    intro e
    have e2 : l[j] = 13 := Option.some.inj e
    rw [e2] at hc
    cases hc
  rw [this]
  rfl
theorem feE_row (l : List UInt8) (f : Nat) (hf : f ≤ l.length) : feE l f = feE l (rwE l f) :=
  feE_jump l f (rwE l f) (rwE_ge l f) (rwE_le l f hf) (fun j h1 h2 => le_cr l j (by have := rwE_le l f hf; omega) (rwE_in l f j h1 h2 _))
/-- The document's stretches from f on. -/
def dws (l : List UInt8) (f : Nat) : List (Nat × Nat) :=
  if h : leH (l.drop (feE l f)) = true then (f, feE l f) :: dws l (feE l f + 2) else [(f, feE l f)]
termination_by l.length - f
decreasing_by
  have h1 := leH_lt l _ h
  have h2 := feE_ge l _ f rfl
  omega
theorem dws_on (l : List UInt8) (f : Nat) (h : leH (l.drop (feE l f)) = true) : dws l f = (f, feE l f) :: dws l (feE l f + 2) := by rw [dws, dif_pos h]
theorem dws_off (l : List UInt8) (f : Nat) (h : leH (l.drop (feE l f)) = false) : dws l f = [(f, feE l f)] := by rw [dws, dif_neg (by rw [h]; decide)]
/-- A stretch that is wrong: a bare CR or LF in it, or too long. -/
def dBad (nl : Nat) (l : List UInt8) (p : Nat × Nat) : Bool := decide (rwE l p.1 < p.2) || decide (998 < (if p.1 = 0 then p.2 - p.1 + (nl + 1) else p.2 - p.1))
/-- What the document tells of stretches. -/
def dCk (nl : Nat) (l : List UInt8) (ps : List (Nat × Nat)) (told : Nat) : Nat := if ps.any (dBad nl l) then 160 else if told = 161 ∨ (ps.any fun p => decide (p.1 ≠ 0) && !fldB (stE l p.1 p.2)) = true then 161 else told
theorem dCk_cons (nl : Nat) (l : List UInt8) (p : Nat × Nat) (r : List (Nat × Nat)) (told : Nat) (hb : rwE l p.1 = p.2) :
    dCk nl l (p :: r) told = if 998 < (if p.1 = 0 then p.2 - p.1 + (nl + 1) else p.2 - p.1) then 160 else dCk nl l r (if p.1 = 0 then told else if fldB (stE l p.1 p.2) then told else 161) := by
  unfold dCk
  rw [List.any_cons, List.any_cons]
  have e : dBad nl l p = decide (998 < (if p.1 = 0 then p.2 - p.1 + (nl + 1) else p.2 - p.1)) := by
    unfold dBad
    rw [hb, decide_eq_false (Nat.lt_irrefl _), Bool.false_or]
  rw [e]
  by_cases h1 : 998 < (if p.1 = 0 then p.2 - p.1 + (nl + 1) else p.2 - p.1)
  · rw [if_pos h1, decide_eq_true h1, Bool.true_or, if_pos rfl]
  · rw [if_neg h1, decide_eq_false h1, Bool.false_or]
    by_cases h2 : r.any (dBad nl l) = true
    · rw [if_pos h2, if_pos h2]
    · rw [if_neg h2, if_neg h2]
      by_cases h0 : p.1 = 0
      · have e0 : decide (p.1 ≠ 0) = false := decide_eq_false (fun h => h h0)
        rw [if_pos h0, e0, Bool.false_and, Bool.false_or]
      · rw [if_neg h0]
        cases hf : fldB (stE l p.1 p.2) with
        | true => rw [Bool.not_true, Bool.and_false, Bool.false_or, if_pos rfl]
        | false => simp [h0]
theorem ck_is (nl : Nat) (l : List UInt8) : ∀ (n f : Nat), l.length - f = n → f ≤ l.length → ∀ told e, (told = 0 ∨ told = 161) → ckR nl l (rws l f) told e = dCk nl l (dws l f) told := by
  intro n
  induction n using Nat.strongRecOn with
  | ind n ih =>
    intro f hn hf told e ht
    have h1 := rwE_ge l f
    have h2 := rwE_le l f hf
    have hfe := feE_row l f hf
    cases hc : leH (l.drop (rwE l f)) with
    | true =>
      have h3 := leH_lt l _ hc
      rw [feE_hit l _ hc] at hfe
      rw [rws_on l f hc, dws_on l f (by rw [hfe]; exact hc), hfe, dCk_cons nl l _ _ _ rfl, ckR]
      dsimp only
      have ht' : (if f = 0 then told else if fldB (stE l f (rwE l f)) = true then told else 161) = 0 ∨ (if f = 0 then told else if fldB (stE l f (rwE l f)) = true then told else 161) = 161 := by
        by_cases h0 : f = 0
        · rw [if_pos h0]; exact ht
        · rw [if_neg h0]
          by_cases h4 : fldB (stE l f (rwE l f)) = true
          · rw [if_pos h4]; exact ht
          · rw [if_neg h4]; exact .inr rfl
      rw [ih (l.length - (rwE l f + 2)) (by omega) (rwE l f + 2) rfl (by omega) _ _ ht']
    | false =>
      rw [rws_off l f hc, ckR, ckR]
      rcases Nat.lt_or_ge (rwE l f) l.length with hlt | hge
      · rw [if_pos hlt]
        have hbad : dBad nl l (f, feE l f) = true := by
          unfold dBad
          have : rwE l f < feE l f := by
            rw [hfe, feE_on l _ hlt hc]
            have := feE_ge l _ (rwE l f + 1) rfl
            omega
          dsimp only
          rw [decide_eq_true this, Bool.true_or]
        have : (dws l f).any (dBad nl l) = true := by
          cases hd : leH (l.drop (feE l f)) with
          | true => rw [dws_on l f hd, List.any_cons, hbad, Bool.true_or]
          | false => rw [dws_off l f hd, List.any_cons, hbad, Bool.true_or]
        unfold dCk
        rw [if_pos this]
        by_cases h5 : 998 < (if f = 0 then rwE l f - f + (nl + 1) else rwE l f - f)
        · rw [if_pos h5]
        · rw [if_neg h5]
      · rw [if_neg (show ¬ rwE l f < l.length by omega)]
        have he : rwE l f = l.length := by omega
        rw [feE_end l (rwE l f) (by omega)] at hfe
        rw [dws_off l f (by rw [hfe]; exact hc), hfe, dCk_cons nl l _ _ _ rfl]
        dsimp only
        unfold dCk
        have hz : (if f = 0 then told else if fldB (stE l f (rwE l f)) = true then told else 161) = 0 ∨ (if f = 0 then told else if fldB (stE l f (rwE l f)) = true then told else 161) = 161 := by
          by_cases h0 : f = 0
          · rw [if_pos h0]; exact ht
          · rw [if_neg h0]
            by_cases h4 : fldB (stE l f (rwE l f)) = true
            · rw [if_pos h4]; exact ht
            · rw [if_neg h4]; exact .inr rfl
        generalize (if f = 0 then told else if fldB (stE l f (rwE l f)) = true then told else 161) = td at hz
        rcases hz with rfl | rfl <;> simp
end Go.Proofs.YtpepjiocjcjeeabDoor
