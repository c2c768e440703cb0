/-
  The plain mathematics of base64: no Go in sight.
-/
namespace Go.Proofs.YtdgepnfgjgbkoaaDoor

/-- A letter's number; -1: it is none. -/
def numI (c : UInt8) : Int :=
  if 65 ≤ c.toNat ∧ c.toNat ≤ 90 then (c.toNat : Int) - 65 else if 97 ≤ c.toNat ∧ c.toNat ≤ 122 then (c.toNat : Int) - 71
  else if 48 ≤ c.toNat ∧ c.toNat ≤ 57 then (c.toNat : Int) + 4 else if c.toNat = 43 then 62 else if c.toNat = 47 then 63 else -1
/-- The letter of a number. -/
def ltr (n : Nat) : UInt8 :=
  if n < 26 then UInt8.ofNat (n + 65) else if n < 52 then UInt8.ofNat (n + 71) else if n < 62 then UInt8.ofNat (n - 4) else if n = 62 then 43 else 47

theorem u8_all {p : UInt8 → Bool} (h : ∀ b : Fin 256, p (UInt8.ofNat b.val) = true) (c : UInt8) : p c = true := by
  have := h ⟨c.toNat, c.toNat_lt⟩
  simpa using this
theorem numI_ltr : ∀ n : Fin 64, numI (ltr n.val) = (n.val : Int) := by decide +kernel
theorem ltr_ne : ∀ n : Fin 64, ltr n.val ≠ 61 := by decide +kernel
theorem ltr_ok (n : Nat) (h : n < 64) : numI (ltr n) = (n : Int) := numI_ltr ⟨n, h⟩
theorem numI_lt (c : UInt8) : -1 ≤ numI c ∧ numI c < 64 := by
  have := u8_all (p := fun c => decide (-1 ≤ numI c ∧ numI c < 64)) (by decide +kernel) c
  simpa using this
theorem ltr_num (c : UInt8) (h : 0 ≤ numI c) : ltr (numI c).toNat = c := by
  have := u8_all (p := fun c => decide (0 ≤ numI c → ltr (numI c).toNat = c)) (by decide +kernel) c
  exact (of_decide_eq_true this) h
theorem num_pad : numI 61 = -1 := by decide

/-- What is due next behind a byte: 0 first, 1 second, 2 third, 3 third or pad, 4 fourth, 5 fourth or pad, 6 the second pad, 7 nothing. -/
def nextD (d : Nat) (c : UInt8) : Option Nat :=
  if 0 ≤ numI c then
    (if d = 0 then some 1 else if d = 1 then (if numI c % 16 = 0 then some 3 else some 2) else if d = 2 ∨ d = 3 then (if numI c % 4 = 0 then some 5 else some 4) else if d = 4 ∨ d = 5 then some 0 else none)
  else if c = 61 then (if d = 3 then some 6 else if d = 5 ∨ d = 6 then some 7 else none)
  else none
/-- What is wrong with a byte that is not due. -/
def errC (c : UInt8) : Nat := if numI c < 0 ∧ c ≠ 61 then 40 else 41

/-- How many bytes go on from there. -/
def okN (d : Nat) : List UInt8 → Nat
  | [] => 0
  | c :: r => match nextD d c with
    | none => 0
    | some d' => okN d' r + 1
/-- What is due behind them. -/
def stD (d : Nat) : List UInt8 → Nat
  | [] => d
  | c :: r => match nextD d c with
    | none => d
    | some d' => stD d' r

theorem okN_le (d : Nat) (l : List UInt8) : okN d l ≤ l.length := by
  induction l generalizing d with
  | nil => exact Nat.le_refl _
  | cons c r ih =>
    unfold okN
    cases nextD d c with
    | none => exact Nat.zero_le _
    | some d' => exact Nat.succ_le_succ (ih d')
theorem okN_append (d : Nat) (l m : List UInt8) (h : okN d l = l.length) : okN d (l ++ m) = l.length + okN (stD d l) m := by
  induction l generalizing d with
  | nil => simp [stD]
  | cons c r ih =>
    unfold okN at h
    cases hn : nextD d c with
    | none => rw [hn] at h; simp at h
    | some d' =>
      rw [hn] at h
      have := ih d' (by simpa using h)
      simp only [List.cons_append, okN, stD, hn, this, List.length_cons]
      omega
theorem stD_append (d : Nat) (l m : List UInt8) (h : okN d l = l.length) : stD d (l ++ m) = stD (stD d l) m := by
  induction l generalizing d with
  | nil => rfl
  | cons c r ih =>
    unfold okN at h
    rw [List.cons_append]
    conv => lhs; unfold stD
    conv => rhs; arg 1; unfold stD
    cases hn : nextD d c with
    | none => rw [hn] at h; simp at h
    | some d' =>
      rw [hn] at h
      exact ih d' (by simpa using h)
theorem okN_take (d : Nat) (l : List UInt8) : okN d (l.take (okN d l)) = (l.take (okN d l)).length := by
  induction l generalizing d with
  | nil => rfl
  | cons c r ih =>
    cases hn : nextD d c with
    | none => simp [okN, hn]
    | some d' =>
      simp only [List.take_succ_cons, List.length_cons, okN, hn, ih]
theorem okN_bad (d : Nat) (l : List UInt8) (h : okN d l < l.length) : nextD (stD d (l.take (okN d l))) l[okN d l] = none := by
  induction l generalizing d with
  | nil => simp at h
  | cons c r ih =>
    unfold okN at h
    cases hn : nextD d c with
    | none => simp [okN, hn, stD]
    | some d' =>
      rw [hn] at h
      have := ih d' (by simpa using h)
      simp only [okN, hn, List.take_succ_cons, stD, List.getElem_cons_succ]
      exact this
theorem okN_pre (d : Nat) (l : List UInt8) (k : Nat) (h : k ≤ okN d l) : okN d (l.take k) = (l.take k).length := by
  induction l generalizing d k with
  | nil => simp [okN]
  | cons c r ih =>
    cases k with
    | zero => rfl
    | succ k =>
      unfold okN at h
      cases hn : nextD d c with
      | none => rw [hn] at h; simp at h
      | some d' =>
        rw [hn] at h
        simp only [List.take_succ_cons, okN, hn, List.length_cons, ih d' k (by simpa using h)]
/-- One byte more. -/
theorem okN_some (d : Nat) (l : List UInt8) (k : Nat) (hk : k < l.length) (h : okN d (l.take k) = k) (d' : Nat) (hn : nextD (stD d (l.take k)) l[k] = some d') :
    okN d (l.take (k + 1)) = k + 1 ∧ stD d (l.take (k + 1)) = d' := by
  have hl : (l.take k).length = k := by rw [List.length_take]; omega
  rw [List.take_succ_eq_append_getElem hk, okN_append _ _ _ (by rw [hl]; exact h), stD_append _ _ _ (by rw [hl]; exact h), hl]
  simp [okN, stD, hn]
theorem okN_none (d : Nat) (l : List UInt8) (k : Nat) (hk : k < l.length) (h : okN d (l.take k) = k) (hn : nextD (stD d (l.take k)) l[k] = none) : okN d l = k := by
  have hl : (l.take k).length = k := by rw [List.length_take]; omega
  have e : l = l.take k ++ (l[k] :: l.drop (k + 1)) := by rw [List.getElem_cons_drop, List.take_append_drop]
  conv => lhs; rw [e]
  rw [okN_append _ _ _ (by rw [hl]; exact h), hl]
  simp [okN, hn]
theorem okN_all (d : Nat) (l : List UInt8) (h : okN d (l.take l.length) = l.length) : okN d l = l.length := by rwa [List.take_length] at h

theorem nextD_lt (d : Nat) (c : UInt8) (d' : Nat) (h : nextD d c = some d') : d' < 8 := by
  unfold nextD at h
  repeat' split at h
  all_goals first | (injection h with h; omega) | cases h
theorem stD_lt (d : Nat) (l : List UInt8) (hd : d < 8) : stD d l < 8 := by
  induction l generalizing d with
  | nil => exact hd
  | cons c r ih =>
    unfold stD
    cases hn : nextD d c with
    | none => exact hd
    | some d' => exact ih d' (nextD_lt d c d' hn)
theorem okN_seven (l : List UInt8) : okN 7 l = 0 := by
  cases l with
  | nil => rfl
  | cons c r =>
    have : nextD 7 c = none := by
      unfold nextD
      split <;> simp
    simp [okN, this]

/-- The bytes of a group. -/
def grp (a b c d : UInt8) : List UInt8 :=
  let x := UInt8.ofNat ((numI a).toNat * 4 + (numI b).toNat / 16)
  let y := UInt8.ofNat ((numI b).toNat % 16 * 16 + (numI c).toNat / 4)
  let z := UInt8.ofNat ((numI c).toNat % 4 * 64 + (numI d).toNat)
  if c = 61 then [x] else if d = 61 then [x, y] else [x, y, z]
/-- The bytes of the whole groups of a text. -/
def d64L : List UInt8 → List UInt8
  | a :: b :: c :: d :: r => grp a b c d ++ d64L r
  | _ => []
theorem grp_len (a b c d : UInt8) : 1 ≤ (grp a b c d).length ∧ (grp a b c d).length ≤ 3 := by
  unfold grp
  simp only
  split
  · simp
  · split <;> simp

/-- A group that goes on from its beginning. -/
structure OkG (a b c d : UInt8) : Prop where
  a0 : 0 ≤ numI a
  b0 : 0 ≤ numI b
  c0 : 0 ≤ numI c ∨ (c = 61 ∧ d = 61 ∧ numI b % 16 = 0)
  d0 : 0 ≤ numI d ∨ (d = 61 ∧ (c = 61 ∨ numI c % 4 = 0))

theorem ne_pad {c : UInt8} (h : 0 ≤ numI c) : c ≠ 61 := fun e => by rw [e, num_pad] at h; omega

theorem four (a b c d : UInt8) (r : List UInt8) (h : okN 0 (a :: b :: c :: d :: r) = r.length + 4) : OkG a b c d ∧ stD 0 [a, b, c, d] = (if d = 61 then 7 else 0) ∧ okN 0 [a, b, c, d] = 4 := by
  have h4 := okN_pre 0 (a :: b :: c :: d :: r) 4 (by rw [h]; omega)
  simp only [List.take_succ_cons, List.take_zero, List.length_cons, List.length_nil] at h4
  clear h
  by_cases ha : 0 ≤ numI a
  · by_cases hb : 0 ≤ numI b
    · by_cases hc : 0 ≤ numI c
      · have hc' := ne_pad hc
        by_cases hd : 0 ≤ numI d
        · have hd' := ne_pad hd
          refine ⟨⟨ha, hb, .inl hc, .inl hd⟩, ?_, h4⟩
          by_cases e1 : numI b % 16 = 0 <;> by_cases e2 : numI c % 4 = 0 <;> simp [stD, nextD, ha, hb, hc, hd, e1, e2, hd']
        · by_cases hd' : d = 61
          · subst hd'
            have e2 : numI c % 4 = 0 := by
              by_cases e1 : numI b % 16 = 0 <;> by_cases e2 : numI c % 4 = 0 <;> simp [okN, nextD, ha, hb, hc, num_pad, e1, e2] at h4 ⊢
            refine ⟨⟨ha, hb, .inl hc, .inr ⟨rfl, .inr e2⟩⟩, ?_, h4⟩
            by_cases e1 : numI b % 16 = 0 <;> simp [stD, nextD, ha, hb, hc, num_pad, e1, e2]
          · exfalso
            by_cases e1 : numI b % 16 = 0 <;> by_cases e2 : numI c % 4 = 0 <;> simp [okN, nextD, ha, hb, hc, hd, hd', e1, e2] at h4
      · by_cases hc' : c = 61
        · subst hc'
          have e1 : numI b % 16 = 0 := by
            by_cases e1 : numI b % 16 = 0 <;> simp [okN, nextD, ha, hb, num_pad, e1] at h4 ⊢
          by_cases hd' : d = 61
          · subst hd'
            refine ⟨⟨ha, hb, .inr ⟨rfl, rfl, e1⟩, .inr ⟨rfl, .inl rfl⟩⟩, ?_, h4⟩
            simp [stD, nextD, ha, hb, num_pad, e1]
          · exfalso
            by_cases hd : 0 ≤ numI d <;> simp [okN, nextD, ha, hb, num_pad, hd, hd', e1] at h4
        · exfalso
          by_cases e1 : numI b % 16 = 0 <;> simp [okN, nextD, ha, hb, hc, hc', e1] at h4
    · exfalso
      by_cases hb' : b = 61 <;> simp [okN, nextD, ha, hb, hb', num_pad] at h4
  · exfalso
    by_cases ha' : a = 61 <;> simp [okN, nextD, ha, ha', num_pad] at h4

/-- A text that goes on all through, cut behind its first group. -/
theorem okN_group (a b c d : UInt8) (r : List UInt8) (h : okN 0 (a :: b :: c :: d :: r) = r.length + 4) : OkG a b c d ∧ (d = 61 → r = []) ∧ (d ≠ 61 → okN 0 r = r.length) := by
  obtain ⟨g, hs, h4⟩ := four a b c d r h
  have e := okN_append 0 [a, b, c, d] r (by simpa using h4)
  have e2 : okN 0 (a :: b :: c :: d :: r) = 4 + okN (stD 0 [a, b, c, d]) r := by simpa using e
  rw [h, hs] at e2
  refine ⟨g, fun hd => ?_, fun hd => ?_⟩
  · rw [if_pos hd, okN_seven] at e2
    exact List.eq_nil_of_length_eq_zero (by omega)
  · rw [if_neg hd] at e2
    omega

/-- What is due behind whole groups. -/
theorem st_whole : ∀ (n : Nat) (l : List UInt8), l.length = 4 * n → okN 0 l = l.length → stD 0 l = if l[l.length - 1]? = some 61 then 7 else 0
  | 0, l, hn, _ => by
    have : l = [] := List.eq_nil_of_length_eq_zero (by omega)
    subst this
    rfl
  | n + 1, l, hn, h => by
    match l, hn with
    | a :: b :: c :: d :: r, hn =>
      have hr : r.length = 4 * n := by simp only [List.length_cons] at hn; omega
      have h' : okN 0 (a :: b :: c :: d :: r) = r.length + 4 := by simpa using h
      obtain ⟨g, hs, h4⟩ := four a b c d r h'
      obtain ⟨_, hd1, hd2⟩ := okN_group a b c d r h'
      have e := stD_append 0 [a, b, c, d] r (by simpa using h4)
      have e' : stD 0 (a :: b :: c :: d :: r) = stD (stD 0 [a, b, c, d]) r := by simpa using e
      rw [e', hs]
      by_cases hd : d = 61
      · have := hd1 hd
        subst this
        simp [hd, stD]
      · rw [if_neg hd]
        have ih := st_whole n r hr (hd2 hd)
        by_cases hr0 : r = []
        · subst hr0
          simp [hd, stD]
        · rw [ih]
          have hl : 0 < r.length := List.length_pos_iff.2 hr0
          have : (a :: b :: c :: d :: r).length - 1 = (r.length - 1) + 4 := by simp only [List.length_cons]; omega
          rw [this]
          simp
    | [], hn => simp at hn
    | [_], hn => simp at hn; omega
    | [_, _], hn => simp at hn; omega
    | [_, _, _], hn => simp at hn; omega

theorem d64L_append : ∀ (n : Nat) (l m : List UInt8), l.length = 4 * n → d64L (l ++ m) = d64L l ++ d64L m
  | 0, l, m, hn => by
    have : l = [] := List.eq_nil_of_length_eq_zero (by omega)
    subst this
    rfl
  | n + 1, l, m, hn => by
    match l, hn with
    | a :: b :: c :: d :: r, hn =>
      have hr : r.length = 4 * n := by simp only [List.length_cons] at hn; omega
      simp only [List.cons_append, d64L, d64L_append n r m hr, List.append_assoc]
    | [], hn => simp at hn
    | [_], hn => simp at hn; omega
    | [_, _], hn => simp at hn; omega
    | [_, _, _], hn => simp at hn; omega
theorem d64L_short (l : List UInt8) (h : l.length < 4) : d64L l = [] := by
  match l, h with
  | [], _ => rfl
  | [_], _ => rfl
  | [_, _], _ => rfl
  | [_, _, _], _ => rfl
  | _ :: _ :: _ :: _ :: _, h => simp at h; omega
theorem d64L_len : ∀ (n : Nat) (l : List UInt8), l.length < 4 * n + 4 → (d64L l).length ≤ l.length / 4 * 3
  | 0, l, h => by rw [d64L_short l (by omega)]; simp
  | n + 1, l, h => by
    match l with
    | a :: b :: c :: d :: r =>
      have hr : r.length < 4 * n + 4 := by simp only [List.length_cons] at h; omega
      have := d64L_len n r hr
      have g := (grp_len a b c d).2
      simp only [d64L, List.length_append, List.length_cons]
      omega
    | [] => simp [d64L]
    | [_] => simp [d64L]
    | [_, _] => simp [d64L]
    | [_, _, _] => simp [d64L]
theorem d64L_le (l : List UInt8) : (d64L l).length ≤ l.length / 4 * 3 := d64L_len (l.length) l (by omega)

/-- What is written of bytes. -/
def e64L : List UInt8 → List UInt8
  | a :: b :: c :: r => ltr (a.toNat / 4) :: ltr (a.toNat % 4 * 16 + b.toNat / 16) :: ltr (b.toNat % 16 * 4 + c.toNat / 64) :: ltr (c.toNat % 64) :: e64L r
  | [a, b] => [ltr (a.toNat / 4), ltr (a.toNat % 4 * 16 + b.toNat / 16), ltr (b.toNat % 16 * 4), 61]
  | [a] => [ltr (a.toNat / 4), ltr (a.toNat % 4 * 16), 61, 61]
  | [] => []

theorem e64L_length : ∀ (n : Nat) (l : List UInt8), l.length < 3 * n + 3 → (e64L l).length = (l.length + 2) / 3 * 4
  | n, [], _ => rfl
  | n, [_], _ => by simp [e64L]
  | n, [_, _], _ => by simp [e64L]
  | 0, _ :: _ :: _ :: r, h => by simp at h; omega
  | n + 1, _ :: _ :: _ :: r, h => by
    have := e64L_length n r (by simp only [List.length_cons] at h; omega)
    simp only [e64L, List.length_cons, this]
    omega
theorem e64L_len (l : List UInt8) : (e64L l).length = (l.length + 2) / 3 * 4 := e64L_length l.length l (by omega)
theorem e64L_append : ∀ (n : Nat) (l m : List UInt8), l.length = 3 * n → e64L (l ++ m) = e64L l ++ e64L m
  | 0, l, m, hn => by
    have : l = [] := List.eq_nil_of_length_eq_zero (by omega)
    subst this
    rfl
  | n + 1, l, m, hn => by
    match l, hn with
    | a :: b :: c :: r, hn =>
      have hr : r.length = 3 * n := by simp only [List.length_cons] at hn; omega
      simp only [List.cons_append, e64L, e64L_append n r m hr]
    | [], hn => simp at hn
    | [_], hn => simp at hn; omega
    | [_, _], hn => simp at hn; omega

theorem next0 {c : UInt8} (h : 0 ≤ numI c) : nextD 0 c = some 1 := by simp [nextD, h]

theorem grp_three (a b c : UInt8) : grp (ltr (a.toNat / 4)) (ltr (a.toNat % 4 * 16 + b.toNat / 16)) (ltr (b.toNat % 16 * 4 + c.toNat / 64)) (ltr (c.toNat % 64)) = [a, b, c] := by
  have ha := a.toNat_lt
  have hb := b.toNat_lt
  have hc := c.toNat_lt
  unfold grp
  simp only [ltr_ok (a.toNat / 4) (by omega), ltr_ok (a.toNat % 4 * 16 + b.toNat / 16) (by omega), ltr_ok (b.toNat % 16 * 4 + c.toNat / 64) (by omega), ltr_ok (c.toNat % 64) (by omega)]
  rw [if_neg (ltr_ne ⟨b.toNat % 16 * 4 + c.toNat / 64, by omega⟩), if_neg (ltr_ne ⟨c.toNat % 64, by omega⟩)]
  simp only [Int.toNat_natCast]
  rw [show a.toNat / 4 * 4 + (a.toNat % 4 * 16 + b.toNat / 16) / 16 = a.toNat by omega, show (a.toNat % 4 * 16 + b.toNat / 16) % 16 * 16 + (b.toNat % 16 * 4 + c.toNat / 64) / 4 = b.toNat by omega, show (b.toNat % 16 * 4 + c.toNat / 64) % 4 * 64 + c.toNat % 64 = c.toNat by omega]
  simp
theorem grp_two (a b : UInt8) : grp (ltr (a.toNat / 4)) (ltr (a.toNat % 4 * 16 + b.toNat / 16)) (ltr (b.toNat % 16 * 4)) 61 = [a, b] := by
  have ha := a.toNat_lt
  have hb := b.toNat_lt
  unfold grp
  simp only [ltr_ok (a.toNat / 4) (by omega), ltr_ok (a.toNat % 4 * 16 + b.toNat / 16) (by omega), ltr_ok (b.toNat % 16 * 4) (by omega)]
  rw [if_neg (ltr_ne ⟨b.toNat % 16 * 4, by omega⟩)]
  simp only [if_true]
  simp only [Int.toNat_natCast]
  rw [show a.toNat / 4 * 4 + (a.toNat % 4 * 16 + b.toNat / 16) / 16 = a.toNat by omega, show (a.toNat % 4 * 16 + b.toNat / 16) % 16 * 16 + (b.toNat % 16 * 4) / 4 = b.toNat by omega]
  simp
theorem grp_one (a : UInt8) : grp (ltr (a.toNat / 4)) (ltr (a.toNat % 4 * 16)) 61 61 = [a] := by
  have ha := a.toNat_lt
  unfold grp
  simp only [ltr_ok (a.toNat / 4) (by omega), ltr_ok (a.toNat % 4 * 16) (by omega)]
  simp only [if_true]
  simp only [Int.toNat_natCast]
  rw [show a.toNat / 4 * 4 + (a.toNat % 4 * 16) / 16 = a.toNat by omega]
  simp

theorem dec_enc : ∀ (n : Nat) (l : List UInt8), l.length < 3 * n + 3 → d64L (e64L l) = l
  | n, [], _ => rfl
  | n, [a], _ => by simp [e64L, d64L, grp_one]
  | n, [a, b], _ => by simp [e64L, d64L, grp_two]
  | 0, _ :: _ :: _ :: r, h => by simp at h; omega
  | n + 1, a :: b :: c :: r, h => by
    have := dec_enc n r (by simp only [List.length_cons] at h; omega)
    simp [e64L, d64L, grp_three, this]
theorem dec_encL (l : List UInt8) : d64L (e64L l) = l := dec_enc l.length l (by omega)

theorem ok4 {a b c d : UInt8} (r : List UInt8) (ha : 0 ≤ numI a) (hb : 0 ≤ numI b) (hc : 0 ≤ numI c) (hd : 0 ≤ numI d) : okN 0 (a :: b :: c :: d :: r) = okN 0 r + 4 ∧ stD 0 (a :: b :: c :: d :: r) = stD 0 r := by
  by_cases e1 : numI b % 16 = 0 <;> by_cases e2 : numI c % 4 = 0 <;> simp [okN, stD, nextD, ha, hb, hc, hd, e1, e2]
theorem enc_ok : ∀ (n : Nat) (l : List UInt8), l.length < 3 * n + 3 → okN 0 (e64L l) = (e64L l).length
  | n, [], _ => rfl
  | n, [a], _ => by
    have ha := a.toNat_lt
    have h1 := ltr_ok (a.toNat / 4) (by omega)
    have h2 := ltr_ok (a.toNat % 4 * 16) (by omega)
    have e1 : ((a.toNat % 4 * 16 : Nat) : Int) % 16 = 0 := by omega
    have q1 : (0 : Int) ≤ ((a.toNat / 4 : Nat) : Int) := by omega
    have q2 : (0 : Int) ≤ ((a.toNat % 4 * 16 : Nat) : Int) := by omega
    simp only [e64L, okN, nextD, h1, h2, e1, num_pad, q1, q2, if_true]
    rfl
  | n, [a, b], _ => by
    have ha := a.toNat_lt
    have hb := b.toNat_lt
    have h1 := ltr_ok (a.toNat / 4) (by omega)
    have h2 := ltr_ok (a.toNat % 4 * 16 + b.toNat / 16) (by omega)
    have h3 := ltr_ok (b.toNat % 16 * 4) (by omega)
    have e1 : ((b.toNat % 16 * 4 : Nat) : Int) % 4 = 0 := by omega
    have q1 : (0 : Int) ≤ ((a.toNat / 4 : Nat) : Int) := by omega
    have q2 : (0 : Int) ≤ ((a.toNat % 4 * 16 + b.toNat / 16 : Nat) : Int) := by omega
    have q3 : (0 : Int) ≤ ((b.toNat % 16 * 4 : Nat) : Int) := by omega
    by_cases e2 : ((a.toNat % 4 * 16 + b.toNat / 16 : Nat) : Int) % 16 = 0 <;> simp only [e64L, okN, nextD, h1, h2, h3, e1, e2, num_pad, q1, q2, q3, if_true, if_false] <;> rfl
  | 0, _ :: _ :: _ :: r, h => by simp at h; omega
  | n + 1, a :: b :: c :: r, h => by
    have ih := enc_ok n r (by simp only [List.length_cons] at h; omega)
    have ha := a.toNat_lt
    have hb := b.toNat_lt
    have hc := c.toNat_lt
    simp only [e64L]
    rw [(ok4 _ (by rw [ltr_ok _ (by omega)]; omega) (by rw [ltr_ok _ (by omega)]; omega) (by rw [ltr_ok _ (by omega)]; omega) (by rw [ltr_ok _ (by omega)]; omega)).1, ih]
    rfl
theorem enc_okN (l : List UInt8) : okN 0 (e64L l) = (e64L l).length := enc_ok l.length l (by omega)
theorem enc_st : ∀ (n : Nat) (l : List UInt8), l.length = 3 * n → stD 0 (e64L l) = 0
  | 0, l, hn => by
    have : l = [] := List.eq_nil_of_length_eq_zero (by omega)
    subst this
    rfl
  | n + 1, l, hn => by
    match l, hn with
    | a :: b :: c :: r, hn =>
      have hr : r.length = 3 * n := by simp only [List.length_cons] at hn; omega
      have ha := a.toNat_lt
      have hb := b.toNat_lt
      have hc := c.toNat_lt
      simp only [e64L]
      rw [(ok4 _ (by rw [ltr_ok _ (by omega)]; omega) (by rw [ltr_ok _ (by omega)]; omega) (by rw [ltr_ok _ (by omega)]; omega) (by rw [ltr_ok _ (by omega)]; omega)).2]
      exact enc_st n r hr
    | [], hn => simp at hn
    | [_], hn => simp at hn; omega
    | [_, _], hn => simp at hn; omega

/-- What is taken is written again. -/
theorem enc_dec : ∀ (n : Nat) (l : List UInt8), l.length = 4 * n → okN 0 l = l.length → e64L (d64L l) = l
  | 0, l, hn, _ => by
    have : l = [] := List.eq_nil_of_length_eq_zero (by omega)
    subst this
    rfl
  | n + 1, l, hn, h => by
    match l, hn with
    | a :: b :: c :: d :: r, hn =>
      have hr : r.length = 4 * n := by simp only [List.length_cons] at hn; omega
      obtain ⟨g, hd1, hd2⟩ := okN_group a b c d r (by simpa using h)
      have ba := numI_lt a
      have bb := numI_lt b
      have bc := numI_lt c
      have bd := numI_lt d
      have la := ltr_num a g.a0
      have lb := ltr_num b g.b0
      have ga := g.a0
      have gb := g.b0
      generalize hna : (numI a).toNat = na at la
      generalize hnb : (numI b).toNat = nb at lb
      by_cases hd : d = 61
      · obtain rfl := hd1 hd
        subst hd
        by_cases hc : c = 61
        · subst hc
          rcases g.c0 with h0 | ⟨_, _, e1⟩
          · rw [num_pad] at h0; omega
          · simp only [d64L, grp, hna, hnb, if_true, List.append_nil, e64L, UInt8.toNat_ofNat']
            rw [show (na * 4 + nb / 16) % 2 ^ 8 / 4 = na by omega, show (na * 4 + nb / 16) % 2 ^ 8 % 4 * 16 = nb by omega, la, lb]
        · have hc0 : 0 ≤ numI c := g.c0.resolve_right (fun x => hc x.1)
          have lc := ltr_num c hc0
          generalize hnc : (numI c).toNat = nc at lc
          have e2 : numI c % 4 = 0 := by
            rcases g.d0 with h0 | ⟨_, h0⟩
            · rw [num_pad] at h0; omega
            · exact h0.resolve_left hc
          simp only [d64L, grp, hna, hnb, hnc, if_true, if_neg hc, List.append_nil, e64L, UInt8.toNat_ofNat']
          rw [show (na * 4 + nb / 16) % 2 ^ 8 / 4 = na by omega, show (na * 4 + nb / 16) % 2 ^ 8 % 4 * 16 + (nb % 16 * 16 + nc / 4) % 2 ^ 8 / 16 = nb by omega, show (nb % 16 * 16 + nc / 4) % 2 ^ 8 % 16 * 4 = nc by omega, la, lb, lc]
      · have hd0 : 0 ≤ numI d := g.d0.resolve_right (fun x => hd x.1)
        have hc : c ≠ 61 := fun e => by
          rcases g.c0 with h0 | ⟨_, h1, _⟩
          · exact ne_pad h0 e
          · exact hd h1
        have hc0 : 0 ≤ numI c := g.c0.resolve_right (fun x => hc x.1)
        have lc := ltr_num c hc0
        have ld := ltr_num d hd0
        generalize hnc : (numI c).toNat = nc at lc
        generalize hnd : (numI d).toNat = nd at ld
        have ih := enc_dec n r hr (hd2 hd)
        simp only [d64L, grp, hna, hnb, hnc, hnd, if_neg hc, if_neg hd, e64L, UInt8.toNat_ofNat', List.cons_append, List.nil_append, ih]
        rw [show (na * 4 + nb / 16) % 2 ^ 8 / 4 = na by omega, show (na * 4 + nb / 16) % 2 ^ 8 % 4 * 16 + (nb % 16 * 16 + nc / 4) % 2 ^ 8 / 16 = nb by omega,
          show (nb % 16 * 16 + nc / 4) % 2 ^ 8 % 16 * 4 + (nc % 4 * 64 + nd) % 2 ^ 8 / 64 = nc by omega, show (nc % 4 * 64 + nd) % 2 ^ 8 % 64 = nd by omega, la, lb, lc, ld]
    | [], hn => simp at hn
    | [_], hn => simp at hn; omega
    | [_, _], hn => simp at hn; omega
    | [_, _, _], hn => simp at hn; omega

/-- What Unbase64 tells: the bytes, the error, its place. -/
def unbE (l : List UInt8) : Nat := if h : okN 0 l < l.length then errC l[okN 0 l] else if l.length % 4 ≠ 0 then 41 else 0
def unbA (l : List UInt8) : Nat := if okN 0 l < l.length then okN 0 l else if l.length % 4 ≠ 0 then l.length else 0
def unbL (l : List UInt8) : List UInt8 := if okN 0 l < l.length then [] else if l.length % 4 ≠ 0 then [] else d64L l
end Go.Proofs.YtdgepnfgjgbkoaaDoor
