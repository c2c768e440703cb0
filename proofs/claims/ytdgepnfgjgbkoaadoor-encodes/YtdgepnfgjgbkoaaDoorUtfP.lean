/-
  The plain mathematics of UTF-8: no Go in sight. A machine that takes bytes one by one, the first rune of a row of bytes, and what both say of one another.
-/
import Derived.Lib.RuneBytes
namespace Go.Proofs.YtdgepnfgjgbkoaaDoor

/-- Is a number a rune? -/
def isR (x : Int) : Prop := 0 ≤ x ∧ x ≤ 1114111 ∧ (x < 55296 ∨ 57343 < x)
instance (x : Int) : Decidable (isR x) := by unfold isR; infer_instance

/-- What is due: how many bytes of a rune, and the bounds of the next one. -/
abbrev Q := Nat × Nat × Nat
def q0 : Q := (0, 0, 0)

/-- The first byte of a rune. -/
def begQ (b : Nat) : Option Q :=
  if b < 128 then some (0, 0, 0)
  else if 194 ≤ b ∧ b ≤ 223 then some (1, 128, 191)
  else if 224 ≤ b ∧ b ≤ 224 then some (2, 160, 191)
  else if 225 ≤ b ∧ b ≤ 236 then some (2, 128, 191)
  else if 237 ≤ b ∧ b ≤ 237 then some (2, 128, 159)
  else if 238 ≤ b ∧ b ≤ 239 then some (2, 128, 191)
  else if 240 ≤ b ∧ b ≤ 240 then some (3, 144, 191)
  else if 241 ≤ b ∧ b ≤ 243 then some (3, 128, 191)
  else if 244 ≤ b ∧ b ≤ 244 then some (3, 128, 143)
  else none
/-- One byte more. -/
def stepQ (q : Q) (b : Nat) : Option Q :=
  if q.1 = 0 then begQ b
  else if b < q.2.1 ∨ q.2.2 < b then none
  else if q.1 = 1 then some (0, 0, 0) else some (q.1 - 1, 128, 191)
def runQ (q : Q) : List UInt8 → Option Q
  | [] => some q
  | b :: t => (stepQ q b.toNat).bind fun q' => runQ q' t
/-- How long the longest beginning is that is well-formed: n bytes were taken, whole of them well-formed. -/
def badUA (q : Q) (n whole : Nat) : List UInt8 → Nat
  | [] => whole
  | b :: t => match stepQ q b.toNat with
    | none => whole
    | some q' => badUA q' (n + 1) (if q'.1 = 0 then n + 1 else whole) t
def badU (l : List UInt8) : Nat := badUA q0 0 0 l

/-- The first rune of a row, and how many bytes it has. -/
def oneN (l : List UInt8) : Option (Int × Nat) :=
  match l with
  | [] => none
  | a :: t =>
    if a.toNat < 128 then some (a.toNat, 1) else
    match t with
    | [] => none
    | b :: t =>
      if 194 ≤ a.toNat ∧ a.toNat ≤ 223 ∧ 128 ≤ b.toNat ∧ b.toNat ≤ 191 then some ((a.toNat - 192) * 64 + (b.toNat - 128), 2) else
      match t with
      | [] => none
      | c :: t =>
        if 224 ≤ a.toNat ∧ a.toNat ≤ 239 ∧ 128 ≤ b.toNat ∧ b.toNat ≤ 191 ∧ (a.toNat = 224 → 160 ≤ b.toNat) ∧ (a.toNat = 237 → b.toNat ≤ 159) ∧ 128 ≤ c.toNat ∧ c.toNat ≤ 191 then some (((a.toNat - 224) * 64 + (b.toNat - 128)) * 64 + (c.toNat - 128), 3) else
        match t with
        | [] => none
        | d :: _ =>
          if 240 ≤ a.toNat ∧ a.toNat ≤ 244 ∧ 128 ≤ b.toNat ∧ b.toNat ≤ 191 ∧ (a.toNat = 240 → 144 ≤ b.toNat) ∧ (a.toNat = 244 → b.toNat ≤ 143) ∧ 128 ≤ c.toNat ∧ c.toNat ≤ 191 ∧ 128 ≤ d.toNat ∧ d.toNat ≤ 191 then some ((((a.toNat - 240) * 64 + (b.toNat - 128)) * 64 + (c.toNat - 128)) * 64 + (d.toNat - 128), 4) else none

theorem stepQ_zero (b : Nat) : stepQ (0, 0, 0) b = begQ b := by simp [stepQ]
theorem stepQ_low {n lo hi b : Nat} (hn : n ≠ 0) (h : b < lo ∨ hi < b) : stepQ (n, lo, hi) b = none := by simp [stepQ, hn, h]
theorem stepQ_last {lo hi b : Nat} (h1 : lo ≤ b) (h2 : b ≤ hi) : stepQ (1, lo, hi) b = some (0, 0, 0) := by
  have : ¬ (b < lo ∨ hi < b) := by omega
  simp [stepQ, this]
theorem stepQ_more {n lo hi b : Nat} (hn : 2 ≤ n) (h1 : lo ≤ b) (h2 : b ≤ hi) : stepQ (n, lo, hi) b = some (n - 1, 128, 191) := by
  have : ¬ (b < lo ∨ hi < b) := by omega
  have h0 : n ≠ 0 := by omega
  have h1 : n ≠ 1 := by omega
  simp [stepQ, this, h0, h1]
theorem begQ_one {b : Nat} (h : b < 128) : begQ b = some (0, 0, 0) := by simp [begQ, h]

/-- What may come of the first byte. -/
theorem begQ_cases (b : Nat) :
    (b < 128 ∧ begQ b = some (0, 0, 0)) ∨
    (194 ≤ b ∧ b ≤ 223 ∧ begQ b = some (1, 128, 191)) ∨
    (224 ≤ b ∧ b ≤ 239 ∧ ∃ lo hi, begQ b = some (2, lo, hi) ∧ lo = (if b = 224 then 160 else 128) ∧ hi = (if b = 237 then 159 else 191)) ∨
    (240 ≤ b ∧ b ≤ 244 ∧ ∃ lo hi, begQ b = some (3, lo, hi) ∧ lo = (if b = 240 then 144 else 128) ∧ hi = (if b = 244 then 143 else 191)) ∨
    (((128 ≤ b ∧ b < 194) ∨ 244 < b) ∧ begQ b = none) := by
  unfold begQ
  by_cases h1 : b < 128
  · left; simp [h1]
  by_cases h2 : 194 ≤ b ∧ b ≤ 223
  · right; left; simp [h1, h2]
  by_cases h3 : 224 ≤ b ∧ b ≤ 239
  · right; right; left
    refine ⟨h3.1, h3.2, ?_⟩
    rw [if_neg h1, if_neg h2]
    by_cases e1 : b = 224
    · subst e1; exact ⟨160, 191, by simp, by simp, by simp⟩
    by_cases e2 : b = 237
    · subst e2; exact ⟨128, 159, by simp, by simp, by simp⟩
    rw [if_neg (by omega)]
    rw [if_neg e1, if_neg e2]
    refine ⟨128, 191, ?_, rfl, rfl⟩
    by_cases e3 : 225 ≤ b ∧ b ≤ 236
    · rw [if_pos e3]
    · rw [if_neg e3, if_neg (by omega), if_pos (by omega)]
  by_cases h4 : 240 ≤ b ∧ b ≤ 244
  · right; right; right; left
    refine ⟨h4.1, h4.2, ?_⟩
    rw [if_neg h1, if_neg h2, if_neg (by omega), if_neg (by omega), if_neg (by omega), if_neg (by omega)]
    by_cases e1 : b = 240
    · subst e1; exact ⟨144, 191, by simp, by simp, by simp⟩
    by_cases e2 : b = 244
    · subst e2; exact ⟨128, 143, by simp, by simp, by simp⟩
    rw [if_neg (by omega), if_neg e1, if_neg e2]
    exact ⟨128, 191, by rw [if_pos (by omega)], rfl, rfl⟩
  · right; right; right; right
    refine ⟨by omega, ?_⟩
    rw [if_neg h1, if_neg h2, if_neg (by omega), if_neg (by omega), if_neg (by omega), if_neg (by omega), if_neg (by omega), if_neg (by omega), if_neg (by omega)]

/-- The first rune: the machine takes it, and is where it was; while it does nothing is whole. -/
theorem oneN_run (l : List UInt8) (r : Int) (n : Nat) (h : oneN l = some (r, n)) :
    n ≤ l.length ∧ 0 < n ∧ (∀ k w, badUA q0 k w l = badUA q0 (k + n) (k + n) (l.drop n)) ∧ (runQ q0 l = runQ q0 (l.drop n)) := by
  unfold oneN at h
  match l with
  | [] => simp at h
  | a :: t =>
    simp only at h
    by_cases ha : a.toNat < 128
    · rw [if_pos ha] at h
      injection h with h; injection h with h1 h2
      subst h2
      refine ⟨by simp, by omega, ?_, ?_⟩
      · intro k w
        simp [badUA, q0, stepQ_zero, begQ_one ha]
      · simp [runQ, q0, stepQ_zero, begQ_one ha]
    rw [if_neg ha] at h
    match t with
    | [] => simp at h
    | b :: t =>
      simp only at h
      by_cases hb : 194 ≤ a.toNat ∧ a.toNat ≤ 223 ∧ 128 ≤ b.toNat ∧ b.toNat ≤ 191
      · rw [if_pos hb] at h
        injection h with h; injection h with h1 h2
        subst h2
        have e1 : begQ a.toNat = some (1, 128, 191) := by
          rcases begQ_cases a.toNat with h | h | h | h | h <;> first | exact h.2.2 | omega
        have e2 := stepQ_last (b := b.toNat) hb.2.2.1 hb.2.2.2
        refine ⟨by simp, by omega, ?_, ?_⟩
        · intro k w
          simp [badUA, q0, stepQ_zero, e1, e2]
        · simp [runQ, q0, stepQ_zero, e1, e2]
      rw [if_neg hb] at h
      match t with
      | [] => simp at h
      | c :: t =>
        simp only at h
        by_cases hc : 224 ≤ a.toNat ∧ a.toNat ≤ 239 ∧ 128 ≤ b.toNat ∧ b.toNat ≤ 191 ∧ (a.toNat = 224 → 160 ≤ b.toNat) ∧ (a.toNat = 237 → b.toNat ≤ 159) ∧ 128 ≤ c.toNat ∧ c.toNat ≤ 191
        · rw [if_pos hc] at h
          injection h with h; injection h with h1 h2
          subst h2
          obtain ⟨lo, hi, e1, elo, ehi⟩ : ∃ lo hi, begQ a.toNat = some (2, lo, hi) ∧ lo = (if a.toNat = 224 then 160 else 128) ∧ hi = (if a.toNat = 237 then 159 else 191) := by
            rcases begQ_cases a.toNat with h | h | h | h | h <;> first | exact h.2.2 | omega
          have e2 : stepQ (2, lo, hi) b.toNat = some (1, 128, 191) := stepQ_more (n := 2) (by omega) (by rw [elo]; split <;> omega) (by rw [ehi]; split <;> omega)
          have e3 := stepQ_last (b := c.toNat) hc.2.2.2.2.2.2.1 hc.2.2.2.2.2.2.2
          refine ⟨by simp, by omega, ?_, ?_⟩
          · intro k w
            simp [badUA, q0, stepQ_zero, e1, e2, e3]
          · simp [runQ, q0, stepQ_zero, e1, e2, e3]
        rw [if_neg hc] at h
        match t with
        | [] => simp at h
        | d :: t =>
          simp only at h
          by_cases hd : 240 ≤ a.toNat ∧ a.toNat ≤ 244 ∧ 128 ≤ b.toNat ∧ b.toNat ≤ 191 ∧ (a.toNat = 240 → 144 ≤ b.toNat) ∧ (a.toNat = 244 → b.toNat ≤ 143) ∧ 128 ≤ c.toNat ∧ c.toNat ≤ 191 ∧ 128 ≤ d.toNat ∧ d.toNat ≤ 191
          · rw [if_pos hd] at h
            injection h with h; injection h with h1 h2
            subst h2
            obtain ⟨lo, hi, e1, elo, ehi⟩ : ∃ lo hi, begQ a.toNat = some (3, lo, hi) ∧ lo = (if a.toNat = 240 then 144 else 128) ∧ hi = (if a.toNat = 244 then 143 else 191) := by
              rcases begQ_cases a.toNat with h | h | h | h | h <;> first | exact h.2.2 | omega
            have e2 : stepQ (3, lo, hi) b.toNat = some (2, 128, 191) := stepQ_more (n := 3) (by omega) (by rw [elo]; split <;> omega) (by rw [ehi]; split <;> omega)
            have e3 : stepQ (2, 128, 191) c.toNat = some (1, 128, 191) := stepQ_more (n := 2) (by omega) (by omega) (by omega)
            have e4 : stepQ (1, 128, 191) d.toNat = some (0, 0, 0) := stepQ_last (by omega) (by omega)
            refine ⟨by simp, by omega, ?_, ?_⟩
            · intro k w
              simp [badUA, q0, stepQ_zero, e1, e2, e3, e4]
            · simp [runQ, q0, stepQ_zero, e1, e2, e3, e4]
          · rw [if_neg hd] at h
            cases h

/-- Where no rune begins nothing more is whole; and what is due then. -/
theorem oneN_none (l : List UInt8) (h : oneN l = none) (k w : Nat) : badUA q0 k w l = w := by
  unfold oneN at h
  match l with
  | [] => simp [badUA]
  | a :: t =>
    simp only at h
    by_cases ha : a.toNat < 128
    · rw [if_pos ha] at h; cases h
    rw [if_neg ha] at h
    rcases begQ_cases a.toNat with h1 | ⟨h1, h2, e1⟩ | ⟨h1, h2, lo, hi, e1, elo, ehi⟩ | ⟨h1, h2, lo, hi, e1, elo, ehi⟩ | ⟨_, e1⟩
    · omega
    · match t with
      | [] => simp [badUA, q0, stepQ_zero, e1]
      | b :: t =>
        simp only at h
        by_cases hb : 194 ≤ a.toNat ∧ a.toNat ≤ 223 ∧ 128 ≤ b.toNat ∧ b.toNat ≤ 191
        · rw [if_pos hb] at h; cases h
        · have e2 : stepQ (1, 128, 191) b.toNat = none := stepQ_low (by omega) (by omega)
          simp [badUA, q0, stepQ_zero, e1, e2]
    · match t with
      | [] => simp [badUA, q0, stepQ_zero, e1]
      | b :: t =>
        simp only at h
        rw [if_neg (by omega)] at h
        by_cases hb : lo ≤ b.toNat ∧ b.toNat ≤ hi
        · have e2 : stepQ (2, lo, hi) b.toNat = some (1, 128, 191) := stepQ_more (n := 2) (by omega) hb.1 hb.2
          match t with
          | [] => simp [badUA, q0, stepQ_zero, e1, e2]
          | c :: t =>
            simp only at h
            by_cases hc : 128 ≤ c.toNat ∧ c.toNat ≤ 191
            · have g1 : 128 ≤ b.toNat ∧ (a.toNat = 224 → 160 ≤ b.toNat) := by
                have := hb.1; rw [elo] at this; split at this <;> omega
              have g2 : b.toNat ≤ 191 ∧ (a.toNat = 237 → b.toNat ≤ 159) := by
                have := hb.2; rw [ehi] at this; split at this <;> omega
              rw [if_pos ⟨h1, h2, g1.1, g2.1, g1.2, g2.2, hc.1, hc.2⟩] at h
              cases h
            · have e3 : stepQ (1, 128, 191) c.toNat = none := stepQ_low (by omega) (by omega)
              simp [badUA, q0, stepQ_zero, e1, e2, e3]
        · have e2 : stepQ (2, lo, hi) b.toNat = none := stepQ_low (by omega) (by omega)
          simp [badUA, q0, stepQ_zero, e1, e2]
    · match t with
      | [] => simp [badUA, q0, stepQ_zero, e1]
      | b :: t =>
        simp only at h
        rw [if_neg (by omega)] at h
        by_cases hb : lo ≤ b.toNat ∧ b.toNat ≤ hi
        · have e2 : stepQ (3, lo, hi) b.toNat = some (2, 128, 191) := stepQ_more (n := 3) (by omega) hb.1 hb.2
          match t with
          | [] => simp [badUA, q0, stepQ_zero, e1, e2]
          | c :: t =>
            simp only at h
            rw [if_neg (by omega)] at h
            by_cases hc : 128 ≤ c.toNat ∧ c.toNat ≤ 191
            · have e3 : stepQ (2, 128, 191) c.toNat = some (1, 128, 191) := stepQ_more (n := 2) (by omega) hc.1 hc.2
              match t with
              | [] => simp [badUA, q0, stepQ_zero, e1, e2, e3]
              | d :: t =>
                simp only at h
                by_cases hd : 128 ≤ d.toNat ∧ d.toNat ≤ 191
                · have g1 : 128 ≤ b.toNat ∧ (a.toNat = 240 → 144 ≤ b.toNat) := by
                    have := hb.1; rw [elo] at this; split at this <;> omega
                  have g2 : b.toNat ≤ 191 ∧ (a.toNat = 244 → b.toNat ≤ 143) := by
                    have := hb.2; rw [ehi] at this; split at this <;> omega
                  rw [if_pos ⟨h1, h2, g1.1, g2.1, g1.2, g2.2, hc.1, hc.2, hd.1, hd.2⟩] at h
                  cases h
                · have e4 : stepQ (1, 128, 191) d.toNat = none := stepQ_low (by omega) (by omega)
                  simp [badUA, q0, stepQ_zero, e1, e2, e3, e4]
            · have e3 : stepQ (2, 128, 191) c.toNat = none := stepQ_low (by omega) (by omega)
              simp [badUA, q0, stepQ_zero, e1, e2, e3]
        · have e2 : stepQ (3, lo, hi) b.toNat = none := stepQ_low (by omega) (by omega)
          simp [badUA, q0, stepQ_zero, e1, e2]
    · simp [badUA, q0, stepQ_zero, e1]

theorem badUA_shift (l : List UInt8) : ∀ (q : Q) (n w k : Nat), badUA q (n + k) (w + k) l = badUA q n w l + k := by
  induction l with
  | nil => intro q n w k; rfl
  | cons b t ih =>
    intro q n w k
    unfold badUA
    cases stepQ q b.toNat with
    | none => rfl
    | some q' =>
      simp only
      split
      · rw [show n + k + 1 = (n + 1) + k from by omega, ih]
      · rw [show n + k + 1 = (n + 1) + k from by omega, ih]
theorem badU_some {l : List UInt8} {r : Int} {n : Nat} (h : oneN l = some (r, n)) : badU l = n + badU (l.drop n) := by
  have := (oneN_run l r n h).2.2.1 0 0
  unfold badU
  rw [this, badUA_shift, Nat.add_comm]
theorem badU_none {l : List UInt8} (h : oneN l = none) : badU l = 0 := oneN_none l h 0 0
theorem badU_nil : badU [] = 0 := rfl
theorem badUA_le (l : List UInt8) : ∀ (q : Q) (n w : Nat), w ≤ n → badUA q n w l ≤ n + l.length := by
  induction l with
  | nil => intro q n w h; simp [badUA]; omega
  | cons b t ih =>
    intro q n w h
    unfold badUA
    cases stepQ q b.toNat with
    | none => simp; omega
    | some q' =>
      have := ih q' (n + 1) (if q'.1 = 0 then n + 1 else w) (by split <;> omega)
      simp only [List.length_cons]
      omega
theorem badU_le (l : List UInt8) : badU l ≤ l.length := by
  have := badUA_le l q0 0 0 (Nat.le_refl _)
  unfold badU; omega
end Go.Proofs.YtdgepnfgjgbkoaaDoor
