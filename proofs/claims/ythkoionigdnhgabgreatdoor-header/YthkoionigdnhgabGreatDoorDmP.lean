/-
  The plain mathematics of UTF-8: no Go in sight. A machine that takes bytes one by one, the first rune of a row of bytes, and what both say of one another.
-/
import Derived.Lib.RuneBytes
import Derived.Test.YthkoionigdnhgabGreatDoorAdP
namespace Go.Proofs.YthkoionigdnhgabGreatDoor

/-- Is a number a rune? -/
def isR (x : Int) : Prop := 0 ≤ x ∧ x ≤ 1114111 ∧ (x < 55296 ∨ 57343 < x)
instance (x : Int) : Decidable (isR x) := by unfold isR; infer_instance

/-- What is due: how many bytes of a rune, and the bounds of the next one. -/
abbrev Q := Nat × Nat × Nat
def q0 : Q := (0, 0, 0)

/-- The first byte of a rune. -/
def begQ (b : Nat) : Option Q :=
  if b < 128 then some (0, 0, 0)
  else if 194 ≤ b ∧ b ≤ 223 then some (1, 128, 191)
  else if 224 ≤ b ∧ b ≤ 224 then some (2, 160, 191)
  else if 225 ≤ b ∧ b ≤ 236 then some (2, 128, 191)
  else if 237 ≤ b ∧ b ≤ 237 then some (2, 128, 159)
  else if 238 ≤ b ∧ b ≤ 239 then some (2, 128, 191)
  else if 240 ≤ b ∧ b ≤ 240 then some (3, 144, 191)
  else if 241 ≤ b ∧ b ≤ 243 then some (3, 128, 191)
  else if 244 ≤ b ∧ b ≤ 244 then some (3, 128, 143)
  else none
/-- One byte more. -/
def stepQ (q : Q) (b : Nat) : Option Q :=
  if q.1 = 0 then begQ b
  else if b < q.2.1 ∨ q.2.2 < b then none
  else if q.1 = 1 then some (0, 0, 0) else some (q.1 - 1, 128, 191)
def runQ (q : Q) : List UInt8 → Option Q
  | [] => some q
  | b :: t => (stepQ q b.toNat).bind fun q' => runQ q' t
/-- How long the longest beginning is that is well-formed: n bytes were taken, whole of them well-formed. -/
def badUA (q : Q) (n whole : Nat) : List UInt8 → Nat
  | [] => whole
  | b :: t => match stepQ q b.toNat with
    | none => whole
    | some q' => badUA q' (n + 1) (if q'.1 = 0 then n + 1 else whole) t
def badU (l : List UInt8) : Nat := badUA q0 0 0 l

/-- The first rune of a row, and how many bytes it has. -/
def oneN (l : List UInt8) : Option (Int × Nat) :=
  match l with
  | [] => none
  | a :: t =>
    if a.toNat < 128 then some (a.toNat, 1) else
    match t with
    | [] => none
    | b :: t =>
      if 194 ≤ a.toNat ∧ a.toNat ≤ 223 ∧ 128 ≤ b.toNat ∧ b.toNat ≤ 191 then some ((a.toNat - 192) * 64 + (b.toNat - 128), 2) else
      match t with
      | [] => none
      | c :: t =>
        if 224 ≤ a.toNat ∧ a.toNat ≤ 239 ∧ 128 ≤ b.toNat ∧ b.toNat ≤ 191 ∧ (a.toNat = 224 → 160 ≤ b.toNat) ∧ (a.toNat = 237 → b.toNat ≤ 159) ∧ 128 ≤ c.toNat ∧ c.toNat ≤ 191 then some (((a.toNat - 224) * 64 + (b.toNat - 128)) * 64 + (c.toNat - 128), 3) else
        match t with
        | [] => none
        | d :: _ =>
          if 240 ≤ a.toNat ∧ a.toNat ≤ 244 ∧ 128 ≤ b.toNat ∧ b.toNat ≤ 191 ∧ (a.toNat = 240 → 144 ≤ b.toNat) ∧ (a.toNat = 244 → b.toNat ≤ 143) ∧ 128 ≤ c.toNat ∧ c.toNat ≤ 191 ∧ 128 ≤ d.toNat ∧ d.toNat ≤ 191 then some ((((a.toNat - 240) * 64 + (b.toNat - 128)) * 64 + (c.toNat - 128)) * 64 + (d.toNat - 128), 4) else none

theorem stepQ_zero (b : Nat) : stepQ (0, 0, 0) b = begQ b := by simp [stepQ]
theorem stepQ_low {n lo hi b : Nat} (hn : n ≠ 0) (h : b < lo ∨ hi < b) : stepQ (n, lo, hi) b = none := by simp [stepQ, hn, h]
theorem stepQ_last {lo hi b : Nat} (h1 : lo ≤ b) (h2 : b ≤ hi) : stepQ (1, lo, hi) b = some (0, 0, 0) := by
  have : ¬ (b < lo ∨ hi < b) := by omega
  simp [stepQ, this]
theorem stepQ_more {n lo hi b : Nat} (hn : 2 ≤ n) (h1 : lo ≤ b) (h2 : b ≤ hi) : stepQ (n, lo, hi) b = some (n - 1, 128, 191) := by
  have : ¬ (b < lo ∨ hi < b) := by omega
  have h0 : n ≠ 0 := by omega
  have h1 : n ≠ 1 := by omega
  simp [stepQ, this, h0, h1]
theorem begQ_one {b : Nat} (h : b < 128) : begQ b = some (0, 0, 0) := by simp [begQ, h]

/-- What may come of the first byte. -/
theorem begQ_cases (b : Nat) :
    (b < 128 ∧ begQ b = some (0, 0, 0)) ∨
    (194 ≤ b ∧ b ≤ 223 ∧ begQ b = some (1, 128, 191)) ∨
    (224 ≤ b ∧ b ≤ 239 ∧ ∃ lo hi, begQ b = some (2, lo, hi) ∧ lo = (if b = 224 then 160 else 128) ∧ hi = (if b = 237 then 159 else 191)) ∨
    (240 ≤ b ∧ b ≤ 244 ∧ ∃ lo hi, begQ b = some (3, lo, hi) ∧ lo = (if b = 240 then 144 else 128) ∧ hi = (if b = 244 then 143 else 191)) ∨
    (((128 ≤ b ∧ b < 194) ∨ 244 < b) ∧ begQ b = none) := by
  unfold begQ
  by_cases h1 : b < 128
  · left; simp [h1]
  by_cases h2 : 194 ≤ b ∧ b ≤ 223
  · right; left; simp [h1, h2]
  by_cases h3 : 224 ≤ b ∧ b ≤ 239
  · right; right; left
    refine ⟨h3.1, h3.2, ?_⟩
    rw [if_neg h1, if_neg h2]
    by_cases e1 : b = 224
    · subst e1; exact ⟨160, 191, by simp, by simp, by simp⟩
    by_cases e2 : b = 237
    · subst e2; exact ⟨128, 159, by simp, by simp, by simp⟩
    rw [if_neg (by omega)]
    rw [if_neg e1, if_neg e2]
    refine ⟨128, 191, ?_, rfl, rfl⟩
    by_cases e3 : 225 ≤ b ∧ b ≤ 236
    · rw [if_pos e3]
    · rw [if_neg e3, if_neg (by omega), if_pos (by omega)]
  by_cases h4 : 240 ≤ b ∧ b ≤ 244
  · right; right; right; left
    refine ⟨h4.1, h4.2, ?_⟩
    rw [if_neg h1, if_neg h2, if_neg (by omega), if_neg (by omega), if_neg (by omega), if_neg (by omega)]
    by_cases e1 : b = 240
    · subst e1; exact ⟨144, 191, by simp, by simp, by simp⟩
    by_cases e2 : b = 244
    · subst e2; exact ⟨128, 143, by simp, by simp, by simp⟩
    rw [if_neg (by omega), if_neg e1, if_neg e2]
    exact ⟨128, 191, by rw [if_pos (by omega)], rfl, rfl⟩
  · right; right; right; right
    refine ⟨by omega, ?_⟩
    rw [if_neg h1, if_neg h2, if_neg (by omega), if_neg (by omega), if_neg (by omega), if_neg (by omega), if_neg (by omega), if_neg (by omega), if_neg (by omega)]

/-- The first rune: the machine takes it, and is where it was; while it does nothing is whole. -/
theorem oneN_run (l : List UInt8) (r : Int) (n : Nat) (h : oneN l = some (r, n)) :
    n ≤ l.length ∧ 0 < n ∧ (∀ k w, badUA q0 k w l = badUA q0 (k + n) (k + n) (l.drop n)) ∧ (runQ q0 l = runQ q0 (l.drop n)) := by
  unfold oneN at h
  match l with
  | [] => simp at h
  | a :: t =>
    simp only at h
    by_cases ha : a.toNat < 128
    · rw [if_pos ha] at h
      injection h with h; injection h with h1 h2
      subst h2
      refine ⟨by simp, by omega, ?_, ?_⟩
      · intro k w
        simp [badUA, q0, stepQ_zero, begQ_one ha]
      · simp [runQ, q0, stepQ_zero, begQ_one ha]
    rw [if_neg ha] at h
    match t with
    | [] => simp at h
    | b :: t =>
      simp only at h
      by_cases hb : 194 ≤ a.toNat ∧ a.toNat ≤ 223 ∧ 128 ≤ b.toNat ∧ b.toNat ≤ 191
      · rw [if_pos hb] at h
        injection h with h; injection h with h1 h2
        subst h2
        have e1 : begQ a.toNat = some (1, 128, 191) := by
          rcases begQ_cases a.toNat with h | h | h | h | h <;> first | exact h.2.2 | omega
        have e2 := stepQ_last (b := b.toNat) hb.2.2.1 hb.2.2.2
        refine ⟨by simp, by omega, ?_, ?_⟩
        · intro k w
          simp [badUA, q0, stepQ_zero, e1, e2]
        · simp [runQ, q0, stepQ_zero, e1, e2]
      rw [if_neg hb] at h
      match t with
      | [] => simp at h
      | c :: t =>
        simp only at h
        by_cases hc : 224 ≤ a.toNat ∧ a.toNat ≤ 239 ∧ 128 ≤ b.toNat ∧ b.toNat ≤ 191 ∧ (a.toNat = 224 → 160 ≤ b.toNat) ∧ (a.toNat = 237 → b.toNat ≤ 159) ∧ 128 ≤ c.toNat ∧ c.toNat ≤ 191
        · rw [if_pos hc] at h
          injection h with h; injection h with h1 h2
          subst h2
          obtain ⟨lo, hi, e1, elo, ehi⟩ : ∃ lo hi, begQ a.toNat = some (2, lo, hi) ∧ lo = (if a.toNat = 224 then 160 else 128) ∧ hi = (if a.toNat = 237 then 159 else 191) := by
            rcases begQ_cases a.toNat with h | h | h | h | h <;> first | exact h.2.2 | omega
          have e2 : stepQ (2, lo, hi) b.toNat = some (1, 128, 191) := stepQ_more (n := 2) (by omega) (by rw [elo]; split <;> omega) (by rw [ehi]; split <;> omega)
          have e3 := stepQ_last (b := c.toNat) hc.2.2.2.2.2.2.1 hc.2.2.2.2.2.2.2
          refine ⟨by simp, by omega, ?_, ?_⟩
          · intro k w
            simp [badUA, q0, stepQ_zero, e1, e2, e3]
          · simp [runQ, q0, stepQ_zero, e1, e2, e3]
        rw [if_neg hc] at h
        match t with
        | [] => simp at h
        | d :: t =>
          simp only at h
          by_cases hd : 240 ≤ a.toNat ∧ a.toNat ≤ 244 ∧ 128 ≤ b.toNat ∧ b.toNat ≤ 191 ∧ (a.toNat = 240 → 144 ≤ b.toNat) ∧ (a.toNat = 244 → b.toNat ≤ 143) ∧ 128 ≤ c.toNat ∧ c.toNat ≤ 191 ∧ 128 ≤ d.toNat ∧ d.toNat ≤ 191
          · rw [if_pos hd] at h
            injection h with h; injection h with h1 h2
            subst h2
            obtain ⟨lo, hi, e1, elo, ehi⟩ : ∃ lo hi, begQ a.toNat = some (3, lo, hi) ∧ lo = (if a.toNat = 240 then 144 else 128) ∧ hi = (if a.toNat = 244 then 143 else 191) := by
              rcases begQ_cases a.toNat with h | h | h | h | h <;> first | exact h.2.2 | omega
            have e2 : stepQ (3, lo, hi) b.toNat = some (2, 128, 191) := stepQ_more (n := 3) (by omega) (by rw [elo]; split <;> omega) (by rw [ehi]; split <;> omega)
            have e3 : stepQ (2, 128, 191) c.toNat = some (1, 128, 191) := stepQ_more (n := 2) (by omega) (by omega) (by omega)
            have e4 : stepQ (1, 128, 191) d.toNat = some (0, 0, 0) := stepQ_last (by omega) (by omega)
            refine ⟨by simp, by omega, ?_, ?_⟩
            · intro k w
              simp [badUA, q0, stepQ_zero, e1, e2, e3, e4]
            · simp [runQ, q0, stepQ_zero, e1, e2, e3, e4]
          · rw [if_neg hd] at h
            cases h

theorem badUA_shift (l : List UInt8) : ∀ (q : Q) (n w k : Nat), badUA q (n + k) (w + k) l = badUA q n w l + k := by
  induction l with
  | nil => intro q n w k; rfl
  | cons b t ih =>
    intro q n w k
    unfold badUA
    cases stepQ q b.toNat with
    | none => rfl
    | some q' =>
      simp only
      split
      · rw [show n + k + 1 = (n + 1) + k from by omega, ih]
      · rw [show n + k + 1 = (n + 1) + k from by omega, ih]
theorem badU_some {l : List UInt8} {r : Int} {n : Nat} (h : oneN l = some (r, n)) : badU l = n + badU (l.drop n) := by
  have := (oneN_run l r n h).2.2.1 0 0
  unfold badU
  rw [this, badUA_shift, Nat.add_comm]
end Go.Proofs.YthkoionigdnhgabGreatDoor
/-
  Domains and hosts in plain mathematics, as the program reads and writes them; no Go in sight.
-/
namespace Go.Proofs.YthkoionigdnhgabGreatDoor

def ldB (c : UInt8) : Bool := dgB c || (decide (65 ≤ c.toNat) && decide (c.toNat ≤ 90)) || (decide (97 ≤ c.toNat) && decide (c.toNat ≤ 122))
def lbB (c : UInt8) : Bool := ldB c || decide (c = 45)
def plB (c : UInt8) : Bool := decide (33 ≤ c.toNat) && decide (c.toNat ≤ 126) && !decide (c = 91) && !decide (c = 92) && !decide (c = 93)
def smB (c : UInt8) : UInt8 := if 65 ≤ c.toNat ∧ c.toNat ≤ 90 then UInt8.ofNat (c.toNat + 32) else c
def sml (s : List UInt8) : List UInt8 := s.map smB
/-- How many bytes are such at a text's beginning. -/
def spB (f : UInt8 → Bool) : List UInt8 → Nat
  | [] => 0
  | c :: r => if f c = true then spB f r + 1 else 0
theorem spB_le (f : UInt8 → Bool) : ∀ l : List UInt8, spB f l ≤ l.length
  | [] => Nat.le_refl _
  | c :: r => by
    rw [spB, List.length_cons]
    have := spB_le f r
    split <;> omega

/-- May a byte stand at a place, the label's beginning n bytes ahead? -/
def stB (formed a n : Nat) (c : UInt8) : Bool := ldB c || (decide (c = 45) && decide (0 < n)) || (decide (128 ≤ c.toNat) && decide (a < formed))
def wdGo (formed : Nat) : Nat → Nat → Bool → List UInt8 → Option Nat
  | a, n, h, [] => if 0 < n ∧ h = false then none else some a
  | a, n, h, c :: r =>
    if c = 46 then (if 0 < n ∧ h = false then wdGo formed (a + 1) 0 false r else some a)
    else if n = 63 ∨ stB formed a n c = false then some a
    else wdGo formed (a + 1) (n + 1) (decide (c = 45)) r
/-- What is wrong with a domain: the error and the place. -/
def wd (wide : Bool) (s : List UInt8) : Nat × Nat :=
  if 255 < s.length then (81, 255)
  else match wdGo (if wide then badU s else 0) 0 0 false s with
    | none => (0, 0)
    | some a => (80, a)

/-- What is wrong with a tag, the colon and a text. -/
def tagged (t : List UInt8) (k : Nat) : Nat × Nat :=
  if spB lbB (t.take k) < k ∨ k = 0 ∨ t[k - 1]? = some 45 then (83, spB lbB (t.take k))
  else if k + 1 + spB plB (t.drop (k + 1)) < t.length ∨ spB plB (t.drop (k + 1)) = 0 then (83, k + 1 + spB plB (t.drop (k + 1)))
  else (0, 0)
def colonAt : List UInt8 → Option Nat
  | [] => none
  | c :: r => if c = 58 then some 0 else (colonAt r).map (· + 1)
def sixB (t : List UInt8) : Bool := decide (5 ≤ t.length) && decide (sml (t.take 5) = [105, 112, 118, 54, 58])

/-- A host: its kind, its name, its sixteen bytes. -/
structure Ho where
  k : Int
  n : List UInt8
  a : List Nat
deriving DecidableEq
def z16 : List Nat := List.replicate 16 0
def ho0 : Ho := ⟨0, [], z16⟩
def told (p : Nat) (h : Ho) (e : Nat × Nat) : Ho × (Nat × Nat) := if e.1 = 0 then (h, (0, 0)) else (ho0, (e.1, p + e.2))
def spotOf {α : Type} (r : Except Nat α) : Nat × Nat := match r with
  | .ok _ => (0, 0)
  | .error p => (82, p)
def addrOf (k : Nat) (r : Except Nat (List Nat)) : List Nat := match r with
  | .ok l => l
  | .error _ => List.replicate k 0
def fourH (l : List Nat) : Ho := ⟨2, [], l ++ List.replicate 12 0⟩
def lit (s : List UInt8) : Ho × (Nat × Nat) :=
  if 255 < s.length then (ho0, (82, 255))
  else if s.getLast? ≠ some 93 then (ho0, (82, s.length))
  else if sixB ((s.drop 1).take (s.length - 2)) = true then told 6 ⟨3, [], addrOf 16 (v6 (((s.drop 1).take (s.length - 2)).drop 5))⟩ (spotOf (v6 (((s.drop 1).take (s.length - 2)).drop 5)))
  else match colonAt ((s.drop 1).take (s.length - 2)) with
    | some k => told 1 ⟨4, (s.drop 1).take (s.length - 2), z16⟩ (tagged ((s.drop 1).take (s.length - 2)) k)
    | none => told 1 (fourH (addrOf 4 (v4 ((s.drop 1).take (s.length - 2))))) (spotOf (v4 ((s.drop 1).take (s.length - 2))))
/-- Parse. -/
def parse (s : List UInt8) (wide : Bool) : Ho × (Nat × Nat) :=
  if s.head? = some 91 then lit s
  else if (wd wide s).1 = 0 then (⟨1, s, z16⟩, (0, 0)) else (ho0, wd wide s)

def chTag (t : List UInt8) : Nat :=
  if 253 < t.length then 82
  else match colonAt t with
    | none => 83
    | some k => if sixB t = true then 83 else (tagged t k).1
/-- Check. -/
def check (h : Ho) (wide : Bool) : Nat :=
  if h.k = 1 then (if h.a = z16 then (wd wide h.n).1 else 2)
  else if h.k = 2 then (if h = fourH (h.a.take 4) then 0 else 2)
  else if h.k = 3 then (if h.n = [] then 0 else 2)
  else if h.k = 4 then (if h.a = z16 then chTag h.n else 2)
  else 2
/-- Print. -/
def print (h : Ho) : List UInt8 × Nat :=
  if check h true = 0 then
    (if h.k = 2 then [91] ++ print4 (h.a.take 4) ++ [93]
    else if h.k = 3 then [91, 73, 80, 118, 54, 58] ++ print6 h.a ++ [93]
    else if h.k = 4 then [91] ++ h.n ++ [93]
    else h.n, 0)
  else ([], check h true)
def widthN (k : Int) : Int := if k = 2 then 32 else if k = 3 then 128 else -1
/-- An address with its first bits alone. -/
def cutB (i : Nat) (bits : Int) (x : Nat) : Nat := if bits - 8 * i < 8 then x - x % 2 ^ (8 - (max (bits - 8 * i) 0).toNat) else x
def cutGo : Nat → Int → List Nat → List Nat
  | _, _, [] => []
  | i, bits, x :: r => cutB i bits x :: cutGo (i + 1) bits r
def within (a b : Ho) (bits : Int) : Bool :=
  decide (a.k = b.k) && decide (check a false = 0) && decide (check b false = 0) && decide (0 ≤ bits) && decide (bits ≤ widthN a.k) && decide (cutGo 0 bits a.a = cutGo 0 bits b.a)

end Go.Proofs.YthkoionigdnhgabGreatDoor
