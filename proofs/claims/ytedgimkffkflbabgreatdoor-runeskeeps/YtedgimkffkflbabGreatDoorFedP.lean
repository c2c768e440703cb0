/-
  Bytes that are the first ones, but not all, of a rune's: the plain mathematics, no Go in sight.
-/
import Derived.Test.YtedgimkffkflbabGreatDoorCutP
namespace Go.Proofs.YtedgimkffkflbabGreatDoor

theorem encLen (x : Int) (h : isR x) : (Lib.encodeRune x).length = if x < 128 then 1 else if x < 2048 then 2 else if x < 65536 then 3 else 4 := by
  obtain ⟨h0, h1, h2⟩ := h
  unfold Lib.encodeRune
  rw [List.length_map]
  by_cases c1 : x < 128
  · rw [Lib.encodeRuneZ_one h0 (by omega), if_pos c1]; rfl
  by_cases c2 : x < 2048
  · rw [Lib.encodeRuneZ_two (by omega) (by omega), if_neg c1, if_pos c2]; rfl
  by_cases c3 : x < 65536
  · rw [Lib.encodeRuneZ_three (by omega), if_neg c1, if_neg c2, if_pos c3]; rfl
  · rw [Lib.encodeRuneZ_four (by omega) h1, if_neg c1, if_neg c2, if_neg c3]; rfl

/-- The least and the greatest that a byte adds. -/
def loB (b : List UInt8) (i : Nat) : Int := if i < b.length then ((b.getD i 0).toNat : Int) - 128 else 0
def hiB (b : List UInt8) (i : Nat) : Int := if i < b.length then ((b.getD i 0).toNat : Int) - 128 else 63
def accB (g : Nat → Int) (x : Int) : Nat → Int
  | 0 => x
  | k + 1 => 64 * accB g x k + g (k + 1)
def okB (b : List UInt8) (k : Nat) : Prop := ∀ i, 1 ≤ i → i ≤ k → 0 ≤ loB b i ∧ hiB b i ≤ 63
def bsB (b : List UInt8) (n : Nat) : Int := ((b.getD 0 0).toNat : Int) - leadN n
/-- Is there a rune of n bytes among these numbers? -/
def scanP (n : Nat) (L M : Int) : Prop := ∃ x, L ≤ x ∧ x ≤ M ∧ isR x ∧ (Lib.encodeRune x).length = n
def bgP (b : List UInt8) (n : Nat) : Prop := okB b (n - 1) ∧ scanP n (accB (loB b) (bsB b n) (n - 1)) (accB (hiB b) (bsB b n) (n - 1))
theorem accB_neg (b : List UInt8) (x : Int) (hx : x < 0) : ∀ k, okB b k → accB (hiB b) x k < 0
  | 0, _ => hx
  | k + 1, h => by
    have := accB_neg b x hx k (fun i h1 h2 => h i h1 (by omega))
    have := (h (k + 1) (by omega) (Nat.le_refl _)).2
    simp only [accB]
    omega
theorem accB_pos (b : List UInt8) (x : Int) (hx : 0 ≤ x) : ∀ k, okB b k → 0 ≤ accB (loB b) x k
  | 0, _ => hx
  | k + 1, h => by
    have := accB_pos b x hx k (fun i h1 h2 => h i h1 (by omega))
    have := (h (k + 1) (by omega) (Nat.le_refl _)).1
    simp only [accB]
    omega
theorem lo_le_hi (b : List UInt8) (i : Nat) : loB b i ≤ hiB b i ∧ -128 ≤ loB b i ∧ hiB b i ≤ 127 := by
  have := (b.getD i 0).toNat_lt
  unfold loB hiB
  split <;> omega
theorem acc_range (b : List UInt8) (x : Int) (h0 : -300 ≤ x) (h1 : x ≤ 300) : ∀ k, k ≤ 3 → okB b k → -100000000 ≤ accB (loB b) x k ∧ accB (loB b) x k ≤ accB (hiB b) x k ∧ accB (hiB b) x k ≤ 100000000 := by
  intro k hk h
  have g : ∀ i, 1 ≤ i → i ≤ k → 0 ≤ loB b i ∧ loB b i ≤ hiB b i ∧ hiB b i ≤ 63 := fun i a c => ⟨(h i a c).1, (lo_le_hi b i).1, (h i a c).2⟩
  match k, hk with
  | 0, _ => simp only [accB]; omega
  | 1, _ =>
    have := g 1 (by omega) (by omega)
    simp only [accB, Nat.zero_add]
    omega
  | 2, _ =>
    have := g 1 (by omega) (by omega)
    have := g 2 (by omega) (by omega)
    simp only [accB, Nat.zero_add, Nat.reduceAdd]
    omega
  | 3, _ =>
    have := g 1 (by omega) (by omega)
    have := g 2 (by omega) (by omega)
    have := g 3 (by omega) (by omega)
    simp only [accB, Nat.zero_add, Nat.reduceAdd]
    omega
  | k + 4, hk => omega
/-- Where runes of n bytes begin. -/
def stN (n : Nat) : Int := if n = 2 then 128 else if n = 3 then 2048 else if n = 4 then 65536 else 0
/-- One look of the search. -/
theorem scan_out {n : Nat} {x M : Int} (h : 1114111 < x) : ¬ scanP n x M := fun ⟨y, h1, h2, h3, _⟩ => by have := h3.2.1; omega
theorem scan_gap {n : Nat} {x M : Int} (h0 : 55296 ≤ x) (h1 : x ≤ 57343) : scanP n x M ↔ scanP n 57344 M := by
  constructor
  · intro ⟨y, a, b, c, d⟩
    refine ⟨y, ?_, b, c, d⟩
    have := c.2.2
    omega
  · intro ⟨y, a, b, c, d⟩
    exact ⟨y, by omega, b, c, d⟩
theorem scan_less {n : Nat} {x M : Int} (h2 : 2 ≤ n) (h4 : n ≤ 4) (hx : isR x) (hl : (Lib.encodeRune x).length < n) : x < stN n ∧ (scanP n x M ↔ scanP n (stN n) M) := by
  have hlt : x < stN n := by
    rw [encLen x hx] at hl
    unfold stN
    have := hx.1
    repeat' (split at hl)
    all_goals (repeat' split)
    all_goals omega
  refine ⟨hlt, ?_, ?_⟩
  · intro ⟨y, a, b, c, d⟩
    refine ⟨y, ?_, b, c, d⟩
    rw [encLen y c] at d
    unfold stN
    repeat' (split at d)
    all_goals (repeat' split)
    all_goals omega
  · intro ⟨y, a, b, c, d⟩
    exact ⟨y, by omega, b, c, d⟩
theorem scan_more {n : Nat} {x M : Int} (hx : isR x) (hl : n < (Lib.encodeRune x).length) : ¬ scanP n x M := by
  intro ⟨y, a, b, c, d⟩
  rw [encLen x hx] at hl
  rw [encLen y c] at d
  repeat' (split at d)
  all_goals (repeat' (split at hl))
  all_goals omega
theorem scan_end {n : Nat} {x M : Int} (h : M < x) : ¬ scanP n x M := fun ⟨y, h1, h2, _⟩ => by omega

theorem scan_two (L M : Int) : scanP 2 L M ↔ ∃ x, L ≤ x ∧ x ≤ M ∧ 128 ≤ x ∧ x < 2048 := by
  constructor
  · intro ⟨x, a, b, c, d⟩
    rw [encLen x c] at d
    refine ⟨x, a, b, ?_⟩
    repeat' (split at d)
    all_goals omega
  · intro ⟨x, a, b, c, d⟩
    have hx : isR x := ⟨by omega, by omega, by omega⟩
    refine ⟨x, a, b, hx, ?_⟩
    rw [encLen x hx, if_neg (by omega), if_pos d]
theorem scan_three (L M : Int) : scanP 3 L M ↔ ∃ x, L ≤ x ∧ x ≤ M ∧ 2048 ≤ x ∧ x < 65536 ∧ (x < 55296 ∨ 57343 < x) := by
  constructor
  · intro ⟨x, a, b, c, d⟩
    rw [encLen x c] at d
    refine ⟨x, a, b, ?_⟩
    have := c.2.2
    repeat' (split at d)
    all_goals omega
  · intro ⟨x, a, b, c, d, e⟩
    have hx : isR x := ⟨by omega, by omega, e⟩
    refine ⟨x, a, b, hx, ?_⟩
    rw [encLen x hx, if_neg (by omega), if_neg (by omega), if_pos d]
theorem scan_four (L M : Int) : scanP 4 L M ↔ ∃ x, L ≤ x ∧ x ≤ M ∧ 65536 ≤ x ∧ x ≤ 1114111 := by
  constructor
  · intro ⟨x, a, b, c, d⟩
    rw [encLen x c] at d
    refine ⟨x, a, b, ?_⟩
    have := c.2.1
    repeat' (split at d)
    all_goals omega
  · intro ⟨x, a, b, c, d⟩
    have hx : isR x := ⟨by omega, by omega, by omega⟩
    refine ⟨x, a, b, hx, ?_⟩
    rw [encLen x hx, if_neg (by omega), if_neg (by omega), if_neg (by omega)]

theorem ok_one (a : UInt8) (k : Nat) : okB [a] k := by
  intro i h1 _
  unfold loB hiB
  rw [if_neg (by simp; omega), if_neg (by simp; omega)]
  omega
theorem ok_two (a b : UInt8) (k : Nat) (hk : 1 ≤ k) : okB [a, b] k ↔ 128 ≤ b.toNat ∧ b.toNat ≤ 191 := by
  constructor
  · intro h
    have := h 1 (Nat.le_refl _) hk
    simp [loB, hiB] at this
    omega
  · intro h i h1 _
    unfold loB hiB
    by_cases e : i = 1
    · subst e
      simp
      omega
    · rw [if_neg (by simp; omega), if_neg (by simp; omega)]
      omega
theorem ok_three (a b c : UInt8) : okB [a, b, c] 3 ↔ (128 ≤ b.toNat ∧ b.toNat ≤ 191) ∧ 128 ≤ c.toNat ∧ c.toNat ≤ 191 := by
  constructor
  · intro h
    have h1 := h 1 (by omega) (by omega)
    have h2 := h 2 (by omega) (by omega)
    simp [loB, hiB] at h1 h2
    omega
  · intro h i h1 _
    unfold loB hiB
    by_cases e : i = 1
    · subst e
      simp
      omega
    by_cases e : i = 2
    · subst e
      simp
      omega
    · rw [if_neg (by simp; omega), if_neg (by simp; omega)]
      omega
theorem bg12 (a : UInt8) : bgP [a] 2 ↔ ∃ x : Int, 64 * ((a.toNat : Int) - 192) + 0 ≤ x ∧ x ≤ 64 * ((a.toNat : Int) - 192) + 63 ∧ 128 ≤ x ∧ x < 2048 := by
  unfold bgP
  rw [and_iff_right (ok_one a _), scan_two]
  exact Iff.rfl
theorem bg13 (a : UInt8) : bgP [a] 3 ↔ ∃ x : Int, 64 * (64 * ((a.toNat : Int) - 224) + 0) + 0 ≤ x ∧ x ≤ 64 * (64 * ((a.toNat : Int) - 224) + 63) + 63 ∧ 2048 ≤ x ∧ x < 65536 ∧ (x < 55296 ∨ 57343 < x) := by
  unfold bgP
  rw [and_iff_right (ok_one a _), scan_three]
  exact Iff.rfl
theorem bg14 (a : UInt8) : bgP [a] 4 ↔ ∃ x : Int, 64 * (64 * (64 * ((a.toNat : Int) - 240) + 0) + 0) + 0 ≤ x ∧ x ≤ 64 * (64 * (64 * ((a.toNat : Int) - 240) + 63) + 63) + 63 ∧ 65536 ≤ x ∧ x ≤ 1114111 := by
  unfold bgP
  rw [and_iff_right (ok_one a _), scan_four]
  exact Iff.rfl
theorem bg23 (a b : UInt8) : bgP [a, b] 3 ↔ (128 ≤ b.toNat ∧ b.toNat ≤ 191) ∧ ∃ x : Int, 64 * (64 * ((a.toNat : Int) - 224) + ((b.toNat : Int) - 128)) + 0 ≤ x ∧ x ≤ 64 * (64 * ((a.toNat : Int) - 224) + ((b.toNat : Int) - 128)) + 63 ∧ 2048 ≤ x ∧ x < 65536 ∧ (x < 55296 ∨ 57343 < x) := by
  unfold bgP
  rw [ok_two a b _ (by omega), scan_three]
  exact Iff.rfl
theorem bg24 (a b : UInt8) : bgP [a, b] 4 ↔ (128 ≤ b.toNat ∧ b.toNat ≤ 191) ∧ ∃ x : Int, 64 * (64 * (64 * ((a.toNat : Int) - 240) + ((b.toNat : Int) - 128)) + 0) + 0 ≤ x ∧ x ≤ 64 * (64 * (64 * ((a.toNat : Int) - 240) + ((b.toNat : Int) - 128)) + 63) + 63 ∧ 65536 ≤ x ∧ x ≤ 1114111 := by
  unfold bgP
  rw [ok_two a b _ (by omega), scan_four]
  exact Iff.rfl
theorem bg34 (a b c : UInt8) : bgP [a, b, c] 4 ↔ ((128 ≤ b.toNat ∧ b.toNat ≤ 191) ∧ 128 ≤ c.toNat ∧ c.toNat ≤ 191) ∧ ∃ x : Int, 64 * (64 * (64 * ((a.toNat : Int) - 240) + ((b.toNat : Int) - 128)) + ((c.toNat : Int) - 128)) + 0 ≤ x ∧ x ≤ 64 * (64 * (64 * ((a.toNat : Int) - 240) + ((b.toNat : Int) - 128)) + ((c.toNat : Int) - 128)) + 63 ∧ 65536 ≤ x ∧ x ≤ 1114111 := by
  unfold bgP
  rw [ok_three a b c, scan_four]
  exact Iff.rfl
/-- Is there a number of bytes of which these are the first ones? -/
def bgA (l : List UInt8) : Prop := ∃ n, l.length + 1 ≤ n ∧ n ≤ 4 ∧ bgP l n
theorem bgA_one (a : UInt8) (h : ¬ a.toNat < 128) : bgA [a] ↔ (runQ q0 [a]).isSome = true := by
  have hlt := a.toNat_lt
  have e : bgA [a] ↔ bgP [a] 2 ∨ bgP [a] 3 ∨ bgP [a] 4 := by
    constructor
    · intro ⟨n, h1, h2, h3⟩
      simp at h1
      have : n = 2 ∨ n = 3 ∨ n = 4 := by omega
      rcases this with rfl | rfl | rfl
      · exact .inl h3
      · exact .inr (.inl h3)
      · exact .inr (.inr h3)
    · intro h
      rcases h with h | h | h
      · exact ⟨2, by simp, by omega, h⟩
      · exact ⟨3, by simp, by omega, h⟩
      · exact ⟨4, by simp, by omega, h⟩
  rw [e, bg12, bg13, bg14]
  have er : runQ q0 [a] = begQ a.toNat := by
    simp only [runQ, q0, stepQ_zero]
    cases begQ a.toNat <;> rfl
  rw [er]
  rcases begQ_cases a.toNat with g | ⟨g1, g2, g⟩ | ⟨g1, g2, lo, hi, g, _⟩ | ⟨g1, g2, lo, hi, g, _⟩ | ⟨g1, g⟩
  · omega
  · rw [g]
    refine ⟨fun _ => rfl, fun _ => .inl ⟨64 * ((a.toNat : Int) - 192), ?_⟩⟩
    omega
  · rw [g]
    refine ⟨fun _ => rfl, fun _ => .inr (.inl ⟨if a.toNat = 224 then 2048 else 4096 * ((a.toNat : Int) - 224), ?_⟩)⟩
    split <;> omega
  · rw [g]
    refine ⟨fun _ => rfl, fun _ => .inr (.inr ⟨if a.toNat = 240 then 65536 else 262144 * ((a.toNat : Int) - 240), ?_⟩)⟩
    split <;> omega
  · rw [g]
    refine ⟨fun h => ?_, fun h => by cases h⟩
    rcases h with ⟨x, h⟩ | ⟨x, h⟩ | ⟨x, h⟩ <;> omega
theorem bgA_two (a b : UInt8) (h : ¬ a.toNat < 128) (ho : oneN [a, b] = none) : bgA [a, b] ↔ (runQ q0 [a, b]).isSome = true := by
  have hlt := a.toNat_lt
  have hltb := b.toNat_lt
  have e : bgA [a, b] ↔ bgP [a, b] 3 ∨ bgP [a, b] 4 := by
    constructor
    · intro ⟨n, h1, h2, h3⟩
      simp at h1
      have : n = 3 ∨ n = 4 := by omega
      rcases this with rfl | rfl
      · exact .inl h3
      · exact .inr h3
    · intro h
      rcases h with h | h
      · exact ⟨3, by simp, by omega, h⟩
      · exact ⟨4, by simp, by omega, h⟩
  rw [e, bg23, bg24]
  have hno : ¬ (194 ≤ a.toNat ∧ a.toNat ≤ 223 ∧ 128 ≤ b.toNat ∧ b.toNat ≤ 191) := by
    intro hh
    simp [oneN, h, hh] at ho
  have er : runQ q0 [a, b] = (begQ a.toNat).bind fun q => stepQ q b.toNat := by
    simp only [runQ, q0, stepQ_zero]
    cases begQ a.toNat with
    | none => rfl
    | some q => simp only [Option.bind_some]; cases stepQ q b.toNat <;> rfl
  rw [er]
  rcases begQ_cases a.toNat with g | ⟨g1, g2, g⟩ | ⟨g1, g2, lo, hi, g, elo, ehi⟩ | ⟨g1, g2, lo, hi, g, elo, ehi⟩ | ⟨g1, g⟩
  · omega
  · rw [g, Option.bind_some, stepQ_low (by omega) (by omega)]
    refine ⟨fun h => ?_, fun h => by cases h⟩
    rcases h with ⟨_, x, h⟩ | ⟨_, x, h⟩ <;> omega
  · rw [g, Option.bind_some]
    by_cases hb : lo ≤ b.toNat ∧ b.toNat ≤ hi
    · rw [stepQ_more (by omega) hb.1 hb.2]
      refine ⟨fun _ => rfl, fun _ => .inl ⟨?_, 4096 * ((a.toNat : Int) - 224) + 64 * ((b.toNat : Int) - 128), ?_⟩⟩
      · split at elo <;> split at ehi <;> omega
      · split at elo <;> split at ehi <;> omega
    · rw [stepQ_low (by omega) (by omega)]
      refine ⟨fun h => ?_, fun h => by cases h⟩
      rcases h with ⟨_, x, h⟩ | ⟨_, x, h⟩
      · split at elo <;> split at ehi <;> omega
      · split at elo <;> split at ehi <;> omega
  · rw [g, Option.bind_some]
    by_cases hb : lo ≤ b.toNat ∧ b.toNat ≤ hi
    · rw [stepQ_more (by omega) hb.1 hb.2]
      refine ⟨fun _ => rfl, fun _ => .inr ⟨?_, 262144 * ((a.toNat : Int) - 240) + 4096 * ((b.toNat : Int) - 128), ?_⟩⟩
      · split at elo <;> split at ehi <;> omega
      · split at elo <;> split at ehi <;> omega
    · rw [stepQ_low (by omega) (by omega)]
      refine ⟨fun h => ?_, fun h => by cases h⟩
      rcases h with ⟨_, x, h⟩ | ⟨_, x, h⟩
      · split at elo <;> split at ehi <;> omega
      · split at elo <;> split at ehi <;> omega
  · rw [g]
    refine ⟨fun h => ?_, fun h => by cases h⟩
    rcases h with ⟨_, x, h⟩ | ⟨_, x, h⟩ <;> omega
theorem bgA_three (a b c : UInt8) (h : ¬ a.toNat < 128) (ho : oneN [a, b, c] = none) : bgA [a, b, c] ↔ (runQ q0 [a, b, c]).isSome = true := by
  have hlt := a.toNat_lt
  have hltb := b.toNat_lt
  have hltc := c.toNat_lt
  have e : bgA [a, b, c] ↔ bgP [a, b, c] 4 := by
    constructor
    · intro ⟨n, h1, h2, h3⟩
      simp at h1
      obtain rfl : n = 4 := by omega
      exact h3
    · intro h
      exact ⟨4, by simp, by omega, h⟩
  rw [e, bg34]
  have hno : ¬ (194 ≤ a.toNat ∧ a.toNat ≤ 223 ∧ 128 ≤ b.toNat ∧ b.toNat ≤ 191) := by
    intro hh
    simp [oneN, h, hh] at ho
  have hno3 : ¬ (224 ≤ a.toNat ∧ a.toNat ≤ 239 ∧ 128 ≤ b.toNat ∧ b.toNat ≤ 191 ∧ (a.toNat = 224 → 160 ≤ b.toNat) ∧ (a.toNat = 237 → b.toNat ≤ 159) ∧ 128 ≤ c.toNat ∧ c.toNat ≤ 191) := by
    intro hh
    simp only [oneN] at ho
    rw [if_neg h, if_neg hno, if_pos hh] at ho
    cases ho
  have er : runQ q0 [a, b, c] = (begQ a.toNat).bind fun q => (stepQ q b.toNat).bind fun q => stepQ q c.toNat := by
    simp only [runQ, q0, stepQ_zero]
    cases begQ a.toNat with
    | none => rfl
    | some q =>
      simp only [Option.bind_some]
      cases stepQ q b.toNat with
      | none => rfl
      | some q => simp only [Option.bind_some]; cases stepQ q c.toNat <;> rfl
  rw [er]
  rcases begQ_cases a.toNat with g | ⟨g1, g2, g⟩ | ⟨g1, g2, lo, hi, g, elo, ehi⟩ | ⟨g1, g2, lo, hi, g, elo, ehi⟩ | ⟨g1, g⟩
  · omega
  · rw [g, Option.bind_some, stepQ_low (by omega) (by omega)]
    refine ⟨fun h => ?_, fun h => by cases h⟩
    obtain ⟨_, x, h⟩ := h
    omega
  · rw [g, Option.bind_some]
    by_cases hb : lo ≤ b.toNat ∧ b.toNat ≤ hi
    · have hc : ¬ (128 ≤ c.toNat ∧ c.toNat ≤ 191) := by split at elo <;> split at ehi <;> omega
      rw [stepQ_more (by omega) hb.1 hb.2, Option.bind_some, stepQ_low (by omega) (by omega)]
      refine ⟨fun h => ?_, fun h => by cases h⟩
      obtain ⟨_, x, h⟩ := h
      omega
    · rw [stepQ_low (by omega) (by omega)]
      refine ⟨fun h => ?_, fun h => by cases h⟩
      obtain ⟨_, x, h⟩ := h
      omega
  · rw [g, Option.bind_some]
    by_cases hb : lo ≤ b.toNat ∧ b.toNat ≤ hi
    · rw [stepQ_more (by omega) hb.1 hb.2, Option.bind_some]
      by_cases hc : 128 ≤ c.toNat ∧ c.toNat ≤ 191
      · rw [stepQ_more (by omega) hc.1 hc.2]
        refine ⟨fun _ => rfl, fun _ => ⟨⟨?_, hc⟩, 262144 * ((a.toNat : Int) - 240) + 4096 * ((b.toNat : Int) - 128) + 64 * ((c.toNat : Int) - 128), ?_⟩⟩
        · split at elo <;> split at ehi <;> omega
        · split at elo <;> split at ehi <;> omega
      · rw [stepQ_low (by omega) (by omega)]
        refine ⟨fun h => ?_, fun h => by cases h⟩
        obtain ⟨hh, x, h⟩ := h
        omega
    · rw [stepQ_low (by omega) (by omega)]
      refine ⟨fun h => ?_, fun h => by cases h⟩
      obtain ⟨_, x, h⟩ := h
      split at elo <;> split at ehi <;> omega
  · rw [g]
    refine ⟨fun h => ?_, fun h => by cases h⟩
    obtain ⟨_, x, h⟩ := h
    omega
theorem run_four (a b c d : UInt8) (t : List UInt8) (h : ¬ a.toNat < 128) (ho : oneN (a :: b :: c :: d :: t) = none) : runQ q0 (a :: b :: c :: d :: t) = none := by
  have hno : ¬ (194 ≤ a.toNat ∧ a.toNat ≤ 223 ∧ 128 ≤ b.toNat ∧ b.toNat ≤ 191) := by
    intro hh
    simp [oneN, h, hh] at ho
  have hno3 : ¬ (224 ≤ a.toNat ∧ a.toNat ≤ 239 ∧ 128 ≤ b.toNat ∧ b.toNat ≤ 191 ∧ (a.toNat = 224 → 160 ≤ b.toNat) ∧ (a.toNat = 237 → b.toNat ≤ 159) ∧ 128 ≤ c.toNat ∧ c.toNat ≤ 191) := by
    intro hh
    simp only [oneN] at ho
    rw [if_neg h, if_neg hno, if_pos hh] at ho
    cases ho
  have hno4 : ¬ (240 ≤ a.toNat ∧ a.toNat ≤ 244 ∧ 128 ≤ b.toNat ∧ b.toNat ≤ 191 ∧ (a.toNat = 240 → 144 ≤ b.toNat) ∧ (a.toNat = 244 → b.toNat ≤ 143) ∧ 128 ≤ c.toNat ∧ c.toNat ≤ 191 ∧ 128 ≤ d.toNat ∧ d.toNat ≤ 191) := by
    intro hh
    simp only [oneN] at ho
    rw [if_neg h, if_neg hno, if_neg hno3, if_pos hh] at ho
    cases ho
  simp only [runQ, q0, stepQ_zero]
  rcases begQ_cases a.toNat with g | ⟨g1, g2, g⟩ | ⟨g1, g2, lo, hi, g, elo, ehi⟩ | ⟨g1, g2, lo, hi, g, elo, ehi⟩ | ⟨g1, g⟩
  · omega
  · rw [g, Option.bind_some, stepQ_low (by omega) (by omega)]
    rfl
  · rw [g, Option.bind_some]
    by_cases hb : lo ≤ b.toNat ∧ b.toNat ≤ hi
    · have hc : ¬ (128 ≤ c.toNat ∧ c.toNat ≤ 191) := by split at elo <;> split at ehi <;> omega
      rw [stepQ_more (by omega) hb.1 hb.2, Option.bind_some, stepQ_low (by omega) (by omega)]
      rfl
    · rw [stepQ_low (by omega) (by omega)]
      rfl
  · rw [g, Option.bind_some]
    by_cases hb : lo ≤ b.toNat ∧ b.toNat ≤ hi
    · rw [stepQ_more (by omega) hb.1 hb.2, Option.bind_some]
      by_cases hc : 128 ≤ c.toNat ∧ c.toNat ≤ 191
      · have hd : ¬ (128 ≤ d.toNat ∧ d.toNat ≤ 191) := by split at elo <;> split at ehi <;> omega
        rw [stepQ_more (by omega) hc.1 hc.2, Option.bind_some, stepQ_low (by omega) (by omega)]
        rfl
      · rw [stepQ_low (by omega) (by omega)]
        rfl
    · rw [stepQ_low (by omega) (by omega)]
      rfl
  · rw [g]
    rfl
theorem bgA_rest (l : List UInt8) (hl : l ≠ []) (ho : oneN l = none) : bgA l ↔ (runQ q0 l).isSome = true := by
  match l, hl, ho with
  | [a], _, ho =>
    have h : ¬ a.toNat < 128 := by intro h; simp [oneN, h] at ho
    exact bgA_one a h
  | [a, b], _, ho =>
    have h : ¬ a.toNat < 128 := by intro h; simp [oneN, h] at ho
    exact bgA_two a b h ho
  | [a, b, c], _, ho =>
    have h : ¬ a.toNat < 128 := by intro h; simp [oneN, h] at ho
    exact bgA_three a b c h ho
  | a :: b :: c :: d :: t, _, ho =>
    have h : ¬ a.toNat < 128 := by intro h; simp [oneN, h] at ho
    rw [run_four a b c d t h ho]
    refine ⟨fun ⟨n, h1, h2, _⟩ => ?_, fun h => by cases h⟩
    simp only [List.length_cons] at h1
    omega
/-- Behind the well-formed beginning no rune stands, and the machine is where it was. -/
theorem bad_rest (l : List UInt8) : oneN (l.drop (badU l)) = none ∧ runQ q0 l = runQ q0 (l.drop (badU l)) := by
  generalize hk : l.length = k
  induction k using Nat.strongRecOn generalizing l with
  | _ k ih =>
    cases h : oneN l with
    | none =>
      rw [badU_none h, List.drop_zero]
      exact ⟨h, rfl⟩
    | some p =>
      obtain ⟨r, n⟩ := p
      obtain ⟨h1, h2, h3, h4⟩ := oneN_run l r n h
      have := ih (l.drop n).length (by rw [List.length_drop]; omega) (l.drop n) rfl
      rw [badU_some h, ← List.drop_drop, h4]
      exact this
/-- Are bytes a beginning of something well-formed? -/
theorem begins_ok (l : List UInt8) : okM (runM (some q0) l) = true ↔ (l.drop (badU l) = [] ∨ bgA (l.drop (badU l))) := by
  obtain ⟨h1, h2⟩ := bad_rest l
  show (runQ q0 l).isSome = true ↔ _
  rw [h2]
  by_cases h : l.drop (badU l) = []
  · rw [h]
    exact ⟨fun _ => .inl rfl, fun _ => rfl⟩
  · rw [← bgA_rest _ h h1]
    exact ⟨fun x => .inr x, fun x => x.resolve_left h⟩
end Go.Proofs.YtedgimkffkflbabGreatDoor
