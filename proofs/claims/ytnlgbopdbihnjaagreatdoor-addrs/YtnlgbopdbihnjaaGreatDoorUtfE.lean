/-
  Nets within nets (P8.13), and hosts that are one (P8.11), in plain mathematics. What a label becomes on old wires is left open here.
-/
import Derived.Test.YtnlgbopdbihnjaaGreatDoorDmR
import Derived.Test.YtnlgbopdbihnjaaGreatDoorDmP
namespace Go.Proofs.YtnlgbopdbihnjaaGreatDoor

/-- The labels of a domain. -/
def splitD : List UInt8 → List (List UInt8)
  | [] => [[]]
  | c :: r => if c = 46 then [] :: splitD r else match splitD r with
    | [] => [[c]]
    | x :: xs => (c :: x) :: xs
def longB (L : List (List UInt8)) : Bool := L.any fun x => decide (63 < x.length)
/-- A domain for old wires, f telling what its labels become. -/
def asciiD (f : List UInt8 → List UInt8) (s : List UInt8) : List UInt8 × Nat :=
  if longB ((splitD (sml s)).map f) = true then ([], 80)
  else if 255 < (joinL [46] ((splitD (sml s)).map f)).length then ([], 81)
  else (joinL [46] ((splitD (sml s)).map f), 0)
def tagS (t : List UInt8) : List UInt8 := match colonAt t with
  | none => t
  | some k => sml (t.take k) ++ t.drop k
/-- Ascii. -/
def ascii (f : List UInt8 → List UInt8) (h : Ho) : Ho × Nat :=
  if check h true = 0 then
    (if h.k = 1 then (if (asciiD f h.n).2 = 0 then (⟨1, (asciiD f h.n).1, h.a⟩, 0) else (ho0, (asciiD f h.n).2))
    else if h.k = 4 then (⟨4, tagS h.n, h.a⟩, 0)
    else (h, 0))
  else (ho0, check h true)
/-- Same. -/
def same (f : List UInt8 → List UInt8) (a b : Ho) : Bool :=
  decide (a.k = b.k) && decide (check a true = 0) && decide (check b true = 0) &&
    (if (ascii f a).2 = 0 ∧ (ascii f b).2 = 0 then decide ((ascii f a).1 = (ascii f b).1) else decide (sml a.n = sml b.n))

theorem ascii_sml (f : List UInt8 → List UInt8) {a b : Ho} (hk : a.k = b.k) (ha : check a true = 0) (hb : check b true = 0) (h : sml a.n = sml b.n) : (ascii f a).2 = (ascii f b).2 := by
  unfold ascii
  rw [if_pos ha, if_pos hb, ← hk]
  by_cases h1 : a.k = 1
  · rw [if_pos h1, if_pos h1]
    have : asciiD f a.n = asciiD f b.n := by unfold asciiD; rw [h]
    rw [this]
    split <;> rfl
  · rw [if_neg h1, if_neg h1]
    split <;> rfl
theorem same_iff (f : List UInt8 → List UInt8) (a b : Ho) : same f a b = true ↔ a.k = b.k ∧ check a true = 0 ∧ check b true = 0 ∧ (((ascii f a).2 = 0 ∧ (ascii f b).2 = 0 ∧ (ascii f a).1 = (ascii f b).1) ∨ (¬ ((ascii f a).2 = 0 ∧ (ascii f b).2 = 0) ∧ sml a.n = sml b.n)) := by
  unfold same
  simp only [Bool.and_eq_true, decide_eq_true_eq]
  by_cases h : (ascii f a).2 = 0 ∧ (ascii f b).2 = 0
  · rw [if_pos h]
    simp only [decide_eq_true_eq]
    constructor
    · rintro ⟨⟨⟨h1, h2⟩, h3⟩, h4⟩
      exact ⟨h1, h2, h3, Or.inl ⟨h.1, h.2, h4⟩⟩
    · rintro ⟨h1, h2, h3, h4 | h4⟩
      · exact ⟨⟨⟨h1, h2⟩, h3⟩, h4.2.2⟩
      · exact absurd h h4.1
  · rw [if_neg h]
    simp only [decide_eq_true_eq]
    constructor
    · rintro ⟨⟨⟨h1, h2⟩, h3⟩, h4⟩
      exact ⟨h1, h2, h3, Or.inr ⟨h, h4⟩⟩
    · rintro ⟨h1, h2, h3, h4 | h4⟩
      · exact absurd ⟨h4.1, h4.2.1⟩ h
      · exact ⟨⟨⟨h1, h2⟩, h3⟩, h4.2⟩
theorem same_comm (f : List UInt8 → List UInt8) (a b : Ho) : same f a b = same f b a := by
  rw [Bool.eq_iff_iff, same_iff, same_iff]
  constructor
  · rintro ⟨h1, h2, h3, h4⟩
    refine ⟨h1.symm, h3, h2, ?_⟩
    rcases h4 with h4 | h4
    · exact Or.inl ⟨h4.2.1, h4.1, h4.2.2.symm⟩
    · exact Or.inr ⟨fun h => h4.1 ⟨h.2, h.1⟩, h4.2.symm⟩
  · rintro ⟨h1, h2, h3, h4⟩
    refine ⟨h1.symm, h3, h2, ?_⟩
    rcases h4 with h4 | h4
    · exact Or.inl ⟨h4.2.1, h4.1, h4.2.2.symm⟩
    · exact Or.inr ⟨fun h => h4.1 ⟨h.2, h.1⟩, h4.2.symm⟩
theorem same_self (f : List UInt8 → List UInt8) (a : Ho) : same f a a = decide (check a true = 0) := by
  rw [Bool.eq_iff_iff, same_iff, decide_eq_true_eq]
  constructor
  · rintro ⟨_, h, _⟩
    exact h
  · intro h
    refine ⟨rfl, h, h, ?_⟩
    by_cases h0 : (ascii f a).2 = 0
    · exact Or.inl ⟨h0, h0, rfl⟩
    · exact Or.inr ⟨fun x => h0 x.1, rfl⟩
theorem same_trans (f : List UInt8 → List UInt8) {a b c : Ho} (h : same f a b = true) (g : same f b c = true) : same f a c = true := by
  rw [same_iff] at *
  obtain ⟨h1, h2, h3, h4⟩ := h
  obtain ⟨g1, g2, g3, g4⟩ := g
  refine ⟨h1.trans g1, h2, g3, ?_⟩
  rcases h4 with ⟨a0, b0, e⟩ | ⟨n0, e⟩
  · rcases g4 with ⟨b1, c0, e'⟩ | ⟨n1, e'⟩
    · exact Or.inl ⟨a0, c0, e.trans e'⟩
    · have := ascii_sml f g1 g2 g3 e'
      exact absurd ⟨b0, this ▸ b0⟩ n1
  · have hab := ascii_sml f h1 h2 h3 e
    rcases g4 with ⟨b1, c0, e'⟩ | ⟨n1, e'⟩
    · exact absurd ⟨hab.trans b1, b1⟩ n0
    · have hbc := ascii_sml f g1 g2 g3 e'
      refine Or.inr ⟨fun x => n0 ⟨x.1, hab ▸ x.1⟩, e.trans e'⟩

/-- Bytes whose first bits are the same. -/
theorem cut_div (x m : Nat) : x - x % 2 ^ m = 2 ^ m * (x / 2 ^ m) := by
  have := Nat.div_add_mod x (2 ^ m)
  omega
theorem cut_iff (i : Nat) (bits : Int) (x y : Nat) : cutB i bits x = cutB i bits y ↔ x / 2 ^ (8 - (min (max (bits - 8 * i) 0) 8).toNat) = y / 2 ^ (8 - (min (max (bits - 8 * i) 0) 8).toNat) := by
  unfold cutB
  by_cases h : bits - 8 * i < 8
  · rw [if_pos h, if_pos h, show min (max (bits - 8 * (i : Int)) 0) 8 = max (bits - 8 * i) 0 from by omega, cut_div, cut_div]
    have hp : 0 < 2 ^ (8 - (max (bits - 8 * (i : Int)) 0).toNat) := Nat.pow_pos (by decide)
    constructor
    · intro e
      exact Nat.eq_of_mul_eq_mul_left hp e
    · intro e
      rw [e]
  · rw [if_neg h, if_neg h, show min (max (bits - 8 * (i : Int)) 0) 8 = 8 from by omega]
    show x = y ↔ x / 2 ^ 0 = y / 2 ^ 0
    rw [Nat.pow_zero, Nat.div_one, Nat.div_one]
theorem cut_less {i : Nat} {bits : Int} {x y : Nat} (h : cutB i bits x = cutB i bits y) : cutB i (bits - 1) x = cutB i (bits - 1) y := by
  rw [cut_iff] at *
  obtain ⟨m, hm⟩ : ∃ m, m = 8 - (min (max (bits - 8 * (i : Int)) 0) 8).toNat := ⟨_, rfl⟩
  obtain ⟨n, hn⟩ : ∃ n, n = 8 - (min (max (bits - 1 - 8 * (i : Int)) 0) 8).toNat := ⟨_, rfl⟩
  rw [← hm] at h
  rw [← hn]
  have : n = m ∨ n = m + 1 := by omega
  rcases this with rfl | rfl
  · exact h
  · rw [Nat.pow_succ, ← Nat.div_div_eq_div_mul, ← Nat.div_div_eq_div_mul, h]
theorem cutGo_less : ∀ (a b : List Nat) (i : Nat) (bits : Int), cutGo i bits a = cutGo i bits b → cutGo i (bits - 1) a = cutGo i (bits - 1) b
  | [], [], _, _, _ => rfl
  | [], _ :: _, _, _, h => by cases h
  | _ :: _, [], _, _, h => by cases h
  | x :: a, y :: b, i, bits, h => by
    rw [cutGo, cutGo] at *
    injection h with h1 h2
    rw [cut_less h1, cutGo_less a b (i + 1) bits h2]
theorem cutGo_none : ∀ (a b : List Nat) (i : Nat) (bits : Int), a.length = b.length → bits ≤ 8 * i → (∀ n ∈ a, n < 256) → (∀ n ∈ b, n < 256) → cutGo i bits a = cutGo i bits b
  | [], [], _, _, _, _, _, _ => rfl
  | [], _ :: _, _, _, h, _, _, _ => by cases h
  | _ :: _, [], _, _, h, _, _, _ => by cases h
  | x :: a, y :: b, i, bits, h, hb, h1, h2 => by
    have hx := h1 x (by simp)
    have hy := h2 y (by simp)
    rw [cutGo, cutGo, cutGo_none a b (i + 1) bits (by simpa using h) (by omega) (fun n hn => h1 n (by simp [hn])) (fun n hn => h2 n (by simp [hn]))]
    congr 1
    rw [cut_iff, show min (max (bits - 8 * (i : Int)) 0) 8 = 0 from by omega]
    show x / 256 = y / 256
    omega
theorem cutGo_all : ∀ (a b : List Nat) (i : Nat) (bits : Int), 8 * ((i : Int) + a.length) ≤ bits → a.length = b.length → (cutGo i bits a = cutGo i bits b ↔ a = b)
  | [], [], _, _, _, _ => by simp
  | [], _ :: _, _, _, _, h => by cases h
  | _ :: _, [], _, _, _, h => by cases h
  | x :: a, y :: b, i, bits, hb, h => by
    rw [List.length_cons] at hb
    rw [cutGo, cutGo, List.cons.injEq, List.cons.injEq, cutGo_all a b (i + 1) bits (by omega) (by simpa using h), cut_iff, show min (max (bits - 8 * (i : Int)) 0) 8 = 8 from by omega]
    show x / 2 ^ 0 = y / 2 ^ 0 ∧ a = b ↔ x = y ∧ a = b
    rw [Nat.pow_zero, Nat.div_one, Nat.div_one]
theorem cutGo_append : ∀ (a b : List Nat) (i : Nat) (bits : Int), cutGo i bits (a ++ b) = cutGo i bits a ++ cutGo (i + a.length) bits b
  | [], b, i, bits => rfl
  | x :: a, b, i, bits => by
    rw [List.cons_append, cutGo, cutGo, cutGo_append a b (i + 1) bits, List.length_cons, List.cons_append, show i + 1 + a.length = i + (a.length + 1) from by omega]
theorem cutGo_len : ∀ (a : List Nat) (i : Nat) (bits : Int), (cutGo i bits a).length = a.length
  | [], _, _ => rfl
  | x :: a, i, bits => by rw [cutGo, List.length_cons, List.length_cons, cutGo_len a]

theorem within_iff (a b : Ho) (bits : Int) : within a b bits = true ↔ a.k = b.k ∧ check a false = 0 ∧ check b false = 0 ∧ 0 ≤ bits ∧ bits ≤ widthN a.k ∧ cutGo 0 bits a.a = cutGo 0 bits b.a := by
  unfold within
  simp only [Bool.and_eq_true, decide_eq_true_eq, and_assoc]
theorem within_comm (a b : Ho) (bits : Int) : within a b bits = within b a bits := by
  rw [Bool.eq_iff_iff, within_iff, within_iff]
  constructor
  · rintro ⟨h1, h2, h3, h4, h5, h6⟩
    exact ⟨h1.symm, h3, h2, h4, h1 ▸ h5, h6.symm⟩
  · rintro ⟨h1, h2, h3, h4, h5, h6⟩
    exact ⟨h1.symm, h3, h2, h4, h1 ▸ h5, h6.symm⟩
theorem within_less {a b : Ho} {bits : Int} (h0 : 0 < bits) (h : within a b bits = true) : within a b (bits - 1) = true := by
  rw [within_iff] at *
  obtain ⟨h1, h2, h3, h4, h5, h6⟩ := h
  exact ⟨h1, h2, h3, by omega, by omega, cutGo_less _ _ _ _ h6⟩
def allN (k : Int) : Int := if k = 3 then 128 else 32
theorem within_out {a b : Ho} {bits : Int} (h : bits < 0 ∨ allN a.k < bits) : within a b bits = false := by
  cases hw : within a b bits with
  | false => rfl
  | true =>
    obtain ⟨_, _, _, h4, h5, _⟩ := (within_iff _ _ _).1 hw
    unfold allN at h
    unfold widthN at h5
    split at h <;> split at h5 <;> first | omega | (split at h5 <;> omega)
/-- May there be nets of these two? -/
def mayN (a b : Ho) : Bool := decide (check a false = 0) && decide (check b false = 0) && decide (a.k = b.k) && (decide (a.k = 2) || decide (a.k = 3))
theorem within_zero {a b : Ho} (ha : a.Ok) (hb : b.Ok) : within a b 0 = mayN a b := by
  rw [Bool.eq_iff_iff, within_iff]
  unfold mayN
  simp only [Bool.and_eq_true, Bool.or_eq_true, decide_eq_true_eq]
  constructor
  · rintro ⟨h1, h2, h3, h4, h5, h6⟩
    refine ⟨⟨⟨h2, h3⟩, h1⟩, ?_⟩
    unfold widthN at h5
    split at h5
    · exact Or.inl ‹_›
    · split at h5
      · exact Or.inr ‹_›
      · omega
  · rintro ⟨⟨⟨h2, h3⟩, h1⟩, h4⟩
    refine ⟨h1, h2, h3, Int.le_refl _, ?_, cutGo_none _ _ _ _ (by rw [ha.len, hb.len]) (by omega) ha.byt hb.byt⟩
    unfold widthN
    rcases h4 with h4 | h4
    · rw [if_pos h4]; decide
    · rw [if_neg (by omega), if_pos h4]; decide
theorem check_v4 {a : Ho} {wide : Bool} (hk : a.k = 2) : check a wide = 0 ↔ a = fourH (a.a.take 4) := by
  unfold check
  rw [if_neg (by omega), if_pos hk]
  constructor
  · intro h
    by_cases h1 : a = fourH (a.a.take 4)
    · exact h1
    · rw [if_neg h1] at h; cases h
  · intro h
    rw [if_pos h]
theorem check_v6 {a : Ho} {wide : Bool} (hk : a.k = 3) : check a wide = 0 ↔ a.n = [] := by
  unfold check
  rw [if_neg (by omega), if_neg (by omega), if_pos hk]
  constructor
  · intro h
    by_cases h1 : a.n = []
    · exact h1
    · rw [if_neg h1] at h; cases h
  · intro h
    rw [if_pos h]
theorem ascii_addr (f : List UInt8 → List UInt8) {a : Ho} (hk : a.k = 2 ∨ a.k = 3) (h : check a true = 0) : ascii f a = (a, 0) := by
  unfold ascii
  rw [if_pos h, if_neg (by omega), if_neg (by omega)]
theorem Ho.eq {a b : Ho} (h1 : a.k = b.k) (h2 : a.n = b.n) (h3 : a.a = b.a) : a = b := by
  cases a
  cases b
  simp_all
theorem within_all (f : List UInt8 → List UInt8) {a b : Ho} (ha : a.Ok) (hb : b.Ok) : within a b (allN a.k) = (mayN a b && same f a b) := by
  rw [Bool.eq_iff_iff, within_iff, Bool.and_eq_true, same_iff]
  unfold mayN
  simp only [Bool.and_eq_true, Bool.or_eq_true, decide_eq_true_eq]
  by_cases h2 : a.k = 2
  · have hw : widthN a.k = 32 := by unfold widthN; rw [if_pos h2]
    have hl : allN a.k = 32 := by unfold allN; rw [if_neg (by omega)]
    rw [hw, hl]
    constructor
    · rintro ⟨h1, c1, c2, _, _, e⟩
      have k2 : b.k = 2 := by omega
      have d1 := (check_v4 h2).1 c1
      have d2 := (check_v4 k2).1 c2
      have e1 : a.a = a.a.take 4 ++ List.replicate 12 0 := congrArg Ho.a d1
      have e2 : b.a = b.a.take 4 ++ List.replicate 12 0 := congrArg Ho.a d2
      have l1 : (a.a.take 4).length = 4 := by rw [List.length_take, ha.len]; rfl
      have l2 : (b.a.take 4).length = 4 := by rw [List.length_take, hb.len]; rfl
      have et : a.a.take 4 = b.a.take 4 := by
        rw [e1, e2, cutGo_append, cutGo_append] at e
        have := List.append_inj_left e (by rw [cutGo_len, cutGo_len, l1, l2])
        exact (cutGo_all _ _ 0 32 (by rw [l1]; decide) (by rw [l1, l2])).1 this
      have eab : a = b := by rw [d1, d2, et]
      subst eab
      have ct := (check_v4 (wide := true) h2).2 d1
      exact ⟨⟨⟨⟨c1, c1⟩, rfl⟩, Or.inl h2⟩, rfl, ct, ct, Or.inl ⟨by rw [ascii_addr f (Or.inl h2) ct], by rw [ascii_addr f (Or.inl h2) ct], rfl⟩⟩
    · rintro ⟨⟨⟨⟨c1, c2⟩, h1⟩, _⟩, _, t1, t2, hs⟩
      have k2 : b.k = 2 := by omega
      rw [ascii_addr f (Or.inl h2) t1, ascii_addr f (Or.inl k2) t2] at hs
      rcases hs with ⟨_, _, e⟩ | ⟨hn, _⟩
      · have e' : a = b := e
        subst e'
        exact ⟨rfl, c1, c1, by decide, by decide, rfl⟩
      · exact absurd ⟨rfl, rfl⟩ hn
  · by_cases h3 : a.k = 3
    · have hw : widthN a.k = 128 := by unfold widthN; rw [if_neg h2, if_pos h3]
      have hl : allN a.k = 128 := by unfold allN; rw [if_pos h3]
      rw [hw, hl]
      constructor
      · rintro ⟨h1, c1, c2, _, _, e⟩
        have k3 : b.k = 3 := by omega
        have d1 := (check_v6 h3).1 c1
        have d2 := (check_v6 k3).1 c2
        have ea := (cutGo_all _ _ 0 128 (by rw [ha.len]; decide) (by rw [ha.len, hb.len])).1 e
        have eab : a = b := Ho.eq h1 (d1.trans d2.symm) ea
        subst eab
        have ct := (check_v6 (wide := true) h3).2 d1
        exact ⟨⟨⟨⟨c1, c1⟩, rfl⟩, Or.inr h3⟩, rfl, ct, ct, Or.inl ⟨by rw [ascii_addr f (Or.inr h3) ct], by rw [ascii_addr f (Or.inr h3) ct], rfl⟩⟩
      · rintro ⟨⟨⟨⟨c1, c2⟩, h1⟩, _⟩, _, t1, t2, hs⟩
        have k3 : b.k = 3 := by omega
        rw [ascii_addr f (Or.inr h3) t1, ascii_addr f (Or.inr k3) t2] at hs
        rcases hs with ⟨_, _, e⟩ | ⟨hn, _⟩
        · have e' : a = b := e
          subst e'
          exact ⟨rfl, c1, c1, by decide, by decide, rfl⟩
        · exact absurd ⟨rfl, rfl⟩ hn
    · constructor
      · rintro ⟨_, _, _, h4, h5, _⟩
        unfold widthN at h5
        rw [if_neg h2, if_neg h3] at h5
        unfold allN at h4 h5
        rw [if_neg h3] at h5
        omega
      · rintro ⟨⟨_, h4 | h4⟩, _⟩
        · exact absurd h4 h2
        · exact absurd h4 h3

end Go.Proofs.YtnlgbopdbihnjaaGreatDoor
/-
  A rune's bytes and the first rune of a row of bytes: one is the other's way back. And what is made of a whole row.
-/
namespace Go.Proofs.YtnlgbopdbihnjaaGreatDoor

theorem u8_of (x : Int) (h0 : 0 ≤ x) (h1 : x < 256) : (x.toNat.toUInt8).toNat = x.toNat := by
  have : x.toNat < 256 := by omega
  simp
  omega
theorem u8_eq {x : Int} {b : UInt8} (h : x = (b.toNat : Int)) : x.toNat.toUInt8 = b := by
  subst h
  simp

theorem oneN_enc (r : Int) (h : isR r) (t : List UInt8) : oneN (Lib.encodeRune r ++ t) = some (r, (Lib.encodeRune r).length) := by
  obtain ⟨h0, h1, h2⟩ := h
  unfold Lib.encodeRune
  by_cases c1 : r ≤ 127
  · rw [Lib.encodeRuneZ_one h0 c1]
    simp only [List.map_cons, List.map_nil, List.cons_append, List.nil_append, oneN, u8_of r h0 (by omega), List.length_cons, List.length_nil]
    rw [if_pos (by omega)]
    simp; omega
  by_cases c2 : r ≤ 2047
  · rw [Lib.encodeRuneZ_two (by omega) c2]
    have a1 := u8_of (192 + r / 64) (by omega) (by omega)
    have a2 := u8_of (128 + r % 64) (by omega) (by omega)
    simp only [List.map_cons, List.map_nil, List.cons_append, List.nil_append, oneN, a1, a2, List.length_cons, List.length_nil]
    rw [if_neg (by omega), if_pos (by omega)]
    simp; omega
  by_cases c3 : r ≤ 65535
  · rw [Lib.encodeRuneZ_three (by omega)]
    have a1 := u8_of (224 + r / 4096) (by omega) (by omega)
    have a2 := u8_of (128 + r / 64 % 64) (by omega) (by omega)
    have a3 := u8_of (128 + r % 64) (by omega) (by omega)
    simp only [List.map_cons, List.map_nil, List.cons_append, List.nil_append, oneN, a1, a2, a3, List.length_cons, List.length_nil]
    rw [if_neg (by omega), if_neg (by omega), if_pos (by omega)]
    simp; omega
  · rw [Lib.encodeRuneZ_four (by omega) (by omega)]
    have a1 := u8_of (240 + r / 262144) (by omega) (by omega)
    have a2 := u8_of (128 + r / 4096 % 64) (by omega) (by omega)
    have a3 := u8_of (128 + r / 64 % 64) (by omega) (by omega)
    have a4 := u8_of (128 + r % 64) (by omega) (by omega)
    simp only [List.map_cons, List.map_nil, List.cons_append, List.nil_append, oneN, a1, a2, a3, a4, List.length_cons, List.length_nil]
    rw [if_neg (by omega), if_neg (by omega), if_neg (by omega), if_pos (by omega)]
    simp; omega

theorem oneN_is {l : List UInt8} {r : Int} {n : Nat} (h : oneN l = some (r, n)) : isR r ∧ n = (Lib.encodeRune r).length ∧ l = Lib.encodeRune r ++ l.drop n := by
  unfold oneN at h
  match l with
  | [] => simp at h
  | a :: t =>
    have ua := a.toNat_lt
    simp only at h
    by_cases ha : a.toNat < 128
    · rw [if_pos ha] at h
      injection h with h; injection h with h1 h2
      subst h2
      have e := Lib.encodeRuneZ_one (r := r) (by omega) (by omega)
      refine ⟨⟨by omega, by omega, by omega⟩, by simp [Lib.encodeRune, e], ?_⟩
      simp [Lib.encodeRune, e]
      exact (u8_eq h1.symm).symm
    rw [if_neg ha] at h
    match t with
    | [] => simp at h
    | b :: t =>
      have ub := b.toNat_lt
      simp only at h
      by_cases hb : 194 ≤ a.toNat ∧ a.toNat ≤ 223 ∧ 128 ≤ b.toNat ∧ b.toNat ≤ 191
      · rw [if_pos hb] at h
        injection h with h; injection h with h1 h2
        subst h2
        have e := Lib.encodeRuneZ_two (r := r) (by omega) (by omega)
        refine ⟨⟨by omega, by omega, by omega⟩, by simp [Lib.encodeRune, e], ?_⟩
        simp only [Lib.encodeRune, e, List.map_cons, List.map_nil, List.cons_append, List.nil_append, List.drop_succ_cons, List.drop_zero]
        rw [u8_eq (b := a) (by omega), u8_eq (b := b) (by omega)]
      rw [if_neg hb] at h
      match t with
      | [] => simp at h
      | c :: t =>
        have uc := c.toNat_lt
        simp only at h
        by_cases hc : 224 ≤ a.toNat ∧ a.toNat ≤ 239 ∧ 128 ≤ b.toNat ∧ b.toNat ≤ 191 ∧ (a.toNat = 224 → 160 ≤ b.toNat) ∧ (a.toNat = 237 → b.toNat ≤ 159) ∧ 128 ≤ c.toNat ∧ c.toNat ≤ 191
        · rw [if_pos hc] at h
          injection h with h; injection h with h1 h2
          subst h2
          have e := Lib.encodeRuneZ_three (r := r) (by omega)
          refine ⟨⟨by omega, by omega, by omega⟩, by simp [Lib.encodeRune, e], ?_⟩
          simp only [Lib.encodeRune, e, List.map_cons, List.map_nil, List.cons_append, List.nil_append, List.drop_succ_cons, List.drop_zero]
          rw [u8_eq (b := a) (by omega), u8_eq (b := b) (by omega), u8_eq (b := c) (by omega)]
        rw [if_neg hc] at h
        match t with
        | [] => simp at h
        | d :: t =>
          have ud := d.toNat_lt
          simp only at h
          by_cases hd : 240 ≤ a.toNat ∧ a.toNat ≤ 244 ∧ 128 ≤ b.toNat ∧ b.toNat ≤ 191 ∧ (a.toNat = 240 → 144 ≤ b.toNat) ∧ (a.toNat = 244 → b.toNat ≤ 143) ∧ 128 ≤ c.toNat ∧ c.toNat ≤ 191 ∧ 128 ≤ d.toNat ∧ d.toNat ≤ 191
          · rw [if_pos hd] at h
            injection h with h; injection h with h1 h2
            subst h2
            have e := Lib.encodeRuneZ_four (r := r) (by omega) (by omega)
            refine ⟨⟨by omega, by omega, by omega⟩, by simp [Lib.encodeRune, e], ?_⟩
            simp only [Lib.encodeRune, e, List.map_cons, List.map_nil, List.cons_append, List.nil_append, List.drop_succ_cons, List.drop_zero]
            rw [u8_eq (b := a) (by omega), u8_eq (b := b) (by omega), u8_eq (b := c) (by omega), u8_eq (b := d) (by omega)]
          · rw [if_neg hd] at h
            cases h

/-- The bytes of runes. -/
def encL (l : List Int) : List UInt8 := l.flatMap Lib.encodeRune
/-- The runes of a row, as far as it is well-formed. -/
def decL (l : List UInt8) : List Int :=
  match _h : oneN l with
  | none => []
  | some (r, n) => r :: decL (l.drop n)
termination_by l.length
decreasing_by have := oneN_run l r n _h; simp; omega
theorem decL_some {l : List UInt8} {r : Int} {n : Nat} (h : oneN l = some (r, n)) : decL l = r :: decL (l.drop n) := by
  rw [decL]
  split
  · rename_i h'; rw [h] at h'; cases h'
  · rename_i r' n' h'; rw [h] at h'; cases h'; rfl
theorem decL_none {l : List UInt8} (h : oneN l = none) : decL l = [] := by
  rw [decL]
  split
  · rfl
  · rename_i r' n' h'; rw [h] at h'; cases h'

/-- All of it well-formed: written again it is the row. -/
theorem encL_decL (l : List UInt8) : encL (decL l) = l.take (badU l) := by
  induction hn : l.length using Nat.strongRecOn generalizing l with
  | _ n ih =>
    cases h : oneN l with
    | none => rw [decL_none h, badU_none h]; rfl
    | some p =>
      obtain ⟨r, k⟩ := p
      obtain ⟨h1, h2, _, _⟩ := oneN_run l r k h
      obtain ⟨h3, h4, h5⟩ := oneN_is h
      rw [decL_some h, badU_some h]
      have := ih (l.drop k).length (by simp; omega) (l.drop k) rfl
      show Lib.encodeRune r ++ encL (decL (l.drop k)) = _
      rw [this]
      conv => rhs; rw [h5]
      rw [h4, List.take_length_add_append, List.drop_left]
theorem decL_encL (l : List Int) (h : ∀ r ∈ l, isR r) : decL (encL l) = l ∧ badU (encL l) = (encL l).length := by
  induction l with
  | nil => exact ⟨decL_none rfl, rfl⟩
  | cons r t ih =>
    obtain ⟨i1, i2⟩ := ih (fun x hx => h x (List.mem_cons_of_mem _ hx))
    have e : encL (r :: t) = Lib.encodeRune r ++ encL t := rfl
    have o := oneN_enc r (h r List.mem_cons_self) (encL t)
    rw [e]
    have d : (Lib.encodeRune r ++ encL t).drop (Lib.encodeRune r).length = encL t := List.drop_left
    refine ⟨?_, ?_⟩
    · rw [decL_some o, d, i1]
    · rw [badU_some o, d, i2, List.length_append]
theorem decL_isR (l : List UInt8) : ∀ r ∈ decL l, isR r := by
  induction hn : l.length using Nat.strongRecOn generalizing l with
  | _ n ih =>
    cases h : oneN l with
    | none => rw [decL_none h]; intro r hr; cases hr
    | some p =>
      obtain ⟨r, k⟩ := p
      obtain ⟨h1, h2, _, _⟩ := oneN_run l r k h
      rw [decL_some h]
      intro x hx
      rcases List.mem_cons.1 hx with rfl | hx
      · exact (oneN_is h).1
      · exact ih (l.drop k).length (by simp; omega) (l.drop k) rfl x hx
theorem decL_length (l : List UInt8) : (decL l).length ≤ l.length := by
  induction hn : l.length using Nat.strongRecOn generalizing l with
  | _ n ih =>
    cases h : oneN l with
    | none => rw [decL_none h]; simp
    | some p =>
      obtain ⟨r, k⟩ := p
      obtain ⟨h1, h2, _, _⟩ := oneN_run l r k h
      rw [decL_some h]
      have := ih (l.drop k).length (by simp; omega) (l.drop k) rfl
      simp at this ⊢
      omega

/-- The model's reading of a rune, of numbers alone. -/
def decF (f : Nat → Nat) (g : Nat → Bool) : Nat × Nat :=
  if f 0 < 0x80 then (f 0, 1)
  else if f 0 / 32 == 6 && (g 1 && f 1 / 64 == 2) then
    if (f 0 % 32) * 64 + f 1 % 64 ≥ 0x80 then ((f 0 % 32) * 64 + f 1 % 64, 2) else (Utf8.runeError, 1)
  else if f 0 / 16 == 14 && (g 1 && f 1 / 64 == 2) && (g 2 && f 2 / 64 == 2) then
    if (f 0 % 16) * 4096 + (f 1 % 64) * 64 + f 2 % 64 ≥ 0x800 && Utf8.valid ((f 0 % 16) * 4096 + (f 1 % 64) * 64 + f 2 % 64 : Nat) then ((f 0 % 16) * 4096 + (f 1 % 64) * 64 + f 2 % 64, 3) else (Utf8.runeError, 1)
  else if f 0 / 8 == 30 && (g 1 && f 1 / 64 == 2) && (g 2 && f 2 / 64 == 2) && (g 3 && f 3 / 64 == 2) then
    if (f 0 % 8) * 262144 + (f 1 % 64) * 4096 + (f 2 % 64) * 64 + f 3 % 64 ≥ 0x10000 && Utf8.valid ((f 0 % 8) * 262144 + (f 1 % 64) * 4096 + (f 2 % 64) * 64 + f 3 % 64 : Nat) then ((f 0 % 8) * 262144 + (f 1 % 64) * 4096 + (f 2 % 64) * 64 + f 3 % 64, 4) else (Utf8.runeError, 1)
  else (Utf8.runeError, 1)
theorem decode_F (s : ByteArray) (i : Nat) : Utf8.decode s i = decF (fun k => (s.get! (i + k)).toNat) (fun k => decide (i + k < s.size)) := rfl
/-- What Go's range over a text tells at a place where a rune begins. -/
theorem decode_one (s : ByteArray) (pos : Nat) (r : Int) (n : Nat) (h : oneN (s.data.toList.drop pos) = some (r, n)) : Utf8.decode s pos = (r.toNat, n) := by
  have key : ∀ (k : Nat) (x : UInt8) (t : List UInt8), s.data.toList.drop (pos + k) = x :: t → (s.get! (pos + k)).toNat = x.toNat ∧ pos + k < s.size := by
    intro k x t e
    have hlt : pos + k < s.data.toList.length := by
      have : (s.data.toList.drop (pos + k)).length = t.length + 1 := by rw [e]; rfl
      rw [List.length_drop] at this; omega
    have hx : s.data.toList[pos + k]? = some x := by
      have : (s.data.toList.drop (pos + k))[0]? = some x := by rw [e]; rfl
      rw [List.getElem?_drop] at this
      simpa using this
    have hs : pos + k < s.size := by simpa using hlt
    refine ⟨?_, hs⟩
    have : s.get! (pos + k) = x := by
      show s.data[pos + k]! = x
      have h2 : s.data[pos + k]? = some x := by rw [← Array.getElem?_toList]; exact hx
      simp [getElem!_def, h2]
    rw [this]
  have dr : ∀ (k : Nat) (x : UInt8) (t : List UInt8), s.data.toList.drop (pos + k) = x :: t → s.data.toList.drop (pos + (k + 1)) = t := by
    intro k x t e
    have : (s.data.toList.drop (pos + k)).drop 1 = t := by rw [e]; rfl
    rw [List.drop_drop] at this
    exact this
  obtain ⟨l, hl⟩ : ∃ l, s.data.toList.drop pos = l := ⟨_, rfl⟩
  rw [hl] at h
  have E0 : s.data.toList.drop (pos + 0) = l := hl
  clear hl
  unfold oneN at h
  rw [decode_F]
  have key' : ∀ (k : Nat) (x : UInt8) (t : List UInt8), s.data.toList.drop (pos + k) = x :: t → (fun k => (s.get! (pos + k)).toNat) k = x.toNat ∧ (fun k => decide (pos + k < s.size)) k = true := fun k x t e => ⟨(key k x t e).1, decide_eq_true (key k x t e).2⟩
  generalize (fun k => (s.get! (pos + k)).toNat) = f at key' ⊢
  generalize (fun k => decide (pos + k < s.size)) = g at key' ⊢
  unfold decF
  match l with
  | [] => simp at h
  | a :: t =>
    have ua := a.toNat_lt
    obtain ⟨k0, _⟩ := key' 0 a t E0
    have E1 := dr 0 a t E0
    simp only [k0]
    simp only at h
    by_cases ha : a.toNat < 128
    · rw [if_pos ha] at h
      injection h with h; injection h with h1 h2
      subst h2
      rw [if_pos ha, ← h1]; simp
    rw [if_neg ha] at h ⊢
    match t with
    | [] => simp at h
    | b :: t =>
      have ub := b.toNat_lt
      obtain ⟨k1, s1⟩ := key' 1 b t E1
      have E2 := dr 1 b t E1
      simp only [k1, s1]
      simp only at h
      by_cases hb : 194 ≤ a.toNat ∧ a.toNat ≤ 223 ∧ 128 ≤ b.toNat ∧ b.toNat ≤ 191
      · rw [if_pos hb] at h
        injection h with h; injection h with h1 h2
        subst h2
        have c1 : a.toNat / 32 = 6 := by omega
        have c2 : b.toNat / 64 = 2 := by omega
        simp only [c1, c2, beq_self_eq_true, Bool.and_self, if_true]
        rw [if_pos (by omega)]
        congr 1; omega
      rw [if_neg hb] at h
      match t with
      | [] => simp at h
      | c :: t =>
        have uc := c.toNat_lt
        obtain ⟨k2, s2⟩ := key' 2 c t E2
        have E3 := dr 2 c t E2
        simp only [k2, s2]
        simp only at h
        by_cases hc : 224 ≤ a.toNat ∧ a.toNat ≤ 239 ∧ 128 ≤ b.toNat ∧ b.toNat ≤ 191 ∧ (a.toNat = 224 → 160 ≤ b.toNat) ∧ (a.toNat = 237 → b.toNat ≤ 159) ∧ 128 ≤ c.toNat ∧ c.toNat ≤ 191
        · rw [if_pos hc] at h
          injection h with h; injection h with h1 h2
          subst h2
          have c0 : (a.toNat / 32 == 6) = false := by simp; omega
          have c1 : a.toNat / 16 = 14 := by omega
          have c2 : b.toNat / 64 = 2 := by omega
          have c3 : c.toNat / 64 = 2 := by omega
          simp only [c0, c1, c2, c3, beq_self_eq_true, Bool.and_self, Bool.false_and, if_true, Bool.false_eq_true, if_false]
          have hv : Utf8.valid ((a.toNat % 16 * 4096 + b.toNat % 64 * 64 + c.toNat % 64 : Nat) : Int) = true := by
            unfold Utf8.valid
            simp
            omega
          have hg : (decide (a.toNat % 16 * 4096 + b.toNat % 64 * 64 + c.toNat % 64 ≥ 2048) && true) = true := by rw [Bool.and_true]; exact decide_eq_true (by omega)
          rw [hv, hg, if_pos rfl]
          refine Prod.ext ?_ rfl
          show a.toNat % 16 * 4096 + b.toNat % 64 * 64 + c.toNat % 64 = r.toNat
          omega
        rw [if_neg hc] at h
        match t with
        | [] => simp at h
        | d :: t =>
          have ud := d.toNat_lt
          obtain ⟨k3, s3⟩ := key' 3 d t E3
          simp only [k3, s3]
          simp only at h
          by_cases hd : 240 ≤ a.toNat ∧ a.toNat ≤ 244 ∧ 128 ≤ b.toNat ∧ b.toNat ≤ 191 ∧ (a.toNat = 240 → 144 ≤ b.toNat) ∧ (a.toNat = 244 → b.toNat ≤ 143) ∧ 128 ≤ c.toNat ∧ c.toNat ≤ 191 ∧ 128 ≤ d.toNat ∧ d.toNat ≤ 191
          · rw [if_pos hd] at h
            injection h with h; injection h with h1 h2
            subst h2
            have c0 : (a.toNat / 32 == 6) = false := by simp; omega
            have c0' : (a.toNat / 16 == 14) = false := by simp; omega
            have c1 : a.toNat / 8 = 30 := by omega
            have c2 : b.toNat / 64 = 2 := by omega
            have c3 : c.toNat / 64 = 2 := by omega
            have c4 : d.toNat / 64 = 2 := by omega
            simp only [c0, c0', c1, c2, c3, c4, beq_self_eq_true, Bool.and_self, Bool.false_and, if_true, Bool.false_eq_true, if_false]
            have hv : Utf8.valid ((a.toNat % 8 * 262144 + b.toNat % 64 * 4096 + c.toNat % 64 * 64 + d.toNat % 64 : Nat) : Int) = true := by
              unfold Utf8.valid
              simp
              omega
            have hg : (decide (a.toNat % 8 * 262144 + b.toNat % 64 * 4096 + c.toNat % 64 * 64 + d.toNat % 64 ≥ 65536) && true) = true := by rw [Bool.and_true]; exact decide_eq_true (by omega)
            rw [hv, hg, if_pos rfl]
            refine Prod.ext ?_ rfl
            show a.toNat % 8 * 262144 + b.toNat % 64 * 4096 + c.toNat % 64 * 64 + d.toNat % 64 = r.toNat
            omega
          · rw [if_neg hd] at h
            cases h
end Go.Proofs.YtnlgbopdbihnjaaGreatDoor
