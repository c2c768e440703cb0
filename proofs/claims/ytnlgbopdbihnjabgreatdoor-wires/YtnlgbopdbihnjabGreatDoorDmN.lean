/-
  Nets within nets (P8.13), and hosts that are one (P8.11), in plain mathematics. What a label becomes on old wires is left open here.
-/
import Derived.Test.YtnlgbopdbihnjabGreatDoorDmR
namespace Go.Proofs.YtnlgbopdbihnjabGreatDoor

/-- The labels of a domain. -/
def splitD : List UInt8 → List (List UInt8)
  | [] => [[]]
  | c :: r => if c = 46 then [] :: splitD r else match splitD r with
    | [] => [[c]]
    | x :: xs => (c :: x) :: xs
def longB (L : List (List UInt8)) : Bool := L.any fun x => decide (63 < x.length)
/-- A domain for old wires, f telling what its labels become. -/
def asciiD (f : List UInt8 → List UInt8) (s : List UInt8) : List UInt8 × Nat :=
  if longB ((splitD (sml s)).map f) = true then ([], 80)
  else if 255 < (joinL [46] ((splitD (sml s)).map f)).length then ([], 81)
  else (joinL [46] ((splitD (sml s)).map f), 0)
def tagS (t : List UInt8) : List UInt8 := match colonAt t with
  | none => t
  | some k => sml (t.take k) ++ t.drop k
/-- Ascii. -/
def ascii (f : List UInt8 → List UInt8) (h : Ho) : Ho × Nat :=
  if check h true = 0 then
    (if h.k = 1 then (if (asciiD f h.n).2 = 0 then (⟨1, (asciiD f h.n).1, h.a⟩, 0) else (ho0, (asciiD f h.n).2))
    else if h.k = 4 then (⟨4, tagS h.n, h.a⟩, 0)
    else (h, 0))
  else (ho0, check h true)
/-- Same. -/
def same (f : List UInt8 → List UInt8) (a b : Ho) : Bool :=
  decide (a.k = b.k) && decide (check a true = 0) && decide (check b true = 0) &&
    (if (ascii f a).2 = 0 ∧ (ascii f b).2 = 0 then decide ((ascii f a).1 = (ascii f b).1) else decide (sml a.n = sml b.n))

theorem ascii_sml (f : List UInt8 → List UInt8) {a b : Ho} (hk : a.k = b.k) (ha : check a true = 0) (hb : check b true = 0) (h : sml a.n = sml b.n) : (ascii f a).2 = (ascii f b).2 := by
  unfold ascii
  rw [if_pos ha, if_pos hb, ← hk]
  by_cases h1 : a.k = 1
  · rw [if_pos h1, if_pos h1]
    have : asciiD f a.n = asciiD f b.n := by unfold asciiD; rw [h]
    rw [this]
    split <;> rfl
  · rw [if_neg h1, if_neg h1]
    split <;> rfl
theorem same_iff (f : List UInt8 → List UInt8) (a b : Ho) : same f a b = true ↔ a.k = b.k ∧ check a true = 0 ∧ check b true = 0 ∧ (((ascii f a).2 = 0 ∧ (ascii f b).2 = 0 ∧ (ascii f a).1 = (ascii f b).1) ∨ (¬ ((ascii f a).2 = 0 ∧ (ascii f b).2 = 0) ∧ sml a.n = sml b.n)) := by
  unfold same
  simp only [Bool.and_eq_true, decide_eq_true_eq]
  by_cases h : (ascii f a).2 = 0 ∧ (ascii f b).2 = 0
  · rw [if_pos h]
    simp only [decide_eq_true_eq]
    constructor
    · rintro ⟨⟨⟨h1, h2⟩, h3⟩, h4⟩
      exact ⟨h1, h2, h3, Or.inl ⟨h.1, h.2, h4⟩⟩
    · rintro ⟨h1, h2, h3, h4 | h4⟩
      · exact ⟨⟨⟨h1, h2⟩, h3⟩, h4.2.2⟩
      · exact absurd h h4.1
  · rw [if_neg h]
    simp only [decide_eq_true_eq]
    constructor
    · rintro ⟨⟨⟨h1, h2⟩, h3⟩, h4⟩
      exact ⟨h1, h2, h3, Or.inr ⟨h, h4⟩⟩
    · rintro ⟨h1, h2, h3, h4 | h4⟩
      · exact absurd ⟨h4.1, h4.2.1⟩ h
      · exact ⟨⟨⟨h1, h2⟩, h3⟩, h4.2⟩
theorem same_comm (f : List UInt8 → List UInt8) (a b : Ho) : same f a b = same f b a := by
  rw [Bool.eq_iff_iff, same_iff, same_iff]
  constructor
  · rintro ⟨h1, h2, h3, h4⟩
    refine ⟨h1.symm, h3, h2, ?_⟩
    rcases h4 with h4 | h4
    · exact Or.inl ⟨h4.2.1, h4.1, h4.2.2.symm⟩
    · exact Or.inr ⟨fun h => h4.1 ⟨h.2, h.1⟩, h4.2.symm⟩
  · rintro ⟨h1, h2, h3, h4⟩
    refine ⟨h1.symm, h3, h2, ?_⟩
    rcases h4 with h4 | h4
    · exact Or.inl ⟨h4.2.1, h4.1, h4.2.2.symm⟩
    · exact Or.inr ⟨fun h => h4.1 ⟨h.2, h.1⟩, h4.2.symm⟩
theorem same_self (f : List UInt8 → List UInt8) (a : Ho) : same f a a = decide (check a true = 0) := by
  rw [Bool.eq_iff_iff, same_iff, decide_eq_true_eq]
  constructor
  · rintro ⟨_, h, _⟩
    exact h
  · intro h
    refine ⟨rfl, h, h, ?_⟩
    by_cases h0 : (ascii f a).2 = 0
    · exact Or.inl ⟨h0, h0, rfl⟩
    · exact Or.inr ⟨fun x => h0 x.1, rfl⟩
theorem same_trans (f : List UInt8 → List UInt8) {a b c : Ho} (h : same f a b = true) (g : same f b c = true) : same f a c = true := by
  rw [same_iff] at *
  obtain ⟨h1, h2, h3, h4⟩ := h
  obtain ⟨g1, g2, g3, g4⟩ := g
  refine ⟨h1.trans g1, h2, g3, ?_⟩
  rcases h4 with ⟨a0, b0, e⟩ | ⟨n0, e⟩
  · rcases g4 with ⟨b1, c0, e'⟩ | ⟨n1, e'⟩
    · exact Or.inl ⟨a0, c0, e.trans e'⟩
    · have := ascii_sml f g1 g2 g3 e'
      exact absurd ⟨b0, this ▸ b0⟩ n1
  · have hab := ascii_sml f h1 h2 h3 e
    rcases g4 with ⟨b1, c0, e'⟩ | ⟨n1, e'⟩
    · exact absurd ⟨hab.trans b1, b1⟩ n0
    · have hbc := ascii_sml f g1 g2 g3 e'
      refine Or.inr ⟨fun x => n0 ⟨x.1, hab ▸ x.1⟩, e.trans e'⟩

/-- Bytes whose first bits are the same. -/
theorem cut_div (x m : Nat) : x - x % 2 ^ m = 2 ^ m * (x / 2 ^ m) := by
  have := Nat.div_add_mod x (2 ^ m)
  omega
theorem cut_iff (i : Nat) (bits : Int) (x y : Nat) : cutB i bits x = cutB i bits y ↔ x / 2 ^ (8 - (min (max (bits - 8 * i) 0) 8).toNat) = y / 2 ^ (8 - (min (max (bits - 8 * i) 0) 8).toNat) := by
  unfold cutB
  by_cases h : bits - 8 * i < 8
  · rw [if_pos h, if_pos h, show min (max (bits - 8 * (i : Int)) 0) 8 = max (bits - 8 * i) 0 from by omega, cut_div, cut_div]
    have hp : 0 < 2 ^ (8 - (max (bits - 8 * (i : Int)) 0).toNat) := Nat.pow_pos (by decide)
    constructor
    · intro e
      exact Nat.eq_of_mul_eq_mul_left hp e
    · intro e
      rw [e]
  · rw [if_neg h, if_neg h, show min (max (bits - 8 * (i : Int)) 0) 8 = 8 from by omega]
    show x = y ↔ x / 2 ^ 0 = y / 2 ^ 0
    rw [Nat.pow_zero, Nat.div_one, Nat.div_one]
theorem cut_less {i : Nat} {bits : Int} {x y : Nat} (h : cutB i bits x = cutB i bits y) : cutB i (bits - 1) x = cutB i (bits - 1) y := by
  rw [cut_iff] at *
  obtain ⟨m, hm⟩ : ∃ m, m = 8 - (min (max (bits - 8 * (i : Int)) 0) 8).toNat := ⟨_, rfl⟩
  obtain ⟨n, hn⟩ : ∃ n, n = 8 - (min (max (bits - 1 - 8 * (i : Int)) 0) 8).toNat := ⟨_, rfl⟩
  rw [← hm] at h
  rw [← hn]
  have : n = m ∨ n = m + 1 := by omega
  rcases this with rfl | rfl
  · exact h
  · rw [Nat.pow_succ, ← Nat.div_div_eq_div_mul, ← Nat.div_div_eq_div_mul, h]
theorem cutGo_less : ∀ (a b : List Nat) (i : Nat) (bits : Int), cutGo i bits a = cutGo i bits b → cutGo i (bits - 1) a = cutGo i (bits - 1) b
  | [], [], _, _, _ => rfl
  | [], _ :: _, _, _, h => by cases h
  | _ :: _, [], _, _, h => by cases h
  | x :: a, y :: b, i, bits, h => by
    rw [cutGo, cutGo] at *
    injection h with h1 h2
    rw [cut_less h1, cutGo_less a b (i + 1) bits h2]
theorem cutGo_none : ∀ (a b : List Nat) (i : Nat) (bits : Int), a.length = b.length → bits ≤ 8 * i → (∀ n ∈ a, n < 256) → (∀ n ∈ b, n < 256) → cutGo i bits a = cutGo i bits b
  | [], [], _, _, _, _, _, _ => rfl
  | [], _ :: _, _, _, h, _, _, _ => by cases h
  | _ :: _, [], _, _, h, _, _, _ => by cases h
  | x :: a, y :: b, i, bits, h, hb, h1, h2 => by
    have hx := h1 x (by simp)
    have hy := h2 y (by simp)
    rw [cutGo, cutGo, cutGo_none a b (i + 1) bits (by simpa using h) (by omega) (fun n hn => h1 n (by simp [hn])) (fun n hn => h2 n (by simp [hn]))]
    congr 1
    rw [cut_iff, show min (max (bits - 8 * (i : Int)) 0) 8 = 0 from by omega]
    show x / 256 = y / 256
    omega
theorem cutGo_all : ∀ (a b : List Nat) (i : Nat) (bits : Int), 8 * ((i : Int) + a.length) ≤ bits → a.length = b.length → (cutGo i bits a = cutGo i bits b ↔ a = b)
  | [], [], _, _, _, _ => by simp
  | [], _ :: _, _, _, _, h => by cases h
  | _ :: _, [], _, _, _, h => by cases h
  | x :: a, y :: b, i, bits, hb, h => by
    rw [List.length_cons] at hb
    rw [cutGo, cutGo, List.cons.injEq, List.cons.injEq, cutGo_all a b (i + 1) bits (by omega) (by simpa using h), cut_iff, show min (max (bits - 8 * (i : Int)) 0) 8 = 8 from by omega]
    show x / 2 ^ 0 = y / 2 ^ 0 ∧ a = b ↔ x = y ∧ a = b
    rw [Nat.pow_zero, Nat.div_one, Nat.div_one]
theorem cutGo_append : ∀ (a b : List Nat) (i : Nat) (bits : Int), cutGo i bits (a ++ b) = cutGo i bits a ++ cutGo (i + a.length) bits b
  | [], b, i, bits => rfl
  | x :: a, b, i, bits => by
    rw [List.cons_append, cutGo, cutGo, cutGo_append a b (i + 1) bits, List.length_cons, List.cons_append, show i + 1 + a.length = i + (a.length + 1) from by omega]
theorem cutGo_len : ∀ (a : List Nat) (i : Nat) (bits : Int), (cutGo i bits a).length = a.length
  | [], _, _ => rfl
  | x :: a, i, bits => by rw [cutGo, List.length_cons, List.length_cons, cutGo_len a]

theorem within_iff (a b : Ho) (bits : Int) : within a b bits = true ↔ a.k = b.k ∧ check a false = 0 ∧ check b false = 0 ∧ 0 ≤ bits ∧ bits ≤ widthN a.k ∧ cutGo 0 bits a.a = cutGo 0 bits b.a := by
  unfold within
  simp only [Bool.and_eq_true, decide_eq_true_eq, and_assoc]
theorem within_comm (a b : Ho) (bits : Int) : within a b bits = within b a bits := by
  rw [Bool.eq_iff_iff, within_iff, within_iff]
  constructor
  · rintro ⟨h1, h2, h3, h4, h5, h6⟩
    exact ⟨h1.symm, h3, h2, h4, h1 ▸ h5, h6.symm⟩
  · rintro ⟨h1, h2, h3, h4, h5, h6⟩
    exact ⟨h1.symm, h3, h2, h4, h1 ▸ h5, h6.symm⟩
theorem within_less {a b : Ho} {bits : Int} (h0 : 0 < bits) (h : within a b bits = true) : within a b (bits - 1) = true := by
  rw [within_iff] at *
  obtain ⟨h1, h2, h3, h4, h5, h6⟩ := h
  exact ⟨h1, h2, h3, by omega, by omega, cutGo_less _ _ _ _ h6⟩
def allN (k : Int) : Int := if k = 3 then 128 else 32
theorem within_out {a b : Ho} {bits : Int} (h : bits < 0 ∨ allN a.k < bits) : within a b bits = false := by
  cases hw : within a b bits with
  | false => rfl
  | true =>
    obtain ⟨_, _, _, h4, h5, _⟩ := (within_iff _ _ _).1 hw
    unfold allN at h
    unfold widthN at h5
    split at h <;> split at h5 <;> first | omega | (split at h5 <;> omega)
/-- May there be nets of these two? -/
def mayN (a b : Ho) : Bool := decide (check a false = 0) && decide (check b false = 0) && decide (a.k = b.k) && (decide (a.k = 2) || decide (a.k = 3))
theorem within_zero {a b : Ho} (ha : a.Ok) (hb : b.Ok) : within a b 0 = mayN a b := by
  rw [Bool.eq_iff_iff, within_iff]
  unfold mayN
  simp only [Bool.and_eq_true, Bool.or_eq_true, decide_eq_true_eq]
  constructor
  · rintro ⟨h1, h2, h3, h4, h5, h6⟩
    refine ⟨⟨⟨h2, h3⟩, h1⟩, ?_⟩
    unfold widthN at h5
    split at h5
    · exact Or.inl ‹_›
    · split at h5
      · exact Or.inr ‹_›
      · omega
  · rintro ⟨⟨⟨h2, h3⟩, h1⟩, h4⟩
    refine ⟨h1, h2, h3, Int.le_refl _, ?_, cutGo_none _ _ _ _ (by rw [ha.len, hb.len]) (by omega) ha.byt hb.byt⟩
    unfold widthN
    rcases h4 with h4 | h4
    · rw [if_pos h4]; decide
    · rw [if_neg (by omega), if_pos h4]; decide
theorem check_v4 {a : Ho} {wide : Bool} (hk : a.k = 2) : check a wide = 0 ↔ a = fourH (a.a.take 4) := by
  unfold check
  rw [if_neg (by omega), if_pos hk]
  constructor
  · intro h
    by_cases h1 : a = fourH (a.a.take 4)
    · exact h1
    · rw [if_neg h1] at h; cases h
  · intro h
    rw [if_pos h]
theorem check_v6 {a : Ho} {wide : Bool} (hk : a.k = 3) : check a wide = 0 ↔ a.n = [] := by
  unfold check
  rw [if_neg (by omega), if_neg (by omega), if_pos hk]
  constructor
  · intro h
    by_cases h1 : a.n = []
    · exact h1
    · rw [if_neg h1] at h; cases h
  · intro h
    rw [if_pos h]
theorem ascii_addr (f : List UInt8 → List UInt8) {a : Ho} (hk : a.k = 2 ∨ a.k = 3) (h : check a true = 0) : ascii f a = (a, 0) := by
  unfold ascii
  rw [if_pos h, if_neg (by omega), if_neg (by omega)]
theorem Ho.eq {a b : Ho} (h1 : a.k = b.k) (h2 : a.n = b.n) (h3 : a.a = b.a) : a = b := by
  cases a
  cases b
  simp_all
theorem within_all (f : List UInt8 → List UInt8) {a b : Ho} (ha : a.Ok) (hb : b.Ok) : within a b (allN a.k) = (mayN a b && same f a b) := by
  rw [Bool.eq_iff_iff, within_iff, Bool.and_eq_true, same_iff]
  unfold mayN
  simp only [Bool.and_eq_true, Bool.or_eq_true, decide_eq_true_eq]
  by_cases h2 : a.k = 2
  · have hw : widthN a.k = 32 := by unfold widthN; rw [if_pos h2]
    have hl : allN a.k = 32 := by unfold allN; rw [if_neg (by omega)]
    rw [hw, hl]
    constructor
    · rintro ⟨h1, c1, c2, _, _, e⟩
      have k2 : b.k = 2 := by omega
      have d1 := (check_v4 h2).1 c1
      have d2 := (check_v4 k2).1 c2
      have e1 : a.a = a.a.take 4 ++ List.replicate 12 0 := congrArg Ho.a d1
      have e2 : b.a = b.a.take 4 ++ List.replicate 12 0 := congrArg Ho.a d2
      have l1 : (a.a.take 4).length = 4 := by rw [List.length_take, ha.len]; rfl
      have l2 : (b.a.take 4).length = 4 := by rw [List.length_take, hb.len]; rfl
      have et : a.a.take 4 = b.a.take 4 := by
        rw [e1, e2, cutGo_append, cutGo_append] at e
        have := List.append_inj_left e (by rw [cutGo_len, cutGo_len, l1, l2])
        exact (cutGo_all _ _ 0 32 (by rw [l1]; decide) (by rw [l1, l2])).1 this
      have eab : a = b := by rw [d1, d2, et]
      subst eab
      have ct := (check_v4 (wide := true) h2).2 d1
      exact ⟨⟨⟨⟨c1, c1⟩, rfl⟩, Or.inl h2⟩, rfl, ct, ct, Or.inl ⟨by rw [ascii_addr f (Or.inl h2) ct], by rw [ascii_addr f (Or.inl h2) ct], rfl⟩⟩
    · rintro ⟨⟨⟨⟨c1, c2⟩, h1⟩, _⟩, _, t1, t2, hs⟩
      have k2 : b.k = 2 := by omega
      rw [ascii_addr f (Or.inl h2) t1, ascii_addr f (Or.inl k2) t2] at hs
      rcases hs with ⟨_, _, e⟩ | ⟨hn, _⟩
      · have e' : a = b := e
        subst e'
        exact ⟨rfl, c1, c1, by decide, by decide, rfl⟩
      · exact absurd ⟨rfl, rfl⟩ hn
  · by_cases h3 : a.k = 3
    · have hw : widthN a.k = 128 := by unfold widthN; rw [if_neg h2, if_pos h3]
      have hl : allN a.k = 128 := by unfold allN; rw [if_pos h3]
      rw [hw, hl]
      constructor
      · rintro ⟨h1, c1, c2, _, _, e⟩
        have k3 : b.k = 3 := by omega
        have d1 := (check_v6 h3).1 c1
        have d2 := (check_v6 k3).1 c2
        have ea := (cutGo_all _ _ 0 128 (by rw [ha.len]; decide) (by rw [ha.len, hb.len])).1 e
        have eab : a = b := Ho.eq h1 (d1.trans d2.symm) ea
        subst eab
        have ct := (check_v6 (wide := true) h3).2 d1
        exact ⟨⟨⟨⟨c1, c1⟩, rfl⟩, Or.inr h3⟩, rfl, ct, ct, Or.inl ⟨by rw [ascii_addr f (Or.inr h3) ct], by rw [ascii_addr f (Or.inr h3) ct], rfl⟩⟩
      · rintro ⟨⟨⟨⟨c1, c2⟩, h1⟩, _⟩, _, t1, t2, hs⟩
        have k3 : b.k = 3 := by omega
        rw [ascii_addr f (Or.inr h3) t1, ascii_addr f (Or.inr k3) t2] at hs
        rcases hs with ⟨_, _, e⟩ | ⟨hn, _⟩
        · have e' : a = b := e
          subst e'
          exact ⟨rfl, c1, c1, by decide, by decide, rfl⟩
        · exact absurd ⟨rfl, rfl⟩ hn
    · constructor
      · rintro ⟨_, _, _, h4, h5, _⟩
        unfold widthN at h5
        rw [if_neg h2, if_neg h3] at h5
        unfold allN at h4 h5
        rw [if_neg h3] at h5
        omega
      · rintro ⟨⟨_, h4 | h4⟩, _⟩
        · exact absurd h4 h2
        · exact absurd h4 h3

end Go.Proofs.YtnlgbopdbihnjabGreatDoor
