/-
  The document's addresses of the fourth kind, in plain mathematics: what is a whole one, and how far a text begins one; it is what V4 tells.
-/
import Derived.Test.YthkoionigdnhgabGreatDoorDmR
namespace Go.Proofs.YthkoionigdnhgabGreatDoor

/-- A text cut at each byte of a kind. -/
def splitB (d : UInt8) : List UInt8 → List (List UInt8)
  | [] => [[]]
  | c :: r => if c = d then [] :: splitB d r else match splitB d r with
    | [] => [[c]]
    | x :: xs => (c :: x) :: xs
theorem splitB_ne (d : UInt8) : ∀ s : List UInt8, splitB d s ≠ []
  | [] => by simp [splitB]
  | c :: r => by
    rw [splitB]
    split
    · simp
    · split <;> simp
theorem splitB_none (d : UInt8) : ∀ x : List UInt8, (∀ c ∈ x, c ≠ d) → splitB d x = [x]
  | [], _ => rfl
  | c :: r, h => by
    rw [splitB, if_neg (h c (by simp)), splitB_none d r fun x hx => h x (by simp [hx])]
theorem splitB_at (d : UInt8) : ∀ (x y : List UInt8), (∀ c ∈ x, c ≠ d) → splitB d (x ++ d :: y) = x :: splitB d y
  | [], y, _ => by rw [List.nil_append, splitB, if_pos rfl]
  | c :: r, y, h => by
    rw [List.cons_append, splitB, if_neg (h c (by simp)), splitB_at d r y fun x hx => h x (by simp [hx])]
theorem joinL_cons2 (d : List UInt8) (x : List UInt8) (L : List (List UInt8)) (h : L ≠ []) : joinL d (x :: L) = x ++ d ++ joinL d L := by
  cases L with
  | nil => exact absurd rfl h
  | cons y r => rw [joinL]
theorem joinL_splitB (d : UInt8) : ∀ s : List UInt8, joinL [d] (splitB d s) = s
  | [] => rfl
  | c :: r => by
    have ih := joinL_splitB d r
    rw [splitB]
    by_cases hc : c = d
    · rw [if_pos hc, joinL_cons2 _ _ _ (splitB_ne d r), ih, hc]
      rfl
    · rw [if_neg hc]
      cases h : splitB d r with
      | nil => exact absurd h (splitB_ne d r)
      | cons x xs =>
        rw [h] at ih
        dsimp only
        cases xs with
        | nil =>
          have : x = r := ih
          rw [this]
          rfl
        | cons y ys =>
          rw [joinL] at ih ⊢
          rw [← ih]
          rfl

def decV : Nat → List UInt8 → Nat
  | n, [] => n
  | n, c :: r => decV (10 * n + (c.toNat - 48)) r
/-- The number that digits say, if they are as few as it takes, and it is at most 255. -/
def dNum (s : List UInt8) : Option Nat := if s ≠ [] ∧ s.length ≤ 3 ∧ s.all dgB = true ∧ decV 0 s ≤ 255 ∧ (s.head? ≠ some 48 ∨ s = [48]) then some (decV 0 s) else none
theorem dNum_dec : ∀ n : Fin 256, dNum (decD n.val) = some n.val := by decide +kernel
theorem dig1 (a : UInt8) (h1 : dgB a = true) : [a] = decD (a.toNat - 48) := by
  obtain ⟨l1, u1⟩ := dgB_is h1
  rw [decD, if_pos (by omega), u8_back a _ (by omega)]
theorem dig2 (a b : UInt8) (h1 : dgB a = true) (h2 : dgB b = true) (h0 : a ≠ 48) : [a, b] = decD (10 * (a.toNat - 48) + (b.toNat - 48)) := by
  obtain ⟨l1, u1⟩ := dgB_is h1
  obtain ⟨l2, u2⟩ := dgB_is h2
  have ha : a.toNat ≠ 48 := fun e => h0 (UInt8.toNat_inj.1 e)
  rw [decD, if_neg (by omega), if_pos (by omega), u8_back a _ (by omega), u8_back b _ (by omega)]
theorem dig3 (a b c : UInt8) (h1 : dgB a = true) (h2 : dgB b = true) (h3 : dgB c = true) (h0 : a ≠ 48) : [a, b, c] = decD (10 * (10 * (a.toNat - 48) + (b.toNat - 48)) + (c.toNat - 48)) := by
  obtain ⟨l1, u1⟩ := dgB_is h1
  obtain ⟨l2, u2⟩ := dgB_is h2
  obtain ⟨l3, u3⟩ := dgB_is h3
  have ha : a.toNat ≠ 48 := fun e => h0 (UInt8.toNat_inj.1 e)
  obtain ⟨N, hN⟩ : ∃ N, N = 10 * (10 * (a.toNat - 48) + (b.toNat - 48)) + (c.toNat - 48) := ⟨_, rfl⟩
  rw [← hN]
  have e1 : UInt8.ofNat (48 + N / 100) = a := u8_back a _ (by omega)
  have e2 : UInt8.ofNat (48 + N / 10 % 10) = b := u8_back b _ (by omega)
  have e3 : UInt8.ofNat (48 + N % 10) = c := u8_back c _ (by omega)
  have n1 : ¬ N < 10 := by omega
  have n2 : ¬ N < 100 := by omega
  unfold decD
  rw [if_neg n1, if_neg n2, e1, e2, e3]
theorem dNum_to (s : List UInt8) (h1 : s ≠ []) (h2 : s.length ≤ 3) (h3 : s.all dgB = true) (h5 : s.head? ≠ some 48 ∨ s = [48]) : s = decD (decV 0 s) := by
  match s with
  | [] => exact absurd rfl h1
  | [a] =>
    have := dig1 a (by simpa using h3)
    show _ = decD (10 * 0 + (a.toNat - 48))
    rw [Nat.mul_zero, Nat.zero_add]
    exact this
  | [a, b] =>
    simp only [List.all_cons, List.all_nil, Bool.and_eq_true, Bool.and_true] at h3
    have := dig2 a b h3.1 h3.2 (fun e => by rcases h5 with h5 | h5 <;> simp [e] at h5)
    show _ = decD (10 * (10 * 0 + (a.toNat - 48)) + (b.toNat - 48))
    rw [Nat.mul_zero, Nat.zero_add]
    exact this
  | [a, b, c] =>
    simp only [List.all_cons, List.all_nil, Bool.and_eq_true, Bool.and_true] at h3
    have := dig3 a b c h3.1 h3.2.1 h3.2.2 (fun e => by rcases h5 with h5 | h5 <;> simp [e] at h5)
    show _ = decD (10 * (10 * (10 * 0 + (a.toNat - 48)) + (b.toNat - 48)) + (c.toNat - 48))
    rw [Nat.mul_zero, Nat.zero_add]
    exact this
  | a :: b :: c :: d :: r =>
    simp only [List.length_cons] at h2
    omega
theorem dNum_iff (s : List UInt8) (n : Nat) : dNum s = some n ↔ s = decD n ∧ n < 256 := by
  constructor
  · intro h
    unfold dNum at h
    by_cases hc : s ≠ [] ∧ s.length ≤ 3 ∧ s.all dgB = true ∧ decV 0 s ≤ 255 ∧ (s.head? ≠ some 48 ∨ s = [48])
    · rw [if_pos hc] at h
      obtain ⟨h1, h2, h3, h4, h5⟩ := hc
      injection h with h
      rw [← h]
      exact ⟨dNum_to s h1 h2 h3 h5, by omega⟩
    · rw [if_neg hc] at h
      cases h
  · rintro ⟨rfl, h⟩
    exact dNum_dec ⟨n, h⟩
/-- The address of the fourth kind that a text is. -/
def whole4 (s : List UInt8) : Option (List Nat) := match splitB 46 s with
  | [p, q, r, t] => match dNum p, dNum q, dNum r, dNum t with
    | some a, some b, some c, some d => some [a, b, c, d]
    | _, _, _, _ => none
  | _ => none
theorem whole4_is {s : List UInt8} {x : List Nat} (h : whole4 s = some x) : ∃ a b c d, x = [a, b, c, d] ∧ a < 256 ∧ b < 256 ∧ c < 256 ∧ d < 256 ∧ s = print4 x := by
  have hj := joinL_splitB 46 s
  unfold whole4 at h
  split at h
  · rename_i p q r t hs
    rw [hs] at hj
    split at h
    · rename_i a b c d e1 e2 e3 e4
      injection h with h
      subst h
      obtain ⟨p1, l1⟩ := (dNum_iff _ _).1 e1
      obtain ⟨p2, l2⟩ := (dNum_iff _ _).1 e2
      obtain ⟨p3, l3⟩ := (dNum_iff _ _).1 e3
      obtain ⟨p4, l4⟩ := (dNum_iff _ _).1 e4
      refine ⟨a, b, c, d, rfl, l1, l2, l3, l4, ?_⟩
      rw [← hj, p1, p2, p3, p4]
      rfl
    · cases h
  · cases h
def longGo (B : List UInt8 → Bool) (s : List UInt8) : Nat → Nat
  | 0 => 0
  | n + 1 => if B (s.take (n + 1)) = true then n + 1 else longGo B s n
def longest (B : List UInt8 → Bool) (s : List UInt8) : Nat := longGo B s (min s.length 46)

end Go.Proofs.YthkoionigdnhgabGreatDoor
/-
  The document's addresses of the sixth kind, in plain mathematics: what is a whole one is what V6 reads.
-/
namespace Go.Proofs.YthkoionigdnhgabGreatDoor

/-- A group's two bytes. -/
def dGrp (p : List UInt8) : Option (List Nat) := if 1 ≤ p.length ∧ p.length ≤ 4 ∧ p.all hxB = true then some [hexN 0 p / 256, hexN 0 p % 256] else none
def dGrps (last : Bool) : List (List UInt8) → Option (List Nat)
  | [] => some []
  | [p] => if last = true then (match whole4 p with | some v => some v | none => dGrp p) else dGrp p
  | p :: q :: r => match dGrp p with
    | none => none
    | some b => (dGrps last (q :: r)).map (b ++ ·)
def groupsD (s : List UInt8) (last : Bool) : Option (List Nat) := if s = [] then some [] else dGrps last (splitB 58 s)
def cut2 : List UInt8 → Option (List UInt8 × List UInt8)
  | [] => none
  | [_] => none
  | c :: d :: r => if c = 58 ∧ d = 58 then some ([], r) else (cut2 (d :: r)).map fun x => (c :: x.1, x.2)
theorem dGrp_some {p : List UInt8} {b : List Nat} (h : dGrp p = some b) : 1 ≤ p.length ∧ p.length ≤ 4 ∧ (∀ c ∈ p, hxB c = true) ∧ b = [hexN 0 p / 256, hexN 0 p % 256] := by
  unfold dGrp at h
  split at h
  · rename_i hc
    injection h with h
    exact ⟨hc.1, hc.2.1, List.all_eq_true.1 hc.2.2, h.symm⟩
  · cases h
theorem dGrps_cons (last : Bool) (p : List UInt8) (L : List (List UInt8)) (hL : L ≠ []) : dGrps last (p :: L) = match dGrp p with
    | none => none
    | some b => (dGrps last L).map (b ++ ·) := by
  cases L with
  | nil => exact absurd rfl hL
  | cons q r => rw [dGrps]
theorem whole4_len {p : List UInt8} {v : List Nat} (h : whole4 p = some v) : v.length = 4 := by
  obtain ⟨a, b, c, d, rfl, _⟩ := whole4_is h
  rfl
theorem dGrps_len (last : Bool) : ∀ (L : List (List UInt8)) (b : List Nat), L ≠ [] → dGrps last L = some b → 2 ≤ b.length
  | [], _, h, _ => absurd rfl h
  | [p], b, _, h => by
    rw [dGrps] at h
    have key : dGrp p = some b → 2 ≤ b.length := fun h => by
      rw [(dGrp_some h).2.2.2]
      simp
    split at h
    · split at h
      · rename_i v hv
        injection h with h
        subst h
        rw [whole4_len hv]
        decide
      · exact key h
    · exact key h
  | p :: q :: r, b, _, h => by
    rw [dGrps] at h
    cases hp : dGrp p with
    | none => rw [hp] at h; cases h
    | some b1 =>
      rw [hp] at h
      cases hr : dGrps last (q :: r) with
      | none => rw [hr] at h; cases h
      | some b2 =>
        rw [hr] at h
        have e : b = b1 ++ b2 := by
          have : some (b1 ++ b2) = some b := h
          injection this with this
          exact this.symm
        have := (dGrp_some hp).2.2.2
        rw [e, this]
        simp
        
theorem cut2_none : ∀ p : List UInt8, (∀ c ∈ p, c ≠ 58) → cut2 p = none
  | [], _ => rfl
  | [_], _ => rfl
  | c :: d :: r, h => by
    rw [cut2, if_neg (fun e => h c (by simp) e.1), cut2_none (d :: r) fun x hx => h x (by simp [hx])]
    rfl
theorem cut2_dd : ∀ (p r : List UInt8), (∀ c ∈ p, c ≠ 58) → cut2 (p ++ 58 :: 58 :: r) = some (p, r)
  | [], r, _ => by rw [List.nil_append, cut2, if_pos ⟨rfl, rfl⟩]
  | [c], r, h => by
    have hc := h c (by simp)
    show cut2 (c :: 58 :: 58 :: r) = _
    rw [cut2, if_neg (fun e => hc e.1), cut2, if_pos ⟨rfl, rfl⟩]
    rfl
  | c :: d :: p, r, h => by
    have hc := h c (by simp)
    have ih := cut2_dd (d :: p) r fun x hx => h x (by simp [hx])
    show cut2 (c :: d :: (p ++ 58 :: 58 :: r)) = _
    rw [cut2, if_neg (fun e => hc e.1)]
    have e : d :: (p ++ 58 :: 58 :: r) = d :: p ++ 58 :: 58 :: r := rfl
    rw [e, ih]
    rfl
theorem cut2_one : ∀ (p r : List UInt8), (∀ c ∈ p, c ≠ 58) → r.head? ≠ some 58 → cut2 (p ++ 58 :: r) = (cut2 r).map fun x => (p ++ 58 :: x.1, x.2)
  | [], [], _, _ => rfl
  | [], c :: r, _, h => by
    rw [List.nil_append, cut2, if_neg (fun e => h (by rw [e.2]; rfl))]
    rfl
  | [c], r, h, hr => by
    have hc := h c (by simp)
    have ih := cut2_one [] r (fun x hx => by cases hx) hr
    show cut2 (c :: 58 :: r) = _
    rw [cut2, if_neg (fun e => hc e.1)]
    rw [List.nil_append] at ih
    rw [ih]
    cases cut2 r <;> rfl
  | c :: d :: p, r, h, hr => by
    have hc := h c (by simp)
    have ih := cut2_one (d :: p) r (fun x hx => h x (by simp [hx])) hr
    show cut2 (c :: d :: (p ++ 58 :: r)) = _
    rw [cut2, if_neg (fun e => hc e.1)]
    have e : d :: (p ++ 58 :: r) = d :: p ++ 58 :: r := rfl
    rw [e, ih]
    cases cut2 r <;> rfl
theorem twoB_appendP : ∀ x y : List Nat, twoB (x ++ y) = twoB x ++ twoB y
  | [], y => rfl
  | n :: x, y => by rw [List.cons_append, twoB, twoB, twoB_appendP x y]; rfl
end Go.Proofs.YthkoionigdnhgabGreatDoor
