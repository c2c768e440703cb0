/-
  The plain mathematics of xtext: no Go in sight.
-/
import Derived.Test.YtjpmfgmoekpcpabGreatDoorUnhex4
namespace Go.Proofs.YtjpmfgmoekpcpabGreatDoor

/-- A byte that stands for itself. -/
def xch (c : UInt8) : Bool := isB 9 (c.toNat : Int)
/-- What is written for a byte. -/
def xt1 (c : UInt8) : List UInt8 := if xch c then [c] else [43, hexD (c.toNat / 16), hexD (c.toNat % 16)]
def xtL : List UInt8 → List UInt8
  | [] => []
  | c :: r => xt1 c ++ xtL r
theorem xtL_append (r : List UInt8) : ∀ l : List UInt8, xtL (l ++ r) = xtL l ++ xtL r
  | [] => rfl
  | c :: l => by rw [List.cons_append, xtL, xtL, xtL_append r l, List.append_assoc]
theorem xtL_take (l : List UInt8) (k : Nat) (h : k < l.length) : xtL (l.take (k + 1)) = xtL (l.take k) ++ xt1 l[k] := by
  rw [List.take_succ_eq_append_getElem h, xtL_append]
  simp [xtL]
theorem xt1_yes {c : UInt8} (h : xch c = true) : xt1 c = [c] := by unfold xt1; rw [if_pos h]
theorem xt1_no {c : UInt8} (h : xch c = false) : xt1 c = [43, hexD (c.toNat / 16), hexD (c.toNat % 16)] := by unfold xt1; rw [if_neg (by simp [h])]
theorem xt1_le (c : UInt8) : (xt1 c).length ≤ 3 := by unfold xt1; split <;> simp
theorem xt1_ge (c : UInt8) : 1 ≤ (xt1 c).length := by unfold xt1; split <;> simp
theorem xtL_le : ∀ l : List UInt8, (xtL l).length ≤ 3 * l.length
  | [] => by simp [xtL]
  | c :: r => by have := xtL_le r; have := xt1_le c; simp only [xtL, List.length_append, List.length_cons]; omega
theorem xtL_ge : ∀ l : List UInt8, l.length ≤ (xtL l).length
  | [] => by simp
  | c :: r => by have := xtL_ge r; have := xt1_ge c; simp only [xtL, List.length_append, List.length_cons]; omega
def xtS (s : ByteArray) : ByteArray := ⟨(xtL s.data.toList).toArray⟩

/-- A digit of xtext. -/
def xdg (c : UInt8) : Bool := isB 4 (c.toNat : Int) && decide (c.toNat ≤ 70)
theorem xdg_hex {c : UInt8} (h : xdg c = true) : isB 4 (c.toNat : Int) = true := by unfold xdg at h; simp at h; exact h.1

/-- What is read: a place, or bytes. -/
inductive Ux where
  | bad (p : Nat)
  | ok (l : List UInt8)
/-- The same, k bytes further on, behind bytes that were read. -/
def Ux.on (k : Nat) (u : List UInt8) : Ux → Ux
  | .bad p => .bad (k + p)
  | .ok l => .ok (u ++ l)
theorem Ux.on_on (k m : Nat) (u v : List UInt8) (x : Ux) : (x.on m v).on k u = x.on (k + m) (u ++ v) := by
  cases x <;> simp [Ux.on, Nat.add_assoc]
theorem Ux.on_zero (x : Ux) : x.on 0 [] = x := by cases x <;> simp [Ux.on]
def xpair (d e : UInt8) : UInt8 := UInt8.ofNat (hexV d.toNat * 16 + hexV e.toNat)
def unx : List UInt8 → Ux
  | [] => .ok []
  | c :: r =>
    if c = 43 then
      match r with
      | [] => .bad 1
      | [d] => if xdg d then .bad 2 else .bad 1
      | d :: e :: t => if xdg d then (if xdg e then (unx t).on 3 [xpair d e] else .bad 2) else .bad 1
    else if xch c then (unx r).on 1 [c] else .bad 0

theorem unx_cons (c : UInt8) (r : List UInt8) (h : c ≠ 43) : unx (c :: r) = if xch c then (unx r).on 1 [c] else .bad 0 := by
  rw [unx.eq_def]
  simp [h]
theorem unx_end (l : List UInt8) (k : Nat) (h : l.length ≤ k) : unx (l.drop k) = .ok [] := by
  rw [List.drop_eq_nil_of_le h, unx]
theorem unx_ch (l : List UInt8) (k : Nat) (h : k < l.length) (h1 : l[k] ≠ 43) (h2 : xch l[k] = true) : unx (l.drop k) = (unx (l.drop (k + 1))).on 1 [l[k]] := by
  rw [List.drop_eq_getElem_cons h, unx_cons _ _ h1, if_pos h2]
theorem unx_no (l : List UInt8) (k : Nat) (h : k < l.length) (h1 : l[k] ≠ 43) (h2 : xch l[k] = false) : unx (l.drop k) = .bad 0 := by
  rw [List.drop_eq_getElem_cons h, unx_cons _ _ h1, if_neg (by simp [h2])]
theorem unx_p0 (l : List UInt8) (k : Nat) (h : k < l.length) (h1 : l[k] = 43) (h2 : l.length ≤ k + 1) : unx (l.drop k) = .bad 1 := by
  rw [List.drop_eq_getElem_cons h, List.drop_eq_nil_of_le h2, unx, if_pos h1]
theorem unx_p1 (l : List UInt8) (k : Nat) (h : k + 1 < l.length) (h1 : l[k] = 43) (h2 : xdg l[k + 1] = false) : unx (l.drop k) = .bad 1 := by
  rw [List.drop_eq_getElem_cons (by omega), List.drop_eq_getElem_cons h]
  rcases hd : l.drop (k + 1 + 1) with _ | ⟨e, t⟩
  · rw [unx, if_pos h1]; simp [h2]
  · rw [unx, if_pos h1]; simp [h2]
theorem unx_p2 (l : List UInt8) (k : Nat) (h : k + 1 < l.length) (h1 : l[k] = 43) (h2 : xdg l[k + 1] = true) (h3 : l.length ≤ k + 2) : unx (l.drop k) = .bad 2 := by
  rw [List.drop_eq_getElem_cons (by omega), List.drop_eq_getElem_cons h, List.drop_eq_nil_of_le h3, unx, if_pos h1]
  simp [h2]
theorem unx_p3 (l : List UInt8) (k : Nat) (h : k + 2 < l.length) (h1 : l[k] = 43) (h2 : xdg l[k + 1] = true) (h3 : xdg l[k + 2] = false) : unx (l.drop k) = .bad 2 := by
  rw [List.drop_eq_getElem_cons (by omega), List.drop_eq_getElem_cons (by omega), List.drop_eq_getElem_cons h, unx, if_pos h1]
  simp [h2, h3]
theorem unx_p4 (l : List UInt8) (k : Nat) (h : k + 2 < l.length) (h1 : l[k] = 43) (h2 : xdg l[k + 1] = true) (h3 : xdg l[k + 2] = true) : unx (l.drop k) = (unx (l.drop (k + 3))).on 3 [xpair l[k + 1] l[k + 2]] := by
  rw [List.drop_eq_getElem_cons (by omega), List.drop_eq_getElem_cons (by omega), List.drop_eq_getElem_cons h, unx, if_pos h1]
  simp [h2, h3]

/-- How many digits stand behind a place, at most two. -/
def xdn (l : List UInt8) (k : Nat) : Nat :=
  if h : k < l.length then (if xdg l[k] then (if h : k + 1 < l.length then (if xdg l[k + 1] then 2 else 1) else 1) else 0) else 0
theorem xdn_le (l : List UInt8) (k : Nat) : xdn l k ≤ 2 := by
  unfold xdn
  split
  · split
    · split
      · split <;> omega
      · omega
    · omega
  · omega
theorem xdn_room (l : List UInt8) (k : Nat) (hk : k ≤ l.length) : k + xdn l k ≤ l.length := by
  unfold xdn
  split
  · split
    · split
      · split <;> omega
      · omega
    · omega
  · omega
/-- What is read at a + whose digits are too few. -/
theorem unx_few (l : List UInt8) (k : Nat) (h : k < l.length) (h1 : l[k] = 43) (h2 : xdn l (k + 1) < 2) : unx (l.drop k) = .bad (1 + xdn l (k + 1)) := by
  unfold xdn at h2 ⊢
  by_cases a : k + 1 < l.length
  · rw [dif_pos a] at h2 ⊢
    by_cases b : xdg l[k + 1] = true
    · rw [if_pos b] at h2 ⊢
      by_cases c : k + 1 + 1 < l.length
      · rw [dif_pos c] at h2 ⊢
        by_cases d : xdg l[k + 1 + 1] = true
        · rw [if_pos d] at h2; omega
        · rw [if_neg d]; exact unx_p3 l k c h1 b (by simpa using d)
      · rw [dif_neg c]; exact unx_p2 l k a h1 b (by omega)
    · rw [if_neg b]; exact unx_p1 l k a h1 (by simpa using b)
  · rw [dif_neg a]; exact unx_p0 l k h h1 (by omega)
theorem xdn_two (l : List UInt8) (k : Nat) (h2 : ¬ xdn l k < 2) : ∃ (a : k + 1 < l.length), xdg l[k] = true ∧ xdg l[k + 1] = true := by
  unfold xdn at h2
  by_cases a : k < l.length
  · rw [dif_pos a] at h2
    by_cases b : xdg l[k] = true
    · rw [if_pos b] at h2
      by_cases c : k + 1 < l.length
      · rw [dif_pos c] at h2
        by_cases d : xdg l[k + 1] = true
        · exact ⟨c, b, d⟩
        · rw [if_neg d] at h2; omega
      · rw [dif_neg c] at h2; omega
    · rw [if_neg b] at h2; omega
  · rw [dif_neg a] at h2; omega
/-- Both digits, and what they say. -/
theorem unx_two (l : List UInt8) (k : Nat) (h : k < l.length) (h1 : l[k] = 43) (h2 : ¬ xdn l (k + 1) < 2) :
    unx (l.drop k) = (unx (l.drop (k + 3))).on 3 (unL ((l.drop (k + 1)).take 2)) ∧ hexOk ((l.drop (k + 1)).take 2) ∧ ((l.drop (k + 1)).take 2).length = 2 := by
  obtain ⟨a, b, c⟩ := xdn_two l (k + 1) h2
  have e : (l.drop (k + 1)).take 2 = [l[k + 1], l[k + 1 + 1]] := by
    rw [List.drop_eq_getElem_cons (by omega), List.drop_eq_getElem_cons a]
    rfl
  rw [e]
  refine ⟨?_, ?_, rfl⟩
  · rw [unx_p4 l k a h1 b c]
    rfl
  · unfold hexOk
    have b' := xdg_hex b
    have c' := xdg_hex c
    simp [badN, b', c']
/-- The bytes that are told take no more room. -/
theorem unx_len : ∀ (n : Nat) (l : List UInt8), l.length ≤ n → ∀ u, unx l = .ok u → u.length ≤ l.length
  | 0, [], _, u, h => by rw [unx] at h; injection h with h; subst h; simp
  | n + 1, [], _, u, h => by rw [unx] at h; injection h with h; subst h; simp
  | n + 1, c :: r, hn, u, h => by
    by_cases h1 : c = 43
    · match r, hn, h with
      | [], _, h => rw [unx, if_pos h1] at h; cases h
      | [d], _, h => rw [unx, if_pos h1] at h; split at h <;> cases h
      | d :: e :: t, hn, h =>
        rw [unx, if_pos h1] at h
        split at h
        · split at h
          · rcases ht : unx t with p | v
            · rw [ht] at h; cases h
            · rw [ht] at h
              simp only [Ux.on] at h
              injection h with h
              have := unx_len n t (by simp at hn; omega) v ht
              subst h
              simp; omega
          · cases h
        · cases h
    · rw [unx_cons _ _ h1] at h
      split at h
      · rcases ht : unx r with p | v
        · rw [ht] at h; cases h
        · rw [ht] at h
          simp only [Ux.on] at h
          injection h with h
          have := unx_len n r (by simp at hn; omega) v ht
          subst h
          simp; omega
      · cases h
end Go.Proofs.YtjpmfgmoekpcpabGreatDoor
