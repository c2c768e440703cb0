/-
  The items are those of the stretches between the line ends, in plain words.
-/
import Derived.Test.YthjcjecimidedaaRnP
namespace Go.Proofs.Ythjcjecimidedaa

theorem rn_no {m : Nat} {s : List UInt8} {c : UInt8} (h : (hfB s && c == 10) = false) : rn m s [c] = ([], s ++ [c]) := by
  rw [rn_cons, if_neg (by simp [h])]
  rfl
theorem rn_end {m : Nat} {s : List UInt8} {c : UInt8} (h : (hfB s && c == 10) = true) : rn m s [c] = ([⟨lineOf m (bdy s), s.length + 1⟩], []) := by
  rw [rn_cons, if_pos h]
  rfl
/-- Up to place P, no line has ended since place fr, and k items were told. -/
structure Wh (m : Nat) (b : List UInt8) (k fr P : Nat) : Prop where
  le : fr ≤ P
  ub : P ≤ b.length
  rn : rn m [] (b.take P) = ((rn m [] b).1.take k, (b.take P).drop fr)
  kl : k ≤ (Go.Proofs.Ythjcjecimidedaa.rn m [] b).1.length
  nx : ∀ h : P < b.length, (hfB ((b.take P).drop fr) && b[P] == 10) = false
theorem Wh.start (m : Nat) (b : List UInt8) : Wh m b 0 0 0 := ⟨Nat.le_refl _, Nat.zero_le _, by simp [Go.Proofs.Ythjcjecimidedaa.rn], Nat.zero_le _, fun h => rfl⟩
theorem take_drop_snoc (b : List UInt8) (fr P : Nat) (h : P < b.length) (hf : fr ≤ P) : (b.take (P + 1)).drop fr = (b.take P).drop fr ++ [b[P]] := by
  rw [List.take_succ_eq_append_getElem h, List.drop_append_of_le_length (by rw [List.length_take]; omega)]
theorem Wh.go {m : Nat} {b : List UInt8} {k fr P : Nat} (h : Wh m b k fr P) (hP : P < b.length) : Go.Proofs.Ythjcjecimidedaa.rn m [] (b.take (P + 1)) = ((Go.Proofs.Ythjcjecimidedaa.rn m [] b).1.take k, (b.take (P + 1)).drop fr) := by
  rw [take_drop_snoc b fr P hP h.le, List.take_succ_eq_append_getElem hP, rn_append, h.rn]
  simp only
  rw [rn_no (h.nx hP)]
  simp
theorem Wh.step {m : Nat} {b : List UInt8} {k fr i : Nat} (h : Wh m b k fr i) (hi : i + 1 < b.length) (hno : ¬ (b[i] = 13 ∧ b[i + 1] = 10)) : Wh m b k fr (i + 1) := by
  refine ⟨by have := h.le; omega, by omega, h.go (by omega), h.kl, fun h2 => ?_⟩
  rw [take_drop_snoc b fr i (by omega) h.le, hfB_snoc]
  by_cases h3 : b[i] = 13
  · have : ¬ b[i + 1] = 10 := fun e => hno ⟨h3, e⟩
    simp [this]
  · simp [h3]
theorem list_at {X : List Td} {k : Nat} {t : Td} {R : List Td} (hk : k ≤ X.length) (h : X = X.take k ++ t :: R) : ∃ h2 : k < X.length, X[k] = t := by
  have h1 : X[k]? = some t := by
    rw [h, List.getElem?_append_right (by rw [List.length_take]; omega), List.length_take, Nat.min_eq_left hk, Nat.sub_self]
    rfl
  obtain ⟨h2, h3⟩ := List.getElem?_eq_some_iff.1 h1
  exact ⟨h2, h3⟩
theorem Wh.hit {m : Nat} {b : List UInt8} {k fr i : Nat} (h : Wh m b k fr i) (hi : i + 1 < b.length) (h13 : b[i] = 13) (h10 : b[i + 1] = 10) :
    (∃ hk : k < (Go.Proofs.Ythjcjecimidedaa.rn m [] b).1.length, (Go.Proofs.Ythjcjecimidedaa.rn m [] b).1[k] = ⟨lineOf m ((b.take i).drop fr), (i - fr) + 2⟩) ∧ Wh m b (k + 1) (i + 2) (i + 2) := by
  have h1 := h.go (by omega)
  have hs : (b.take (i + 1)).drop fr = (b.take i).drop fr ++ [13] := by rw [take_drop_snoc b fr i (by omega) h.le, h13]
  have hln : ((b.take i).drop fr).length = i - fr := by rw [List.length_drop, List.length_take]; omega
  have h2 : Go.Proofs.Ythjcjecimidedaa.rn m [] (b.take (i + 2)) = ((Go.Proofs.Ythjcjecimidedaa.rn m [] b).1.take k ++ [⟨lineOf m ((b.take i).drop fr), (i - fr) + 2⟩], []) := by
    rw [List.take_succ_eq_append_getElem hi, rn_append, h1]
    simp only
    rw [h10, hs, rn_end (by rw [hfB_snoc]; decide), bdy_snoc, List.length_append, hln]
    rfl
  have e := rn_append m (b.take (i + 2)) [] (b.drop (i + 2))
  rw [List.take_append_drop, h2] at e
  have h3 := congrArg Prod.fst e
  simp only [List.append_assoc, List.singleton_append] at h3
  obtain ⟨hk, hx⟩ := list_at h.kl h3
  have hd : (b.take (i + 2)).drop (i + 2) = [] := List.drop_eq_nil_of_le (by rw [List.length_take]; omega)
  refine ⟨⟨hk, hx⟩, Nat.le_refl _, by omega, ?_, hk, fun h4 => ?_⟩
  · rw [h2, List.take_succ_eq_append_getElem hk, hx, hd]
  · rw [hd]
    rfl
theorem Wh.fin {m : Nat} {b : List UInt8} {k fr P : Nat} (h : Wh m b k fr P) (hP : b.length ≤ P + 1) : k = (Go.Proofs.Ythjcjecimidedaa.rn m [] b).1.length ∧ (Go.Proofs.Ythjcjecimidedaa.rn m [] b).2.length = b.length - fr := by
  have hr : Go.Proofs.Ythjcjecimidedaa.rn m [] b = ((Go.Proofs.Ythjcjecimidedaa.rn m [] b).1.take k, b.drop fr) := by
    by_cases h2 : P < b.length
    · have := h.go h2
      rw [List.take_of_length_le hP] at this
      exact this
    · have := h.rn
      rw [List.take_of_length_le (by omega)] at this
      exact this
  have h1 := congrArg (fun x => x.1.length) hr
  have h2 := congrArg (fun x => x.2.length) hr
  simp only [List.length_take, List.length_drop] at h1 h2
  have := h.kl
  exact ⟨by omega, h2⟩
/-- What a line's item is. -/
theorem item_bare {m : Nat} {s : List UInt8} (h : bareB s = true) : lineOf m s = .bad 130 := by
  unfold lineOf
  rw [why_bare h]
  rfl
theorem item_long {m : Nat} {s : List UInt8} (h : bareB s = false) (hl : m < s.length) : lineOf m s = .bad 131 := by
  unfold lineOf whyI
  simp [h, hl]
theorem item_line {m : Nat} {s : List UInt8} (h : bareB s = false) (hl : ¬ m < s.length) : lineOf m s = .line s := by
  unfold lineOf whyI
  simp [h, hl]
theorem bare_take (s : List UInt8) (j : Nat) (h : j < s.length) : bareB (s.take (j + 1)) = (bareB (s.take j) || (s[j] == 13 || s[j] == 10)) := by
  rw [List.take_succ_eq_append_getElem h, bare_snoc]
end Go.Proofs.Ythjcjecimidedaa
