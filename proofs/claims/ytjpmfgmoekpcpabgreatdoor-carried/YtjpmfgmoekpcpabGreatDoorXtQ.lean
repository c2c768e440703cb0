/-
  Xtext there and back: no Go in sight.
-/
import Derived.Test.YtjpmfgmoekpcpabGreatDoorXtP
namespace Go.Proofs.YtjpmfgmoekpcpabGreatDoor

theorem x_fin {P : UInt8 → Prop} (h : ∀ b : Fin 256, P (UInt8.ofNat b.val)) (c : UInt8) : P c := by
  have := h ⟨c.toNat, c.toNat_lt⟩
  simpa using this
theorem xch_fin : ∀ b : Fin 256, xch (UInt8.ofNat b.val) = true → UInt8.ofNat b.val ≠ 43 := by decide +kernel
theorem xch_ne (c : UInt8) (h : xch c = true) : c ≠ 43 := x_fin (P := fun c => xch c = true → c ≠ 43) xch_fin c h
theorem xdg_fin : ∀ n : Fin 16, xdg (hexD n.val) = true := by decide +kernel
theorem xpair_fin : ∀ b : Fin 256, xpair (hexD ((UInt8.ofNat b.val).toNat / 16)) (hexD ((UInt8.ofNat b.val).toNat % 16)) = UInt8.ofNat b.val := by decide +kernel
theorem xpair_hex (c : UInt8) : xpair (hexD (c.toNat / 16)) (hexD (c.toNat % 16)) = c := x_fin (P := fun c => xpair (hexD (c.toNat / 16)) (hexD (c.toNat % 16)) = c) xpair_fin c
theorem unx_three (d e : UInt8) (t : List UInt8) (h1 : xdg d = true) (h2 : xdg e = true) : unx (43 :: d :: e :: t) = (unx t).on 3 [xpair d e] := by
  rw [unx, if_pos rfl, if_pos h1, if_pos h2]
theorem unx_xt1 (c : UInt8) (t : List UInt8) : unx (xt1 c ++ t) = (unx t).on (xt1 c).length [c] := by
  cases h : xch c with
  | true =>
    rw [xt1_yes h]
    show unx (c :: t) = _
    rw [unx_cons _ _ (xch_ne c h), if_pos h]
    rfl
  | false =>
    rw [xt1_no h]
    have hc := c.toNat_lt
    show unx (43 :: hexD (c.toNat / 16) :: hexD (c.toNat % 16) :: t) = _
    rw [unx_three _ _ _ (xdg_fin ⟨c.toNat / 16, by omega⟩) (xdg_fin ⟨c.toNat % 16, by omega⟩), xpair_hex]
    rfl
/-- What is written is read as it was. -/
theorem unx_xtL : ∀ l : List UInt8, unx (xtL l) = .ok l
  | [] => by rw [xtL, unx]
  | c :: r => by rw [xtL, unx_xt1, unx_xtL r]; rfl
theorem hexD_fin : ∀ n : Fin 16, xch (hexD n.val) = true := by decide +kernel
theorem xtL_signs : ∀ (l : List UInt8) (c : UInt8), c ∈ xtL l → c = 43 ∨ xch c = true
  | [], c, h => by simp [xtL] at h
  | b :: r, c, h => by
    rw [xtL, List.mem_append] at h
    rcases h with h | h
    · have hb := b.toNat_lt
      cases hx : xch b with
      | true => rw [xt1_yes hx] at h; simp at h; subst h; exact .inr hx
      | false =>
        rw [xt1_no hx] at h
        simp only [List.mem_cons, List.not_mem_nil, or_false] at h
        rcases h with h | h | h
        · exact .inl h
        · rw [h]; exact .inr (hexD_fin ⟨b.toNat / 16, by omega⟩)
        · rw [h]; exact .inr (hexD_fin ⟨b.toNat % 16, by omega⟩)
    · exact xtL_signs r c h
/-- What is read can be written no longer than it was. -/
theorem unx_short : ∀ (n : Nat) (l : List UInt8), l.length ≤ n → ∀ u, unx l = .ok u → (xtL u).length ≤ l.length
  | 0, [], _, u, h => by rw [unx] at h; injection h with h; subst h; simp [xtL]
  | n + 1, [], _, u, h => by rw [unx] at h; injection h with h; subst h; simp [xtL]
  | n + 1, c :: r, hn, u, h => by
    by_cases h1 : c = 43
    · match r, hn, h with
      | [], _, h => rw [unx, if_pos h1] at h; cases h
      | [d], _, h => rw [unx, if_pos h1] at h; split at h <;> cases h
      | d :: e :: t, hn, h =>
        rw [unx, if_pos h1] at h
        split at h
        · split at h
          · rcases ht : unx t with p | v
            · rw [ht] at h; cases h
            · rw [ht] at h
              simp only [Ux.on] at h
              injection h with h
              have := unx_short n t (by simp at hn; omega) v ht
              have := xt1_le (xpair d e)
              subst h
              simp only [List.singleton_append, xtL, List.length_append, List.length_cons]; omega
          · cases h
        · cases h
    · rw [unx_cons _ _ h1] at h
      split at h
      · rename_i hx
        rcases ht : unx r with p | v
        · rw [ht] at h; cases h
        · rw [ht] at h
          simp only [Ux.on] at h
          injection h with h
          have := unx_short n r (by simp at hn; omega) v ht
          subst h
          rw [List.singleton_append, xtL, xt1_yes hx]
          simp only [List.length_append, List.length_cons, List.length_nil]; omega
      · cases h
theorem unx_bad : ∀ (n : Nat) (l : List UInt8), l.length ≤ n → ∀ p, unx l = .bad p → p ≤ l.length
  | 0, [], _, p, h => by rw [unx] at h; cases h
  | n + 1, [], _, p, h => by rw [unx] at h; cases h
  | n + 1, c :: r, hn, p, h => by
    by_cases h1 : c = 43
    · match r, hn, h with
      | [], _, h => rw [unx, if_pos h1] at h; injection h with h; subst h; simp
      | [d], _, h => rw [unx, if_pos h1] at h; split at h <;> injection h with h <;> subst h <;> simp
      | d :: e :: t, hn, h =>
        rw [unx, if_pos h1] at h
        split at h
        · split at h
          · rcases ht : unx t with q | v
            · rw [ht] at h
              simp only [Ux.on] at h
              injection h with h
              have := unx_bad n t (by simp at hn; omega) q ht
              subst h
              simp only [List.length_cons]; omega
            · rw [ht] at h; cases h
          · injection h with h; subst h; simp
        · injection h with h; subst h; simp
    · rw [unx_cons _ _ h1] at h
      split at h
      · rcases ht : unx r with q | v
        · rw [ht] at h
          simp only [Ux.on] at h
          injection h with h
          have := unx_bad n r (by simp at hn; omega) q ht
          subst h
          simp only [List.length_cons]; omega
        · rw [ht] at h; cases h
      · injection h with h; subst h; simp
theorem unx_four (l : List UInt8) : unx (97 :: 43 :: 48 :: 48 :: l) = (unx l).on 4 [97, 0] := by
  rw [unx_cons 97 _ (by decide), if_pos (by decide +kernel), unx_three 48 48 l (by decide +kernel) (by decide +kernel), Ux.on_on]
  rfl
end Go.Proofs.YtjpmfgmoekpcpabGreatDoor
