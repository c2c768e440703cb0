/-
  Punycode read backwards, as a recursion over the bytes: what both sides reckon.
-/
import Derived.Test.YtedgimkffkflbaaDoorWidP
import Derived.Test.YtedgimkffkflbaaDoorUtfP
namespace Go.Proofs.YtedgimkffkflbaaDoor

/-- What a byte says as a digit. -/
def wth (b : UInt8) : Option Nat :=
  if 48 ≤ b.toNat ∧ b.toNat ≤ 57 then some (b.toNat - 48 + 26)
  else if 97 ≤ b.toNat ∧ b.toNat ≤ 122 then some (b.toNat - 97)
  else if 65 ≤ b.toNat ∧ b.toNat ≤ 90 then some (b.toNat - 65)
  else none
theorem wth_lt {b : UInt8} {v : Nat} (h : wth b = some v) : v < 36 := by
  unfold wth at h
  split at h
  · injection h with h; omega
  · split at h
    · injection h with h; omega
    · split at h
      · injection h with h; omega
      · cases h
/-- A step is read: an error and its place, or the step and the place behind it. -/
def rdS (bias : Nat) : List UInt8 → Nat → Nat → Nat → Nat → (Nat × Nat) ⊕ (Nat × Nat)
  | [], _, at', _, _ => .inl (51, at')
  | b :: t, i, at', sum, wt => match wth b with
    | none => .inl (51, at')
    | some v =>
      if 2147483647 < sum + v * wt then .inl (52, at')
      else if v < bnd i bias then .inr (sum + v * wt, at' + 1)
      else rdS bias t (i + 1) (at' + 1) (sum + v * wt) (wt * (36 - bnd i bias))
theorem rdS_some {bias : Nat} : ∀ {l : List UInt8} {i at' sum wt s b : Nat}, rdS bias l i at' sum wt = .inr (s, b) → at' < b ∧ b ≤ at' + l.length ∧ s ≤ 2147483647
  | [], _, _, _, _, _, _, h => by simp [rdS] at h
  | c :: t, i, at', sum, wt, s, b, h => by
    unfold rdS at h
    split at h
    · cases h
    · rename_i v hv
      split at h
      · cases h
      · split at h
        · injection h with h
          injection h with h1 h2
          simp only [List.length_cons]
          omega
        · have := rdS_some h
          simp only [List.length_cons]
          omega
/-- The last mark ahead of a place; below 0: none. -/
def lastI (l : List UInt8) : Nat → Int
  | 0 => -1
  | k + 1 => if l[k]? = some 45 then k else lastI l k
theorem lastI_lt (l : List UInt8) : ∀ k, lastI l k < k ∧ -1 ≤ lastI l k
  | 0 => by simp [lastI]
  | k + 1 => by
    have := lastI_lt l k
    unfold lastI
    split <;> omega
/-- How many bytes stand ahead of the mark, and where the digits begin. -/
def mrkN (l : List UInt8) : Nat := if 0 < lastI l l.length then (lastI l l.length).toNat else 0
def mrkS (l : List UInt8) : Nat := if 0 < lastI l l.length then (lastI l l.length).toNat + 1 else 0
theorem mrkN_le (l : List UInt8) : mrkN l ≤ l.length := by
  have := lastI_lt l l.length
  unfold mrkN
  split <;> omega
theorem mrkS_le (l : List UInt8) : mrkS l ≤ l.length := by
  have := lastI_lt l l.length
  unfold mrkS
  split <;> omega
/-- The wide runes and their places, from a place on. -/
def unL (l : List UInt8) : Nat → Nat → Int → Nat → Nat → Nat → Bool → (Nat × Nat) ⊕ List (Int × Nat)
  | 0, _, _, _, _, _, _ => .inr []
  | fuel + 1, at', n, i, h, bias, first =>
    if l.length ≤ at' then .inr []
    else match rdS bias (l.drop at') 0 at' 0 1 with
      | .inl e => .inl e
      | .inr (s, b) =>
        if isR (n + ((i + s) / (h + 1) : Nat)) then
          match unL l fuel b (n + ((i + s) / (h + 1) : Nat)) ((i + s) % (h + 1) + 1) (h + 1) (biasB s (h + 1) first) false with
          | .inl e => .inl e
          | .inr ps => .inr ((n + ((i + s) / (h + 1) : Nat), (i + s) % (h + 1)) :: ps)
        else .inl (50, b - 1)
/-- The first byte that is not below 128. -/
def hiN : List UInt8 → Nat
  | [] => 0
  | b :: t => if b.toNat < 128 then hiN t + 1 else 0
theorem hiN_le (l : List UInt8) : hiN l ≤ l.length := by
  induction l with
  | nil => exact Nat.le_refl _
  | cons b t ih => simp only [hiN]; split <;> simp <;> omega
/-- Wide runes are put to their places, one behind the other. -/
def insAll (base : List Int) (ps : List (Int × Nat)) : List Int := ps.foldl (fun L x => L.insertIdx x.2 x.1) base
/-- Each place is within the list as it is by then. -/
def PsOk (h : Nat) : List (Int × Nat) → Prop
  | [] => True
  | x :: t => x.2 ≤ h ∧ 128 ≤ x.1 ∧ x.1 ≤ 1114111 ∧ PsOk (h + 1) t
def lowR (l : List UInt8) : List Int := l.map fun b => (b.toNat : Int)
/-- What Unpuny tells. -/
def unpD (l : List UInt8) : (Nat × Nat) ⊕ List (Int × Nat) := unL l l.length (mrkS l) 128 0 (mrkN l) 72 true
def unpT (l : List UInt8) : List Int := if hiN (l.take (mrkN l)) < mrkN l then [] else match unpD l with
  | .inl _ => []
  | .inr ps => insAll (lowR (l.take (mrkN l))) ps
def unpE (l : List UInt8) : Nat × Nat := if hiN (l.take (mrkN l)) < mrkN l then (51, hiN (l.take (mrkN l))) else match unpD l with
  | .inl e => e
  | .inr _ => (0, 0)
theorem unL_ok (l : List UInt8) : ∀ (fuel at' : Nat) (n : Int) (i h bias : Nat) (first : Bool) (ps : List (Int × Nat)), 128 ≤ n → unL l fuel at' n i h bias first = .inr ps → PsOk h ps ∧ ps.length ≤ l.length - at'
  | 0, at', n, i, h, bias, first, ps, hn, e => by
    simp only [unL] at e
    injection e with e
    subst e
    exact ⟨trivial, by simp⟩
  | fuel + 1, at', n, i, h, bias, first, ps, hn, e => by
    unfold unL at e
    split at e
    · injection e with e
      subst e
      exact ⟨trivial, by simp⟩
    · rename_i hlt
      split at e
      · cases e
      · rename_i s b hr
        split at e
        · rename_i hR
          split at e
          · cases e
          · rename_i ps' hu
            injection e with e
            subst e
            have h1 := rdS_some hr
            have hD : (0 : Int) ≤ (((i + s) / (h + 1) : Nat) : Int) := Int.natCast_nonneg _
            have hM := Nat.mod_lt (i + s) (show 0 < h + 1 by omega)
            generalize (i + s) / (h + 1) = D at *
            generalize (i + s) % (h + 1) = M at *
            obtain ⟨h2, h3⟩ := unL_ok l fuel b _ _ _ _ _ _ (by omega) hu
            rw [List.length_drop] at h1
            refine ⟨⟨?_, by simp only; omega, hR.2.1, h2⟩, ?_⟩
            · simp only
              omega
            · simp only [List.length_cons]
              omega
        · cases e
end Go.Proofs.YtedgimkffkflbaaDoor
