/-
  The plain mathematics of Bad and Span: no Go in sight.
-/
import Derived.Test.YtbfgefgadplcjaaDoorPure
namespace Go.Proofs.YtbfgefgadplcjaaDoor

/-- How many bytes ahead of the first that is not of the class. -/
def badN (c : Int) : List UInt8 → Nat
  | [] => 0
  | b :: r => if isB c (b.toNat : Int) = true then badN c r + 1 else 0

theorem badN_le (c : Int) : ∀ l : List UInt8, badN c l ≤ l.length
  | [] => Nat.le_refl _
  | b :: r => by
    have := badN_le c r
    unfold badN
    split <;> simp <;> omega

theorem badN_yes (c : Int) (l : List UInt8) (k : Nat) (h : k < l.length) (hb : isB c (l[k].toNat : Int) = true) : badN c (l.drop k) = badN c (l.drop (k + 1)) + 1 := by
  rw [List.drop_eq_getElem_cons h, badN, if_pos hb]
theorem badN_no (c : Int) (l : List UInt8) (k : Nat) (h : k < l.length) (hb : isB c (l[k].toNat : Int) = false) : badN c (l.drop k) = 0 := by
  rw [List.drop_eq_getElem_cons h, badN, if_neg (by rw [hb]; decide)]
theorem badN_end (c : Int) (l : List UInt8) (k : Nat) (h : l.length ≤ k) : badN c (l.drop k) = 0 := by
  rw [List.drop_eq_nil_of_le h, badN]

/-- The place behind the row of bytes of the class that begins at from. -/
def spanI (c : Int) (l : List UInt8) (f : Int) : Int := if f < 0 then f else f + (badN c (l.drop f.toNat) : Int)
theorem spanI_neg (c : Int) (l : List UInt8) (f : Int) (h : f < 0) : spanI c l f = f := if_pos h
theorem spanI_nat (c : Int) (l : List UInt8) (f : Nat) : spanI c l (f : Int) = (f : Int) + (badN c (l.drop f) : Int) := if_neg (by omega)
theorem spanI_zero (c : Int) (l : List UInt8) : spanI c l 0 = (badN c l : Int) := by
  have := spanI_nat c l 0
  simpa using this
theorem spanI_behind (c : Int) (l : List UInt8) (f : Int) (h : (l.length : Int) ≤ f) : spanI c l f = f := by
  obtain ⟨n, rfl⟩ := Int.eq_ofNat_of_zero_le (show 0 ≤ f by omega)
  rw [spanI_nat, badN_end _ _ _ (by omega)]
  omega
end Go.Proofs.YtbfgefgadplcjaaDoor
/-
  The plain mathematics of numbers in digits: no Go in sight.
-/
namespace Go.Proofs.YtbfgefgadplcjaaDoor

/-- What a row of digits says. -/
def numV (l : List UInt8) : Nat := l.foldl (fun n b => n * 10 + (b.toNat - 48)) 0

theorem numV_snoc (l : List UInt8) (k : Nat) (h : k < l.length) : numV (l.take (k + 1)) = numV (l.take k) * 10 + (l[k].toNat - 48) := by
  unfold numV
  rw [List.take_succ_eq_append_getElem h, List.foldl_append]
  rfl

theorem numV_mono (l : List UInt8) (k : Nat) : numV (l.take k) ≤ numV l := by
  have h : ∀ (r : List UInt8) (n : Nat), n ≤ r.foldl (fun n b => n * 10 + (b.toNat - 48)) n := by
    intro r
    induction r with
    | nil => intro n; exact Nat.le_refl _
    | cons b r ih => intro n; exact Nat.le_trans (show n ≤ n * 10 + (b.toNat - 48) by omega) (ih _)
  have e : numV l = (l.drop k).foldl (fun n b => n * 10 + (b.toNat - 48)) (numV (l.take k)) := by
    unfold numV
    rw [← List.foldl_append, List.take_append_drop]
  rw [e]
  exact h _ _

theorem badN_all (c : Int) : ∀ (l : List UInt8), badN c l = l.length → ∀ k, (h : k < l.length) → isB c (l[k].toNat : Int) = true
  | [], _, k, h => by simp at h
  | b :: r, hb, k, h => by
    unfold badN at hb
    by_cases hi : isB c (b.toNat : Int) = true
    · rw [if_pos hi] at hb
      have hr : badN c r = r.length := by simpa using hb
      cases k with
      | zero => exact hi
      | succ k => exact badN_all c r hr k (by simpa using h)
    · rw [if_neg hi] at hb
      simp at hb

theorem digit_fin : ∀ b : Fin 256, isB 2 (b.val : Int) = (decide (48 ≤ b.val) && decide (b.val ≤ 57)) := by decide +kernel
theorem digit_iff (b : UInt8) (h : isB 2 (b.toNat : Int) = true) : 48 ≤ b.toNat ∧ b.toNat ≤ 57 := by
  have := digit_fin ⟨b.toNat, b.toNat_lt⟩
  simp only [h] at this
  simpa using this.symm

/-- A row of one to twenty digits. -/
def numOk (l : List UInt8) : Prop := 1 ≤ l.length ∧ l.length ≤ 20 ∧ badN 2 l = l.length
instance (l : List UInt8) : Decidable (numOk l) := by unfold numOk; infer_instance
def numVal (l : List UInt8) (most : Int) : Int := if numOk l then (if (numV l : Int) ≤ most then (numV l : Int) else 0) else 0
def numCode (l : List UInt8) (most : Int) : Int := if numOk l then (if (numV l : Int) ≤ most then 0 else 5) else 10
theorem num_bad (l : List UInt8) (most : Int) (h : ¬ numOk l) : numVal l most = 0 ∧ numCode l most = 10 := ⟨if_neg h, if_neg h⟩
theorem num_over (l : List UInt8) (most : Int) (h : numOk l) (h2 : most < (numV l : Int)) : numVal l most = 0 ∧ numCode l most = 5 := by
  unfold numVal numCode
  rw [if_pos h, if_pos h, if_neg (by omega), if_neg (by omega)]
  exact ⟨rfl, rfl⟩
theorem num_in (l : List UInt8) (most : Int) (h : numOk l) (h2 : (numV l : Int) ≤ most) : numVal l most = (numV l : Int) ∧ numCode l most = 0 := by
  unfold numVal numCode
  rw [if_pos h, if_pos h, if_pos h2, if_pos h2]
  exact ⟨rfl, rfl⟩
end Go.Proofs.YtbfgefgadplcjaaDoor
