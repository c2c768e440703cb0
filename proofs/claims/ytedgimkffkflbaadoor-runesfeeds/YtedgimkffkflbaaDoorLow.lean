/-
  The lowest bit of a number, as the machine's operations on bits have it.
-/
import Derived.Test.YtedgimkffkflbaaDoorFenP
import Derived.WalkKit
namespace Go.Proofs.YtedgimkffkflbaaDoor

theorem and_odd (x y : Nat) : (2 * x + 1) &&& (2 * y + 1) = 2 * (x &&& y) + 1 := by
  apply Nat.eq_of_testBit_eq
  intro i
  cases i with
  | zero => simp [Nat.testBit_zero]
  | succ i =>
    rw [Nat.testBit_and, Nat.testBit_succ, Nat.testBit_succ, Nat.testBit_succ]
    rw [show (2 * x + 1) / 2 = x from by omega, show (2 * y + 1) / 2 = y from by omega, show (2 * (x &&& y) + 1) / 2 = x &&& y from by omega, Nat.testBit_and]
theorem and_even (x y : Nat) : (2 * x) &&& (2 * y) = 2 * (x &&& y) := by
  apply Nat.eq_of_testBit_eq
  intro i
  cases i with
  | zero => simp [Nat.testBit_zero]
  | succ i =>
    rw [Nat.testBit_and, Nat.testBit_succ, Nat.testBit_succ, Nat.testBit_succ]
    rw [show (2 * x) / 2 = x from by omega, show (2 * y) / 2 = y from by omega, show (2 * (x &&& y)) / 2 = x &&& y from by omega, Nat.testBit_and]
theorem and_mix (x y : Nat) : (2 * x) &&& (2 * y + 1) = 2 * (x &&& y) := by
  apply Nat.eq_of_testBit_eq
  intro i
  cases i with
  | zero => simp [Nat.testBit_zero]
  | succ i =>
    rw [Nat.testBit_and, Nat.testBit_succ, Nat.testBit_succ, Nat.testBit_succ]
    rw [show (2 * x) / 2 = x from by omega, show (2 * y + 1) / 2 = y from by omega, show (2 * (x &&& y)) / 2 = x &&& y from by omega, Nat.testBit_and]
theorem and_mix' (x y : Nat) : (2 * x + 1) &&& (2 * y) = 2 * (x &&& y) := by rw [Nat.and_comm, and_mix, Nat.and_comm]
theorem and_compl (n m : Nat) (h : m < 2 ^ n) : m &&& (2 ^ n - (m + 1)) = 0 := by
  apply Nat.eq_of_testBit_eq
  intro i
  rw [Nat.testBit_and, Nat.testBit_two_pow_sub_succ h, Nat.zero_testBit]
  cases m.testBit i <;> simp
theorem and_neg (k : Nat) : ∀ n, 0 < k → k < 2 ^ n → k &&& (2 ^ n - k) = lowb k := by
  induction k using Nat.strongRecOn with
  | _ k ih =>
    intro n h0 h1
    cases n with
    | zero => simp at h1; omega
    | succ n =>
      have e : (2 : Nat) ^ (n + 1) = 2 * 2 ^ n := by rw [Nat.pow_succ]; omega
      by_cases hk : k % 2 = 1
      · obtain ⟨m, rfl⟩ : ∃ m, k = 2 * m + 1 := ⟨k / 2, by omega⟩
        rw [lowb_odd hk, e, show 2 * 2 ^ n - (2 * m + 1) = 2 * (2 ^ n - (m + 1)) + 1 from by omega, and_odd, and_compl n m (by omega)]
      · obtain ⟨m, rfl⟩ : ∃ m, k = 2 * m := ⟨k / 2, by omega⟩
        rw [lowb_even (by omega), e, show 2 * 2 ^ n - 2 * m = 2 * (2 ^ n - m) from by omega, and_even, ih m (by omega) n (by omega) (by omega), show 2 * m / 2 = m from by omega]
theorem and_pred (k : Nat) (h : 0 < k) : k &&& (k - 1) = k - lowb k := by
  induction k using Nat.strongRecOn with
  | _ k ih =>
    by_cases hk : k % 2 = 1
    · obtain ⟨m, rfl⟩ : ∃ m, k = 2 * m + 1 := ⟨k / 2, by omega⟩
      rw [lowb_odd hk, show 2 * m + 1 - 1 = 2 * m from by omega, and_mix', Nat.and_self]
    · obtain ⟨m, rfl⟩ : ∃ m, k = 2 * m := ⟨k / 2, by omega⟩
      have := lowb_le m
      rw [lowb_even (by omega), show 2 * m - 1 = 2 * (m - 1) + 1 from by omega, and_mix, ih m (by omega) (by omega), show 2 * m / 2 = m from by omega]
      omega

theorem wrap_small (n : Nat) (h : n < 2 ^ 63) : IntKind.i64.wrap (n : Int) = n := by
  rw [IntKind.wrap_i64]
  omega
theorem bits_low (k : Nat) (h : k < 2 ^ 62) : bits .and .i64 (k : Int) (-(k : Int)) = lowb k := by
  have hl := lowb_le k
  show IntKind.i64.wrap (((BitVec.ofInt 64 (k : Int)) &&& (BitVec.ofInt 64 (-(k : Int)))).toNat : Int) = _
  rw [BitVec.toNat_and, BitVec.toNat_ofInt, BitVec.toNat_ofInt]
  by_cases h0 : k = 0
  · subst h0
    rw [lowb_zero]
    decide
  · have e1 : ((k : Int) % ((2 ^ 64 : Nat) : Int)).toNat = k := by omega
    have e2 : ((-(k : Int)) % ((2 ^ 64 : Nat) : Int)).toNat = 2 ^ 64 - k := by omega
    rw [e1, e2, and_neg k 64 (by omega) (by omega), wrap_small _ (by omega)]
theorem bits_pred (k : Nat) (h0 : 0 < k) (h : k < 2 ^ 62) : bits .and .i64 (k : Int) ((k : Int) - 1) = ((k - lowb k : Nat) : Int) := by
  show IntKind.i64.wrap (((BitVec.ofInt 64 (k : Int)) &&& (BitVec.ofInt 64 ((k : Int) - 1))).toNat : Int) = _
  rw [BitVec.toNat_and, BitVec.toNat_ofInt, BitVec.toNat_ofInt]
  have e1 : ((k : Int) % ((2 ^ 64 : Nat) : Int)).toNat = k := by omega
  have e2 : (((k : Int) - 1) % ((2 ^ 64 : Nat) : Int)).toNat = k - 1 := by omega
  rw [e1, e2, and_pred k h0, wrap_small _ (by omega)]
end Go.Proofs.YtedgimkffkflbaaDoor
