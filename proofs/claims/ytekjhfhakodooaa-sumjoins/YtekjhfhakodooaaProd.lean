/-
  The document's Join: a number moved by many bytes as a product of polynomials.
-/
import Derived.Test.YtekjhfhakodooaaSums
namespace Go.Proofs.Ytekjhfhakodooaa
open Go.RowKit

/-- The number 1, as a polynomial. -/
def one : BitVec 32 := 0x80000000#32
theorem one_down : ∀ i : Fin 32, dnN i.val one = 1#32 <<< (31 - i.val) := by decide
theorem up_split (p : BitVec 32) (i : Nat) (h : i < 32) : p >>> i = (if p.getLsbD 31 then 1#32 <<< (31 - i) else 0#32) ^^^ ((p <<< 1) >>> (i + 1)) := by
  apply BitVec.eq_of_getLsbD_eq
  intro j hj
  rw [BitVec.getLsbD_xor, BitVec.getLsbD_ushiftRight, BitVec.getLsbD_ushiftRight, BitVec.getLsbD_shiftLeft]
  rcases Nat.lt_trichotomy (i + j) 31 with hij | hij | hij
  · have e1 : (1#32 <<< (31 - i)).getLsbD j = false := by
      rw [BitVec.getLsbD_shiftLeft]
      have : j < 31 - i := by omega
      simp [this]
    have e2 : decide (i + 1 + j < 32) = true := decide_eq_true (by omega)
    have e3 : decide (i + 1 + j < 1) = false := decide_eq_false (by omega)
    have e4 : i + 1 + j - 1 = i + j := by omega
    rw [e2, e3, e4]
    cases p.getLsbD 31 <;> simp [e1]
  · have e1 : (1#32 <<< (31 - i)).getLsbD j = true := by
      rw [BitVec.getLsbD_shiftLeft]
      have h1 : j = 31 - i := by omega
      subst h1
      simp
      omega
    have e2 : decide (i + 1 + j < 32) = false := decide_eq_false (by omega)
    rw [e2, hij]
    cases p.getLsbD 31 <;> simp [e1]
  · have e1 : (1#32 <<< (31 - i)).getLsbD j = false := by
      rw [BitVec.getLsbD_shiftLeft]
      have h1 : ¬ j < 31 - i := by omega
      have : (1#32).getLsbD (j - (31 - i)) = false := by
        have h2 : j - (31 - i) ≠ 0 := by omega
        rw [BitVec.getLsbD_one]
        simp [h2]
      simp [this]
    have e2 : decide (i + 1 + j < 32) = false := decide_eq_false (by omega)
    rw [e2, BitVec.getLsbD_of_ge p (i + j) (by omega)]
    cases p.getLsbD 31 <;> simp [e1]

theorem prod_step {k i : Nat} {r p p0 : BitVec 32} (hi : i < 32) (h : r ^^^ dnN k (p >>> i) = dnN k p0) :
    (r ^^^ (if p.getLsbD 31 then dnN i (dnN k one) else 0#32)) ^^^ dnN k ((p <<< 1) >>> (i + 1)) = dnN k p0 := by
  rw [← h, up_split p i hi, (dnN_lin k).xor, dnN_comm i k, one_down ⟨i, hi⟩]
  cases p.getLsbD 31 <;> simp [(dnN_lin k).zero]
  ac_rfl
theorem high_bit (p : BitVec 32) : p.getLsbD 31 = decide (2147483648 ≤ p.toNat) := by
  have h := p.isLt
  rw [BitVec.getLsbD, Nat.testBit_eq_decide_div_mod_eq]
  congr 1
  apply propext
  constructor
  · intro h; omega
  · intro h; omega
theorem twice_spelt (p : BitVec 32) : (p.toNat : Int) * (2 : Int) % (4294967296 : Int) = ((p <<< 1).toNat : Int) := by
  rw [BitVec.toNat_shiftLeft, Nat.shiftLeft_eq]
  omega
theorem twice_small (p : BitVec 32) (h : (p.toNat : Int) < 2147483648) : (p.toNat : Int) * (2 : Int) = ((p <<< 1).toNat : Int) := by
  rw [← twice_spelt]
  omega

set_option maxRecDepth 100000 in
theorem prod_any (p : BitVec 32) (k : Nat) (w : World) :
    Calls Try.prog 36 #[.int .u32 p.toNat, .int .u32 (dnN k one).toNat] w fun e w' => e = .returned (.int .u32 (dnN k p).toNat) ∧ w' = w := by
  obtain ⟨q, hq⟩ : ∃ q, q = dnN k one := ⟨_, rfl⟩
  rw [← hq]
  have HQ : Hid (q = dnN k one) := hq
  clear hq
  go_enter Try.func36, Try.ntmps36
  go_wp2_with fail
  go_loop [0, 1, 5, 6] (fun x y r i => ∃ (m : Nat) (p' r' : BitVec 32), m ≤ 32 ∧ i = .int .i64 m ∧ x = .int .u32 p'.toNat ∧ y = .int .u32 (dnN m q).toNat ∧ r = .int .u32 r'.toNat ∧ Hid (r' ^^^ dnN k (p' >>> m) = dnN k p)) (fun _ _ _ i => 32 - (intOf i).toNat)
  case atStart => exact ⟨0, p, 0#32, by omega, rfl, rfl, rfl, rfl, by rw [BitVec.ushiftRight_zero, BitVec.zero_xor]; rfl⟩
  case round =>
    obtain ⟨m, p', r', hm, rfl, rfl, rfl, rfl, HR⟩ := hrel
    by_cases hlt : m < 32
    · obtain ⟨y, hy⟩ : ∃ y, y = dnN m q := ⟨_, rfl⟩
      rw [← hy]
      have HY : Hid (y = dnN m q) := hy
      clear hy
      by_cases hb : 2147483648 ≤ p'.toNat
      · have hb' : (2147483648 : Int) ≤ (p'.toNat : Int) := by omega
        have HG : Hid (p'.getLsbD 31 = true) := by show _ = _; rw [high_bit, decide_eq_true hb]
        clear hb
        go_wp2_with fail
        refine (down_any _ _).mono ?_
        rintro e w1 ⟨rfl, hw⟩
        rw [hw]
        go_wp2
        go_round
        case rel =>
          refine ⟨m + 1, p' <<< 1, r' ^^^ y, by omega, by go_num, by rw [twice_spelt], by rw [HY.out, dnN_succ], by rw [bits_xor], ?_⟩
          have := prod_step hlt HR.out
          rw [HG.out, if_pos rfl, ← HQ.out, ← HY.out] at this
          exact this
        case measure => simp [intOf]; omega
      · have hb' : ¬ (2147483648 : Int) ≤ (p'.toNat : Int) := by omega
        have HG : Hid (p'.getLsbD 31 = false) := by show _ = _; rw [high_bit, decide_eq_false hb]
        clear hb
        go_wp2_with fail
        refine (down_any _ _).mono ?_
        rintro e w1 ⟨rfl, hw⟩
        rw [hw]
        go_wp2
        go_round
        case rel =>
          refine ⟨m + 1, p' <<< 1, r', by omega, by go_num, by rw [twice_small _ (by omega)], by rw [HY.out, dnN_succ], rfl, ?_⟩
          have := prod_step hlt HR.out
          rw [HG.out, if_neg (by simp), BitVec.xor_zero] at this
          exact this
        case measure => simp [intOf]; omega
    · obtain rfl : m = 32 := by omega
      have e : r' = dnN k p := by
        have := HR.out
        rw [BitVec.ushiftRight_eq_zero (Nat.le_refl _), (dnN_lin k).zero, BitVec.xor_zero] at this
        exact this
      subst e
      clear HR
      go_wp2
      go_ret
      exact ⟨rfl, rfl⟩

theorem rjoin_neg (a b : BitVec 32) (n : Int) (hn : n < 0) (w : World) :
    Calls Try.prog 16 #[.int .u32 a.toNat, .int .u32 b.toNat, .int .i64 n] w fun e w' => e = .returned (.tuple #[.int .u32 0, .bool false]) ∧ w' = w := by
  go_enter Try.func16, Try.ntmps16
  go_wp2
  refine bodyPost_ret (v := .tuple #[.int .u32 0, .bool false]) (by simp [results, Try.results16, go_sem]) rfl ⟨rfl, rfl⟩

theorem rjoin_odd {A B m N : Nat} (h : A + B * m = N) (hm : m % 2 = 1) : (A + B) + (B + B) * (m / 2) = N := by
  have e : m = 2 * (m / 2) + 1 := by omega
  generalize m / 2 = q at e
  subst e
  rw [← h, Nat.mul_add, Nat.add_mul, ← Nat.mul_assoc, Nat.mul_comm B 2, Nat.mul_assoc, Nat.mul_one]
  omega
theorem rjoin_even {A B m N : Nat} (h : A + B * m = N) (hm : ¬ m % 2 = 1) : A + (B + B) * (m / 2) = N := by
  have e : m = 2 * (m / 2) := by omega
  generalize m / 2 = q at e
  subst e
  rw [← h, Nat.add_mul, ← Nat.mul_assoc, Nat.mul_comm B 2, Nat.mul_assoc]
  omega
theorem one_byte : dnN 8 one = 0x800000#32 := by decide

theorem rjoin_any (a b : BitVec 32) (n : Nat) (hn : n < 9223372036854775808) (w : World) :
    Calls Try.prog 16 #[.int .u32 a.toNat, .int .u32 b.toNat, .int .i64 n] w fun e w' => e = .returned (.tuple #[.int .u32 (join a b n).toNat, .bool true]) ∧ w' = w := by
  go_enter Try.func16, Try.ntmps16
  go_wp2_with fail
  go_loop [2, 8, 9] (fun i p q => ∃ (m A B : Nat), i = .int .i64 m ∧ p = .int .u32 (dnN A one).toNat ∧ q = .int .u32 (dnN B one).toNat ∧ Hid (m < 9223372036854775808) ∧ Hid (A + B * m = 8 * n)) (fun i _ _ => (intOf i).toNat)
  case atStart => exact ⟨n, 0, 8, rfl, rfl, by rw [one_byte]; rfl, hn, by show 0 + 8 * n = 8 * n; omega⟩
  case round =>
    obtain ⟨m, A, B, rfl, rfl, rfl, HM, HA⟩ := hrel
    by_cases h0 : m = 0
    · subst h0
      obtain rfl : A = 8 * n := by have := HA.out; omega
      go_wp2_with fail
      refine (prod_any a (8 * n) _).mono ?_
      rintro e w1 ⟨rfl, hw⟩
      rw [hw]
      go_wp2
      rw [bits_xor]
      refine bodyPost_ret (v := .tuple #[.int .u32 (join a b n).toNat, .bool true]) (by simp [results, Try.results16, go_sem, join]) rfl ⟨rfl, rfl⟩
    · have hpos : (0 : Int) < (m : Int) := by omega
      have hm63 : m < 9223372036854775808 := HM.out
      by_cases ho : m % 2 = 1
      · have hb : ((m : Int) % 2 == 1) = true := by simp; omega
        go_wp2_with fail
        refine (prod_any _ _ _).mono ?_
        rintro e w1 ⟨rfl, hw⟩
        rw [hw]
        go_wp2_with fail
        refine (prod_any _ _ _).mono ?_
        rintro e w2 ⟨rfl, hw2⟩
        rw [hw2]
        go_wp2_with fail
        go_round
        case rel => exact ⟨m / 2, A + B, B + B, by go_num, by rw [dnN_add], by rw [dnN_add], by show m / 2 < _; have := HM.out; omega, rjoin_odd HA.out ho⟩
        case measure => simp [intOf]; omega
      · have hb : ((m : Int) % 2 == 1) = false := by simp; omega
        go_wp2_with fail
        refine (prod_any _ _ _).mono ?_
        rintro e w2 ⟨rfl, hw2⟩
        rw [hw2]
        go_wp2_with fail
        go_round
        case rel => exact ⟨m / 2, A, B + B, by go_num, rfl, by rw [dnN_add], by show m / 2 < _; have := HM.out; omega, rjoin_even HA.out ho⟩
        case measure => simp [intOf]; omega
end Go.Proofs.Ytekjhfhakodooaa
