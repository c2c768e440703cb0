/-
  One bit of a row turned, and what it does to the sum.
-/
import Derived.Test.YtekjhfhakodooabClone
namespace Go.Proofs.Ytekjhfhakodooab
open Go.RowKit

theorem set_flip : ∀ (l : List UInt8) (j : Nat) (h : j < l.length) (e : UInt8) (r : BitVec 32), crc r (l.set j (l[j] ^^^ e)) = crc r l ^^^ dnN (8 * (l.length - j)) (bv e)
  | x :: l, 0, _, e, r => by
    show crc (dnN 8 (r ^^^ bv (x ^^^ e))) l = crc (dnN 8 (r ^^^ bv x)) l ^^^ _
    rw [bv_xor, ← BitVec.xor_assoc, (dnN_lin 8).xor, crc_xor, ← dnN_add]
    congr 2
    simp
    omega
  | x :: l, j + 1, h, e, r => by
    have hj : j < l.length := by simpa using h
    have := set_flip l j hj e (dnN 8 (r ^^^ bv x))
    show crc (dnN 8 (r ^^^ bv x)) (l.set j (l[j] ^^^ e)) = crc (dnN 8 (r ^^^ bv x)) l ^^^ _
    rw [this]
    congr 2
    simp
theorem down_bit : ∀ i : Fin 32, dnN i.val (1#32 <<< i.val) = 1#32 := by decide
/-- The bit r of a byte. -/
def bit (r : Nat) : UInt8 := UInt8.ofNat (2 ^ r)
theorem bit_bv : ∀ r : Fin 8, bv (bit r.val) = 1#32 <<< r.val := by decide
theorem bit_toNat : ∀ r : Fin 8, (bit r.val).toNat = 2 ^ r.val := by decide

theorem turn_one (l : List UInt8) (at' i : Nat) (hi : i < 32) (h : at' + i < 8 * l.length) (r : BitVec 32) (hj : (at' + i) / 8 < l.length) :
    crc r (l.set ((at' + i) / 8) (l[(at' + i) / 8] ^^^ bit ((at' + i) % 8))) = crc r l ^^^ dnN (8 * l.length - at') (1#32 <<< i) := by
  rw [set_flip l _ hj, bit_bv ⟨(at' + i) % 8, Nat.mod_lt _ (by omega)⟩]
  have e1 : dnN (8 * (l.length - (at' + i) / 8)) (1#32 <<< ((at' + i) % 8)) = dnN (8 * l.length - (at' + i)) 1#32 := by
    have d := down_bit ⟨(at' + i) % 8, by omega⟩
    have e0 : 8 * (l.length - (at' + i) / 8) = (at' + i) % 8 + (8 * l.length - (at' + i)) := by omega
    rw [e0, dnN_add]
    exact congrArg (dnN _) d
  have e2 : dnN (8 * l.length - at') (1#32 <<< i) = dnN (8 * l.length - (at' + i)) 1#32 := by
    have d := down_bit ⟨i, hi⟩
    have e0 : 8 * l.length - at' = i + (8 * l.length - (at' + i)) := by omega
    rw [e0, dnN_add]
    exact congrArg (dnN _) d
  show _ ^^^ dnN _ (1#32 <<< ((at' + i) % 8)) = _
  rw [e1, e2]

/-- What was turned so far: m, bits below i alone. -/
structure Turned (l o : List UInt8) (n : Nat) (i : Nat) (m : BitVec 32) : Prop where
  len : o.length = l.length
  reg : crc (~~~ (0#32)) o = crc (~~~ (0#32)) l ^^^ dnN n m
  low : m.toNat < 2 ^ i

theorem Turned.start (l : List UInt8) (n : Nat) : Turned l l n 0 0#32 := ⟨rfl, by rw [(dnN_lin n).zero, BitVec.xor_zero], by decide⟩
theorem Turned.skip {l o : List UInt8} {n i : Nat} {m : BitVec 32} (h : Turned l o n i m) : Turned l o n (i + 1) m := ⟨h.len, h.reg, by have := h.low; rw [Nat.pow_succ]; omega⟩
theorem Turned.turn {l o : List UInt8} {at' i : Nat} {m : BitVec 32} (h : Turned l o (8 * l.length - at') i m) (hi : i < 32) (hk : at' + i < 8 * l.length) (hj : (at' + i) / 8 < o.length) :
    Turned l (o.set ((at' + i) / 8) (o[(at' + i) / 8] ^^^ bit ((at' + i) % 8))) (8 * l.length - at') (i + 1) (m ^^^ (1#32 <<< i)) ∧ m ^^^ (1#32 <<< i) ≠ 0#32 := by
  have hb : (1#32 <<< i).toNat = 2 ^ i := by
    have : ∀ j : Fin 32, (1#32 <<< j.val).toNat = 2 ^ j.val := by decide
    exact this ⟨i, hi⟩
  refine ⟨⟨by rw [List.length_set]; exact h.len, ?_, ?_⟩, ?_⟩
  · rw [turn_one o at' i hi (by rw [h.len]; exact hk) _ hj, h.reg, h.len, (dnN_lin _).xor, BitVec.xor_assoc]
  · rw [BitVec.toNat_xor]
    exact Nat.xor_lt_two_pow (by have := h.low; rw [Nat.pow_succ]; omega) (by rw [hb, Nat.pow_succ]; have := Nat.two_pow_pos i; omega)
  · intro e
    have : m = 1#32 <<< i := by
      have := congrArg (fun z => z ^^^ (1#32 <<< i)) e
      simp only [BitVec.xor_assoc, BitVec.xor_self, BitVec.xor_zero, BitVec.zero_xor] at this
      exact this
    have h2 := h.low
    rw [this, hb] at h2
    omega
theorem Turned.tells {l o : List UInt8} {n i : Nat} {m : BitVec 32} (h : Turned l o n i m) : (more 0#32 o != more 0#32 l) = (m != 0#32) := by
  unfold more
  rw [h.reg]
  by_cases hm : m = 0#32
  · subst hm
    rw [(dnN_lin n).zero, BitVec.xor_zero]
    simp
  · have h1 : (m != 0#32) = true := by simpa using hm
    rw [h1]
    have h2 : ¬ (~~~ (crc (~~~ (0#32)) l ^^^ dnN n m) = ~~~ crc (~~~ (0#32)) l) := by
      intro e
      have e2 := congrArg (fun z => ~~~ z) e
      simp only [BitVec.not_not] at e2
      apply hm
      apply dnN_zero n
      have e3 := congrArg (fun z => crc (~~~ (0#32)) l ^^^ z) e2
      simp only [← BitVec.xor_assoc, BitVec.xor_self, BitVec.zero_xor] at e3
      exact e3
    simpa using h2
theorem cells_flip (o : List UInt8) (j : Nat) (h : j < o.length) (e : UInt8) : (cellsB o).set j (.int .u8 ((o[j] ^^^ e).toNat : Int)) = cellsB (o.set j (o[j] ^^^ e)) := by
  simp [cellsB, List.map_set]
theorem wrap_small (n : Nat) (h : n < 4611686018427387904) : IntKind.i64.wrap (n : Int) = (n : Int) := by rw [IntKind.wrap_i64]; omega
theorem wrap64_small (n : Nat) (h : n < 4611686018427387904) : wrap64 (n : Int) = (n : Int) := by unfold wrap64; omega

/-- A bit's place, as the walk reckons it. -/
structure Place (q k n j r : Nat) : Prop where
  eqj : j = (q + k) / 8
  eqr : r = (q + k) % 8
  lt : r < 8
  ltn : j < n
  e1 : ((q : Int) + (k : Int)) / 8 = (j : Int)
  e2 : ((q : Int) + (k : Int)) % 8 = (r : Int)
  e3 : ((q : Int) + (k : Int)).tdiv 8 = (j : Int)
  e4 : ((q : Int) + (k : Int)).tmod 8 = (r : Int)
  e5 : (2 ^ min r 8 % 256 : Int) = ((bit r).toNat : Int)
  e7 : IntKind.i64.wrap (j : Int) = (j : Int)
  e8 : IntKind.i64.wrap (r : Int) = (r : Int)
  e9 : wrap64 (j : Int) = (j : Int)
  e10 : wrap64 (r : Int) = (r : Int)
  i1 : (j : Int) < (n : Int)
  i0 : (0 : Int) ≤ (j : Int)
  i2 : (0 : Int) ≤ (r : Int)
theorem place (q k n : Nat) (h : (q : Int) + (k : Int) < 8 * (n : Int)) (hn : n ≤ 140737488351232) : ∃ j r, Place q k n j r := by
  have e1 : ((q : Int) + (k : Int)) / 8 = (((q + k) / 8 : Nat) : Int) := by omega
  have e2 : ((q : Int) + (k : Int)) % 8 = (((q + k) % 8 : Nat) : Int) := by omega
  have hr : (q + k) % 8 < 8 := Nat.mod_lt _ (by omega)
  have hj : (q + k) / 8 < n := by omega
  refine ⟨(q + k) / 8, (q + k) % 8, rfl, rfl, hr, hj, e1, e2, ?_, ?_, ?_, wrap_small _ (by omega), wrap_small _ (by omega), wrap64_small _ (by omega), wrap64_small _ (by omega), by omega, by omega, by omega⟩
  · rw [Int.tdiv_eq_ediv_of_nonneg (by omega)]; exact e1
  · rw [Int.tmod_eq_emod_of_nonneg (by omega)]; exact e2
  · have : ∀ i : Fin 8, (2 ^ min i.val 8 % 256 : Int) = ((bit i.val).toNat : Int) := by decide
    exact this ⟨_, hr⟩
theorem Turned.spelt {l o : List UInt8} {n i : Nat} {m : BitVec 32} (h : Turned l o n i m) : (((more 0#32 o).toNat : Int) != ((more 0#32 l).toNat : Int)) = (m != 0#32) := by
  rw [← h.tells]
  generalize more 0#32 o = x
  generalize more 0#32 l = y
  by_cases e : x = y
  · subst e
    simp
  · have h1 : (x != y) = true := by simpa using e
    have h2 : ¬ ((x.toNat : Int) = (y.toNat : Int)) := fun e2 => e (BitVec.eq_of_toNat_eq (by omega))
    rw [h1]
    simpa using h2
end Go.Proofs.Ytekjhfhakodooab
