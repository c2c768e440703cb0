/-
  The small walks: a number moved by one bit, by a byte, and by a move that is told bit by bit.
-/
import Derived.Test.YtekjhfhakodooaaCrc
import Derived.Test.YtekjhfhakodooaaProg
import Derived.WalkKit
import Derived.WalkSpells
import Derived.Below
import Derived.Deep.WholeRow
import Derived.Deep.MidRow
namespace Go.Proofs.Ytekjhfhakodooaa
open Go.RowKit

theorem moved_any (x : BitVec 32) (w : World) : Calls Try.prog 34 #[.int .u32 x.toNat] w fun e w' => e = .returned (.int .u32 (dnN 8 x).toNat) ∧ w' = w := by
  go_enter Try.func34, Try.ntmps34
  go_wp2
  go_loop [0, 4] (fun n i => ∃ (k : Nat) (y : BitVec 32), k ≤ 8 ∧ i = .int .i64 k ∧ n = .int .u32 y.toNat ∧ Hid (dnN (8 - k) y = dnN 8 x)) (fun _ i => 8 - (intOf i).toNat)
  case atStart => exact ⟨0, x, by omega, rfl, rfl, rfl⟩
  case round =>
    obtain ⟨k, y, hk, rfl, rfl, HD⟩ := hrel
    by_cases hlt : k < 8
    · go_wp2
      go_round
      case rel =>
        refine ⟨k + 1, dn y, by omega, by go_num, by rw [dn_spelt], ?_⟩
        have := HD.out
        rw [show 8 - k = (8 - (k + 1)) + 1 by omega] at this
        exact this
      case measure => simp [intOf]; omega
    · obtain rfl : k = 8 := by omega
      have := HD.out
      have e : y = dnN 8 x := this
      subst e
      clear this HD
      go_wp2
      go_ret
      exact ⟨rfl, rfl⟩

theorem down_any (x : BitVec 32) (w : World) : Calls Try.prog 35 #[.int .u32 x.toNat] w fun e w' => e = .returned (.int .u32 (dn x).toNat) ∧ w' = w := by
  go_enter Try.func35, Try.ntmps35
  go_wp2
  · rename_i h
    go_ret
    exact ⟨congrArg (fun z => Ending.returned (.int .u32 z)) (dn_odd x h), rfl⟩
  · rename_i h
    go_ret
    exact ⟨congrArg (fun z => Ending.returned (.int .u32 z)) (dn_even x h), rfl⟩

theorem shl_split (y : BitVec 32) (k : Nat) : y <<< k = ((y >>> 1) <<< (k + 1)) ^^^ (if y.getLsbD 0 then 1#32 <<< k else 0#32) := by
  have h : y = ((y >>> 1) <<< 1) ^^^ (if y.getLsbD 0 then 1#32 else 0#32) := by
    apply BitVec.eq_of_getLsbD_eq
    intro i hi
    rw [BitVec.getLsbD_xor, BitVec.getLsbD_shiftLeft, BitVec.getLsbD_ushiftRight]
    rcases i with _ | i
    · cases y.getLsbD 0 <;> simp
    · cases y.getLsbD 0 <;> simp [hi, Nat.add_comm]
  have h2 := congrArg (fun z : BitVec 32 => z <<< k) h
  simp only [BitVec.shiftLeft_xor_distrib] at h2
  rw [h2, Nat.add_comm k 1, BitVec.shiftLeft_add]
  congr 1
  cases y.getLsbD 0 <;> simp

/-- What a move does to each bit, the lowest first. -/
def rowOf (L : BitVec 32 → BitVec 32) : Array Value := Array.ofFn (n := 32) fun i => Value.int .u32 ((L (1#32 <<< i.val)).toNat : Int)
theorem rowOf_size (L : BitVec 32 → BitVec 32) : (rowOf L).size = 32 := by simp [rowOf]
theorem rowOf_at (L : BitVec 32 → BitVec 32) (k : Nat) (h : k < 32) : (rowOf L)[k]? = some (.int .u32 ((L (1#32 <<< k)).toNat : Int)) := by
  simp [rowOf, h]
theorem rowOf_cell (L : BitVec 32 → BitVec 32) (w : World) (k : Nat) (h : k < 32) :
    (w.alloc (Obj.cells (rowOf L) 59)).cell? ⟨w.heap.size, k, none⟩ = some (.int .u32 ((L (1#32 <<< k)).toNat : Int)) := by
  rw [cell_of_row _ _ k (rowOf L) 59 (0, 0) (heap_alloc_last w _)]
  exact rowOf_at L k h

theorem of_start (L : BitVec 32 → BitVec 32) (x : BitVec 32) : 0#32 ^^^ L (x <<< 0) = L x := by rw [BitVec.shiftLeft_zero, BitVec.zero_xor]
theorem of_step {L : BitVec 32 → BitVec 32} (hL : Lin L) {x t y : BitVec 32} {k : Nat} (h : t ^^^ L (y <<< k) = L x) :
    (t ^^^ (if y.getLsbD 0 then L (1#32 <<< k) else 0#32)) ^^^ L ((y >>> 1) <<< (k + 1)) = L x := by
  rw [← h, shl_split y k, hL.xor]
  cases y.getLsbD 0 <;> simp [hL.zero]
  ac_rfl

/-- A number behind a move. -/
theorem mof_any (L : BitVec 32 → BitVec 32) (hL : Lin L) (x : BitVec 32) (w : World) :
    Calls Try.prog 30 #[.agg (rowOf L), .int .u32 x.toNat] w fun e w' => e = .returned (.int .u32 (L x).toNat) ∧ Below w.heap.size w w' := by
  have HL : Hid (Lin L) := hL
  clear hL
  go_enter Try.func30, Try.ntmps30
  go_wp2
  go_loop [1, 5, 6] (fun n t i => ∃ (k : Nat) (y s : BitVec 32), k ≤ 32 ∧ i = .int .i64 k ∧ n = .int .u32 y.toNat ∧ t = .int .u32 s.toNat ∧ Hid (y.toNat < 2 ^ (32 - k)) ∧ Hid (s ^^^ L (y <<< k) = L x)) (fun _ _ i => 32 - (intOf i).toNat)
  case atStart => exact ⟨0, x, 0#32, by omega, rfl, rfl, rfl, x.isLt, of_start L x⟩
  case round =>
    obtain ⟨k, y, s, hk, rfl, rfl, rfl, HY, HS⟩ := hrel
    by_cases h0 : y.toNat = 0
    · have e : s = L x := by
        have hy : y = 0#32 := BitVec.eq_of_toNat_eq h0
        have := HS.out
        rw [hy, BitVec.zero_shiftLeft, HL.out.zero, BitVec.xor_zero] at this
        exact this
      subst e
      clear HS HY
      go_wp2
      go_ret
      exact ⟨rfl, (Below.refl _ _).alloc (Nat.le_refl _) _⟩
    · have hlt : k < 32 := by
        rcases Nat.lt_or_ge k 32 with h | h
        · exact h
        · have := HY.out
          rw [show 32 - k = 0 by omega] at this
          omega
      have hc := rowOf_cell L w k hlt
      go_wp2
      clear hc
      go_round
      case rel =>
        refine ⟨k + 1, y >>> 1, s ^^^ (if y.getLsbD 0 then L (1#32 <<< k) else 0#32), by omega, by go_num, by rw [half], by rw [masked, bits_xor], ?_, of_step HL.out HS.out⟩
        show (y >>> 1).toNat < _
        have := HY.out
        rw [BitVec.toNat_ushiftRight, Nat.shiftRight_eq_div_pow]
        rw [show 32 - k = (32 - (k + 1)) + 1 by omega, Nat.pow_succ] at this
        omega
      case measure => simp [intOf]; omega
end Go.Proofs.Ytekjhfhakodooaa
