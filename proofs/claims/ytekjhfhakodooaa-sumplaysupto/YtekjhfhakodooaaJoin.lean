/-
  Join, whatever the numbers and the length.
-/
import Derived.Test.YtekjhfhakodooaaMoves
namespace Go.Proofs.Ytekjhfhakodooaa
open Go.RowKit

theorem odd_spelt (m : Nat) (h : m < 9223372036854775808) : bits .and .i64 (m : Int) 1 = ((m % 2 : Nat) : Int) := by
  have h : IntKind.i64.wrap ((m % 2 : Nat) : Int) = ((m % 2 : Nat) : Int) := by
    rw [IntKind.wrap_i64]
    omega
  have := bits_mask .i64 63 (by decide) (fun n h0 h1 => by rw [IntKind.wrap_i64]; omega) 1 (by decide) (m : Int) (by omega) (by omega)
  simp at this
  rw [this]
  omega

theorem join_neg (a b : BitVec 32) (n : Int) (hn : n < 0) (w : World) :
    Calls Try.prog 9 #[.int .u32 a.toNat, .int .u32 b.toNat, .int .i64 n] w fun e w' => e = .returned (.tuple #[.int .u32 0, .int .i64 2]) ∧ w' = w := by
  go_enter Try.func9, Try.ntmps9
  go_wp2
  refine bodyPost_ret (v := .tuple #[.int .u32 0, .int .i64 2]) (by simp [results, Try.results9, go_sem]) rfl ⟨rfl, rfl⟩

theorem sq_row (k : Nat) : rowOf (fun x => dnN k (dnN k x)) = rowOf (dnN (k + k)) := by
  congr 1
  funext x
  rw [dnN_add]
theorem join_odd {k m : Nat} {x y : BitVec 32} (h : dnN (k * m) x = y) (hm : m % 2 = 1) : dnN ((k + k) * (m / 2)) (dnN k x) = y := by
  rw [← dnN_add, ← h]
  congr 1
  have e : m = 2 * (m / 2) + 1 := by omega
  generalize m / 2 = q at e
  subst e
  rw [Nat.mul_add, Nat.add_mul, ← Nat.mul_assoc, Nat.mul_comm k 2, Nat.mul_assoc, Nat.mul_one]
  omega
theorem join_even {k m : Nat} {x y : BitVec 32} (h : dnN (k * m) x = y) (hm : ¬ m % 2 = 1) : dnN ((k + k) * (m / 2)) x = y := by
  rw [← h]
  congr 1
  have e : m = 2 * (m / 2) := by omega
  generalize m / 2 = q at e
  subst e
  rw [Nat.add_mul, ← Nat.mul_assoc, Nat.mul_comm k 2, Nat.mul_assoc]
  omega

set_option maxRecDepth 100000 in
theorem join_any (a b : BitVec 32) (n : Nat) (hn : n < 9223372036854775808) (w : World) :
    Calls Try.prog 9 #[.int .u32 a.toNat, .int .u32 b.toNat, .int .i64 n] w fun e w' => e = .returned (.tuple #[.int .u32 (join a b n).toNat, .int .i64 0]) ∧ Below w.heap.size w w' := by
  go_enter Try.func9, Try.ntmps9
  go_wp2_with fail
  refine (oneb_any _).mono ?_
  rintro e w1 ⟨rfl, hb1⟩
  have HB1 : Hid (Below w.heap.size w w1) := hb1
  clear hb1
  go_wp2_with (refine wpList_store_row rfl 59 _ _ rfl _ rfl _ (rowOf (dnN 8)) rfl 59 (Lies.new w1 _ _) (infoRow _) (by rw [rowOf_size]; rfl) (rowOf_one _) rfl ?_)
  rw [zeros_spelt]
  go_loopw [0, 2] (fun x i wr => ∃ (m k : Nat) (y : BitVec 32), i = .int .i64 m ∧ x = .int .u32 y.toNat ∧ Hid (m < 9223372036854775808) ∧ Hid (Lies wr w1.heap.size (rowOf (dnN k)) 59) ∧ Hid (Below w.heap.size w wr) ∧ Hid (dnN (k * m) y = dnN (8 * n) a)) (fun _ i _ => (intOf i).toNat)
  case atStart => exact ⟨n, 8, a, rfl, rfl, hn, (Lies.new w1 _ 59).row _, below_row (HB1.out.alloc HB1.out.size _) HB1.out.size _, rfl⟩
  case round =>
    obtain ⟨m, k, y, rfl, rfl, HN, HC, HB, HD⟩ := hrel
    by_cases h0 : m = 0
    · subst h0
      have e : y = dnN (8 * n) a := HD.out
      subst e
      clear HD
      go_wp2
      rw [bits_xor]
      refine bodyPost_ret (v := .tuple #[.int .u32 (join a b n).toNat, .int .i64 0]) (by simp [results, Try.results9, go_sem, join]) rfl ⟨rfl, HB.out⟩
    · have hpos : (0 : Int) < (m : Int) := by omega
      have hodd := odd_spelt m HN.out
      by_cases ho : m % 2 = 1
      · have hb : (((m % 2 : Nat) : Int) == 1) = true := by simp [ho]
        go_wp2_with (refine wpList_load_row rfl 59 _ rfl _ rfl (rowOf (dnN k)) 59 _ HC.out Try.underlying59 rfl (infoRow _) ?_)
        refine (mof_any _ (dnN_lin k) y _).mono ?_
        rintro e w2 ⟨rfl, hb2⟩
        have HC2 : Hid (Lies w2 w1.heap.size (rowOf (dnN k)) 59) := HC.out.below hb2 HC.out.lt
        have HB2 : Hid (Below w.heap.size w w2) := HB.out.trans (hb2.mono HB.out.size)
        clear hb2
        go_wp2_with (refine wpList_load_row rfl 59 _ rfl _ rfl (rowOf (dnN k)) 59 _ HC2.out Try.underlying59 rfl (infoRow _) ?_)
        refine (sq_any _ (dnN_lin k) _).mono ?_
        rintro e w3 ⟨rfl, hb3⟩
        have HC3 : Hid (Lies w3 w1.heap.size (rowOf (dnN k)) 59) := HC2.out.below hb3 HC2.out.lt
        have HB3 : Hid (Below w.heap.size w w3) := HB2.out.trans (hb3.mono HB2.out.size)
        clear hb3
        rw [sq_row]
        go_wp2_with (refine wpList_store_row rfl 59 _ _ rfl _ rfl _ (rowOf (dnN (k + k))) rfl 59 HC3.out (infoRow _) (by rw [rowOf_size, rowOf_size]) (rowOf_one _) rfl ?_)
        go_roundw
        case rel => exact ⟨m / 2, k + k, dnN k y, by go_num, rfl, by show m / 2 < _; have := HN.out; omega, HC3.out.row _, below_row HB3.out HB1.out.size _, join_odd HD.out ho⟩
        case measure => simp [intOf]; omega
      · have hb : (((m % 2 : Nat) : Int) == 1) = false := by simp; omega
        go_wp2_with (refine wpList_load_row rfl 59 _ rfl _ rfl (rowOf (dnN k)) 59 _ HC.out Try.underlying59 rfl (infoRow _) ?_)
        refine (sq_any _ (dnN_lin k) _).mono ?_
        rintro e w3 ⟨rfl, hb3⟩
        have HC3 : Hid (Lies w3 w1.heap.size (rowOf (dnN k)) 59) := HC.out.below hb3 HC.out.lt
        have HB3 : Hid (Below w.heap.size w w3) := HB.out.trans (hb3.mono HB.out.size)
        clear hb3
        rw [sq_row]
        go_wp2_with (refine wpList_store_row rfl 59 _ _ rfl _ rfl _ (rowOf (dnN (k + k))) rfl 59 HC3.out (infoRow _) (by rw [rowOf_size, rowOf_size]) (rowOf_one _) rfl ?_)
        go_roundw
        case rel => exact ⟨m / 2, k + k, y, by go_num, rfl, by show m / 2 < _; have := HN.out; omega, HC3.out.row _, below_row HB3.out HB1.out.size _, join_even HD.out ho⟩
        case measure => simp [intOf]; omega
end Go.Proofs.Ytekjhfhakodooaa
