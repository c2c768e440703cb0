/-
  The sum of bytes that lie in memory, the program's and the document's; the document's Join.
-/
import Derived.Test.YtekjhfhakodooaaJoin
namespace Go.Proofs.Ytekjhfhakodooaa
open Go.RowKit

/-- The bytes l lie in block g from place o on. -/
def RowL (l : List UInt8) (g o : Nat) (w : World) : Prop := ∀ j, (h : j < l.length) → w.cell? ⟨g, o + j, none⟩ = some (.int .u8 (l[j].toNat : Int))
/-- A list's address and what lies there. -/
def Bts (a : Option Addr) (l : List UInt8) (w : World) : Prop := l = [] ∨ ∃ g o, a = some ⟨g, o, none⟩ ∧ g < w.heap.size ∧ RowL l g o w

theorem Bts.below {a : Option Addr} {l : List UInt8} {w w' : World} (h : Bts a l w) (hb : Below w.heap.size w w') : Bts a l w' := by
  rcases h with h | ⟨g, o, e, hg, hr⟩
  · exact .inl h
  · exact .inr ⟨g, o, e, Nat.lt_of_lt_of_le hg hb.size, fun j hj => (hb.cell (p := ⟨g, o + j, none⟩) hg).trans (hr j hj)⟩
theorem Bts.belowB {a : Option Addr} {l : List UInt8} {B : Nat} {w w' : World} (h : Bts a l w) (hB : w.heap.size ≤ B) (hb : Below B w w') : Bts a l w' := h.below (hb.mono hB)
theorem Bts.nil (a : Option Addr) (w : World) : Bts a [] w := .inl rfl

theorem max_spelt (s : BitVec 32) : bits .xor .u32 IntKind.u32.max (s.toNat : Int) = ((~~~ s).toNat : Int) := not_spelt s
theorem crc_take (r : BitVec 32) (l : List UInt8) (k : Nat) (h : k < l.length) : crc r (l.take (k + 1)) = dnN 8 (crc r (l.take k) ^^^ bv l[k]) := by
  rw [List.take_succ_eq_append_getElem h, crc_snoc]
theorem over_spelt (r : BitVec 32) (b : UInt8) : bits .xor .u32 (r.toNat : Int) ((b.toNat : Int) % 4294967296) = ((r ^^^ bv b).toNat : Int) := by
  have h : ((b.toNat : Int) % 4294967296) = ((bv b).toNat : Int) := by
    rw [bv_toNat]
    have := b.toNat_lt
    omega
  rw [h, bits_xor]
theorem crc_all (t : BitVec 32) (l : List UInt8) : crc t (l.take l.length) = crc t l := by rw [List.take_length]

theorem more_any (s : BitVec 32) (a : Option Addr) (l : List UInt8) (cap : Nat) (w : World) (h : Bts a l w) (hl : l.length ≤ maxLen) :
    Calls Try.prog 14 #[.int .u32 s.toNat, .slice a l.length cap] w fun e w' => e = .returned (.int .u32 (more s l).toNat) ∧ w' = w := by
  have HH : Hid (Bts a l w) := h
  unfold maxLen at hl
  clear h
  go_enter Try.func14, Try.ntmps14
  go_wp2_with fail
  rw [max_spelt]
  obtain ⟨t, ht⟩ : ∃ t, t = ~~~ s := ⟨_, rfl⟩
  rw [← ht]
  have HS : Hid (t = ~~~ s) := ht
  clear ht
  go_loop [5, 12] (fun r i => ∃ (k : Nat) (y : BitVec 32), k ≤ l.length ∧ i = .int .i64 k ∧ r = .int .u32 y.toNat ∧ Hid (y = crc t (l.take k))) (fun _ i => l.length - (intOf i).toNat)
  case atStart => exact ⟨0, t, by omega, rfl, rfl, rfl⟩
  case round =>
    obtain ⟨k, y, hk, rfl, rfl, HY⟩ := hrel
    by_cases hlt : k < l.length
    · rcases HH.out with hn | ⟨g, o, rfl, hg, hr⟩
      · rw [hn] at hlt
        exact absurd hlt (by simp)
      · have hc := hr k hlt
        go_wp2_with fail
        rw [over_spelt]
        refine (moved_any _ _).mono ?_
        rintro e w1 ⟨rfl, hw⟩
        rw [hw]
        clear hc
        go_wp2
        go_round
        case rel => exact ⟨k + 1, _, by omega, by go_num, rfl, by rw [HY.out]; exact (crc_take t l k hlt).symm⟩
        case measure => simp [intOf]; omega
    · obtain rfl : k = l.length := by omega
      go_wp2
      rw [max_spelt]
      go_ret
      exact ⟨by rw [HY.out, HS.out, crc_all]; rfl, rfl⟩

theorem of_any (a : Option Addr) (l : List UInt8) (cap : Nat) (w : World) (h : Bts a l w) (hl : l.length ≤ maxLen) :
    Calls Try.prog 11 #[.slice a l.length cap] w fun e w' => e = .returned (.int .u32 (more 0#32 l).toNat) ∧ w' = w := by
  go_enter Try.func11, Try.ntmps11
  go_wp2_with fail
  refine (more_any 0#32 a l cap w h hl).mono ?_
  rintro e w1 ⟨rfl, hw⟩
  rw [hw]
  go_wp2
  go_ret
  exact ⟨rfl, rfl⟩

theorem rmore_any (s : BitVec 32) (a : Option Addr) (l : List UInt8) (cap : Nat) (w : World) (h : Bts a l w) (hl : l.length ≤ maxLen) :
    Calls Try.prog 15 #[.int .u32 s.toNat, .slice a l.length cap] w fun e w' => e = .returned (.int .u32 (more s l).toNat) ∧ w' = w := by
  have HH : Hid (Bts a l w) := h
  unfold maxLen at hl
  clear h
  go_enter Try.func15, Try.ntmps15
  go_wp2_with fail
  rw [max_spelt]
  obtain ⟨t, ht⟩ : ∃ t, t = ~~~ s := ⟨_, rfl⟩
  rw [← ht]
  have HS : Hid (t = ~~~ s) := ht
  clear ht
  go_loop [5, 12] (fun r i => ∃ (k : Nat) (y : BitVec 32), k ≤ l.length ∧ i = .int .i64 k ∧ r = .int .u32 y.toNat ∧ Hid (y = crc t (l.take k))) (fun _ i => l.length - (intOf i).toNat)
  case atStart => exact ⟨0, t, by omega, rfl, rfl, rfl⟩
  case round =>
    obtain ⟨k, y, hk, rfl, rfl, HY⟩ := hrel
    by_cases hlt : k < l.length
    · rcases HH.out with hn | ⟨g, o, rfl, hg, hr⟩
      · rw [hn] at hlt
        exact absurd hlt (by simp)
      · have hc := hr k hlt
        go_wp2_with fail
        rw [over_spelt]
        clear hc
        obtain ⟨x, hx⟩ : ∃ x, x = y ^^^ bv l[k] := ⟨_, rfl⟩
        rw [← hx]
        have HX : Hid (x = y ^^^ bv l[k]) := hx
        clear hx
        go_loop [5, 20] (fun r i => ∃ (m : Nat) (z : BitVec 32), m ≤ 8 ∧ i = .int .i64 m ∧ r = .int .u32 z.toNat ∧ Hid (dnN (8 - m) z = dnN 8 x)) (fun _ i => 8 - (intOf i).toNat)
        case atStart => exact ⟨0, x, by omega, rfl, rfl, rfl⟩
        case round =>
          obtain ⟨m, z, hm, rfl, rfl, HZ⟩ := hrel
          by_cases hm8 : m < 8
          · go_wp2_with fail
            refine (down_any _ _).mono ?_
            rintro e w1 ⟨rfl, hw⟩
            rw [hw]
            go_wp2
            go_round
            case rel =>
              refine ⟨m + 1, _, by omega, by go_num, rfl, ?_⟩
              have := HZ.out
              rw [show 8 - m = (8 - (m + 1)) + 1 by omega] at this
              exact this
            case measure => simp [intOf]; omega
          · obtain rfl : m = 8 := by omega
            go_wp2
            go_round
            case rel =>
              refine ⟨k + 1, _, by omega, by go_num, rfl, ?_⟩
              have e : z = dnN 8 x := HZ.out
              show z = _
              rw [e, HX.out, HY.out]
              exact (crc_take t l k hlt).symm
            case measure => simp [intOf]; omega
    · obtain rfl : k = l.length := by omega
      go_wp2
      rw [max_spelt]
      go_ret
      exact ⟨by rw [HY.out, HS.out, crc_all]; rfl, rfl⟩

theorem rof_any (a : Option Addr) (l : List UInt8) (cap : Nat) (w : World) (h : Bts a l w) (hl : l.length ≤ maxLen) :
    Calls Try.prog 13 #[.slice a l.length cap] w fun e w' => e = .returned (.int .u32 (more 0#32 l).toNat) ∧ w' = w := by
  go_enter Try.func13, Try.ntmps13
  go_wp2_with fail
  refine (rmore_any 0#32 a l cap w h hl).mono ?_
  rintro e w1 ⟨rfl, hw⟩
  rw [hw]
  go_wp2
  go_ret
  exact ⟨rfl, rfl⟩
end Go.Proofs.Ytekjhfhakodooaa
