/-
  Rows of bytes laid over one another.
-/
import Derived.Test.YtekjhfhakodooaaWakes
import Derived.OwnWalk
import Derived.Laws.OwnMore
import Derived.Laws.Cover1
namespace Go.Proofs.Ytekjhfhakodooaa
open Go.RowKit

theorem bv_xor (a b : UInt8) : bv (a ^^^ b) = bv a ^^^ bv b := by
  apply BitVec.eq_of_toNat_eq
  rw [BitVec.toNat_xor, bv_toNat, bv_toNat, bv_toNat, UInt8.toNat_xor]
/-- Two rows laid over one another. -/
def over (x y : List UInt8) : List UInt8 := List.zipWith (· ^^^ ·) x y
theorem over_length (x y : List UInt8) (h : x.length = y.length) : (over x y).length = x.length := by
  unfold over
  rw [List.length_zipWith]
  omega
theorem crc_over : ∀ (x y : List UInt8) (r s : BitVec 32), x.length = y.length → crc (r ^^^ s) (over x y) = crc r x ^^^ crc s y
  | [], [], _, _, _ => rfl
  | a :: x, b :: y, r, s, h => by
    show crc (dnN 8 (r ^^^ s ^^^ bv (a ^^^ b))) (over x y) = _
    rw [bv_xor, show r ^^^ s ^^^ (bv a ^^^ bv b) = (r ^^^ bv a) ^^^ (s ^^^ bv b) by ac_rfl, (dnN_lin 8).xor]
    exact crc_over x y _ _ (by simpa using h)
  | [], _ :: _, _, _, h => by cases h
  | _ :: _, [], _, _, h => by cases h
theorem more_over (x y z : List UInt8) (h : x.length = y.length) (k : x.length = z.length) :
    more 0#32 (over (over x y) z) = more 0#32 x ^^^ more 0#32 y ^^^ more 0#32 z := by
  unfold more
  have e : ~~~ (0#32) = (~~~ (0#32) ^^^ ~~~ (0#32)) ^^^ ~~~ (0#32) := by rw [BitVec.xor_self, BitVec.zero_xor]
  rw [e, crc_over _ _ _ _ ((over_length x y h).trans k), crc_over _ _ _ _ h, ← e]
  generalize crc (~~~ (0#32)) x = p
  generalize crc (~~~ (0#32)) y = q
  generalize crc (~~~ (0#32)) z = r
  rw [not_xor p, not_xor q, not_xor r, not_xor]
  have : p ^^^ 0xFFFFFFFF#32 ^^^ (q ^^^ 0xFFFFFFFF#32) ^^^ (r ^^^ 0xFFFFFFFF#32) = p ^^^ q ^^^ r ^^^ 0xFFFFFFFF#32 ^^^ (0xFFFFFFFF#32 ^^^ 0xFFFFFFFF#32) := by ac_rfl
  rw [this, BitVec.xor_self, BitVec.xor_zero]

/-- What a row of noughts is while it is filled. -/
def fillL (l : List UInt8) (k : Nat) : List UInt8 := l.take k ++ List.replicate (l.length - k) 0
theorem fillL_zero (l : List UInt8) : fillL l 0 = List.replicate l.length 0 := by simp [fillL]
theorem fillL_all (l : List UInt8) : fillL l l.length = l := by simp [fillL]
theorem fillL_length (l : List UInt8) (k : Nat) (h : k ≤ l.length) : (fillL l k).length = l.length := by simp [fillL]; omega
theorem fillL_step (l : List UInt8) (k : Nat) (h : k < l.length) : (fillL l k).set k l[k] = fillL l (k + 1) := by
  unfold fillL
  rw [List.set_append_right _ _ (by rw [List.length_take]; omega), List.take_succ_eq_append_getElem h, List.append_assoc]
  congr 1
  rw [List.length_take, Nat.min_eq_left (by omega), Nat.sub_self, show l.length - k = (l.length - (k + 1)) + 1 by omega, List.replicate_succ]
  rfl
theorem cells_step (l : List UInt8) (k : Nat) (h : k < l.length) : (cellsB (fillL l k)).set k (.int .u8 (l[k].toNat : Int)) = cellsB (fillL l (k + 1)) := by
  rw [← fillL_step l k h]
  simp [cellsB, List.map_set]
theorem made_zero (n : Nat) : (madeCells #[Value.int .u8 0] n).toList = cellsB (List.replicate n 0) := by
  apply List.ext_getElem?
  intro i
  by_cases h : i < n
  · simp [madeCells, cellsB, h, Nat.mod_one]
  · rw [List.getElem?_eq_none (by simp [madeCells]; omega), List.getElem?_eq_none (by simp [cellsB]; omega)]

/-- A row that the call made, as a list of bytes. -/
theorem own_bts {w : World} {base : Nat} {v : Value} {l : List UInt8} (h : w.ownsRow base 5 1 v l.length (cellsB l)) : ∃ a cap, v = .slice a l.length cap ∧ Bts a l w := by
  obtain ⟨h1, h2⟩ := id h
  rcases h2 with ⟨rfl, h0⟩ | ⟨g, cap, cur, rfl, hb, hg, _⟩
  · exact ⟨none, 0, by rw [h0], .inl (List.eq_nil_of_length_eq_zero h0)⟩
  · refine ⟨_, cap, rfl, .inr ⟨g, 0, rfl, (Array.getElem?_eq_some_iff.1 hg).1, fun j hj => ?_⟩⟩
    have := h.cellAt j (by omega)
    rw [Nat.zero_add, this, cellsB_at l j hj]
theorem Bts.take {a : Option Addr} {l : List UInt8} {w : World} (h : Bts a l w) (n : Nat) : Bts a (l.take n) w := by
  rcases h with rfl | ⟨g, o, e, hg, hr⟩
  · exact .inl (by simp)
  · exact .inr ⟨g, o, e, hg, fun j hj => by rw [List.length_take] at hj; rw [hr j (by omega), List.getElem_take]⟩
theorem Bts.cell {a : Option Addr} {l : List UInt8} {w : World} (h : Bts a l w) (k : Nat) (hk : k < l.length) : ∃ g o, a = some ⟨g, o, none⟩ ∧ g < w.heap.size ∧ w.cell? ⟨g, o + k, none⟩ = some (.int .u8 (l[k].toNat : Int)) := by
  rcases h with rfl | ⟨g, o, e, hg, hr⟩
  · simp at hk
  · exact ⟨g, o, e, hg, hr k hk⟩
theorem over_at (x y z : List UInt8) (k : Nat) (hx : k < x.length) (hy : k < y.length) (hz : k < z.length) (h : k < (over (over x y) z).length) :
    (over (over x y) z)[k] = x[k] ^^^ y[k] ^^^ z[k] := by
  simp [over]
theorem bits_xor8 (x y : UInt8) : bits .xor .u8 (x.toNat : Int) (y.toNat : Int) = ((x ^^^ y).toNat : Int) := by
  rw [u8_xor_nat _ _ x.toNat_lt y.toNat_lt, UInt8.toNat_xor]
theorem info5 : (Try.prog.info? 5).map (fun i => (i.zero, i.size, i.bytes)) = some (some (.int .u8 0), 1, 1) := by kernel_rfl
end Go.Proofs.Ytekjhfhakodooaa
