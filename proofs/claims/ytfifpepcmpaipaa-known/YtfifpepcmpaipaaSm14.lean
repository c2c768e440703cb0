/-
  bytes.Equal of the same bytes; two items that are the same.
-/
import Derived.Test.YtfifpepcmpaipaaTk14
namespace Go.Proofs.Ytfifpepcmpaipaa
open Go.RowKit

set_option maxHeartbeats 400000 in
theorem beq_yes (a b : Option Addr) (l : List UInt8) (n m ca cb : Nat) (hn : n = l.length) (hm : m = l.length) (w : World) (ha : Bts a l w) (hb : Bts b l w) : Calls Try.prog 19 #[.slice a n ca, .slice b m cb] w fun e w' => e = .returned (.bool true) ∧ w' = w := by
  subst hn hm
  have k1 := bts_back ha ca
  have k2 := bts_back hb cb
  clear ha hb
  go_enter Try.func19, Try.ntmps19
  go_wp2
  go_ret
  exact ⟨by simp, rfl⟩
set_option maxHeartbeats 4000000 in
theorem lsame_yes (k y : Int) (tx : ByteArray) (h : Bool) (a b : Option Addr) (l : List UInt8) (n m ca cb : Nat) (hn : n = l.length) (hm : m = l.length) (w : World) (ha : Bts a l w) (hb : Bts b l w) : Calls Try.prog 14 #[.agg #[.int .i64 k, .string tx, .slice a n ca, .int .i64 y, .bool h], .agg #[.int .i64 k, .string tx, .slice b m cb, .int .i64 y, .bool h]] w fun e w' => e = .returned (.bool true) ∧ Below w.heap.size w w' := by
  obtain ⟨W, hW⟩ : ∃ W, W = (w.alloc (.cells #[.int .i64 k, .string tx, .slice a n ca, .int .i64 y, .bool h] 34)).alloc (.cells #[.int .i64 k, .string tx, .slice b m cb, .int .i64 y, .bool h] 34) := ⟨_, rfl⟩
  have hB : Below w.heap.size w W := by subst hW; exact ((Below.refl _ _).alloc (Nat.le_refl _) _).alloc (by simp) _
  have HQ := beq_yes a b l n m ca cb hn hm W (ha.below hB) (hb.below hB)
  have HL1 : Lies W w.heap.size #[.int .i64 k, .string tx, .slice a n ca, .int .i64 y, .bool h] 34 := by subst hW; exact (Lies.new w _ _).alloc _
  have HL2 : Lies W (w.heap.size + 1) #[.int .i64 k, .string tx, .slice b m cb, .int .i64 y, .bool h] 34 := by subst hW; exact new_one w _ _ _
  obtain ⟨⟨a0, a1, a2, a3, a4⟩, -⟩ := it_cells HL1
  obtain ⟨⟨b0, b1, b2, b3, b4⟩, -⟩ := it_cells HL2
  have HWW : Hid ((w.alloc (.cells #[.int .i64 k, .string tx, .slice a n ca, .int .i64 y, .bool h] 34)).alloc (.cells #[.int .i64 k, .string tx, .slice b m cb, .int .i64 y, .bool h] 34) = W) := hW.symm
  have HB : Hid (Below w.heap.size w W) := hB
  clear hW hB HL1 HL2 hn hm ha hb
  go_enter Try.func14, Try.ntmps14
  go_wp2_with fail
  rw [HWW.out]
  refine HQ.mono ?_
  rintro e w2 ⟨rfl, rfl⟩
  go_wp2_with fail
  go_ret
  exact ⟨by simp, HB.out⟩
end Go.Proofs.Ytfifpepcmpaipaa
