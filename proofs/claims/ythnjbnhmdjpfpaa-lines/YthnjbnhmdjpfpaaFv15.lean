/-
  A framer's Take in any mode; two items that are the same; the statements' head.
-/
import Derived.Test.YthnjbnhmdjpfpaaFu15
import Derived.Lib.SlBytesConst
namespace Go.Proofs.Ythnjbnhmdjpfpaa
open Go.RowKit

theorem xtake_any (F : Nat → Prop) (b m t a : Nat) (st : Fs) (ad : Option Addr) (l : List UInt8) (n cap : Nat) (hn : n = l.length) (hl : l.length ≤ 17592186044416) (hc : l.length ≤ cap) (hca : ad = none → cap = 0) (hs : st.le 1152921504606846976) (w : World) (x : Fm w F b m t a st) (hb : Bts ad l w) (hne : ∀ a', ad = some a' → ¬ F a'.block) :
    Calls Try.prog 19 #[.pointer (some ⟨b, 0, none⟩), .slice ad n cap] w fun e w' => ∃ v G, e = .returned (.tuple #[.int .i64 ((ftk m t a st l).1 : Int), fiV (ftk m t a st l).2.1 v]) ∧ Tkd w F b m t a (ftk m t a st l).2.1 (ftk m t a st l).2.2 v G w' := by
  cases st with
  | ln s => exact xtake_ln F b m t a s ad l n cap hn hl w x hb hne
  | dt d => exact xtake_dt F b m t a d ad l n cap hn hl hs.1 hs.2 w x hb hne
  | ch cn cr => exact xtake_ch F b m t a cn cr ad l n cap hn hl hc hca w x hb hne
set_option maxHeartbeats 4000000 in
set_option maxRecDepth 20000 in
theorem lsame_yes (k y : Int) (tx : ByteArray) (h : Bool) (a b : Option Addr) (l : List UInt8) (n m ca cb : Nat) (hn : n = l.length) (hm : m = l.length) (w : World) (ha : Bts a l w) (hb : Bts b l w) : Calls Try.prog 20 #[.agg #[.int .i64 k, .string tx, .slice a n ca, .int .i64 y, .bool h], .agg #[.int .i64 k, .string tx, .slice b m cb, .int .i64 y, .bool h]] w fun e w' => e = .returned (.bool true) ∧ Below w.heap.size w w' := by
  subst hn hm
  obtain ⟨W, hW⟩ : ∃ W, W = (w.alloc (.cells #[.int .i64 k, .string tx, .slice a l.length ca, .int .i64 y, .bool h] 50)).alloc (.cells #[.int .i64 k, .string tx, .slice b l.length cb, .int .i64 y, .bool h] 50) := ⟨_, rfl⟩
  have hB : Below w.heap.size w W := by subst hW; exact ((Below.refl _ _).alloc (Nat.le_refl _) _).alloc (by simp) _
  have q1 := bts_back (ha.below hB) ca
  have q2 := bts_back (hb.below hB) cb
  have HL1 : Lies W w.heap.size #[.int .i64 k, .string tx, .slice a l.length ca, .int .i64 y, .bool h] 50 := by subst hW; exact (Lies.new w _ _).alloc _
  have HL2 : Lies W (w.heap.size + 1) #[.int .i64 k, .string tx, .slice b l.length cb, .int .i64 y, .bool h] 50 := by subst hW; exact new_one w _ _ _
  obtain ⟨⟨a0, a1, a2, a3, a4⟩, -⟩ := it_cells HL1
  obtain ⟨⟨b0, b1, b2, b3, b4⟩, -⟩ := it_cells HL2
  have HWW : Hid ((w.alloc (.cells #[.int .i64 k, .string tx, .slice a l.length ca, .int .i64 y, .bool h] 50)).alloc (.cells #[.int .i64 k, .string tx, .slice b l.length cb, .int .i64 y, .bool h] 50) = W) := hW.symm
  have HB : Hid (Below w.heap.size w W) := hB
  clear hW hB HL1 HL2 ha hb
  go_enter Try.func20, Try.ntmps20
  go_wp2_with fail
  rw [HWW.out, q1]
  go_wp2_with fail
  go_ret
  exact ⟨by simp, HB.out⟩
theorem lit_row (w : World) (l : List UInt8) (fr : Nat × Nat) : Bts (some ⟨w.heap.size, 0, none⟩) l (w.alloc (.cells (rowV l) 5 fr)) := by
  refine .inr ⟨w.heap.size, 0, rfl, by simp, fun j hj => ?_⟩
  rw [Nat.zero_add, cell_of_row _ w.heap.size j (rowV l) 5 fr (heap_alloc_last w _), rowV_at l j hj]
def hd1 : List UInt8 := [97, 98, 13, 10, 99]
theorem hd_one : ftk 10 10 20 (.ln []) hd1 = (4, .line [97, 98], .ln []) := by rfl
set_option maxHeartbeats 4000000 in
set_option maxRecDepth 20000 in
theorem lhead_any (w : World) : Calls Try.prog 10 #[] w fun e w' => e = .returned (.bool true) ∧ Below w.heap.size w w' := by
  have HN := xnew_ok 10 10 20 1 1 1 (by unfold okL; omega) (by unfold okL; omega) (by unfold okL; omega) (by unfold okL; omega) (by unfold okL; omega) (by unfold okL; omega) w
  unfold limC at HN
  go_enter Try.func10, Try.ntmps10
  go_wp2_with fail
  refine HN.mono ?_
  rintro e w1 ⟨b, rfl, hX1, hB1⟩
  have HX1 : Hid (Fm w1 (fun k => w.heap.size ≤ k ∧ k < w1.heap.size) b 10 10 20 (.ln [])) := hX1
  have HB1 : Hid (Below w.heap.size w w1) := hB1
  clear hX1 hB1 HN
  obtain ⟨W2, hW2⟩ : ∃ W2, W2 = w1.alloc (.cells (rowV hd1) 5 (5, 6)) := ⟨_, rfl⟩
  have hc2 : (convert 42 42 (.slice (some ⟨w1.heap.size, 0, none⟩) 5 5)).run Try.prog (w1.alloc (.cells #[.int .u8 97, .int .u8 98, .int .u8 13, .int .u8 10, .int .u8 99] 5)) = .ok (.slice (some ⟨w1.heap.size, 0, none⟩) 5 5) W2 := by subst hW2; exact Lib.run_convert_bytes_const w1 42 5 _ 5 5 Try.underlying42 Try.underlying5
  have hB2 : Below w1.heap.size w1 W2 := by subst hW2; exact (Below.refl _ _).alloc (Nat.le_refl _) _
  have HB2 : Hid (Below w.heap.size w W2) := HB1.out.trans (hB2.mono HB1.out.size)
  have HT := xtake_any (fun k => w.heap.size ≤ k ∧ k < w1.heap.size) b 10 10 20 (.ln []) (some ⟨w1.heap.size, 0, none⟩) hd1 5 5 rfl (by decide) (by decide) (fun e => by cases e) trivial W2 (HX1.out.below hB2) (by subst hW2; exact lit_row w1 hd1 _) (fun ad e h => by cases e; exact absurd h.2 (Nat.lt_irrefl _))
  rw [hd_one] at HT
  simp only [fiV, fiC, fiK, fiT, fiY, fiH] at HT
  clear hW2 hB2 HB1 HX1
  go_wp2_with fail
  refine HT.mono ?_
  rintro e w3 ⟨v, G, rfl, hK⟩
  obtain ⟨ga, gc, rfl, -⟩ := own_bts hK.ow
  obtain ⟨V, hV⟩ : ∃ V, V = w3.alloc (.cells #[.int .i64 1, .string ⟨#[97, 98]⟩, .slice ga (fiB (.line [97, 98])).length gc, .int .i64 0, .bool false] 50) := ⟨_, rfl⟩
  have hVB : Below w3.heap.size w3 V := by subst hV; exact (Below.refl _ _).alloc (Nat.le_refl _) _
  have hVL : Lies V w3.heap.size #[.int .i64 1, .string ⟨#[97, 98]⟩, .slice ga (fiB (.line [97, 98])).length gc, .int .i64 0, .bool false] 50 := by subst hV; exact Lies.new w3 _ _
  have hB3 : Below w.heap.size W2 w3 := hK.ch.to_below HB2.out.size (fun k hk => hk.1)
  have HBV : Hid (Below w.heap.size w V) := (HB2.out.trans hB3).trans (hVB.mono (Nat.le_trans HB2.out.size hB3.size))
  have HGB : Hid (∀ k, G k → w.heap.size ≤ k) := fun k hk => by
    rcases hK.gr k hk with h | h
    · exact h.1
    · exact Nat.le_trans HB2.out.size h
  have HD := xdata_ok G b 10 10 20 V (hK.fm.below hVB)
  have HVV : Hid (w3.alloc (.cells #[.int .i64 1, .string ⟨#[97, 98]⟩, .slice ga (fiB (.line [97, 98])).length gc, .int .i64 0, .bool false] 50) = V) := hV.symm
  obtain ⟨⟨v0, v1, v2, v3, v4⟩, -⟩ := it_cells hVL
  clear hV hVB hVL hB3 hK HT HB2
  go_wp2_with (rw [HVV.out])
  refine HD.mono ?_
  rintro e w5 ⟨rfl, hX5, hC5⟩
  have HM := xmode_fm _ b 10 10 20 _ w5 hX5
  have HB5 : Hid (Below w.heap.size w w5) := HBV.out.trans (hC5.to_below HBV.out.size HGB.out)
  clear hX5 hC5 HD HVV v0 v1 v2 v3 v4
  go_wp2_with fail
  refine HM.mono ?_
  rintro e w6 ⟨rfl, rfl⟩
  simp only [Fs.md]
  go_wp2_with fail
  go_ret
  exact ⟨rfl, HB5.out⟩
end Go.Proofs.Ythnjbnhmdjpfpaa
