/-
  The answers that each statement asks first.
-/
import Derived.Test.YtfifpepcmpaipaaSm14
import Derived.Test.YtfifpepcmpaipaaSf14
import Derived.Lib.SlBytesConst
namespace Go.Proofs.Ytfifpepcmpaipaa
open Go.RowKit

/-- A literal's row of bytes. -/
theorem lit_row (w : World) (l : List UInt8) (fr : Nat × Nat) : Bts (some ⟨w.heap.size, 0, none⟩) l (w.alloc (.cells (rowV l) 5 fr)) := by
  refine .inr ⟨w.heap.size, 0, rfl, by simp, fun j hj => ?_⟩
  rw [Nat.zero_add, cell_of_row _ w.heap.size j (rowV l) 5 fr (heap_alloc_last w _), rowV_at l j hj]
def wk1 : List UInt8 := [46, 97, 13, 10]
def wk2 : List UInt8 := [97, 13, 10]
def wk3 : List UInt8 := [46, 46, 97, 13, 10, 46, 13, 10, 120]
theorem wk_stuff : stuffL wk1 = [46, 46, 97, 13, 10, 46, 13, 10] := by decide
theorem wk_whole : wholeI wk1 = 0 := by decide
theorem wk_check : checkI 1 wk2 = 0 := by decide
theorem wk_run : Ds.new.run 9 99 wk3 = (8, wk1, ⟨6, 0, 4, false, false, false⟩) := by rfl
theorem wk_end : Ds.run 9 99 ⟨6, 0, 4, false, false, false⟩ [] = (0, [], ⟨6, 0, 4, false, false, false⟩) := by rfl
set_option maxHeartbeats 4000000 in
set_option maxRecDepth 20000 in
theorem wakes_any (w : World) : Calls Try.prog 9 #[] w fun e w' => e = .returned (.bool true) ∧ Below w.heap.size w w' := by
  obtain ⟨W1, hW1⟩ : ∃ W1, W1 = w.alloc (.cells (rowV wk1) 5 (4, 5)) := ⟨_, rfl⟩
  have hc1 : (convert 27 27 (.slice (some ⟨w.heap.size, 0, none⟩) 4 4)).run Try.prog (w.alloc (.cells #[.int .u8 46, .int .u8 97, .int .u8 13, .int .u8 10] 5)) = .ok (.slice (some ⟨w.heap.size, 0, none⟩) 4 4) W1 := by subst hW1; exact Lib.run_convert_bytes_const w 27 5 _ 4 4 Try.underlying27 Try.underlying5
  have hB1 : Below w.heap.size w W1 := by subst hW1; exact (Below.refl _ _).alloc (Nat.le_refl _) _
  have HB1 : Hid (Below w.heap.size w W1) := hB1
  have HST := dstuff_ok (some ⟨w.heap.size, 0, none⟩) wk1 4 4 rfl (by decide) W1 (by subst hW1; exact lit_row w wk1 _) wk_whole
  rw [wk_stuff] at HST
  clear hW1 hB1
  go_enter Try.func9, Try.ntmps9
  go_wp2_with fail
  refine HST.mono ?_
  rintro e w2 ⟨v2, rfl, hO2, hB2⟩
  have HC2 := own_conv hO2
  obtain ⟨g2, cap2, rfl, -⟩ := own_bts hO2
  have HB2 : Hid (Below w.heap.size w w2) := HB1.out.trans (hB2.mono HB1.out.size)
  have HO2 : Hid (w2.ownsRow W1.heap.size 5 1 (.slice g2 8 cap2) 8 (cellsB [46, 46, 97, 13, 10, 46, 13, 10])) := hO2
  clear hB2 hO2 hc1 HB1 HC2 HST
  have HN := dnew_good 9 99 (by decide) (by decide) (by decide) (by decide) w2
  go_wp2_with fail
  refine HN.mono ?_
  rintro e w3 ⟨rfl, hR3, hB3⟩
  have HR3 : Hid (Rd w3 w2.heap.size 9 99 Ds.new) := hR3
  have HB3 : Hid (Below w.heap.size w w3) := HB2.out.trans (hB3.mono HB2.out.size)
  have hC3 := own_conv (own_below HO2.out hB3)
  have HS3 : Hid (w2.heap.size < w3.heap.size) := hR3.lt
  have HW2 : Hid (w.heap.size ≤ w2.heap.size) := HB2.out.size
  clear hR3 hB3 HN HO2 HB2
  obtain ⟨W4, hW4⟩ : ∃ W4, W4 = w3.alloc (.cells (rowV wk2) 5 (3, 4)) := ⟨_, rfl⟩
  have hc4 : (convert 27 27 (.slice (some ⟨w3.heap.size, 0, none⟩) 3 3)).run Try.prog (w3.alloc (.cells #[.int .u8 97, .int .u8 13, .int .u8 10] 5)) = .ok (.slice (some ⟨w3.heap.size, 0, none⟩) 3 3) W4 := by subst hW4; exact Lib.run_convert_bytes_const w3 27 5 _ 3 3 Try.underlying27 Try.underlying5
  have hB4 : Below w3.heap.size w3 W4 := by subst hW4; exact (Below.refl _ _).alloc (Nat.le_refl _) _
  have HB4 : Hid (Below w.heap.size w W4) := HB3.out.trans (hB4.mono HB3.out.size)
  have HR4 : Hid (Rd W4 w2.heap.size 9 99 Ds.new) := HR3.out.below hB4 HS3.out
  have HCK := dcheck_ok (some ⟨w3.heap.size, 0, none⟩) wk2 3 3 1 rfl (by decide) (by decide) (by decide) W4 (by subst hW4; exact lit_row w3 wk2 _)
  rw [wk_check] at HCK
  clear hW4 hB4 HB3 HR3 HS3
  go_wp2_with fail
  refine HCK.mono ?_
  rintro e w5 ⟨rfl, rfl⟩
  clear HCK hc4 hC3
  obtain ⟨W5, hW5⟩ : ∃ W5, W5 = w5.alloc (.cells (rowV wk3) 5 (9, 10)) := ⟨_, rfl⟩
  have hc5 : (convert 27 27 (.slice (some ⟨w5.heap.size, 0, none⟩) 9 9)).run Try.prog (w5.alloc (.cells #[.int .u8 46, .int .u8 46, .int .u8 97, .int .u8 13, .int .u8 10, .int .u8 46, .int .u8 13, .int .u8 10, .int .u8 120] 5)) = .ok (.slice (some ⟨w5.heap.size, 0, none⟩) 9 9) W5 := by subst hW5; exact Lib.run_convert_bytes_const w5 27 5 _ 9 9 Try.underlying27 Try.underlying5
  have hB5 : Below w5.heap.size w5 W5 := by subst hW5; exact (Below.refl _ _).alloc (Nat.le_refl _) _
  have HB5 : Hid (Below w.heap.size w W5) := HB4.out.trans (hB5.mono HB4.out.size)
  have HT := dtake_any w2.heap.size 9 99 Ds.new (some ⟨w5.heap.size, 0, none⟩) wk3 9 9 rfl (by decide) W5 (HR4.out.below hB5 HR4.out.lt) (by decide) (by decide) (by decide) (by decide) (by subst hW5; exact lit_row w5 wk3 _)
  rw [wk_run] at HT
  clear hW5 hB5 HB4 HR4
  unfold imV imC at HT
  dsimp only [imOf, stOf, wk1, imK, imY, imH] at HT
  simp only [reduceCtorEq, if_false] at HT
  go_wp2_with fail
  refine HT.mono ?_
  rintro e w6 ⟨v6, rfl, hT6⟩
  obtain ⟨g6, cap6, rfl, hb6, -⟩ := own_bts hT6.ow
  have HB6 : Hid (Below w.heap.size w w6) := HB5.out.trans (hT6.ch.to_below HB5.out.size (fun k e => by rw [e]; exact HW2.out))
  have HR6 : Hid (Rd w6 w2.heap.size 9 99 ⟨6, 0, 4, false, false, false⟩) := hT6.rd
  have HBT6 : Hid (Bts g6 wk1 w6) := hb6
  clear hT6 hb6 HT hc5 HB5
  dsimp only [imB, List.length_cons, List.length_nil]
  obtain ⟨W7, hW7⟩ : ∃ W7, W7 = w6.alloc (.cells #[.int .i64 3, .string ⟨#[]⟩, .slice g6 4 cap6, .int .i64 0, .bool false] 34) := ⟨_, rfl⟩
  have hB7 : Below w6.heap.size w6 W7 := by subst hW7; exact (Below.refl _ _).alloc (Nat.le_refl _) _
  have HB7 : Hid (Below w.heap.size w W7) := HB6.out.trans (hB7.mono HB6.out.size)
  have HL7 : Hid (Lies W7 w6.heap.size #[.int .i64 3, .string ⟨#[]⟩, .slice g6 4 cap6, .int .i64 0, .bool false] 34) := by subst hW7; exact Lies.new w6 _ _
  have HR7 : Hid (Rd W7 w2.heap.size 9 99 ⟨6, 0, 4, false, false, false⟩) := HR6.out.below hB7 HR6.out.lt
  have HBT7 : Hid (Bts g6 wk1 W7) := HBT6.out.below hB7
  have HN7 : Hid (w2.heap.size < w6.heap.size) := HR6.out.lt
  have HWW : Hid (w6.alloc (.cells #[.int .i64 3, .string ⟨#[]⟩, .slice g6 4 cap6, .int .i64 0, .bool false] 34) = W7) := hW7.symm
  have HT := dtake_any w2.heap.size 9 99 ⟨6, 0, 4, false, false, false⟩ none [] 0 0 rfl (by decide) W7 HR7.out (by decide) (by decide) (by decide) (by decide) (.inl rfl)
  rw [wk_end] at HT
  unfold imV imC at HT
  dsimp only [imOf, stOf, imK, imY, imH, Ds.why] at HT
  simp only [if_true] at HT
  clear hW7 hB7 HB6 HR6 HBT6
  go_wp2_with fail
  rw [HWW.out]
  clear HWW
  refine HT.mono ?_
  rintro e w8 ⟨v8, rfl, hT8⟩
  obtain ⟨g8, cap8, rfl, hb8, -⟩ := own_bts hT8.ow
  have hb8' : Bts g8 [] w8 := hb8
  have HB8 : Hid (Below w.heap.size w w8) := HB7.out.trans (hT8.ch.to_below HB7.out.size (fun k e => by rw [e]; exact HW2.out))
  have HL8 : Hid (Lies w8 w6.heap.size #[.int .i64 3, .string ⟨#[]⟩, .slice g6 4 cap6, .int .i64 0, .bool false] 34) := hT8.ch.lies HL7.out (fun e => by have := HN7.out; omega)
  have HBT8 : Hid (Bts g6 wk1 w8) := HBT7.out.chg hT8.ch (fun ad e h => by
    subst e
    rcases HBT7.out with e | ⟨q, o, e, hq, _⟩
    · cases e
    · cases e
      exact bts_rd HBT7.out (by decide) HR7.out h)
  have HG8 : Hid (Bts g8 [] w8) := hb8'
  clear hT8 hb8 hb8' HT HR7 HL7 HBT7 HB7
  simp only [imB, List.length_nil]
  obtain ⟨W9, hW9⟩ : ∃ W9, W9 = w8.alloc (.cells #[.int .i64 4, .string ⟨#[]⟩, .slice g8 0 cap8, .int .i64 0, .bool false] 34) := ⟨_, rfl⟩
  have hB9 : Below w8.heap.size w8 W9 := by subst hW9; exact (Below.refl _ _).alloc (Nat.le_refl _) _
  have HB9 : Hid (Below w.heap.size w W9) := HB8.out.trans (hB9.mono HB8.out.size)
  have hL9 : Lies W9 w6.heap.size #[.int .i64 3, .string ⟨#[]⟩, .slice g6 4 cap6, .int .i64 0, .bool false] 34 := HL8.out.below hB9 HL8.out.lt
  have hM9 : Lies W9 w8.heap.size #[.int .i64 4, .string ⟨#[]⟩, .slice g8 0 cap8, .int .i64 0, .bool false] 34 := by subst hW9; exact Lies.new w8 _ _
  have HBT9 : Hid (Bts g6 wk1 W9) := HBT8.out.below hB9
  have HWW : Hid (w8.alloc (.cells #[.int .i64 4, .string ⟨#[]⟩, .slice g8 0 cap8, .int .i64 0, .bool false] 34) = W9) := hW9.symm
  have HM9 : Hid (Lies W9 w8.heap.size #[.int .i64 4, .string ⟨#[]⟩, .slice g8 0 cap8, .int .i64 0, .bool false] 34) := hM9
  obtain ⟨⟨a0, a1, a2, a3, a4⟩, -⟩ := it_cells hL9
  clear hW9 hB9 HB8 HL8 HBT8 hL9 hM9
  obtain ⟨W10, hW10⟩ : ∃ W10, W10 = W9.alloc (.cells (rowV wk1) 5 (4, 5)) := ⟨_, rfl⟩
  have hc10 : (convert 27 27 (.slice (some ⟨W9.heap.size, 0, none⟩) 4 4)).run Try.prog (W9.alloc (.cells #[.int .u8 46, .int .u8 97, .int .u8 13, .int .u8 10] 5)) = .ok (.slice (some ⟨W9.heap.size, 0, none⟩) 4 4) W10 := by subst hW10; exact Lib.run_convert_bytes_const W9 27 5 _ 4 4 Try.underlying27 Try.underlying5
  have hB10 : Below W9.heap.size W9 W10 := by subst hW10; exact (Below.refl _ _).alloc (Nat.le_refl _) _
  have HB10 : Hid (Below w.heap.size w W10) := HB9.out.trans (hB10.mono HB9.out.size)
  have HM10 : Hid (Lies W10 w8.heap.size #[.int .i64 4, .string ⟨#[]⟩, .slice g8 0 cap8, .int .i64 0, .bool false] 34) := HM9.out.below hB10 HM9.out.lt
  have HSM := lsame_yes 3 0 ⟨#[]⟩ false g6 (some ⟨W9.heap.size, 0, none⟩) wk1 4 4 cap6 4 rfl rfl W10 (HBT9.out.below hB10) (by subst hW10; exact lit_row W9 wk1 _)
  clear hW10 hB10 HB9 HM9 HBT9
  go_wp2_with (rw [HWW.out])
  refine HSM.mono ?_
  rintro e w11 ⟨rfl, hB11⟩
  have HB11 : Hid (Below w.heap.size w w11) := HB10.out.trans (hB11.mono HB10.out.size)
  have hM11 := HM10.out.below hB11 HM10.out.lt
  obtain ⟨⟨b0, b1, b2, b3, b4⟩, -⟩ := it_cells hM11
  have HSN := lsame_yes 4 0 ⟨#[]⟩ false g8 none [] 0 0 cap8 0 rfl rfl w11 (.inl rfl) (.inl rfl)
  clear hB11 HSM hc10 HB10 HM10 hM11 a0 a1 a2 a3 a4
  go_wp2_with fail
  refine HSN.mono ?_
  rintro e w12 ⟨rfl, hB12⟩
  have HB12 : Hid (Below w.heap.size w w12) := HB11.out.trans (hB12.mono HB11.out.size)
  clear hB12 HSN
  go_wp2_with fail
  go_ret
  exact ⟨rfl, HB12.out⟩
end Go.Proofs.Ytfifpepcmpaipaa
