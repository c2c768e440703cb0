/-
  the document's examples, errors and limits of layer 14.
-/
import Derived.Test.YtfifpepcmpaipaaKn14
import Derived.Test.YtfifpepcmpaipaaRows
import Derived.ProofKit
import Derived.ChangeMaps5
import Derived.OpenShut
import Derived.ShutString
import Derived.ChangeOld
import Derived.SizedLaws
namespace Go.Proofs.Ytfifpepcmpaipaa.dotsKnown
open Go.ChangeShapes Go.WideShapes Go.ChangeAt Go.RowKit

set_option maxHeartbeats 8000000 in
set_option maxRecDepth 20000 in
theorem walk (w : World) : Calls Try.prog 3 #[] w fun e w' => e = .returned (.bool true) ∧ Below w.heap.size w w' := by
  have HWK := wakes_any w
  go_enter Try.func3, Try.ntmps3
  go_wp2_with fail
  refine HWK.mono ?_
  rintro e w1 ⟨rfl, hB1⟩
  have HB1 : Hid (Below w.heap.size w w1) := hB1
  clear HWK hB1
  obtain ⟨W2, hW2⟩ : ∃ W2, W2 = w1.alloc (.cells #[.string ⟨#[]⟩, .int .i64 1, .int .i64 0, .string ⟨#[97, 98, 13, 10]⟩, .int .i64 2, .int .i64 0, .string ⟨#[97, 98, 99, 13, 10]⟩, .int .i64 2, .int .i64 140, .string ⟨#[97, 98]⟩, .int .i64 9, .int .i64 141, .string ⟨#[97, 10, 98, 13, 10]⟩, .int .i64 9, .int .i64 130, .string ⟨#[97, 98, 13, 10, 13]⟩, .int .i64 9, .int .i64 130, .string ⟨#[97, 13, 10]⟩, .int .i64 0, .int .i64 2, .string ⟨#[97, 13, 10]⟩, .int .i64 16777217, .int .i64 2, .string ⟨#[97, 13, 10]⟩, .int .i64 16777216, .int .i64 0] 24) := ⟨_, rfl⟩
  have HB2 : Hid (Below w.heap.size w W2) := by subst hW2; exact HB1.out.alloc HB1.out.size _
  have HO2 : Hid (Ow celK 24 3 W2 (.slice (some ⟨w1.heap.size, 0, none⟩) 9 9) kt) := by subst hW2; exact ⟨rfl, .inr ⟨w1.heap.size, 9, _, rfl, Nat.zero_le _, heap_alloc_last w1 _, Nat.le_refl _, by unfold maxLen; omega, rfl, rfl⟩⟩
  have HWW : Hid (w1.alloc (.cells #[.string ⟨#[]⟩, .int .i64 1, .int .i64 0, .string ⟨#[97, 98, 13, 10]⟩, .int .i64 2, .int .i64 0, .string ⟨#[97, 98, 99, 13, 10]⟩, .int .i64 2, .int .i64 140, .string ⟨#[97, 98]⟩, .int .i64 9, .int .i64 141, .string ⟨#[97, 10, 98, 13, 10]⟩, .int .i64 9, .int .i64 130, .string ⟨#[97, 98, 13, 10, 13]⟩, .int .i64 9, .int .i64 130, .string ⟨#[97, 13, 10]⟩, .int .i64 0, .int .i64 2, .string ⟨#[97, 13, 10]⟩, .int .i64 16777217, .int .i64 2, .string ⟨#[97, 13, 10]⟩, .int .i64 16777216, .int .i64 0] 24) = W2) := hW2.symm
  clear hW2 HB1
  go_wp2_with (rw [HWW.out])
  clear HWW
  go_loopw [2, 32] (fun _ jv wr => ∃ j : Nat, j ≤ 9 ∧ jv = .int .i64 j ∧ Hid (Below w.heap.size w wr) ∧ Hid (Below W2.heap.size W2 wr)) (fun _ jv _ => 9 - (intOf jv).toNat)
  case atStart => exact ⟨0, by omega, rfl, HB2.out, Below.refl _ _⟩
  case round =>
    obtain ⟨j, hj, rfl, HB, HBW⟩ := hrel
    by_cases hlt : j < 9
    · have hjk : j < kt.length := hlt
      obtain ⟨c0, c1, c2⟩ := kt_cells (HO2.out.below HBW.out) j hjk
      have HCQ : Hid (∀ ad cap w', Bts ad kt[j].1 w' → Calls Try.prog 10 #[.slice ad kt[j].1.length cap, .int .i64 kt[j].2.1] w' fun e w'' => e = .returned (.int .i64 kt[j].2.2) ∧ w'' = w') := fun ad cap w' h => kt_check j hjk ad cap w' h
      generalize kt[j] = X at *
      obtain ⟨s, tx, wa⟩ := X
      dsimp only at *
      obtain ⟨W3, hW3⟩ : ∃ W3, W3 = wr.alloc (.cells #[.string ⟨s.toArray⟩, .int .i64 tx, .int .i64 wa] 24) := ⟨_, rfl⟩
      have hB3 : Below wr.heap.size wr W3 := by subst hW3; exact (Below.refl _ _).alloc (Nat.le_refl _) _
      have HL1 : Hid (Lies W3 wr.heap.size #[.string ⟨s.toArray⟩, .int .i64 tx, .int .i64 wa] 24) := by subst hW3; exact Lies.new wr _ _
      have HWW : Hid (wr.alloc (.cells #[.string ⟨s.toArray⟩, .int .i64 tx, .int .i64 wa] 24) = W3) := hW3.symm
      obtain ⟨c, w4, hconv, hbt, hB4⟩ := conv_bytes W3.drew s
      have hconv' : (convert 9 27 (.string ⟨s.toArray⟩)).run Try.prog W3.drew = .ok (.slice (some ⟨W3.heap.size, 0, none⟩) s.length c) w4 := hconv
      have HL2 : Hid (Lies w4 wr.heap.size #[.string ⟨s.toArray⟩, .int .i64 tx, .int .i64 wa] 24) := Lies.below (show Lies W3.drew _ _ _ from HL1.out) hB4 HL1.out.lt
      have HCK := HCQ.out (some ⟨W3.heap.size, 0, none⟩) c w4 hbt
      have hB34 : Below wr.heap.size wr w4 := hB3.trans (((Below.refl W3.heap.size W3).drew.trans hB4).mono hB3.size)
      have HB4 : Hid (Below w.heap.size w w4 ∧ Below W2.heap.size W2 w4) := ⟨HB.out.trans (hB34.mono HB.out.size), HBW.out.trans (hB34.mono HBW.out.size)⟩
      clear hW3 hB3 hconv hbt hB4 hB34 HCQ hjk
      go_wp2_with (rw [HWW.out])
      refine wp_region_late (fun wx => Lies wx wr.heap.size #[.string ⟨s.toArray⟩, .int .i64 tx, .int .i64 wa] 24) 9 (by kernel_rfl) HL1.out (fun hHeld => ?_)
      refine wpAnyE_tk (i := 0) (d := some 36) (v := .pointer (some ⟨wr.heap.size, 0, none⟩)) rfl (by kernel_rfl) (by kernel_rfl) (by kernel_rfl) rfl (fun _ _ _ h => h) rfl rfl ?hy hHeld ?_
      case hy => (intro w' hSw; have c0 := hSw.cell 0; have c1 := hSw.cell 1; have c2 := hSw.cell 2; simp only [List.getElem?_toArray, List.getElem?_cons_zero, List.getElem?_cons_succ] at c0 c1 c2; clear hSw; go_simp <;> (first | with_reducible rfl | omega | skip))
      simp only [Act.put, List.setIfInBounds_toArray, List.set_cons_zero, List.set_cons_succ]
      refine wpAnyE_tk (i := 1) (d := some 37) (v := .string ⟨s.toArray⟩) rfl (by kernel_rfl) (by kernel_rfl) (by kernel_rfl) rfl (fun _ _ _ h => h) rfl rfl ?hy hHeld ?_
      case hy => (intro w' hSw; have c0 := hSw.cell 0; have c1 := hSw.cell 1; have c2 := hSw.cell 2; simp only [List.getElem?_toArray, List.getElem?_cons_zero, List.getElem?_cons_succ] at c0 c1 c2; clear hSw; go_simp <;> (first | with_reducible rfl | omega | skip))
      simp only [Act.put, List.setIfInBounds_toArray, List.set_cons_zero, List.set_cons_succ]
      refine wpAnyE_tk (i := 3) (d := some 39) (v := .pointer (some ⟨wr.heap.size, 1, none⟩)) rfl (by kernel_rfl) (by kernel_rfl) (by kernel_rfl) rfl (fun _ _ _ h => h) rfl rfl ?hy hHeld ?_
      case hy => (intro w' hSw; have c0 := hSw.cell 0; have c1 := hSw.cell 1; have c2 := hSw.cell 2; simp only [List.getElem?_toArray, List.getElem?_cons_zero, List.getElem?_cons_succ] at c0 c1 c2; clear hSw; go_simp <;> (first | with_reducible rfl | omega | skip))
      simp only [Act.put, List.setIfInBounds_toArray, List.set_cons_zero, List.set_cons_succ]
      refine wpAnyE_tk (i := 4) (d := some 40) (v := .int .i64 tx) rfl (by kernel_rfl) (by kernel_rfl) (by kernel_rfl) rfl (fun _ _ _ h => h) rfl rfl ?hy hHeld ?_
      case hy => (intro w' hSw; have c0 := hSw.cell 0; have c1 := hSw.cell 1; have c2 := hSw.cell 2; simp only [List.getElem?_toArray, List.getElem?_cons_zero, List.getElem?_cons_succ] at c0 c1 c2; clear hSw; go_simp <;> (first | with_reducible rfl | omega | skip))
      simp only [Act.put, List.setIfInBounds_toArray, List.set_cons_zero, List.set_cons_succ]
      refine wpAnyE_tk (i := 6) (d := some 42) (v := .pointer (some ⟨wr.heap.size, 2, none⟩)) rfl (by kernel_rfl) (by kernel_rfl) (by kernel_rfl) rfl (fun _ _ _ h => h) rfl rfl ?hy hHeld ?_
      case hy => (intro w' hSw; have c0 := hSw.cell 0; have c1 := hSw.cell 1; have c2 := hSw.cell 2; simp only [List.getElem?_toArray, List.getElem?_cons_zero, List.getElem?_cons_succ] at c0 c1 c2; clear hSw; go_simp <;> (first | with_reducible rfl | omega | skip))
      simp only [Act.put, List.setIfInBounds_toArray, List.set_cons_zero, List.set_cons_succ]
      refine wpAnyE_tk (i := 7) (d := some 43) (v := .int .i64 wa) rfl (by kernel_rfl) (by kernel_rfl) (by kernel_rfl) rfl (fun _ _ _ h => h) rfl rfl ?hy hHeld ?_
      case hy => (intro w' hSw; have c0 := hSw.cell 0; have c1 := hSw.cell 1; have c2 := hSw.cell 2; simp only [List.getElem?_toArray, List.getElem?_cons_zero, List.getElem?_cons_succ] at c0 c1 c2; clear hSw; go_simp <;> (first | with_reducible rfl | omega | skip))
      simp only [Act.put, List.setIfInBounds_toArray, List.set_cons_zero, List.set_cons_succ]
      refine wpAnyE_on (i := 2) (by kernel_rfl) rfl rfl ?_
      go_simp
      refine ⟨HL2.out, ?_⟩
      refine wpAnyE_on (i := 5) (by kernel_rfl) rfl rfl ?_
      go_simp
      refine HCK.mono ?_
      rintro e w9 ⟨rfl, rfl⟩
      refine ⟨HL2.out, ?_⟩
      refine wpAnyE_tk (i := 8) (d := some 44) (v := .bool false) rfl (by kernel_rfl) (by kernel_rfl) (by kernel_rfl) rfl (fun _ _ _ h => h) rfl rfl ?hy HL2.out ?_
      case hy => (intro w' hSw; have c0 := hSw.cell 0; have c1 := hSw.cell 1; have c2 := hSw.cell 2; simp only [List.getElem?_toArray, List.getElem?_cons_zero, List.getElem?_cons_succ] at c0 c1 c2; clear hSw; go_simp <;> (first | with_reducible rfl | omega | skip))
      simp only [Act.put, List.setIfInBounds_toArray, List.set_cons_zero, List.set_cons_succ]
      refine wpAnyE_done (by kernel_rfl) ?_ _
      go_wp2_with fail
      go_round
      case rel => exact ⟨j + 1, hlt, by go_num, HB4.out.1, HB4.out.2⟩
      case measure => simp [intOf]; omega
    · obtain rfl : j = 9 := by omega
      obtain ⟨Wa, hWa⟩ : ∃ Wa, Wa = wr.alloc (.cells (rowV [46, 97, 13, 10, 98, 13, 10, 13, 10, 46, 46, 13, 10]) 5 (13, 14)) := ⟨_, rfl⟩
      have hc1 : (convert 27 27 (.slice (some ⟨wr.heap.size, 0, none⟩) 13 13)).run Try.prog (wr.alloc (.cells #[.int .u8 46, .int .u8 97, .int .u8 13, .int .u8 10, .int .u8 98, .int .u8 13, .int .u8 10, .int .u8 13, .int .u8 10, .int .u8 46, .int .u8 46, .int .u8 13, .int .u8 10] 5)) = .ok (.slice (some ⟨wr.heap.size, 0, none⟩) 13 13) Wa := by subst hWa; exact Lib.run_convert_bytes_const wr 27 5 _ 13 13 Try.underlying27 Try.underlying5
      have hb1 : Below wr.heap.size wr Wa := by subst hWa; exact (Below.refl _ _).alloc (Nat.le_refl _) _
      have hbt1 : Bts (some ⟨wr.heap.size, 0, none⟩) [46, 97, 13, 10, 98, 13, 10, 13, 10, 46, 46, 13, 10] Wa := by subst hWa; exact lit_row wr [46, 97, 13, 10, 98, 13, 10, 13, 10, 46, 46, 13, 10] _
      have HBa : Hid (Below w.heap.size w Wa) := HB.out.trans (hb1.mono HB.out.size)
      have HST := dstuff_ok (some ⟨wr.heap.size, 0, none⟩) wkA 13 13 rfl (by decide) Wa hbt1 wkA_whole
      rw [wkA_stuff] at HST
      clear hWa hb1 hbt1 HB HBW HO2 HB2
      go_wp2_with fail
      refine HST.mono ?_
      rintro e w5 ⟨v5, rfl, hO5, hB5⟩
      have HB5 : Hid (Below w.heap.size w w5) := HBa.out.trans (hB5.mono HBa.out.size)
      obtain ⟨g5, c5, hv5, -⟩ := own_bts hO5
      subst hv5
      have HO5 : Hid (w5.ownsRow Wa.heap.size 5 1 (.slice g5 18 c5) 18 (cellsB [46, 46, 97, 13, 10, 98, 13, 10, 13, 10, 46, 46, 46, 13, 10, 46, 13, 10])) := hO5
      clear HST hO5 hB5 hc1 HBa
      have HN1 := dnew_bad 0 9 (by decide) w5
      go_wp2_with fail
      refine HN1.mono ?_
      rintro e w6 ⟨rfl, rfl⟩
      clear HN1
      have HN2 := dnew_bad 9 16777217 (by decide) w6
      go_wp2_with fail
      refine HN2.mono ?_
      rintro e w7 ⟨rfl, rfl⟩
      clear HN2
      have HN3 := dnew_good 16777216 16777216 (by decide) (by decide) (by decide) (by decide) w7
      go_wp2_with fail
      refine HN3.mono ?_
      rintro e w8 ⟨rfl, -, hB8⟩
      have HB8 : Hid (Below w.heap.size w w8) := HB5.out.trans (hB8.mono HB5.out.size)
      have hcv := own_conv (own_below HO5.out hB8)
      have HN4 := dnew_good 9 99 (by decide) (by decide) (by decide) (by decide) w8
      clear HN3 hB8 HB5 HO5
      go_wp2_with fail
      refine HN4.mono ?_
      rintro e w9 ⟨rfl, hR9, hB9⟩
      have HB9 : Hid (Below w.heap.size w w9) := HB8.out.trans (hB9.mono HB8.out.size)
      have HR9 : Hid (Rd w9 w8.heap.size 9 99 (stK 0)) := hR9
      have HB8S : Hid (w.heap.size ≤ w8.heap.size) := HB8.out.size
      clear HN4 hR9 hB9 hcv HB8
      obtain ⟨Wb, hWb⟩ : ∃ Wb, Wb = w9.alloc (.cells (rowV [97, 98, 13, 10, 46]) 5 (5, 6)) := ⟨_, rfl⟩
      have hc2 : (convert 27 27 (.slice (some ⟨w9.heap.size, 0, none⟩) 5 5)).run Try.prog (w9.alloc (.cells #[.int .u8 97, .int .u8 98, .int .u8 13, .int .u8 10, .int .u8 46] 5)) = .ok (.slice (some ⟨w9.heap.size, 0, none⟩) 5 5) Wb := by subst hWb; exact Lib.run_convert_bytes_const w9 27 5 _ 5 5 Try.underlying27 Try.underlying5
      have hb2 : Below w9.heap.size w9 Wb := by subst hWb; exact (Below.refl _ _).alloc (Nat.le_refl _) _
      have hbt2 : Bts (some ⟨w9.heap.size, 0, none⟩) [97, 98, 13, 10, 46] Wb := by subst hWb; exact lit_row w9 [97, 98, 13, 10, 46] _
      obtain ⟨Wc, hWc⟩ : ∃ Wc, Wc = Wb.alloc (.cells (rowV [99, 13]) 5 (2, 3)) := ⟨_, rfl⟩
      have hc3 : (convert 27 27 (.slice (some ⟨Wb.heap.size, 0, none⟩) 2 2)).run Try.prog (Wb.alloc (.cells #[.int .u8 99, .int .u8 13] 5)) = .ok (.slice (some ⟨Wb.heap.size, 0, none⟩) 2 2) Wc := by subst hWc; exact Lib.run_convert_bytes_const Wb 27 5 _ 2 2 Try.underlying27 Try.underlying5
      have hb3 : Below Wb.heap.size Wb Wc := by subst hWc; exact (Below.refl _ _).alloc (Nat.le_refl _) _
      have hbt3 : Bts (some ⟨Wb.heap.size, 0, none⟩) [99, 13] Wc := by subst hWc; exact lit_row Wb [99, 13] _
      obtain ⟨Wd, hWd⟩ : ∃ Wd, Wd = Wc.alloc (.cells (rowV [10]) 5 (1, 2)) := ⟨_, rfl⟩
      have hc4 : (convert 27 27 (.slice (some ⟨Wc.heap.size, 0, none⟩) 1 1)).run Try.prog (Wc.alloc (.cells #[.int .u8 10] 5)) = .ok (.slice (some ⟨Wc.heap.size, 0, none⟩) 1 1) Wd := by subst hWd; exact Lib.run_convert_bytes_const Wc 27 5 _ 1 1 Try.underlying27 Try.underlying5
      have hb4 : Below Wc.heap.size Wc Wd := by subst hWd; exact (Below.refl _ _).alloc (Nat.le_refl _) _
      have hbt4 : Bts (some ⟨Wc.heap.size, 0, none⟩) [10] Wd := by subst hWd; exact lit_row Wc [10] _
      obtain ⟨We, hWe⟩ : ∃ We, We = Wd.alloc (.cells ((tbD w9.heap.size Wb.heap.size Wc.heap.size).flatMap celD).toArray 35) := ⟨_, rfl⟩
      have hb5 : Below Wd.heap.size Wd We := by subst hWe; exact (Below.refl _ _).alloc (Nat.le_refl _) _
      have HWE : Hid (Wd.alloc (.cells #[.string ⟨#[97, 98, 13, 10, 46, 46]⟩, .int .i64 6, .int .i64 3, .string ⟨#[]⟩, .slice (some ⟨w9.heap.size, 0, none⟩) 5 5, .int .i64 0, .bool false, .int .i64 0, .string ⟨#[99, 13]⟩, .int .i64 2, .int .i64 3, .string ⟨#[]⟩, .slice (some ⟨Wb.heap.size, 0, none⟩) 2 2, .int .i64 0, .bool false, .int .i64 0, .string ⟨#[10, 46]⟩, .int .i64 2, .int .i64 3, .string ⟨#[]⟩, .slice (some ⟨Wc.heap.size, 0, none⟩) 1 1, .int .i64 0, .bool false, .int .i64 1, .string ⟨#[13]⟩, .int .i64 1, .int .i64 0, .string ⟨#[]⟩, .slice none 0 0, .int .i64 0, .bool false, .int .i64 2, .string ⟨#[10, 81, 85, 73, 84, 13, 10]⟩, .int .i64 1, .int .i64 4, .string ⟨#[]⟩, .slice none 0 0, .int .i64 0, .bool false, .int .i64 0, .string ⟨#[120]⟩, .int .i64 0, .int .i64 0, .string ⟨#[]⟩, .slice none 0 0, .int .i64 0, .bool false, .int .i64 0] 35) = We) := by subst hWe; exact rfl
      have HOE : Hid (Ow celD 35 8 We (.slice (some ⟨Wd.heap.size, 0, none⟩) 6 6) (tbD w9.heap.size Wb.heap.size Wc.heap.size)) := by subst hWe; exact tbD_own Wd _ _ _
      have hbd : Below w9.heap.size w9 We := ((hb2.trans (hb3.mono hb2.size)).trans (hb4.mono (Nat.le_trans hb2.size hb3.size))).trans (hb5.mono (Nat.le_trans hb2.size (Nat.le_trans hb3.size hb4.size)))
      have HBE : Hid (Below w.heap.size w We) := HB9.out.trans (hbd.mono HB9.out.size)
      have HRE : Hid (Rd We w8.heap.size 9 99 (stK 0)) := HR9.out.below hbd HR9.out.lt
      have HT1 : Hid (Bts (some ⟨w9.heap.size, 0, none⟩) [97, 98, 13, 10, 46] We) := ((hbt2.below hb3).below hb4).below hb5
      have HT2 : Hid (Bts (some ⟨Wb.heap.size, 0, none⟩) [99, 13] We) := (hbt3.below hb4).below hb5
      have HT3 : Hid (Bts (some ⟨Wc.heap.size, 0, none⟩) [10] We) := hbt4.below hb5
      have HRB : Hid (w.heap.size ≤ w8.heap.size) := HB8S.out
      have HNT : Hid (Wd.heap.size ≠ w8.heap.size) := Nat.ne_of_gt (Nat.lt_of_lt_of_le HR9.out.lt (Nat.le_trans hb2.size (Nat.le_trans hb3.size hb4.size)))
      clear hWb hWc hWd hWe hb2 hb3 hb4 hb5 hbt2 hbt3 hbt4 hbd HB9 HR9
      go_wp2_with (rw [HWE.out])
      clear HWE hc2 hc3 hc4
      go_loopw [14, 15, 16, 107] (fun _ _ _ jv wr => ∃ j : Nat, j ≤ 6 ∧ jv = .int .i64 j ∧ Hid (Chg (fun k => k = w8.heap.size) We wr) ∧ Hid (Rd wr w8.heap.size 9 99 (stK j))) (fun _ _ _ jv _ => 6 - (intOf jv).toNat)
      case atStart => exact ⟨0, by omega, rfl, Chg.refl _ _, HRE.out⟩
      case round =>
        obtain ⟨j, hj, rfl, HC, HR⟩ := hrel
        by_cases hlt : j < 6
        · have hcs := tbD_cells (HOE.out.chg HC.out (fun k e => by cases e; exact HNT.out)) j hlt
          obtain ⟨k1, k2, k3, k4, k5, k6, k7, k8⟩ := kd_ok j hlt
          obtain ⟨va, nb, cb, hvs, hnb, hbv⟩ := vsD_bts HT1.out HT2.out HT3.out j hlt
          have HBV : Hid (Bts va (imB (kd j).2.2.1) We ∧ nb = (imB (kd j).2.2.1).length) := ⟨hbv, hnb⟩
          have c0 := hcs 0 (by decide)
          have c1 := hcs 1 (by decide)
          have c2 := hcs 2 (by decide)
          have c3 := hcs 3 (by decide)
          have c4 := hcs 4 (by decide)
          have c5 := hcs 5 (by decide)
          have c6 := hcs 6 (by decide)
          have c7 := hcs 7 (by decide)
          rw [hvs] at c0 c1 c2 c3 c4 c5 c6 c7
          simp only [celD, List.getElem?_cons_zero, List.getElem?_cons_succ, Nat.add_zero] at c0 c1 c2 c3 c4 c5 c6 c7
          have HHH : Hid ((stK (j + 1)).held = (kd j).2.2.2) := k3
          have HTQ : Hid (∀ ad cap w', Bts ad (kd j).1 w' → Rd w' w8.heap.size 9 99 (stK j) → Calls Try.prog 13 #[.pointer (some ⟨w8.heap.size, 0, none⟩), .slice ad (kd j).1.length cap] w' fun e w'' => ∃ v, e = .returned (.tuple #[.int .i64 ((kd j).2.1 : Int), imV (kd j).2.2.1 v]) ∧ Tkn w' w8.heap.size 9 99 (kd j).2.2.1 (stK (j + 1)) v w'') := fun ad cap w' hb hr => by
            have := dtake_any w8.heap.size 9 99 (stK j) ad (kd j).1 (kd j).1.length cap rfl (by omega) w' hr k4 k5 (by omega) (by omega) hb
            rw [k2, k1] at this
            exact this
          clear hcs k1 k2 k3 k4 k5 k6 k7 k8 hvs hnb hbv
          generalize kd j = X at *
          obtain ⟨s, n, im, hd⟩ := X
          dsimp only at *
          obtain ⟨W3, hW3⟩ : ∃ W3, W3 = wr.alloc (.cells #[.string ⟨s.toArray⟩, .int .i64 (n : Int), .int .i64 (imK im), .string ⟨#[]⟩, .slice va nb cb, .int .i64 (imY im), .bool (imH im), .int .i64 (hd : Int)] 35) := ⟨_, rfl⟩
          have hB3 : Below wr.heap.size wr W3 := by subst hW3; exact (Below.refl _ _).alloc (Nat.le_refl _) _
          have HL3 : Hid (Lies W3 wr.heap.size #[.string ⟨s.toArray⟩, .int .i64 (n : Int), .int .i64 (imK im), .string ⟨#[]⟩, .slice va nb cb, .int .i64 (imY im), .bool (imH im), .int .i64 (hd : Int)] 35) := by subst hW3; exact Lies.new wr _ _
          have HW3 : Hid (wr.alloc (.cells #[.string ⟨s.toArray⟩, .int .i64 (n : Int), .int .i64 (imK im), .string ⟨#[]⟩, .slice va nb cb, .int .i64 (imY im), .bool (imH im), .int .i64 (hd : Int)] 35) = W3) := hW3.symm
          have d0 : W3.cell? ⟨wr.heap.size, 0, none⟩ = some (.string ⟨s.toArray⟩) := HL3.out.cell 0
          obtain ⟨c, w4, hconv, hbt, hB4⟩ := conv_bytes W3 s
          have HTK := HTQ.out (some ⟨W3.heap.size, 0, none⟩) c w4 hbt ((HR.out.below hB3 HR.out.lt).below hB4 (Nat.lt_of_lt_of_le HR.out.lt hB3.size))
          unfold imV imC at HTK
          have HL4 : Hid (Lies w4 wr.heap.size #[.string ⟨s.toArray⟩, .int .i64 (n : Int), .int .i64 (imK im), .string ⟨#[]⟩, .slice va nb cb, .int .i64 (imY im), .bool (imH im), .int .i64 (hd : Int)] 35) := HL3.out.below hB4 HL3.out.lt
          have HC4 : Hid (Chg (fun k => k = w8.heap.size) We w4) := (HC.out.below hB3).below hB4
          have HNR : Hid (wr.heap.size ≠ w8.heap.size) := Nat.ne_of_gt HR.out.lt
          clear hW3 hB3 hbt hB4 HTQ HR HC
          go_wp2_with (rw [HW3.out])
          refine HTK.mono ?_
          rintro e w5 ⟨v5, rfl, hT5⟩
          obtain ⟨va5, vc5, hv5, hb5, -⟩ := own_bts hT5.ow
          rw [← HBV.out.2] at hv5
          subst hv5
          have HC5 : Hid (Chg (fun k => k = w8.heap.size) We w5) := HC4.out.trans hT5.ch
          have HL5 : Hid (Lies w5 wr.heap.size #[.string ⟨s.toArray⟩, .int .i64 (n : Int), .int .i64 (imK im), .string ⟨#[]⟩, .slice va nb cb, .int .i64 (imY im), .bool (imH im), .int .i64 (hd : Int)] 35) := hT5.ch.lies HL4.out HNR.out
          have HR5 : Hid (Rd w5 w8.heap.size 9 99 (stK (j + 1))) := hT5.rd
          have HB5 : Hid (Bts va5 (imB im) w5) := hb5
          clear hT5 hb5 HTK hconv c0 c1 c2 c3 c4 c5 c6 c7 d0
          obtain ⟨W6, hW6⟩ : ∃ W6, W6 = w5.alloc (.cells #[.int .i64 (imK im), .string ⟨#[]⟩, .slice va5 nb vc5, .int .i64 (imY im), .bool (imH im)] 34) := ⟨_, rfl⟩
          have hB6 : Below w5.heap.size w5 W6 := by subst hW6; exact (Below.refl _ _).alloc (Nat.le_refl _) _
          have HW6 : Hid (w5.alloc (.cells #[.int .i64 (imK im), .string ⟨#[]⟩, .slice va5 nb vc5, .int .i64 (imY im), .bool (imH im)] 34) = W6) := hW6.symm
          have HI6 : Hid (Lies W6 w5.heap.size #[.int .i64 (imK im), .string ⟨#[]⟩, .slice va5 nb vc5, .int .i64 (imY im), .bool (imH im)] 34) := by subst hW6; exact Lies.new w5 _ _
          have HSS : Hid (Lies W6.drew wr.heap.size #[.string ⟨s.toArray⟩, .int .i64 (n : Int), .int .i64 (imK im), .string ⟨#[]⟩, .slice va nb cb, .int .i64 (imY im), .bool (imH im), .int .i64 (hd : Int)] 35 ∧ Lies W6.drew w5.heap.size #[.int .i64 (imK im), .string ⟨#[]⟩, .slice va5 nb vc5, .int .i64 (imY im), .bool (imH im)] 34) := ⟨HL5.out.below hB6.drew HL5.out.lt, HI6.out⟩
          have HC6 : Hid (Chg (fun k => k = w8.heap.size) We W6) := HC5.out.below hB6
          have HR6 : Hid (Rd W6 w8.heap.size 9 99 (stK (j + 1))) := HR5.out.below hB6 HR5.out.lt
          have HVW : Hid (Bts va (imB im) W6) := by
            by_cases h0 : imB im = []
            · exact .inl h0
            · refine HBV.out.1.chg HC6.out (fun ad e h => ?_)
              rcases HBV.out.1 with e1 | ⟨gq, oq, e1, hg, hrow⟩
              · exact h0 e1
              · have hq := HBV.out.1
                rw [e1] at hq e
                cases e
                exact bts_rd hq (List.length_pos_iff.2 h0) HRE.out h
          have HSM := lsame_yes (imK im) (imY im) ⟨#[]⟩ (imH im) va5 va (imB im) nb nb vc5 cb HBV.out.2 HBV.out.2 W6.drew (Bts.below (HB5.out.below hB6) ((Below.refl _ _).drew)) (Bts.below HVW.out ((Below.refl _ _).drew))
          clear hW6 hB6 HB5 HVW HL5 HC5 HR5 HI6
          go_wp2_with (rw [HW6.out])
          refine wp_region_late (fun wx => Lies wx wr.heap.size #[.string ⟨s.toArray⟩, .int .i64 (n : Int), .int .i64 (imK im), .string ⟨#[]⟩, .slice va nb cb, .int .i64 (imY im), .bool (imH im), .int .i64 (hd : Int)] 35 ∧ Lies wx w5.heap.size #[.int .i64 (imK im), .string ⟨#[]⟩, .slice va5 nb vc5, .int .i64 (imY im), .bool (imH im)] 34) 18 (by kernel_rfl) HSS.out (fun hHeld => ?_)
          refine wpAnyE_tk (i := 0) (d := some 119) (v := .int .i64 (n : Int)) rfl (by kernel_rfl) (by kernel_rfl) (by kernel_rfl) rfl (fun _ _ _ h => h) rfl rfl ?hy hHeld ?_
          case hy => (intro w' hSw; obtain ⟨hS1, hS2⟩ := hSw; have c1 := hS1.cell 1; have c2 := hS1.cell 2; have c3 := hS1.cell 3; have c4 := hS1.cell 4; have c5 := hS1.cell 5; have c6 := hS1.cell 6; have c7 := hS1.cell 7; simp only [List.getElem?_toArray, List.getElem?_cons_zero, List.getElem?_cons_succ] at c1 c2 c3 c4 c5 c6 c7; obtain ⟨⟨e0, e1, e2, e3, e4⟩, -⟩ := it_cells hS2; clear hS1 hS2; go_simp <;> (first | with_reducible rfl | omega | skip))
          simp only [Act.put, List.setIfInBounds_toArray, List.set_cons_zero, List.set_cons_succ]
          refine wpAnyE_tk (i := 1) (d := some 120) (v := .pointer (some ⟨wr.heap.size, 1, none⟩)) rfl (by kernel_rfl) (by kernel_rfl) (by kernel_rfl) rfl (fun _ _ _ h => h) rfl rfl ?hy hHeld ?_
          case hy => (intro w' hSw; obtain ⟨hS1, hS2⟩ := hSw; have c1 := hS1.cell 1; have c2 := hS1.cell 2; have c3 := hS1.cell 3; have c4 := hS1.cell 4; have c5 := hS1.cell 5; have c6 := hS1.cell 6; have c7 := hS1.cell 7; simp only [List.getElem?_toArray, List.getElem?_cons_zero, List.getElem?_cons_succ] at c1 c2 c3 c4 c5 c6 c7; obtain ⟨⟨e0, e1, e2, e3, e4⟩, -⟩ := it_cells hS2; clear hS1 hS2; go_simp <;> (first | with_reducible rfl | omega | skip))
          simp only [Act.put, List.setIfInBounds_toArray, List.set_cons_zero, List.set_cons_succ]
          refine wpAnyE_tk (i := 2) (d := some 121) (v := .int .i64 (n : Int)) rfl (by kernel_rfl) (by kernel_rfl) (by kernel_rfl) rfl (fun _ _ _ h => h) rfl rfl ?hy hHeld ?_
          case hy => (intro w' hSw; obtain ⟨hS1, hS2⟩ := hSw; have c1 := hS1.cell 1; have c2 := hS1.cell 2; have c3 := hS1.cell 3; have c4 := hS1.cell 4; have c5 := hS1.cell 5; have c6 := hS1.cell 6; have c7 := hS1.cell 7; simp only [List.getElem?_toArray, List.getElem?_cons_zero, List.getElem?_cons_succ] at c1 c2 c3 c4 c5 c6 c7; obtain ⟨⟨e0, e1, e2, e3, e4⟩, -⟩ := it_cells hS2; clear hS1 hS2; go_simp <;> (first | with_reducible rfl | omega | skip))
          simp only [Act.put, List.setIfInBounds_toArray, List.set_cons_zero, List.set_cons_succ]
          refine wpAnyE_tk (i := 3) (d := some 122) (v := .bool false) rfl (by kernel_rfl) (by kernel_rfl) (by kernel_rfl) rfl (fun _ _ _ h => h) rfl rfl ?hy hHeld ?_
          case hy => (intro w' hSw; obtain ⟨hS1, hS2⟩ := hSw; have c1 := hS1.cell 1; have c2 := hS1.cell 2; have c3 := hS1.cell 3; have c4 := hS1.cell 4; have c5 := hS1.cell 5; have c6 := hS1.cell 6; have c7 := hS1.cell 7; simp only [List.getElem?_toArray, List.getElem?_cons_zero, List.getElem?_cons_succ] at c1 c2 c3 c4 c5 c6 c7; obtain ⟨⟨e0, e1, e2, e3, e4⟩, -⟩ := it_cells hS2; clear hS1 hS2; go_simp <;> (first | with_reducible rfl | omega | skip))
          simp only [Act.put, List.setIfInBounds_toArray, List.set_cons_zero, List.set_cons_succ]
          refine wpAnyE_tk (i := 4) (d := some 123) (v := .bool false) rfl (by kernel_rfl) (by kernel_rfl) (by kernel_rfl) rfl (fun _ _ _ h => h) rfl rfl ?hy hHeld ?_
          case hy => (intro w' hSw; obtain ⟨hS1, hS2⟩ := hSw; have c1 := hS1.cell 1; have c2 := hS1.cell 2; have c3 := hS1.cell 3; have c4 := hS1.cell 4; have c5 := hS1.cell 5; have c6 := hS1.cell 6; have c7 := hS1.cell 7; simp only [List.getElem?_toArray, List.getElem?_cons_zero, List.getElem?_cons_succ] at c1 c2 c3 c4 c5 c6 c7; obtain ⟨⟨e0, e1, e2, e3, e4⟩, -⟩ := it_cells hS2; clear hS1 hS2; go_simp <;> (first | with_reducible rfl | omega | skip))
          simp only [Act.put, List.setIfInBounds_toArray, List.set_cons_zero, List.set_cons_succ]
          refine wpAnyE_tk (i := 5) (d := some 124) (v := .agg #[.int .i64 (imK im), .string ⟨#[]⟩, .slice va5 nb vc5, .int .i64 (imY im), .bool (imH im)]) rfl (by kernel_rfl) (by kernel_rfl) (by kernel_rfl) rfl (fun _ _ _ h => h) rfl rfl ?hy hHeld ?_
          case hy => (intro w' hSw; obtain ⟨hS1, hS2⟩ := hSw; have c1 := hS1.cell 1; have c2 := hS1.cell 2; have c3 := hS1.cell 3; have c4 := hS1.cell 4; have c5 := hS1.cell 5; have c6 := hS1.cell 6; have c7 := hS1.cell 7; simp only [List.getElem?_toArray, List.getElem?_cons_zero, List.getElem?_cons_succ] at c1 c2 c3 c4 c5 c6 c7; obtain ⟨⟨e0, e1, e2, e3, e4⟩, -⟩ := it_cells hS2; clear hS1 hS2; go_simp <;> (first | with_reducible rfl | omega | skip))
          simp only [Act.put, List.setIfInBounds_toArray, List.set_cons_zero, List.set_cons_succ]
          refine wpAnyE_tk (i := 6) (d := some 125) (v := .pointer (some ⟨wr.heap.size, 2, none⟩)) rfl (by kernel_rfl) (by kernel_rfl) (by kernel_rfl) rfl (fun _ _ _ h => h) rfl rfl ?hy hHeld ?_
          case hy => (intro w' hSw; obtain ⟨hS1, hS2⟩ := hSw; have c1 := hS1.cell 1; have c2 := hS1.cell 2; have c3 := hS1.cell 3; have c4 := hS1.cell 4; have c5 := hS1.cell 5; have c6 := hS1.cell 6; have c7 := hS1.cell 7; simp only [List.getElem?_toArray, List.getElem?_cons_zero, List.getElem?_cons_succ] at c1 c2 c3 c4 c5 c6 c7; obtain ⟨⟨e0, e1, e2, e3, e4⟩, -⟩ := it_cells hS2; clear hS1 hS2; go_simp <;> (first | with_reducible rfl | omega | skip))
          simp only [Act.put, List.setIfInBounds_toArray, List.set_cons_zero, List.set_cons_succ]
          refine wpAnyE_tk (i := 7) (d := some 126) (v := .agg #[.int .i64 (imK im), .string ⟨#[]⟩, .slice va nb cb, .int .i64 (imY im), .bool (imH im)]) rfl (by kernel_rfl) (by kernel_rfl) (by kernel_rfl) rfl (fun _ _ _ h => h) rfl rfl ?hy hHeld ?_
          case hy => (intro w' hSw; obtain ⟨hS1, hS2⟩ := hSw; have c1 := hS1.cell 1; have c2 := hS1.cell 2; have c3 := hS1.cell 3; have c4 := hS1.cell 4; have c5 := hS1.cell 5; have c6 := hS1.cell 6; have c7 := hS1.cell 7; simp only [List.getElem?_toArray, List.getElem?_cons_zero, List.getElem?_cons_succ] at c1 c2 c3 c4 c5 c6 c7; obtain ⟨⟨e0, e1, e2, e3, e4⟩, -⟩ := it_cells hS2; clear hS1 hS2; go_simp <;> (first | with_reducible rfl | omega | skip))
          simp only [Act.put, List.setIfInBounds_toArray, List.set_cons_zero, List.set_cons_succ]
          refine wpAnyE_on (i := 8) (by kernel_rfl) rfl rfl ?_
          go_simp
          refine HSM.mono ?_
          rintro e w9 ⟨rfl, hB9⟩
          have hHeld9 : Lies w9 wr.heap.size #[.string ⟨s.toArray⟩, .int .i64 (n : Int), .int .i64 (imK im), .string ⟨#[]⟩, .slice va nb cb, .int .i64 (imY im), .bool (imH im), .int .i64 (hd : Int)] 35 ∧ Lies w9 w5.heap.size #[.int .i64 (imK im), .string ⟨#[]⟩, .slice va5 nb vc5, .int .i64 (imY im), .bool (imH im)] 34 := ⟨hHeld.1.below hB9 (Lies.lt hHeld.1), hHeld.2.below hB9 (Lies.lt hHeld.2)⟩
          have HR9 : Hid (Rd w9 w8.heap.size 9 99 (stK (j + 1))) := Rd.below (show Rd W6.drew w8.heap.size 9 99 (stK (j + 1)) from HR6.out) hB9 HR6.out.lt
          have HC9 : Hid (Chg (fun k => k = w8.heap.size) We w9) := (HC6.out.drew).below hB9
          have HHD := dheld_any w8.heap.size 9 99 (stK (j + 1)) w9 HR9.out
          rw [HHH.out] at HHD
          clear hHeld hB9
          refine ⟨hHeld9, ?_⟩
          refine wpAnyE_tk (i := 9) (d := some 128) (v := .bool false) rfl (by kernel_rfl) (by kernel_rfl) (by kernel_rfl) rfl (fun _ _ _ h => h) rfl rfl ?hy hHeld9 ?_
          case hy => (intro w' hSw; obtain ⟨hS1, hS2⟩ := hSw; have c1 := hS1.cell 1; have c2 := hS1.cell 2; have c3 := hS1.cell 3; have c4 := hS1.cell 4; have c5 := hS1.cell 5; have c6 := hS1.cell 6; have c7 := hS1.cell 7; simp only [List.getElem?_toArray, List.getElem?_cons_zero, List.getElem?_cons_succ] at c1 c2 c3 c4 c5 c6 c7; obtain ⟨⟨e0, e1, e2, e3, e4⟩, -⟩ := it_cells hS2; clear hS1 hS2; go_simp <;> (first | with_reducible rfl | omega | skip))
          simp only [Act.put, List.setIfInBounds_toArray, List.set_cons_zero, List.set_cons_succ]
          refine wpAnyE_tk (i := 10) (d := some 129) (v := .bool false) rfl (by kernel_rfl) (by kernel_rfl) (by kernel_rfl) rfl (fun _ _ _ h => h) rfl rfl ?hy hHeld9 ?_
          case hy => (intro w' hSw; obtain ⟨hS1, hS2⟩ := hSw; have c1 := hS1.cell 1; have c2 := hS1.cell 2; have c3 := hS1.cell 3; have c4 := hS1.cell 4; have c5 := hS1.cell 5; have c6 := hS1.cell 6; have c7 := hS1.cell 7; simp only [List.getElem?_toArray, List.getElem?_cons_zero, List.getElem?_cons_succ] at c1 c2 c3 c4 c5 c6 c7; obtain ⟨⟨e0, e1, e2, e3, e4⟩, -⟩ := it_cells hS2; clear hS1 hS2; go_simp <;> (first | with_reducible rfl | omega | skip))
          simp only [Act.put, List.setIfInBounds_toArray, List.set_cons_zero, List.set_cons_succ]
          refine wpAnyE_tk (i := 11) (d := some 130) (v := .bool false) rfl (by kernel_rfl) (by kernel_rfl) (by kernel_rfl) rfl (fun _ _ _ h => h) rfl rfl ?hy hHeld9 ?_
          case hy => (intro w' hSw; obtain ⟨hS1, hS2⟩ := hSw; have c1 := hS1.cell 1; have c2 := hS1.cell 2; have c3 := hS1.cell 3; have c4 := hS1.cell 4; have c5 := hS1.cell 5; have c6 := hS1.cell 6; have c7 := hS1.cell 7; simp only [List.getElem?_toArray, List.getElem?_cons_zero, List.getElem?_cons_succ] at c1 c2 c3 c4 c5 c6 c7; obtain ⟨⟨e0, e1, e2, e3, e4⟩, -⟩ := it_cells hS2; clear hS1 hS2; go_simp <;> (first | with_reducible rfl | omega | skip))
          simp only [Act.put, List.setIfInBounds_toArray, List.set_cons_zero, List.set_cons_succ]
          refine wpAnyE_tk (i := 12) (d := some 131) (v := .pointer (some ⟨w8.heap.size, 0, none⟩)) rfl (by kernel_rfl) (by kernel_rfl) (by kernel_rfl) rfl (fun _ _ _ h => h) rfl rfl ?hy hHeld9 ?_
          case hy => (intro w' hSw; obtain ⟨hS1, hS2⟩ := hSw; have c1 := hS1.cell 1; have c2 := hS1.cell 2; have c3 := hS1.cell 3; have c4 := hS1.cell 4; have c5 := hS1.cell 5; have c6 := hS1.cell 6; have c7 := hS1.cell 7; simp only [List.getElem?_toArray, List.getElem?_cons_zero, List.getElem?_cons_succ] at c1 c2 c3 c4 c5 c6 c7; obtain ⟨⟨e0, e1, e2, e3, e4⟩, -⟩ := it_cells hS2; clear hS1 hS2; go_simp <;> (first | with_reducible rfl | omega | skip))
          simp only [Act.put, List.setIfInBounds_toArray, List.set_cons_zero, List.set_cons_succ]
          refine wpAnyE_tk (i := 14) (d := some 133) (v := .pointer (some ⟨wr.heap.size, 7, none⟩)) rfl (by kernel_rfl) (by kernel_rfl) (by kernel_rfl) rfl (fun _ _ _ h => h) rfl rfl ?hy hHeld9 ?_
          case hy => (intro w' hSw; obtain ⟨hS1, hS2⟩ := hSw; have c1 := hS1.cell 1; have c2 := hS1.cell 2; have c3 := hS1.cell 3; have c4 := hS1.cell 4; have c5 := hS1.cell 5; have c6 := hS1.cell 6; have c7 := hS1.cell 7; simp only [List.getElem?_toArray, List.getElem?_cons_zero, List.getElem?_cons_succ] at c1 c2 c3 c4 c5 c6 c7; obtain ⟨⟨e0, e1, e2, e3, e4⟩, -⟩ := it_cells hS2; clear hS1 hS2; go_simp <;> (first | with_reducible rfl | omega | skip))
          simp only [Act.put, List.setIfInBounds_toArray, List.set_cons_zero, List.set_cons_succ]
          refine wpAnyE_tk (i := 15) (d := some 134) (v := .int .i64 (hd : Int)) rfl (by kernel_rfl) (by kernel_rfl) (by kernel_rfl) rfl (fun _ _ _ h => h) rfl rfl ?hy hHeld9 ?_
          case hy => (intro w' hSw; obtain ⟨hS1, hS2⟩ := hSw; have c1 := hS1.cell 1; have c2 := hS1.cell 2; have c3 := hS1.cell 3; have c4 := hS1.cell 4; have c5 := hS1.cell 5; have c6 := hS1.cell 6; have c7 := hS1.cell 7; simp only [List.getElem?_toArray, List.getElem?_cons_zero, List.getElem?_cons_succ] at c1 c2 c3 c4 c5 c6 c7; obtain ⟨⟨e0, e1, e2, e3, e4⟩, -⟩ := it_cells hS2; clear hS1 hS2; go_simp <;> (first | with_reducible rfl | omega | skip))
          simp only [Act.put, List.setIfInBounds_toArray, List.set_cons_zero, List.set_cons_succ]
          refine wpAnyE_on (i := 13) (by kernel_rfl) rfl rfl ?_
          go_simp
          refine HHD.mono ?_
          rintro e w10 ⟨rfl, rfl⟩
          refine ⟨hHeld9, ?_⟩
          refine wpAnyE_tk (i := 16) (d := some 135) (v := .bool false) rfl (by kernel_rfl) (by kernel_rfl) (by kernel_rfl) rfl (fun _ _ _ h => h) rfl rfl ?hy hHeld9 ?_
          case hy => (intro w' hSw; obtain ⟨hS1, hS2⟩ := hSw; have c1 := hS1.cell 1; have c2 := hS1.cell 2; have c3 := hS1.cell 3; have c4 := hS1.cell 4; have c5 := hS1.cell 5; have c6 := hS1.cell 6; have c7 := hS1.cell 7; simp only [List.getElem?_toArray, List.getElem?_cons_zero, List.getElem?_cons_succ] at c1 c2 c3 c4 c5 c6 c7; obtain ⟨⟨e0, e1, e2, e3, e4⟩, -⟩ := it_cells hS2; clear hS1 hS2; go_simp <;> (first | with_reducible rfl | omega | skip))
          simp only [Act.put, List.setIfInBounds_toArray, List.set_cons_zero, List.set_cons_succ]
          refine wpAnyE_tk (i := 17) (d := some 136) (v := .bool false) rfl (by kernel_rfl) (by kernel_rfl) (by kernel_rfl) rfl (fun _ _ _ h => h) rfl rfl ?hy hHeld9 ?_
          case hy => (intro w' hSw; obtain ⟨hS1, hS2⟩ := hSw; have c1 := hS1.cell 1; have c2 := hS1.cell 2; have c3 := hS1.cell 3; have c4 := hS1.cell 4; have c5 := hS1.cell 5; have c6 := hS1.cell 6; have c7 := hS1.cell 7; simp only [List.getElem?_toArray, List.getElem?_cons_zero, List.getElem?_cons_succ] at c1 c2 c3 c4 c5 c6 c7; obtain ⟨⟨e0, e1, e2, e3, e4⟩, -⟩ := it_cells hS2; clear hS1 hS2; go_simp <;> (first | with_reducible rfl | omega | skip))
          simp only [Act.put, List.setIfInBounds_toArray, List.set_cons_zero, List.set_cons_succ]
          refine wpAnyE_done (by kernel_rfl) ?_ _
          clear hHeld9
          go_wp2_with fail
          go_round
          case rel => exact ⟨j + 1, hlt, by go_num, HC9.out, HR9.out⟩
          case measure => simp [intOf]; omega
        · obtain rfl : j = 6 := by omega
          have HBF : Hid (Below w.heap.size w wr) := HBE.out.trans (HC.out.to_below HBE.out.size (fun k e => by have := HRB.out; omega))
          go_wp2_with fail
          go_ret
          exact ⟨rfl, HBF.out⟩

theorem own : ownKnob Try.prog.godebug = none := by kernel_rfl
set_option maxRecDepth 100000 in
theorem contract (H : Type) (enc : TypeId × Value → H) (W : World) (base : Nat) (args : Array Value) (ds gs : List (DataW H)) (before : List MemPlace)
    (hval : ∀ (j : Nat) t v, Try.f3.params[j]? = some t → args[j]? = some v → Value.okWide Try.prog W .any base t v)
    (hW : DataW.Whole enc Try.prog Try.f3.params.toList Rows.dotsKnownSpec.vars false W args.toList ds gs before)
    (hsz : (DataW.weightsEach Try.prog (Try.f3.params.toList ++ Rows.dotsKnownSpec.plain.varTypes Try.prog) (ds ++ gs)).all (· ≤ reachBytes) = true)
    :
    Calls Try.prog 3 args W fun e W' => ∃ v, e = .returned v ∧ Rows.dotsKnownSpec.post enc Try.prog Try.f3 false true false false W args v W' := by
  have hW' := hW
  obtain ⟨p, q, hA0, hV, rfl, hfz, hnd⟩ := hW
  have hA : DataW.TrodAll enc Try.prog W 0 (fun _ => true) true Try.f3.params.toList args.toList ds p := hA0
  rw [Try.params3] at hA hval hsz
  obtain ⟨hargs, rfl, rfl⟩ := trodAll_nil hA
  obtain rfl : args = #[] := by cases args; simp_all
  obtain ⟨rfl, rfl⟩ := trodVars_none hV
  clear hA0
  simp only [List.append_nil] at hW'
  refine (walk  W).mono fun e W' ⟨he, bel⟩ => ?_
  subst he
  exact ⟨_, rfl, _, _, _, [], [], [], hW', trodAll_mk1 (shut_bool Try.underlying4 _), trodAll_mk0, rfl, bel.frame _, fun h => by cases h⟩

set_option maxRecDepth 100000 in
theorem lifted (os : Os) (started : os.Started) (H : Type) (enc : TypeId × Value → H) :
    ReturnsInHanded {} Try.checked os 3 .any (Rows.dotsKnownSpec.pre6 enc Try.prog Try.f3 Rows.dotsKnownRow.domain false) (Rows.dotsKnownSpec.post enc Try.prog Try.f3 false true false false) := by
  refine returnsInHanded_of_change_sized (C := Try.checked) own started (by kernel_rfl) Try.func3
    (ChangeSpec.witness6 (enc := enc) (C := Try.checked) false ⟨#[], #[], []⟩ 8 (by kernel_rfl) (by kernel_rfl) (by kernel_rfl) (by kernel_rfl)) ?_
  intro W base args ds gs before hval0 hW hcnd hsz0 _
  exact contract H enc W base args ds gs before hval0 hW hsz0

theorem over : Rows.dotsKnownRow.holds Try.pinned (OpenSpec.ofChange Rows.dotsKnownSpec) :=
  OpenClaim.holds_of_wide 3 Try.f3 rfl rfl rfl rfl rfl rfl rfl ⟨rfl, rfl, rfl, rfl, rfl⟩ rfl rfl rfl rfl rfl (by kernel_rfl) Try.func3 (by kernel_rfl)
    (of_decide_eq_true (by kernel_rfl)) (by unfold Func.isWrapper; first | (rw [if_pos (by decide +kernel)]; kernel_rfl) | (rw [if_neg (by decide +kernel)]; exact ⟨rfl, rfl⟩))
    (fun os started H enc _ => lifted os started H enc)
end Go.Proofs.Ytfifpepcmpaipaa.dotsKnown
namespace Go.Proofs.Ytfifpepcmpaipaa
theorem dotsKnown_said : Rows.DotsKnownSaid := dotsKnown.over
#print axioms dotsKnown_said
end Go.Proofs.Ytfifpepcmpaipaa
