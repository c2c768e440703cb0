/-
  WordKnown's walk.
-/
import Derived.Test.YtdgepnfgjgbkoaaDoorKt17
import Derived.Test.YtdgepnfgjgbkoaaDoorCardW17
namespace Go.Proofs.YtdgepnfgjgbkoaaDoor.wordKnown
open Go.ChangeShapes Go.WideShapes Go.ChangeAt Go.RowKit
set_option maxHeartbeats 8000000 in
set_option maxRecDepth 100000 in
theorem walk (w : World) (tb : Tb w) : Calls Tryd.prog 3 #[] w fun e w' => e = .returned (.bool true) ∧ Below w.heap.size w w' := by
  have HTB : Hid (∀ wx, Below w.heap.size w wx → Tb wx) := fun wx h => tb.below h
  have HWK := wakes_any w tb
  clear tb
  go_enter Tryd.func3, Tryd.ntmps3
  go_wp2_with fail
  refine HWK.mono ?_
  rintro e w1 ⟨rfl, hB1⟩
  have HB1 : Hid (Below w.heap.size w w1) := hB1
  clear HWK hB1
  obtain ⟨W2, hW2⟩ : ∃ W2, W2 = w1.alloc (.cells #[.string ⟨#[61, 63, 105, 115, 111, 45, 56, 56, 53, 57, 45, 49, 63, 81, 63, 99, 97, 102, 61, 101, 57, 95, 97, 117, 63, 61]⟩, .string ⟨#[99, 97, 102, 195, 169, 32, 97, 117]⟩, .int .i64 0, .int .i64 0, .string ⟨#[61, 63, 117, 115, 45, 97, 115, 99, 105, 105, 42, 101, 110, 63, 113, 63, 120, 61, 51, 68, 63, 61]⟩, .string ⟨#[120, 61]⟩, .int .i64 0, .int .i64 0, .string ⟨#[]⟩, .string ⟨#[]⟩, .int .i64 0, .int .i64 0, .string ⟨#[61, 63, 120, 63, 81, 63, 97, 63, 61]⟩, .string ⟨#[]⟩, .int .i64 171, .int .i64 2, .string ⟨#[61, 63, 85, 84, 70, 45, 56, 63, 66, 63, 89, 81, 63, 61]⟩, .string ⟨#[]⟩, .int .i64 170, .int .i64 12, .string ⟨#[61, 63, 85, 84, 70, 45, 56, 63, 81, 63, 97, 61, 52, 63, 61]⟩, .string ⟨#[]⟩, .int .i64 170, .int .i64 11, .string ⟨#[61, 63, 85, 84, 70, 45, 56, 63, 81, 63, 61, 70, 70, 63, 61]⟩, .string ⟨#[]⟩, .int .i64 170, .int .i64 10, .string ⟨#[61, 63, 117, 115, 45, 97, 115, 99, 105, 105, 63, 113, 63, 61, 56, 48, 63, 61]⟩, .string ⟨#[]⟩, .int .i64 170, .int .i64 13, .string ⟨#[61, 63, 85, 84, 70, 45, 56, 63, 88, 63, 97, 63, 61]⟩, .string ⟨#[61, 63, 85, 84, 70, 45, 56, 63, 88, 63, 97, 63, 61]⟩, .int .i64 0, .int .i64 0, .string ⟨#[120, 61, 63, 85, 84, 70, 45, 56, 63, 81, 63, 97, 63, 61]⟩, .string ⟨#[120, 61, 63, 85, 84, 70, 45, 56, 63, 81, 63, 97, 63, 61]⟩, .int .i64 0, .int .i64 0, .string ⟨#[61, 63, 85, 84, 70, 45, 56, 63, 81, 63, 97, 32, 98, 63, 61]⟩, .string ⟨#[61, 63, 85, 84, 70, 45, 56, 63, 81, 63, 97, 32, 98, 63, 61]⟩, .int .i64 0, .int .i64 0, .string ⟨#[61, 63, 63, 81, 63, 97, 63, 61]⟩, .string ⟨#[61, 63, 63, 81, 63, 97, 63, 61]⟩, .int .i64 0, .int .i64 0, .string ⟨#[61, 63, 85, 84, 70, 45, 56, 63, 81, 63, 63, 61]⟩, .string ⟨#[]⟩, .int .i64 0, .int .i64 0, .string ⟨#[255, 32, 0]⟩, .string ⟨#[255, 32, 0]⟩, .int .i64 0, .int .i64 0] 26) := ⟨_, rfl⟩
  have HB2 : Hid (Below w.heap.size w W2) := by subst hW2; exact HB1.out.alloc HB1.out.size _
  have HO2 : Hid (Ow celK 26 4 W2 (.slice (some ⟨w1.heap.size, 0, none⟩) 14 14) kt) := by subst hW2; exact ⟨rfl, .inr ⟨w1.heap.size, 14, _, rfl, Nat.zero_le _, heap_alloc_last w1 _, Nat.le_refl _, by unfold maxLen; omega, rfl, rfl⟩⟩
  have HWW : Hid (w1.alloc (.cells #[.string ⟨#[61, 63, 105, 115, 111, 45, 56, 56, 53, 57, 45, 49, 63, 81, 63, 99, 97, 102, 61, 101, 57, 95, 97, 117, 63, 61]⟩, .string ⟨#[99, 97, 102, 195, 169, 32, 97, 117]⟩, .int .i64 0, .int .i64 0, .string ⟨#[61, 63, 117, 115, 45, 97, 115, 99, 105, 105, 42, 101, 110, 63, 113, 63, 120, 61, 51, 68, 63, 61]⟩, .string ⟨#[120, 61]⟩, .int .i64 0, .int .i64 0, .string ⟨#[]⟩, .string ⟨#[]⟩, .int .i64 0, .int .i64 0, .string ⟨#[61, 63, 120, 63, 81, 63, 97, 63, 61]⟩, .string ⟨#[]⟩, .int .i64 171, .int .i64 2, .string ⟨#[61, 63, 85, 84, 70, 45, 56, 63, 66, 63, 89, 81, 63, 61]⟩, .string ⟨#[]⟩, .int .i64 170, .int .i64 12, .string ⟨#[61, 63, 85, 84, 70, 45, 56, 63, 81, 63, 97, 61, 52, 63, 61]⟩, .string ⟨#[]⟩, .int .i64 170, .int .i64 11, .string ⟨#[61, 63, 85, 84, 70, 45, 56, 63, 81, 63, 61, 70, 70, 63, 61]⟩, .string ⟨#[]⟩, .int .i64 170, .int .i64 10, .string ⟨#[61, 63, 117, 115, 45, 97, 115, 99, 105, 105, 63, 113, 63, 61, 56, 48, 63, 61]⟩, .string ⟨#[]⟩, .int .i64 170, .int .i64 13, .string ⟨#[61, 63, 85, 84, 70, 45, 56, 63, 88, 63, 97, 63, 61]⟩, .string ⟨#[61, 63, 85, 84, 70, 45, 56, 63, 88, 63, 97, 63, 61]⟩, .int .i64 0, .int .i64 0, .string ⟨#[120, 61, 63, 85, 84, 70, 45, 56, 63, 81, 63, 97, 63, 61]⟩, .string ⟨#[120, 61, 63, 85, 84, 70, 45, 56, 63, 81, 63, 97, 63, 61]⟩, .int .i64 0, .int .i64 0, .string ⟨#[61, 63, 85, 84, 70, 45, 56, 63, 81, 63, 97, 32, 98, 63, 61]⟩, .string ⟨#[61, 63, 85, 84, 70, 45, 56, 63, 81, 63, 97, 32, 98, 63, 61]⟩, .int .i64 0, .int .i64 0, .string ⟨#[61, 63, 63, 81, 63, 97, 63, 61]⟩, .string ⟨#[61, 63, 63, 81, 63, 97, 63, 61]⟩, .int .i64 0, .int .i64 0, .string ⟨#[61, 63, 85, 84, 70, 45, 56, 63, 81, 63, 63, 61]⟩, .string ⟨#[]⟩, .int .i64 0, .int .i64 0, .string ⟨#[255, 32, 0]⟩, .string ⟨#[255, 32, 0]⟩, .int .i64 0, .int .i64 0] 26) = W2) := hW2.symm
  clear hW2 HB1
  go_wp2_with (rw [HWW.out])
  clear HWW
  go_loopw [2, 45] (fun _ jv wr => ∃ j : Nat, j ≤ 14 ∧ jv = .int .i64 j ∧ Hid (Below w.heap.size w wr) ∧ Hid (Below W2.heap.size W2 wr)) (fun _ jv _ => 14 - (intOf jv).toNat)
  case atStart => exact ⟨0, by omega, rfl, HB2.out, Below.refl _ _⟩
  case round =>
    obtain ⟨j, hj, rfl, HB, HBW⟩ := hrel
    by_cases hlt : j < 14
    · have hjk : j < kt.length := hlt
      obtain ⟨c0, c1, c2, c3⟩ := kt_cells (HO2.out.below HBW.out) j hjk
      have HCQ : Hid (∀ w', Below w.heap.size w w' → Calls Tryd.prog 10 #[.string ⟨kt[j].1.toArray⟩] w' fun er w'' => er = .returned (.tuple #[.string ⟨kt[j].2.1.toArray⟩, .agg #[.int .i64 (kt[j].2.2.1 : Int), .int .i64 (kt[j].2.2.2 : Int)]]) ∧ Below w'.heap.size w' w'') := fun w' h => dec_at kt[j].1 kt[j].2.1 kt[j].2.2.1 kt[j].2.2.2 (kt_dec j hjk).2 (kt_dec j hjk).1 w' (HTB.out w' h)
      generalize kt[j] = X at *
      obtain ⟨s, t, e, p⟩ := X
      dsimp only at *
      clear hjk
      obtain ⟨W3, hW3⟩ : ∃ W3, W3 = wr.alloc (.cells #[.string ⟨s.toArray⟩, .string ⟨t.toArray⟩, .int .i64 (e : Int), .int .i64 (p : Int)] 26) := ⟨_, rfl⟩
      have hB3 : Below wr.heap.size wr W3 := by subst hW3; exact (Below.refl _ _).alloc (Nat.le_refl _) _
      have HL1 : Hid (Lies W3 wr.heap.size #[.string ⟨s.toArray⟩, .string ⟨t.toArray⟩, .int .i64 (e : Int), .int .i64 (p : Int)] 26) := by subst hW3; exact Lies.new wr _ _
      have HWW : Hid (wr.alloc (.cells #[.string ⟨s.toArray⟩, .string ⟨t.toArray⟩, .int .i64 (e : Int), .int .i64 (p : Int)] 26) = W3) := hW3.symm
      have HB3 : Hid (Below w.heap.size w W3 ∧ Below W2.heap.size W2 W3) := ⟨HB.out.trans (hB3.mono HB.out.size), HBW.out.trans (hB3.mono HBW.out.size)⟩
      clear hW3 hB3
      have x0 := HL1.out.cell 0
      simp only [List.getElem?_toArray, List.getElem?_cons_zero] at x0
      go_wp2_with (rw [HWW.out])
      refine (HCQ.out _ HB3.out.1).mono ?_
      rintro er w4 ⟨rfl, hb4⟩
      have HL2 : Hid (Lies w4 wr.heap.size #[.string ⟨s.toArray⟩, .string ⟨t.toArray⟩, .int .i64 (e : Int), .int .i64 (p : Int)] 26) := HL1.out.below hb4 HL1.out.lt
      have HB4 : Hid (Below w.heap.size w w4 ∧ Below W2.heap.size W2 w4) := ⟨HB3.out.1.trans (hb4.mono HB3.out.1.size), HB3.out.2.trans (hb4.mono HB3.out.2.size)⟩
      clear x0 HL1 HB3 HWW hb4 HCQ
      obtain ⟨W5, hW5⟩ : ∃ W5, W5 = w4.alloc (.cells #[.int .i64 (e : Int), .int .i64 (p : Int)] 25) := ⟨_, rfl⟩
      have HWW : Hid (w4.alloc (.cells #[.int .i64 (e : Int), .int .i64 (p : Int)] 25) = W5) := hW5.symm
      have HL5 : Hid (Lies W5 w4.heap.size #[.int .i64 (e : Int), .int .i64 (p : Int)] 25) := by subst hW5; exact Lies.new w4 _ _
      have HL6 : Hid (Lies W5 wr.heap.size #[.string ⟨s.toArray⟩, .string ⟨t.toArray⟩, .int .i64 (e : Int), .int .i64 (p : Int)] 26) := by subst hW5; exact HL2.out.alloc _
      have HB5 : Hid (Below w.heap.size w W5 ∧ Below W2.heap.size W2 W5) := by subst hW5; exact ⟨HB4.out.1.alloc HB4.out.1.size _, HB4.out.2.alloc HB4.out.2.size _⟩
      have a0 := HL6.out.cell 0
      have a1 := HL6.out.cell 1
      have a2 := HL6.out.cell 2
      have a3 := HL6.out.cell 3
      have b0 := HL5.out.cell 0
      have b1 := HL5.out.cell 1
      simp only [List.getElem?_toArray, List.getElem?_cons_zero, List.getElem?_cons_succ] at a0 a1 a2 a3 b0 b1
      clear hW5 HB4 HL2
      go_wp2_with (rw [HWW.out])
      go_round
      case rel => exact ⟨j + 1, hlt, by go_num, HB5.out.1, HB5.out.2⟩
      case measure => simp [intOf]; omega
    · obtain rfl : j = 14 := by omega
      clear HBW HO2
      go_wp2_with fail
      refine (enc_at _ _ _ _ (by decide) kn_e3 _ (HTB.out _ HB.out)).mono ?_
      rintro e w1 ⟨rfl, hb⟩
      have HB1 : Hid (Below w.heap.size w w1) := HB.out.trans (hb.mono HB.out.size)
      clear hb HB
      go_wp2_with fail
      refine (enc_at [] _ _ _ (by decide) kn_e4 _ (HTB.out _ HB1.out)).mono ?_
      rintro e w2 ⟨rfl, hb⟩
      have HB2 : Hid (Below w.heap.size w w2) := HB1.out.trans (hb.mono HB1.out.size)
      clear hb HB1
      go_wp2_with fail
      refine (enc_at _ _ _ _ (by decide) kn_e5 _ (HTB.out _ HB2.out)).mono ?_
      rintro e w3 ⟨rfl, hb⟩
      have HC0 : Hid (Below w.heap.size w w3) := HB2.out.trans (hb.mono HB2.out.size)
      clear hb HB2
      go_wp2_with fail
      refine (needs_at _ _ (by decide) kx_0 _ (HTB.out _ HC0.out)).mono ?_
      rintro e v0 ⟨rfl, hb⟩
      have HC1 : Hid (Below w.heap.size w v0) := HC0.out.trans (hb.mono HC0.out.size)
      clear hb HC0
      go_wp2_with fail
      refine (needs_at _ _ (by decide) kx_1 _ (HTB.out _ HC1.out)).mono ?_
      rintro e v1 ⟨rfl, hb⟩
      have HC2 : Hid (Below w.heap.size w v1) := HC1.out.trans (hb.mono HC1.out.size)
      clear hb HC1
      go_wp2_with fail
      refine (needs_at _ _ (by decide) kx_2 _ (HTB.out _ HC2.out)).mono ?_
      rintro e v2 ⟨rfl, hb⟩
      have HC3 : Hid (Below w.heap.size w v2) := HC2.out.trans (hb.mono HC2.out.size)
      clear hb HC2
      go_wp2_with fail
      refine (needs_at [] _ (by decide) kx_3 _ (HTB.out _ HC3.out)).mono ?_
      rintro e v3 ⟨rfl, hb⟩
      have HC4 : Hid (Below w.heap.size w v3) := HC3.out.trans (hb.mono HC3.out.size)
      clear hb HC3
      go_wp2_with fail
      refine (needs_at _ _ (by decide) kx_4 _ (HTB.out _ HC4.out)).mono ?_
      rintro e v4 ⟨rfl, hb⟩
      have HC5 : Hid (Below w.heap.size w v4) := HC4.out.trans (hb.mono HC4.out.size)
      clear hb HC4
      go_wp2_with fail
      go_ret
      exact ⟨rfl, HC5.out⟩
end Go.Proofs.YtdgepnfgjgbkoaaDoor.wordKnown
