/-
  The contract of wakes.
-/
import Derived.Test.YtjpmfgmoekpcpabGreatDoorRw10
import Derived.Test.YtjpmfgmoekpcpabGreatDoorPr10
import Derived.Test.YtjpmfgmoekpcpabGreatDoorPz10
import Derived.Test.YtjpmfgmoekpcpabGreatDoorXt10
namespace Go.Proofs.YtjpmfgmoekpcpabGreatDoor
open Go.RowKit

/-- What wakes leans on. -/
structure Tw (w : World) : Prop where
  cls : Table w
  fst : Fst w
  ml : ∃ m, w.cell? ⟨1, 0, none⟩ = some (.int .i64 m)
theorem Tw.below {w w' : World} (h : Tw w) (hb : Below w.heap.size w w') : Tw w' := by
  obtain ⟨m, hm⟩ := h.ml
  exact ⟨h.cls.keep hb, h.fst.below hb h.fst.lt, m, (hb.cell (p := ⟨1, 0, none⟩) (World.block_lt_of_cell? w _ hm)).trans hm⟩
theorem wk_prs : prs false 16 (⟨#[32, 83, 73, 90, 69, 61, 55, 32, 83, 77, 84, 80, 85, 84, 70, 56]⟩ : ByteArray).data.toList = .ok wkL := by rfl
theorem wk_prt : prt wkL = .ok [32, 83, 73, 90, 69, 61, 55, 32, 83, 77, 84, 80, 85, 84, 70, 56] := by rfl
theorem wk_prV : prV (prt wkL) = .tuple #[.string ⟨#[32, 83, 73, 90, 69, 61, 55, 32, 83, 77, 84, 80, 85, 84, 70, 56]⟩, .int .i64 0] := by rw [wk_prt]; rfl
theorem wk_xt : xtL [43] = [43, 50, 66] := by rfl
set_option maxHeartbeats 8000000 in
set_option maxRecDepth 100000 in
theorem wakes_any (w : World) (hT : Tw w) : Calls Tryz.prog 8 #[] w fun e w' => e = .returned (.bool true) ∧ Below w.heap.size w w' := by
  have HT : Hid (∀ wx, Below w.heap.size w wx → Tw wx) := fun wx hb => hT.below hb
  clear hT
  go_enter Tryz.func8, Tryz.ntmps8
  go_wp2_with fail
  have HP := pparse_any ⟨#[32, 83, 73, 90, 69, 61, 55, 32, 83, 77, 84, 80, 85, 84, 70, 56]⟩ false (by decide) w (HT.out w (Below.refl _ _)).cls (HT.out w (Below.refl _ _)).fst
  rw [wk_prs] at HP
  refine HP.mono ?_
  rintro e w1 ⟨v, rfl, ⟨sl, rfl, hown⟩, hb1⟩
  obtain ⟨a, cap, rfl, hpm⟩ := own_pms hown
  have HPM : Hid (Pms a wkL w1) := hpm
  have HB1 : Hid (Below w.heap.size w w1) := hb1
  clear hown hpm hb1 HP
  simp only [show wkL.length = 2 from rfl]
  go_wp2_with fail
  have HZ1 : Hid (w.heap.size ≤ w1.heap.size) := HB1.out.size
  have HB2 : Hid (Below w.heap.size w (w1.alloc (.cells #[.int .i64 0, .int .i64 0] 28))) := HB1.out.alloc HB1.out.size _
  have HPr := pprint_any a cap wkL _ (HPM.out.below ((Below.refl _ _).alloc (Nat.le_refl _) (.cells #[.int .i64 0, .int .i64 0] 28))) (by decide) (by decide) (by decide) (HT.out _ HB2.out).cls (HT.out _ HB2.out).fst
  rw [wk_prV] at HPr
  refine HPr.mono ?_
  rintro e w2 ⟨rfl, hb2⟩
  have HS2 : Hid (Lies w2 w1.heap.size #[.int .i64 0, .int .i64 0] 28) := (Lies.new w1 _ _).below hb2 (Lies.new w1 _ _).lt
  have HP2 : Hid (Pms a wkL w2) := (HPM.out.below ((Below.refl _ _).alloc (Nat.le_refl _) _)).below hb2
  have HB3 : Hid (Below w.heap.size w w2) := HB2.out.trans (hb2.mono HB2.out.size)
  clear HPr hb2 HPM HB2 HB1
  go_wp2_with fail
  refine (mail_wk a cap w2 HP2.out (HT.out w2 HB3.out).cls).mono ?_
  rintro e w3 ⟨rfl, hb3⟩
  have HS3 : Hid (Lies w3 w1.heap.size #[.int .i64 0, .int .i64 0] 28) := HS2.out.below hb3 HS2.out.lt
  have HB4 : Hid (Below w.heap.size w w3) := HB3.out.trans (hb3.mono HB3.out.size)
  have HZ3 : Hid (w1.heap.size < w3.heap.size) := HS3.out.lt
  have HB5 : Hid (Below w.heap.size w (w3.alloc (.cells (moC wkM) 42))) := HB4.out.alloc HB4.out.size _
  have HM5 : Hid (Lies (w3.alloc (.cells (moC wkM) 42)) w3.heap.size (moC wkM) 42) := Lies.new _ _ _
  have HS5 : Hid (Lies (w3.alloc (.cells (moC wkM) 42)) w1.heap.size #[.int .i64 0, .int .i64 0] 28) := HS3.out.alloc _
  clear HP2 hb3 HB3 HS2 HS3
  simp only [moC, wkM]
  go_wp2_with fail
  have HB6 : Hid (Below w.heap.size w ((w3.alloc (.cells (moC wkM) 42)).alloc (.cells #[.string ⟨#[78, 79, 84, 73, 70, 89]⟩, .string ⟨#[68, 69, 76, 65, 89]⟩, .bool true] 54))) := HB5.out.alloc HB5.out.size _
  have HL6 : Lies ((w3.alloc (.cells (moC wkM) 42)).alloc (.cells #[.string ⟨#[78, 79, 84, 73, 70, 89]⟩, .string ⟨#[68, 69, 76, 65, 89]⟩, .bool true] 54)) (w3.heap.size + 1) #[.string ⟨#[78, 79, 84, 73, 70, 89]⟩, .string ⟨#[68, 69, 76, 65, 89]⟩, .bool true] 54 := lies_newAt _ (by simp)
  have hpr : Pms (some ⟨w3.heap.size + 1, 0, none⟩) wkR ((w3.alloc (.cells (moC wkM) 42)).alloc (.cells #[.string ⟨#[78, 79, 84, 73, 70, 89]⟩, .string ⟨#[68, 69, 76, 65, 89]⟩, .bool true] 54)) := .inr ⟨_, _, rfl, HL6.lt, fun j u hj => by
    rw [Nat.zero_add, HL6.cell j, ← Array.getElem?_toList]
    exact hj⟩
  refine (rcpt_wk _ 1 _ hpr (HT.out _ HB6.out).ml).mono ?_
  rintro e w4 ⟨rfl, hb4⟩
  have HS4 : Lies w4 w1.heap.size #[.int .i64 0, .int .i64 0] 28 := (HS5.out.alloc _).below hb4 (HS5.out.alloc _).lt
  have HM4 : Lies w4 w3.heap.size (moC wkM) 42 := (HM5.out.alloc _).below hb4 (HM5.out.alloc _).lt
  have HB7 : Hid (Below w.heap.size w w4) := HB6.out.trans (hb4.mono HB6.out.size)
  have s0 : w4.cell? ⟨w1.heap.size, 0, none⟩ = some (.int .i64 0) := HS4.cell 0
  have m1 : w4.cell? ⟨w3.heap.size, 1, none⟩ = some (.int .i64 7) := HM4.cell 1
  have m3 : w4.cell? ⟨w3.heap.size, 3, none⟩ = some (.bool true) := HM4.cell 3
  have y1 : w1.heap.size < w4.heap.size := HS4.lt
  have y3 : w3.heap.size < w4.heap.size := HM4.lt
  have HB8 : Hid (Below w.heap.size w (w4.alloc (.cells (roC wkO) 44))) := HB7.out.alloc HB7.out.size _
  clear HL6 hpr hb4 HS4 HM4 HB6 HB5 HB4 HS5 HM5
  have HX := xt_any ⟨#[43]⟩ (by decide) (w4.alloc (.cells (roC wkO) 44)) (HT.out _ HB8.out).cls
  rw [show xtL (⟨#[43]⟩ : ByteArray).data.toList = [43, 50, 66] from rfl] at HX
  have HXX : Hid (Calls Tryz.prog 16 #[.string ⟨#[43]⟩] (w4.alloc (.cells (roC wkO) 44)) fun e w' => e = .returned (.string ⟨#[43, 50, 66]⟩) ∧ Below (w4.alloc (.cells (roC wkO) 44)).heap.size (w4.alloc (.cells (roC wkO) 44)) w') := HX
  clear HX
  simp only [roC, wkO]
  go_wp2_with (go_at_call 16; refine HXX.out.mono ?_; rintro e w5 ⟨rfl, hb5⟩)
  go_ret
  exact ⟨rfl, HB8.out.trans (hb5.mono HB8.out.size)⟩
end Go.Proofs.YtjpmfgmoekpcpabGreatDoor
