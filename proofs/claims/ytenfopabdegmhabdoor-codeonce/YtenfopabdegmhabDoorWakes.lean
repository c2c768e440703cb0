/-
  The statements' wakes; what a row's list and the world's shape give.
-/
import Derived.Test.YtenfopabdegmhabDoorUqs
import Derived.Test.YtenfopabdegmhabDoorQuote
import Derived.Test.YtenfopabdegmhabDoorFeed
import Derived.Test.YtenfopabdegmhabDoorB64W
import Derived.Test.YtenfopabdegmhabDoorConst4
namespace Go.Proofs.YtenfopabdegmhabDoor
open Go.RowKit

theorem k_twe : unbE [84, 87, 69, 61] = 0 ∧ unbA [84, 87, 69, 61] = 0 ∧ unbL [84, 87, 69, 61] = [77, 97] := by decide +kernel
theorem k_a3d : uE [97, 61, 51, 68, 98] = 0 ∧ uA [97, 61, 51, 68, 98] = 0 ∧ uL [97, 61, 51, 68, 98] = [97, 61, 98] := by decide +kernel
theorem k_feed : rdE [] [84, 87, 69, 61] = 0 ∧ rdL [] [84, 87, 69, 61] = [77, 97] := by decide +kernel
theorem k_enc : encL [77, 97] = [84, 87, 69, 61] := by decide +kernel
theorem k_quote : quoteL [97, 61, 98] = [97, 61, 51, 68, 98] := by decide +kernel

/-- What the walks ask of the program's variables. -/
structure Tabs (w : World) : Prop where
  table : Table w
  ml : ∃ m, w.cell? ⟨0, 0, none⟩ = some (.int .i64 m)
  lt : 1 < w.heap.size ∧ 0 < w.heap.size
theorem Tabs.below {w w' : World} {B : Nat} (h : Tabs w) (hb : Below B w w') (h1 : 1 < B) (h0 : 0 < B) : Tabs w' := by
  refine ⟨fun k hk => ?_, ?_, ?_⟩
  · rw [hb.cell (p := ⟨1, k, none⟩) h1]
    exact h.table k hk
  · rw [hb.cell (p := ⟨0, 0, none⟩) h0]
    exact h.ml
  · have := hb.size
    have := h.lt
    omega

set_option maxHeartbeats 4000000 in
set_option maxRecDepth 100000 in
theorem wakes_any (w : World) (ht : Tabs w) : Calls Tryd.prog 8 #[] w fun e w' => e = .returned (.bool true) ∧ Below w.heap.size w w' := by
  have HT : Hid (Tabs w) := ht
  obtain ⟨hg1, hg0⟩ := ht.lt
  clear ht
  have HU : Hid (Calls Tryd.prog 9 #[.string ⟨#[84, 87, 69, 61]⟩] w fun e w' => ∃ v, e = .returned (.tuple #[v, .agg #[.int .i64 0, .int .i64 0]]) ∧ w'.ownsRow w.heap.size 5 1 v 2 (cellsB [77, 97]) ∧ Below w.heap.size w w') := by
    have h := unb_any ⟨#[84, 87, 69, 61]⟩ (by decide) w
    obtain ⟨e1, e2, e3⟩ := k_twe
    rw [show (⟨#[84, 87, 69, 61]⟩ : ByteArray).data.toList = [84, 87, 69, 61] from rfl, e1, e2, e3] at h
    exact h
  have HQ : Hid (∀ wx : World, Tabs wx → Calls Tryd.prog 15 #[.string ⟨#[97, 61, 51, 68, 98]⟩] wx fun e w' => ∃ v, e = .returned (.tuple #[v, .agg #[.int .i64 0, .int .i64 0]]) ∧ w'.ownsRow wx.heap.size 5 1 v 3 (cellsB [97, 61, 98]) ∧ Below wx.heap.size wx w') := fun wx hx => by
    have h := unq_any ⟨#[97, 61, 51, 68, 98]⟩ wx hx.table hx.lt.1 (by decide)
    obtain ⟨e1, e2, e3⟩ := k_a3d
    rw [show (⟨#[97, 61, 51, 68, 98]⟩ : ByteArray).data.toList = [97, 61, 51, 68, 98] from rfl, e1, e2, e3] at h
    exact h
  go_enter Tryd.func8, Tryd.ntmps8
  go_wp2_with fail
  refine Calls.mono HU.out ?_
  rintro e w1 ⟨v1, rfl, ho1, hb1⟩
  have HO1 : Hid ((w1.alloc (.cells #[.int .i64 0, .int .i64 0] 26)).ownsRow w.heap.size 5 1 v1 2 (cellsB [77, 97])) := ho1.alloc _
  have HB1 : Hid (Below w.heap.size w (w1.alloc (.cells #[.int .i64 0, .int .i64 0] 26))) := hb1.alloc hb1.size _
  have HL1 : Hid (Lies (w1.alloc (.cells #[.int .i64 0, .int .i64 0] 26)) w1.heap.size #[.int .i64 0, .int .i64 0] 26) := Lies.new w1 _ _
  have hz1 := hb1.size
  clear ho1 hb1 HU
  go_wp2_with fail
  refine Calls.mono (HQ.out _ (HT.out.below HB1.out hg1 hg0)) ?_
  rintro e w2 ⟨v2, rfl, ho2, hb2⟩
  have hz2 : w1.heap.size + 1 ≤ w2.heap.size := by have := hb2.size; simpa using this
  have HB2 : Hid (Below w.heap.size w (w2.alloc (.cells #[.int .i64 0, .int .i64 0] 26))) := (HB1.out.trans (hb2.mono (by simp; omega))).alloc (by omega) _
  have HO2 : Hid ((w2.alloc (.cells #[.int .i64 0, .int .i64 0] 26)).ownsRow w.heap.size 5 1 v2 3 (cellsB [97, 61, 98])) := base_le (ho2.alloc _) (by simp; omega)
  have HO12 : Hid ((w2.alloc (.cells #[.int .i64 0, .int .i64 0] 26)).ownsRow w.heap.size 5 1 v1 2 (cellsB [77, 97])) := (own_below HO1.out hb2).alloc _
  have HL12 : Hid (Lies (w2.alloc (.cells #[.int .i64 0, .int .i64 0] 26)) w1.heap.size #[.int .i64 0, .int .i64 0] 26) := (HL1.out.below hb2 (by simp)).alloc _
  have HL2 : Hid (Lies (w2.alloc (.cells #[.int .i64 0, .int .i64 0] 26)) w2.heap.size #[.int .i64 0, .int .i64 0] 26) := Lies.new w2 _ _
  clear ho2 hb2 HQ HO1 HB1 HL1
  go_wp2_with fail
  refine Calls.mono (new_any _) ?_
  rintro e w3 ⟨rfl, hr3, hb3⟩
  have hz3 : w2.heap.size + 1 ≤ w3.heap.size := by have := hb3.size; simpa using this
  simp only [World.size_alloc] at hr3
  obtain ⟨G, hG⟩ : ∃ G, G = w2.heap.size + 1 := ⟨_, rfl⟩
  rw [← hG] at hr3
  have HGe : Hid ((w2.alloc (.cells #[.int .i64 0, .int .i64 0] 26)).heap.size = G) := by
    show _ = _
    rw [World.size_alloc, hG]
  rw [HGe.out]
  have hga : w2.heap.size + 1 ≤ G := by omega
  clear hG
  have HR3 : Hid (RdAt w3 G [] 0) := hr3
  have hg3 : G < w3.heap.size := hr3.lt
  have HB3 : Hid (Below w.heap.size w w3) := HB2.out.trans (hb3.mono (by simp; omega))
  have HO13 : Hid (w3.ownsRow w.heap.size 5 1 v1 2 (cellsB [77, 97])) := own_below HO12.out hb3
  have HO23 : Hid (w3.ownsRow w.heap.size 5 1 v2 3 (cellsB [97, 61, 98])) := own_below HO2.out hb3
  have HL13 : Hid (Lies w3 w1.heap.size #[.int .i64 0, .int .i64 0] 26) := HL12.out.below hb3 (by simp; omega)
  have HL23 : Hid (Lies w3 w2.heap.size #[.int .i64 0, .int .i64 0] 26) := HL2.out.below hb3 (by simp)
  clear hr3 hb3 HO12 HO2 HB2 HL12 HL2 HGe
  have hcv := Lib.run_convert_bytes_const (P := Tryd.prog) w3 22 5 #[.int .u8 84, .int .u8 87, .int .u8 69, .int .u8 61] 4 4 Tryd.underlying22 Tryd.underlying5
  go_wp2_with fail
  have hfe := feed_any G [] (some ⟨w3.heap.size, 0, none⟩) [84, 87, 69, 61] 4 4 (w3.alloc (.cells #[.int .u8 84, .int .u8 87, .int .u8 69, .int .u8 61] 5 (4, 5))) (HR3.out.below ((Below.refl _ _).alloc (Nat.le_refl _) _)) rfl (const_bts w3 [84, 87, 69, 61] (4, 5)) (by simp) (fun _ ad e => by injection e with e; rw [← e]; show w3.heap.size ≠ G; omega)
  rw [k_feed.1, k_feed.2] at hfe
  refine Calls.mono hfe ?_
  clear hfe hcv
  rintro e w4 ⟨v4, rfl, ho4, hr4, hb4⟩
  have hz4 : w3.heap.size + 1 ≤ w4.heap.size := by have := hb4.size; simpa using this
  have HB4 : Hid (Below w.heap.size w w4) := (HB3.out.alloc (by omega) _).trans (hb4.below (by omega) (by simp; omega))
  have HO4 : Hid (w4.ownsRow w.heap.size 5 1 v4 2 (cellsB [77, 97])) := base_le ho4 (by simp; omega)
  have HO14 : Hid (w4.ownsRow w.heap.size 5 1 v1 2 (cellsB [77, 97])) := own_keep (HO13.out.alloc _) (fun k hk => hb4.block k ((HO13.out.alloc _).lt k hk).2 (HR3.out.apart HO13.out k hk))
  have HO24 : Hid (w4.ownsRow w.heap.size 5 1 v2 3 (cellsB [97, 61, 98])) := own_keep (HO23.out.alloc _) (fun k hk => hb4.block k ((HO23.out.alloc _).lt k hk).2 (HR3.out.apart HO23.out k hk))
  have HL14 : Hid (Lies w4 w1.heap.size #[.int .i64 0, .int .i64 0] 26) := hb4.lies (HL13.out.alloc _) (by omega)
  have HL24 : Hid (Lies w4 w2.heap.size #[.int .i64 0, .int .i64 0] 26) := hb4.lies (HL23.out.alloc _) (by omega)
  clear ho4 hr4 hb4 HB3 HO13 HO23 HL13 HL23 HR3
  have hcv := Lib.run_convert_bytes_const (P := Tryd.prog) w4 22 5 #[.int .u8 77, .int .u8 97] 2 2 Tryd.underlying22 Tryd.underlying5
  go_wp2_with fail
  have hma := b64_any (some ⟨w4.heap.size, 0, none⟩) [77, 97] 2 2 (w4.alloc (.cells #[.int .u8 77, .int .u8 97] 5 (2, 3))) rfl (const_bts w4 [77, 97] (2, 3)) (by simp) (by simp) (by omega)
  rw [k_enc] at hma
  refine Calls.mono hma ?_
  clear hma hcv
  rintro e w5 ⟨rfl, hb5⟩
  have hz5 : w4.heap.size + 1 ≤ w5.heap.size := by have := hb5.size; simpa using this
  have HB5 : Hid (Below w.heap.size w w5) := (HB4.out.alloc (by omega) _).trans (hb5.mono (by simp; omega))
  have HO5 : Hid (w5.ownsRow w.heap.size 5 1 v4 2 (cellsB [77, 97])) := own_below (HO4.out.alloc _) hb5
  have HO15 : Hid (w5.ownsRow w.heap.size 5 1 v1 2 (cellsB [77, 97])) := own_below (HO14.out.alloc _) hb5
  have HO25 : Hid (w5.ownsRow w.heap.size 5 1 v2 3 (cellsB [97, 61, 98])) := own_below (HO24.out.alloc _) hb5
  have HL15 : Hid (Lies w5 w1.heap.size #[.int .i64 0, .int .i64 0] 26) := (HL14.out.alloc _).below hb5 (by simp; omega)
  have HL25 : Hid (Lies w5 w2.heap.size #[.int .i64 0, .int .i64 0] 26) := (HL24.out.alloc _).below hb5 (by simp; omega)
  clear hb5 HB4 HO4 HO14 HO24 HL14 HL24
  have cv1 := own_conv HO15.out
  have s1 : w5.cell? ⟨w1.heap.size, 0, none⟩ = some (.int .i64 0) := HL15.out.cell 0
  have hcv := Lib.run_convert_bytes_const (P := Tryd.prog) w5 22 5 #[.int .u8 97, .int .u8 61, .int .u8 98] 3 3 Tryd.underlying22 Tryd.underlying5
  go_wp2_with fail
  obtain ⟨m, hml⟩ := (HT.out.below (HB5.out.alloc (by omega) (.cells #[.int .u8 97, .int .u8 61, .int .u8 98] 5 (3, 4))) hg1 hg0).ml
  have hqu := quote_any (some ⟨w5.heap.size, 0, none⟩) [97, 61, 98] 3 3 m (w5.alloc (.cells #[.int .u8 97, .int .u8 61, .int .u8 98] 5 (3, 4))) (HT.out.below (HB5.out.alloc (by omega) _) hg1 hg0).table hml rfl (const_bts w5 [97, 61, 98] (3, 4)) (fun e => by cases e) (by simp) (by omega) (by simp)
  rw [k_quote] at hqu
  refine Calls.mono hqu ?_
  clear hqu hcv hml
  rintro e w6 ⟨rfl, hb6⟩
  have hz6 : w5.heap.size + 1 ≤ w6.heap.size := by have := hb6.size; simpa using this
  have HB6 : Hid (Below w.heap.size w w6) := (HB5.out.alloc (by omega) _).trans (hb6.mono (by simp; omega))
  have HO6 : Hid (w6.ownsRow w.heap.size 5 1 v4 2 (cellsB [77, 97])) := own_below (HO5.out.alloc _) hb6
  have HO26 : Hid (w6.ownsRow w.heap.size 5 1 v2 3 (cellsB [97, 61, 98])) := own_below (HO25.out.alloc _) hb6
  have HL26 : Hid (Lies w6 w2.heap.size #[.int .i64 0, .int .i64 0] 26) := (HL25.out.alloc _).below hb6 (by simp; omega)
  clear hb6 HB5 HO5 HO15 HO25 HL15 HL25 cv1 s1
  have cv2 := own_conv HO26.out
  have cv4 := own_conv HO6.out
  have s2 : w6.cell? ⟨w2.heap.size, 0, none⟩ = some (.int .i64 0) := HL26.out.cell 0
  go_wp2
  go_ret
  exact ⟨rfl, HB6.out⟩
end Go.Proofs.YtenfopabdegmhabDoor
