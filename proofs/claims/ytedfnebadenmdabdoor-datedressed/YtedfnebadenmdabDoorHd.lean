/-
  The contract of the statements' head.
-/
import Derived.Test.YtedfnebadenmdabDoorPrs
namespace Go.Proofs.YtedfnebadenmdabDoor
open Go.RowKit

def headS : ByteArray := ⟨#[84, 117, 101, 44, 32, 50, 57, 32, 70, 101, 98, 32, 50, 48, 48, 48, 32, 48, 51, 58, 48, 52, 58, 48, 53, 32, 45, 48, 49, 51, 48]⟩
theorem head_parse : parse headS.data.toList = ⟨⟨2000, 2, 29, 3, 4, 5, -90⟩, 0, 0⟩ := by decide +kernel
theorem head_chk : chk ⟨2000, 2, 29, 3, 4, 5, -90⟩ = 0 ∧ secD ⟨2000, 2, 29, 3, 4, 5, -90⟩ = 951798845 := by decide +kernel
set_option maxHeartbeats 2000000 in
theorem head_any (w : World) (ht : Tbl w) : Calls Tryd.prog 7 #[] w fun e w' => e = .returned (.bool true) ∧ Below w.heap.size w w' := by
  have HP : Hid (∀ w, Tbl w → Calls Tryd.prog 16 #[.string headS] w fun e w' => e = .returned (ansV ⟨⟨2000, 2, 29, 3, 4, 5, -90⟩, 0, 0⟩) ∧ Below w.heap.size w w') := fun w h => by
    have := parse_any headS w h (by decide)
    rw [head_parse] at this
    exact this
  have HC : Hid (∀ w, Tbl w → Calls Tryd.prog 12 #[dtV ⟨2000, 2, 29, 3, 4, 5, -90⟩] w fun e w' => e = .returned (.tuple #[.int .i64 951798845, .int .i64 0]) ∧ Below w.heap.size w w') := fun w h => by
    have := secs_any ⟨2000, 2, 29, 3, 4, 5, -90⟩ w h.ah ⟨by decide, by decide, by decide, by decide, by decide, by decide, by decide, by decide, by decide, by decide, by decide, by decide, by decide, by decide⟩
    rw [head_chk.1, head_chk.2] at this
    exact this
  have HT : Hid (Tbl w) := ht
  unfold headS ansV dtV at HP
  unfold dtV at HC
  clear ht
  go_enter Tryd.func7, Tryd.ntmps7
  go_wp2_with fail
  refine (HP.out _ HT.out).mono ?_
  rintro e w1 ⟨rfl, hb1⟩
  have HB1 : Hid (Below w.heap.size w ((w1.alloc (.cells #[.int .i16 2000, .int .i8 2, .int .i8 29, .int .i8 3, .int .i8 4, .int .i8 5, .int .i16 (-90)] 34)).alloc (.cells #[.int .i64 0, .int .i64 0] 49))) := (hb1.alloc hb1.size _).alloc (by simp; have := hb1.size; omega) _
  have HT1 : Hid (Tbl ((w1.alloc (.cells #[.int .i16 2000, .int .i8 2, .int .i8 29, .int .i8 3, .int .i8 4, .int .i8 5, .int .i16 (-90)] 34)).alloc (.cells #[.int .i64 0, .int .i64 0] 49))) := HT.out.below HB1.out
  have HL : Hid (Lies ((w1.alloc (.cells #[.int .i16 2000, .int .i8 2, .int .i8 29, .int .i8 3, .int .i8 4, .int .i8 5, .int .i16 (-90)] 34)).alloc (.cells #[.int .i64 0, .int .i64 0] 49)) (w1.heap.size + 1) #[.int .i64 0, .int .i64 0] 49) := new_one w1 _ _ _
  clear hb1
  go_wp2_with fail
  refine (HC.out _ HT1.out).mono ?_
  rintro e w2 ⟨rfl, hb2⟩
  have l := HL.out.below hb2 HL.out.lt
  have HB2 : Hid (Below w.heap.size w w2) := HB1.out.trans (hb2.mono HB1.out.size)
  clear hb2 HB1 HT1 HL HC HP
  have c0 := l.cell 0
  have c1 := l.cell 1
  clear l
  generalize w1.heap.size + 1 = B at c0 c1 ⊢
  simp at c0 c1
  go_wp2
  go_ret
  exact ⟨rfl, HB2.out⟩
end Go.Proofs.YtedfnebadenmdabDoor
