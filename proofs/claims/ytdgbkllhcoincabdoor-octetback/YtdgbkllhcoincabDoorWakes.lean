/-
  The contract of the statements' own wakes.
-/
import Derived.Test.YtdgbkllhcoincabDoorNumber
import Derived.Test.YtdgbkllhcoincabDoorSame
import Derived.Test.YtdgbkllhcoincabDoorTen
import Derived.Test.YtdgbkllhcoincabDoorLaid
namespace Go.Proofs.YtdgbkllhcoincabDoor
open Go.RowKit

theorem wake_num : numVal [49, 50] 99 = 12 ∧ numCode [49, 50] 99 = 0 := by decide
theorem wake_is : isB 2 55 = true ∧ isB 2 97 = false := by decide
theorem wake_up : upS ⟨#[97, 45, 98]⟩ = ⟨#[65, 45, 66]⟩ := rfl

set_option maxRecDepth 100000 in
set_option maxHeartbeats 1000000 in
theorem wakes_any (w : World) (ht : Table w) :
    Calls Tryd.prog 8 #[] w fun e w' => e = .returned (.bool true) ∧ Below w.heap.size w w' := by
  obtain ⟨n1, n2⟩ := wake_num
  obtain ⟨i1, i2⟩ := wake_is
  have u1 := wake_up
  have HT : Hid (Table w) := ht
  clear ht
  go_enter Tryd.func8, Tryd.ntmps8
  go_wp2_with fail
  refine (number_any ⟨#[49, 50]⟩ 99 _ HT.out (by unfold maxLen; decide) (by omega) (by omega)).mono ?_
  rintro e w0 ⟨rfl, rfl⟩
  go_wp2_with fail
  refine (is_any 2 55 _ HT.out).mono ?_
  rintro e w0 ⟨rfl, rfl⟩
  go_wp2_with fail
  refine (is_any 2 97 _ HT.out).mono ?_
  rintro e w0 ⟨rfl, rfl⟩
  go_wp2_with fail
  refine (upper_any ⟨#[97, 45, 98]⟩ _ (by unfold maxLen; decide)).mono ?_
  rintro e w1 ⟨rfl, hb⟩
  go_wp2_with fail
  refine (dec_ten _).mono ?_
  rintro e w2 ⟨rfl, rfl⟩
  go_wp2
  go_ret
  exact ⟨rfl, hb⟩
end Go.Proofs.YtdgbkllhcoincabDoor
