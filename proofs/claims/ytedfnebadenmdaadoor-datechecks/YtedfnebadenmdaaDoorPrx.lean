/-
  Both Prints of any date.
-/
import Derived.Test.YtedfnebadenmdaaDoorPrb
import Derived.Test.YtedfnebadenmdaaDoorRpt
import Derived.Test.YtedfnebadenmdaaDoorRpn
namespace Go.Proofs.YtedfnebadenmdaaDoor
open Go.RowKit

set_option maxHeartbeats 2000000 in
theorem print_bad (x : Dt) (w : World) (ht : Ahd w) (hx : x.In) (hc : chk x ≠ 0) : Calls Tryd.prog 19 #[dtV x] w fun e w' => e = .returned (.tuple #[.string ⟨#[]⟩, .int .i64 (chk x)]) ∧ Below w.heap.size w w' := by
  have HB : Hid (Below w.heap.size w (w.alloc (.cells (dtC x) 34))) := (Below.refl _ _).alloc (Nat.le_refl _) _
  have HC := check_any x (w.alloc (.cells (dtC x) 34)) (ht.below HB.out) hx
  have c' : (chk x != 0) = true := by simpa using hc
  clear hc hx ht
  generalize chk x = z at HC c' ⊢
  unfold dtV dtC at HC
  unfold dtV
  go_enter Tryd.func19, Tryd.ntmps19
  go_wp2_with fail
  refine Calls.mono HC ?_
  rintro e w2 ⟨rfl, hb2⟩
  have HB2 : Hid (Below w.heap.size w w2) := HB.out.trans (hb2.mono HB.out.size)
  clear hb2 HB HC
  go_wp2
  go_ret2
  exact ⟨rfl, HB2.out⟩
set_option maxHeartbeats 2000000 in
theorem rprint_bad (x : Dt) (w : World) (hx : x.In) (hc : chk x ≠ 0) : Calls Tryd.prog 18 #[dtV x] w fun e w' => e = .returned (.tuple #[.string ⟨#[]⟩, .int .i64 (chk x)]) ∧ Below w.heap.size w w' := by
  have HB : Hid (Below w.heap.size w (w.alloc (.cells (dtC x) 34))) := (Below.refl _ _).alloc (Nat.le_refl _) _
  have HC := rcheck_any x (w.alloc (.cells (dtC x) 34)) hx
  have c' : (chk x != 0) = true := by simpa using hc
  clear hc hx
  generalize chk x = z at HC c' ⊢
  unfold dtV dtC at HC
  unfold dtV
  go_enter Tryd.func18, Tryd.ntmps18
  go_wp2_with fail
  refine Calls.mono HC ?_
  rintro e w2 ⟨rfl, hb2⟩
  have HB2 : Hid (Below w.heap.size w w2) := HB.out.trans (hb2.mono HB.out.size)
  clear hb2 HB HC
  go_wp2
  go_ret2
  exact ⟨rfl, HB2.out⟩
theorem prints_any (x : Dt) (hx : x.In) : ∃ t : ByteArray, (∀ w, Ahd w → PowTab w → Calls Tryd.prog 19 #[dtV x] w fun e w' => e = .returned (.tuple #[.string t, .int .i64 (chk x)]) ∧ Below w.heap.size w w') ∧
    (∀ w, Calls Tryd.prog 18 #[dtV x] w fun e w' => e = .returned (.tuple #[.string t, .int .i64 (chk x)]) ∧ Below w.heap.size w w') := by
  by_cases hc : chk x = 0
  · rw [hc]
    have hm := (chk_may x).1 hc
    have hw := wdN_in (numD x.y x.mo x.d)
    obtain ⟨q1, q2, q3, q4, q5, q6⟩ := hm.day
    have hm' := hm
    obtain ⟨_, t0, _, t2, _, t4, _, _, _⟩ := hm'
    clear hc hx
    obtain ⟨yy, mo, dd, hh, mm, ss, zz⟩ := x
    simp only at hw q1 q2 q3 q4 q5 q6 t0 t2 t4
    obtain ⟨y, rfl⟩ := Int.eq_ofNat_of_zero_le (show 0 ≤ yy by omega)
    obtain ⟨d, rfl⟩ := Int.eq_ofNat_of_zero_le (show 0 ≤ dd by omega)
    obtain ⟨h, rfl⟩ := Int.eq_ofNat_of_zero_le t0
    obtain ⟨mi, rfl⟩ := Int.eq_ofNat_of_zero_le t2
    obtain ⟨sc, rfl⟩ := Int.eq_ofNat_of_zero_le t4
    obtain ⟨m1, rfl⟩ : ∃ m1 : Nat, mo = (m1 : Int) + 1 := ⟨(mo - 1).toNat, by omega⟩
    obtain ⟨wd, hwd⟩ := Int.eq_ofNat_of_zero_le hw.1
    by_cases hz : 0 ≤ zz
    · obtain ⟨z, rfl⟩ := Int.eq_ofNat_of_zero_le hz
      exact ⟨_, fun w ht hp => print_pos y m1 d h mi sc z wd (z / 60) (z % 60) w ht hp hm hwd rfl rfl, fun w => rprint_pos y m1 d h mi sc z wd (z / 60) (z % 60) w hm hwd rfl rfl⟩
    · obtain ⟨z, hz2⟩ : ∃ z : Nat, zz = -(z : Int) := ⟨(-zz).toNat, by omega⟩
      subst hz2
      exact ⟨_, fun w ht hp => print_neg y m1 d h mi sc z wd (z / 60) (z % 60) w ht hp hm hwd (by omega) rfl rfl, fun w => rprint_neg y m1 d h mi sc z wd (z / 60) (z % 60) w hm hwd (by omega) rfl rfl⟩
  · exact ⟨⟨#[]⟩, fun w ht _ => print_bad x w ht hx hc, fun w => rprint_bad x w hx hc⟩
end Go.Proofs.YtedfnebadenmdaaDoor
