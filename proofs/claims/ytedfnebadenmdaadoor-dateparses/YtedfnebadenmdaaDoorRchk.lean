/-
  The contracts of the document's Check and Seconds.
-/
import Derived.Test.YtedfnebadenmdaaDoorRciv
namespace Go.Proofs.YtedfnebadenmdaaDoor
open Go.RowKit

theorem chk_day0 {x : Dt} (h : dayB x.y x.mo x.d = false) : chk x = 60 := by
  rw [chk_parts, h]
  rfl
theorem chk_time0 {x : Dt} (h : timeB x = false) : chk x = 60 := by
  rw [chk_parts, h]
  split <;> rfl
set_option maxHeartbeats 2000000 in
theorem rcheck_any (x : Dt) (w : World) (hx : x.In) : Calls Tryd.prog 21 #[dtV x] w fun e w' => e = .returned (.int .i64 (chk x)) ∧ Below w.heap.size w w' := by
  have HX : Hid x.In := hx
  have HB : Hid (Below w.heap.size w (w.alloc (.cells (dtC x) 34))) := (Below.refl _ _).alloc (Nat.le_refl _) _
  have HR : Hid (∀ w, Calls Tryd.prog 27 #[.int .i64 x.y, .int .i64 x.mo, .int .i64 x.d] w fun e w' => e = .returned (.bool (dayB x.y x.mo x.d)) ∧ w' = w) := fun w => risday_any x.y x.mo x.d w hx.y0 hx.y1 hx.mo0 hx.mo1 hx.d0 hx.d1
  have r0 := hx.y0; have r1 := hx.y1; have r2 := hx.mo0; have r3 := hx.mo1; have r4 := hx.d0; have r5 := hx.d1
  unfold dtC at HB
  clear hx
  unfold dtV
  by_cases c : dayB x.y x.mo x.d = true
  · skip
    by_cases c0 : x.h < 0
    · have HF : Hid (chk x = 60) := chk_time0 (by unfold timeB; exact decide_eq_false (by omega))
      go_enter Tryd.func21, Tryd.ntmps21
      go_wp2_with (go_at_call 27; refine (HR.out _).mono ?_; rintro e w' ⟨rfl, rfl⟩)
      go_ret
      exact ⟨ret_i64 HF.out.symm, HB.out⟩
    by_cases c1 : 23 < x.h
    · have HF : Hid (chk x = 60) := chk_time0 (by unfold timeB; exact decide_eq_false (by omega))
      go_enter Tryd.func21, Tryd.ntmps21
      go_wp2_with (go_at_call 27; refine (HR.out _).mono ?_; rintro e w' ⟨rfl, rfl⟩)
      go_ret
      exact ⟨ret_i64 HF.out.symm, HB.out⟩
    by_cases c2 : x.mi < 0
    · have HF : Hid (chk x = 60) := chk_time0 (by unfold timeB; exact decide_eq_false (by omega))
      go_enter Tryd.func21, Tryd.ntmps21
      go_wp2_with (go_at_call 27; refine (HR.out _).mono ?_; rintro e w' ⟨rfl, rfl⟩)
      go_ret
      exact ⟨ret_i64 HF.out.symm, HB.out⟩
    by_cases c3 : 59 < x.mi
    · have HF : Hid (chk x = 60) := chk_time0 (by unfold timeB; exact decide_eq_false (by omega))
      go_enter Tryd.func21, Tryd.ntmps21
      go_wp2_with (go_at_call 27; refine (HR.out _).mono ?_; rintro e w' ⟨rfl, rfl⟩)
      go_ret
      exact ⟨ret_i64 HF.out.symm, HB.out⟩
    by_cases c4 : x.s < 0
    · have HF : Hid (chk x = 60) := chk_time0 (by unfold timeB; exact decide_eq_false (by omega))
      go_enter Tryd.func21, Tryd.ntmps21
      go_wp2_with (go_at_call 27; refine (HR.out _).mono ?_; rintro e w' ⟨rfl, rfl⟩)
      go_ret
      exact ⟨ret_i64 HF.out.symm, HB.out⟩
    by_cases c5 : 59 < x.s
    · have HF : Hid (chk x = 60) := chk_time0 (by unfold timeB; exact decide_eq_false (by omega))
      go_enter Tryd.func21, Tryd.ntmps21
      go_wp2_with (go_at_call 27; refine (HR.out _).mono ?_; rintro e w' ⟨rfl, rfl⟩)
      go_ret
      exact ⟨ret_i64 HF.out.symm, HB.out⟩
    have ht : timeB x = true := by unfold timeB; exact decide_eq_true (by omega)
    have HCP : Hid (chk x = if -1439 ≤ x.z ∧ x.z ≤ 1439 then 0 else 61) := by
      have h := chk_parts x
      rw [if_pos c, if_pos ht] at h
      exact h
    clear ht
    by_cases z1 : x.z < -1439
    · have HF : Hid (chk x = 61) := by show _ = _; rw [HCP.out, if_neg (by omega)]
      go_enter Tryd.func21, Tryd.ntmps21
      go_wp2_with (go_at_call 27; refine (HR.out _).mono ?_; rintro e w' ⟨rfl, rfl⟩)
      go_ret
      exact ⟨ret_i64 HF.out.symm, HB.out⟩
    by_cases z2 : 1439 < x.z
    · have HF : Hid (chk x = 61) := by show _ = _; rw [HCP.out, if_neg (by omega)]
      go_enter Tryd.func21, Tryd.ntmps21
      go_wp2_with (go_at_call 27; refine (HR.out _).mono ?_; rintro e w' ⟨rfl, rfl⟩)
      go_ret
      exact ⟨ret_i64 HF.out.symm, HB.out⟩
    have HF : Hid (chk x = 0) := by show _ = _; rw [HCP.out, if_pos (by omega)]
    go_enter Tryd.func21, Tryd.ntmps21
    go_wp2_with (go_at_call 27; refine (HR.out _).mono ?_; rintro e w' ⟨rfl, rfl⟩)
    go_ret
    exact ⟨ret_i64 HF.out.symm, HB.out⟩
  · have c' : dayB x.y x.mo x.d = false := by simpa using c
    have HF : Hid (chk x = 60) := chk_day0 c'
    clear c
    go_enter Tryd.func21, Tryd.ntmps21
    go_wp2_with (go_at_call 27; refine (HR.out _).mono ?_; rintro e w' ⟨rfl, rfl⟩)
    go_ret
    exact ⟨ret_i64 HF.out.symm, HB.out⟩

set_option maxHeartbeats 2000000 in
theorem rsecs_any (x : Dt) (w : World) (hx : x.In) : Calls Tryd.prog 16 #[dtV x] w fun e w' => e = .returned (.tuple #[.int .i64 (if chk x = 0 then secD x else 0), .int .i64 (chk x)]) ∧ Below w.heap.size w w' := by
  have HX : Hid x.In := hx
  have HB : Hid (Below w.heap.size w (w.alloc (.cells (dtC x) 34))) := (Below.refl _ _).alloc (Nat.le_refl _) _
  have HL : Hid (Lies (w.alloc (.cells (dtC x) 34)) w.heap.size (dtC x) 34) := Lies.new w _ _
  have HS : Hid (w.heap.size < (w.alloc (.cells (dtC x) 34)).heap.size) := HL.out.lt
  have HC : Hid (∀ w, Calls Tryd.prog 21 #[dtV x] w fun e w' => e = .returned (.int .i64 (chk x)) ∧ Below w.heap.size w w') := fun w => rcheck_any x w HX.out
  unfold dtC at HB HL HS
  unfold dtV at HC
  clear hx
  unfold dtV
  by_cases c : chk x = 0
  · rw [if_pos c]
    obtain ⟨q1, q2, q3, q4, q5, q6, q7, q8, q9⟩ := (chk_may x).1 c
    have HD : Hid (∀ w, Calls Tryd.prog 9 #[.int .i16 x.y, .int .i8 x.mo, .int .i8 x.d] w fun e w' => e = .returned (.tuple #[.int .i64 (numD x.y x.mo x.d), .int .i64 0]) ∧ w' = w) := by
      intro w
      have := rdays_any x.y x.mo x.d w HX.out.y0 HX.out.y1 HX.out.mo0 HX.out.mo1 HX.out.d0 HX.out.d1
      rw [if_pos q1, if_pos q1] at this
      exact this
    obtain ⟨n0, n1⟩ := numD_range q1
    have HN : Hid (secD x = 86400 * numD x.y x.mo x.d + 3600 * x.h + 60 * x.mi + x.s - 60 * x.z) := by
      show _ = _
      unfold secD
      omega
    clear q1
    go_enter Tryd.func16, Tryd.ntmps16
    go_wp2_with fail
    refine (HC.out _).mono ?_
    rintro e w2 ⟨rfl, hb2⟩
    have hl := HL.out.below hb2 HS.out
    have c0 := hl.cell 0
    have c1 := hl.cell 1
    have c2 := hl.cell 2
    have c3 := hl.cell 3
    have c4 := hl.cell 4
    have c5 := hl.cell 5
    have c6 := hl.cell 6
    have HB2 : Hid (Below w.heap.size w w2) := HB.out.trans (hb2.mono (Nat.le_of_lt HS.out))
    generalize w.heap.size = B at c0 c1 c2 c3 c4 c5 c6 ⊢
    clear hl hb2 HB HL HS HC
    simp at c0 c1 c2 c3 c4 c5 c6
    generalize numD x.y x.mo x.d = N at HD HN n0 n1
    go_wp2_with (go_at_call 9; refine (HD.out _).mono ?_; rintro e w' ⟨rfl, rfl⟩)
    go_ret2
    exact ⟨by rw [HN.out, c]; rfl, HB2.out⟩
  · rw [if_neg c]
    have c' : (chk x == 0) = false := by simpa using c
    have HC' := HC
    generalize chk x = z at HC c c' ⊢
    clear c HC'
    go_enter Tryd.func16, Tryd.ntmps16
    go_wp2_with fail
    refine (HC.out _).mono ?_
    rintro e w2 ⟨rfl, hb2⟩
    have HB2 : Hid (Below w.heap.size w w2) := HB.out.trans (hb2.mono (Nat.le_of_lt HS.out))
    generalize w.heap.size = B
    clear hb2 HB HL HS HC
    go_wp2
    go_ret2
    exact ⟨rfl, HB2.out⟩
end Go.Proofs.YtedfnebadenmdaaDoor
