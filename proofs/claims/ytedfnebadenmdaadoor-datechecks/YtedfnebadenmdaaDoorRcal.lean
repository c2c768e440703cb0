/-
  The contracts of the document's calendar.
-/
import Derived.Test.YtedfnebadenmdaaDoorCof
namespace Go.Proofs.YtedfnebadenmdaaDoor
open Go.RowKit

set_option maxHeartbeats 400000 in
theorem rleap_any (y : Int) (w : World) (h0 : 0 ≤ y) (h1 : y ≤ 1000000) :
    Calls Tryd.prog 57 #[.int .i64 y] w fun e w' => e = .returned (.bool (leapB y)) ∧ w' = w := by
  by_cases c4 : y % 4 = 0
  · by_cases c1 : y % 100 = 0
    · by_cases c5 : y % 400 = 0
      · have hl : leapB y = true := by simp [leapB, c4, c5]
        rw [hl]
        go_enter Tryd.func57, Tryd.ntmps57
        go_wp2
        go_ret
        exact ⟨rfl, rfl⟩
      · have hl : leapB y = false := by simp [leapB, c1, c5]
        rw [hl]
        go_enter Tryd.func57, Tryd.ntmps57
        go_wp2
        go_ret
        exact ⟨ret_b (by simpa using c5), rfl⟩
    · have hl : leapB y = true := by simp [leapB, c4, c1]
      rw [hl]
      go_enter Tryd.func57, Tryd.ntmps57
      go_wp2
      go_ret
      exact ⟨rfl, rfl⟩
  · have hl : leapB y = false := by simp [leapB, c4]
    rw [hl]
    go_enter Tryd.func57, Tryd.ntmps57
    go_wp2
    go_ret
    exact ⟨rfl, rfl⟩
set_option maxHeartbeats 400000 in
theorem rwhole_any (y : Int) (w : World) (h0 : 0 ≤ y) (h1 : y ≤ 1000000) :
    Calls Tryd.prog 28 #[.int .i64 y] w fun e w' => e = .returned (.int .i64 (wholeN y)) ∧ w' = w := by
  by_cases c : leapB y = true
  · have HF : Hid (wholeN y = 366) := if_pos c
    go_enter Tryd.func28, Tryd.ntmps28
    go_wp2_with (go_at_call 57; refine (rleap_any y _ h0 h1).mono ?_; rintro e w' ⟨rfl, rfl⟩)
    go_ret
    exact ⟨ret_i64 HF.out.symm, rfl⟩
  · have HF : Hid (wholeN y = 365) := if_neg c
    have c' : leapB y = false := by simpa using c
    clear c
    go_enter Tryd.func28, Tryd.ntmps28
    go_wp2_with (go_at_call 57; refine (rleap_any y _ h0 h1).mono ?_; rintro e w' ⟨rfl, rfl⟩)
    go_ret
    exact ⟨ret_i64 HF.out.symm, rfl⟩
set_option maxHeartbeats 400000 in
theorem rlong_any (y m : Int) (w : World) (h0 : 0 ≤ y) (h1 : y ≤ 1000000) (m0 : 1 ≤ m) (m1 : m ≤ 12) :
    Calls Tryd.prog 29 #[.int .i64 y, .int .i64 m] w fun e w' => e = .returned (.int .i64 (longN y m)) ∧ w' = w := by
  by_cases c : leapB y = true
  · rcases month_cases m0 m1 with rfl | rfl | rfl | rfl | rfl | rfl | rfl | rfl | rfl | rfl | rfl | rfl
    all_goals
      go_enter Tryd.func29, Tryd.ntmps29
      go_wp2_with (go_at_call 57; refine (rleap_any y _ h0 h1).mono ?_; rintro e w' ⟨rfl, rfl⟩)
      go_ret
      exact ⟨ret_i64 (by simp [longN, c]), rfl⟩
  · have c' : leapB y = false := by simpa using c
    clear c
    rcases month_cases m0 m1 with rfl | rfl | rfl | rfl | rfl | rfl | rfl | rfl | rfl | rfl | rfl | rfl
    all_goals
      go_enter Tryd.func29, Tryd.ntmps29
      go_wp2_with (go_at_call 57; refine (rleap_any y _ h0 h1).mono ?_; rintro e w' ⟨rfl, rfl⟩)
      go_ret
      exact ⟨ret_i64 (by simp [longN, c']), rfl⟩
set_option maxHeartbeats 400000 in
theorem risday_any (y m d : Int) (w : World) (hy0 : -32768 ≤ y) (hy1 : y ≤ 32767) (hm0 : -128 ≤ m) (hm1 : m ≤ 127) (hd0 : -128 ≤ d) (hd1 : d ≤ 127) :
    Calls Tryd.prog 27 #[.int .i64 y, .int .i64 m, .int .i64 d] w fun e w' => e = .returned (.bool (dayB y m d)) ∧ w' = w := by
  by_cases c1 : y < 1
  · have HF : Hid (dayB y m d = false) := by unfold dayB; exact decide_eq_false (fun h => by have := h.1; omega)
    go_enter Tryd.func27, Tryd.ntmps27
    go_wp2
    go_ret
    exact ⟨ret_b HF.out.symm, rfl⟩
  by_cases c2 : 9999 < y
  · have HF : Hid (dayB y m d = false) := by unfold dayB; exact decide_eq_false (fun h => by have := h.2.1; omega)
    go_enter Tryd.func27, Tryd.ntmps27
    go_wp2
    go_ret
    exact ⟨ret_b HF.out.symm, rfl⟩
  by_cases c3 : m < 1
  · have HF : Hid (dayB y m d = false) := by unfold dayB; exact decide_eq_false (fun h => by have := h.2.2.1; omega)
    go_enter Tryd.func27, Tryd.ntmps27
    go_wp2
    go_ret
    exact ⟨ret_b HF.out.symm, rfl⟩
  by_cases c4 : 12 < m
  · have HF : Hid (dayB y m d = false) := by unfold dayB; exact decide_eq_false (fun h => by have := h.2.2.2.1; omega)
    go_enter Tryd.func27, Tryd.ntmps27
    go_wp2
    go_ret
    exact ⟨ret_b HF.out.symm, rfl⟩
  by_cases c5 : d < 1
  · have HF : Hid (dayB y m d = false) := by unfold dayB; exact decide_eq_false (fun h => by have := h.2.2.2.2.1; omega)
    go_enter Tryd.func27, Tryd.ntmps27
    go_wp2
    go_ret
    exact ⟨ret_b HF.out.symm, rfl⟩
  have HF : Hid (dayB y m d = decide (d ≤ longN y m)) := by
    show _ = _
    unfold dayB
    apply decide_eq_decide.2
    unfold IsDay
    omega
  obtain ⟨l0, l1⟩ := longN_pos y m
  go_enter Tryd.func27, Tryd.ntmps27
  go_wp2_with fail
  refine (rlong_any y m _ (by omega) (by omega) (by omega) (by omega)).mono ?_
  rintro e w' ⟨rfl, rfl⟩
  go_wp2
  go_ret
  exact ⟨ret_b HF.out.symm, rfl⟩

set_option maxHeartbeats 1000000 in
theorem rdays_any (y m d : Int) (w : World) (hy0 : -32768 ≤ y) (hy1 : y ≤ 32767) (hm0 : -128 ≤ m) (hm1 : m ≤ 127) (hd0 : -128 ≤ d) (hd1 : d ≤ 127) :
    Calls Tryd.prog 9 #[.int .i16 y, .int .i8 m, .int .i8 d] w fun e w' => e = .returned (.tuple #[.int .i64 (if IsDay y m d then numD y m d else 0), .int .i64 (if IsDay y m d then 0 else 60)]) ∧ w' = w := by
  by_cases hd : IsDay y m d
  · have hb : dayB y m d = true := decide_eq_true hd
    rw [if_pos hd, if_pos hd]
    obtain ⟨q1, q2, q3, q4, q5, q6⟩ := hd
    clear q6
    have HY : Hid (∀ i : Int, 1 ≤ i → i ≤ y → -719162 ≤ ystart i ∧ ystart i ≤ 2932897) := by
      intro i h1 h2
      have a := ystart_mono (a := 1) (b := i) h1
      have b := ystart_mono (a := i) (b := 10000) (by omega)
      rw [ystart_first] at a
      rw [ystart_last] at b
      exact ⟨a, b⟩
    go_enter Tryd.func9, Tryd.ntmps9
    go_wp2_with (go_at_call 27; refine (risday_any y m d _ hy0 hy1 hm0 hm1 hd0 hd1).mono ?_; rintro e w' ⟨rfl, rfl⟩)
    go_loop [10, 11] (fun n i => ∃ k : Int, 1 ≤ k ∧ k ≤ y ∧ i = .int .i64 k ∧ n = .int .i64 (ystart k)) (fun _ i => 10000 - (intOf i).toNat)
    case atStart => exact ⟨1, by omega, by omega, rfl, rfl⟩
    case round =>
      obtain ⟨k, k0, k1, rfl, rfl⟩ := hrel
      obtain ⟨b0, b1⟩ := HY.out k k0 k1
      by_cases hlt : k < y
      · have HS : Hid (ystart (k + 1) = ystart k + wholeN k) := ystart_succ k
        obtain ⟨p0, p1⟩ := wholeN_pos k
        go_wp2_with (go_at_call 28; refine (rwhole_any k _ (by omega) (by omega)).mono ?_; rintro e w' ⟨rfl, rfl⟩)
        go_round
        case rel => exact ⟨k + 1, by omega, by omega, rfl, by rw [HS.out]⟩
        case measure => simp [intOf]; omega
      · obtain rfl : k = y := by omega
        clear hlt
        go_wp2
        go_loop [10, 12] (fun n i => ∃ j : Int, 1 ≤ j ∧ j ≤ m ∧ i = .int .i64 j ∧ n = .int .i64 (ystart k + mstart k j)) (fun _ i => 100 - (intOf i).toNat)
        case atStart => exact ⟨1, by omega, by omega, rfl, by rw [mstart_one, Int.add_zero]⟩
        case round =>
          obtain ⟨j, j0, j1, rfl, rfl⟩ := hrel
          obtain ⟨a0, a1⟩ := mstart_in k j
          by_cases hlt : j < m
          · have HS : Hid (mstart k (j + 1) = mstart k j + longN k j) := mstart_succ k j0 (by omega)
            obtain ⟨l0, l1⟩ := longN_pos k j
            go_wp2_with (go_at_call 29; refine (rlong_any k j _ (by omega) (by omega) (by omega) (by omega)).mono ?_; rintro e w' ⟨rfl, rfl⟩)
            go_round
            case rel => exact ⟨j + 1, by omega, by omega, rfl, by rw [HS.out, Int.add_assoc]⟩
            case measure => simp [intOf]; omega
          · obtain rfl : j = m := by omega
            clear hlt
            go_wp2
            go_ret2
            exact ⟨rfl, rfl⟩
  · have hb : dayB y m d = false := decide_eq_false hd
    rw [if_neg hd, if_neg hd]
    clear hd
    go_enter Tryd.func9, Tryd.ntmps9
    go_wp2_with (go_at_call 27; refine (risday_any y m d _ hy0 hy1 hm0 hm1 hd0 hd1).mono ?_; rintro e w' ⟨rfl, rfl⟩)
    go_ret2
    exact ⟨rfl, rfl⟩
end Go.Proofs.YtedfnebadenmdaaDoor
