/-
  The contracts of the program's calendar: leap years, the starts of years and months, days and their numbers, weekdays.
-/
import Derived.Test.YtedfnebadenmdabDoorBase
import Derived.Test.YtedfnebadenmdabDoorCal
namespace Go.Proofs.YtedfnebadenmdabDoor
open Go.RowKit

/-- The table of the days ahead. -/
def Ahd (w : World) : Prop := ∀ c : Nat, c < 13 → w.cell? ⟨0, c, none⟩ = some (.int .i16 (aheadN ((c : Int) + 1)))

set_option maxHeartbeats 400000 in
theorem leap_any (y : Int) (w : World) (h0 : 0 ≤ y) (h1 : y ≤ 1000000) :
    Calls Tryd.prog 35 #[.int .i64 y] w fun e w' => e = .returned (.bool (leapB y)) ∧ w' = w := by
  by_cases c4 : y % 4 = 0
  · by_cases c1 : y % 100 = 0
    · by_cases c5 : y % 400 = 0
      · have hl : leapB y = true := by simp [leapB, c4, c5]
        rw [hl]
        go_enter Tryd.func35, Tryd.ntmps35
        go_wp2
        go_ret
        exact ⟨rfl, rfl⟩
      · have hl : leapB y = false := by simp [leapB, c1, c5]
        rw [hl]
        go_enter Tryd.func35, Tryd.ntmps35
        go_wp2
        go_ret
        exact ⟨ret_b (by simpa using c5), rfl⟩
    · have hl : leapB y = true := by simp [leapB, c4, c1]
      rw [hl]
      go_enter Tryd.func35, Tryd.ntmps35
      go_wp2
      go_ret
      exact ⟨rfl, rfl⟩
  · have hl : leapB y = false := by simp [leapB, c4]
    rw [hl]
    go_enter Tryd.func35, Tryd.ntmps35
    go_wp2
    go_ret
    exact ⟨rfl, rfl⟩

set_option maxHeartbeats 400000 in
theorem ystart_any (y : Int) (w : World) (h0 : 1 ≤ y) (h1 : y ≤ 1000000) :
    Calls Tryd.prog 19 #[.int .i64 y] w fun e w' => e = .returned (.int .i64 (ystart y)) ∧ w' = w := by
  go_enter Tryd.func19, Tryd.ntmps19
  go_wp2
  go_ret
  exact ⟨rfl, rfl⟩

theorem aheadN_in (m : Int) : 0 ≤ aheadN m ∧ aheadN m ≤ 365 := by
  unfold aheadN
  repeat' split
  all_goals omega
set_option maxHeartbeats 400000 in
theorem mstart_any (y m : Int) (w : World) (ht : Ahd w) (h0 : 0 ≤ y) (h1 : y ≤ 1000000) (m0 : 1 ≤ m) (m1 : m ≤ 13) :
    Calls Tryd.prog 20 #[.int .i64 y, .int .i8 m] w fun e w' => e = .returned (.int .i64 (mstart y m)) ∧ w' = w := by
  obtain ⟨c, rfl⟩ : ∃ c : Nat, m = (c : Int) + 1 := ⟨(m - 1).toNat, by omega⟩
  have hc : c < 13 := by omega
  have hcell := ht c hc
  obtain ⟨a0, a1⟩ := aheadN_in ((c : Int) + 1)
  have e : mstart y ((c : Int) + 1) = aheadN ((c : Int) + 1) + (if 2 < (c : Int) + 1 ∧ leapB y = true then 1 else 0) := rfl
  obtain ⟨x, hx⟩ : ∃ x, x = aheadN ((c : Int) + 1) := ⟨_, rfl⟩
  rw [← hx] at hcell a0 a1 e
  have HE : Hid (mstart y ((c : Int) + 1) = x + (if 2 < (c : Int) + 1 ∧ leapB y = true then 1 else 0)) := e
  clear hx ht e m0 m1
  by_cases h2 : 2 < (c : Int) + 1
  · by_cases hl : leapB y = true
    · have HF : Hid (mstart y ((c : Int) + 1) = x + 1) := by
        show _ = _
        rw [HE.out, if_pos ⟨h2, hl⟩]
      go_enter Tryd.func20, Tryd.ntmps20
      go_wp2_with (go_at_call 35; refine (leap_any y _ h0 h1).mono ?_; rintro e w' ⟨rfl, rfl⟩)
      go_ret
      exact ⟨ret_i64 HF.out.symm, rfl⟩
    · have HF : Hid (mstart y ((c : Int) + 1) = x) := by
        show _ = _
        rw [HE.out, if_neg (fun h => hl h.2), Int.add_zero]
      have hl' : leapB y = false := by simpa using hl
      go_enter Tryd.func20, Tryd.ntmps20
      go_wp2_with (go_at_call 35; refine (leap_any y _ h0 h1).mono ?_; rintro e w' ⟨rfl, rfl⟩)
      go_ret
      exact ⟨ret_i64 HF.out.symm, rfl⟩
  · have HF : Hid (mstart y ((c : Int) + 1) = x) := by
      show _ = _
      rw [HE.out, if_neg (fun h => h2 h.1), Int.add_zero]
    go_enter Tryd.func20, Tryd.ntmps20
    go_wp2
    go_ret
    exact ⟨ret_i64 HF.out.symm, rfl⟩

theorem mstart_in (y m : Int) : 0 ≤ mstart y m ∧ mstart y m ≤ 366 := by
  have := aheadN_in m
  unfold mstart
  split <;> omega
/-- Whether there is such a day. -/
def dayB (y m d : Int) : Bool := decide (IsDay y m d)
set_option maxHeartbeats 400000 in
theorem isday_any (y m d : Int) (w : World) (ht : Ahd w) (hy0 : -32768 ≤ y) (hy1 : y ≤ 32767) (hm0 : -128 ≤ m) (hm1 : m ≤ 127) (hd0 : -128 ≤ d) (hd1 : d ≤ 127) :
    Calls Tryd.prog 36 #[.int .i16 y, .int .i8 m, .int .i8 d] w fun e w' => e = .returned (.bool (dayB y m d)) ∧ w' = w := by
  have HT : Hid (Ahd w) := ht
  clear ht
  by_cases c1 : y < 1
  · have HF : Hid (dayB y m d = false) := by unfold dayB; exact decide_eq_false (fun h => by have := h.1; omega)
    go_enter Tryd.func36, Tryd.ntmps36
    go_wp2
    go_ret
    exact ⟨ret_b HF.out.symm, rfl⟩
  by_cases c2 : 9999 < y
  · have HF : Hid (dayB y m d = false) := by unfold dayB; exact decide_eq_false (fun h => by have := h.2.1; omega)
    go_enter Tryd.func36, Tryd.ntmps36
    go_wp2
    go_ret
    exact ⟨ret_b HF.out.symm, rfl⟩
  by_cases c3 : m < 1
  · have HF : Hid (dayB y m d = false) := by unfold dayB; exact decide_eq_false (fun h => by have := h.2.2.1; omega)
    go_enter Tryd.func36, Tryd.ntmps36
    go_wp2
    go_ret
    exact ⟨ret_b HF.out.symm, rfl⟩
  by_cases c4 : 12 < m
  · have HF : Hid (dayB y m d = false) := by unfold dayB; exact decide_eq_false (fun h => by have := h.2.2.2.1; omega)
    go_enter Tryd.func36, Tryd.ntmps36
    go_wp2
    go_ret
    exact ⟨ret_b HF.out.symm, rfl⟩
  by_cases c5 : d < 1
  · have HF : Hid (dayB y m d = false) := by unfold dayB; exact decide_eq_false (fun h => by have := h.2.2.2.2.1; omega)
    go_enter Tryd.func36, Tryd.ntmps36
    go_wp2
    go_ret
    exact ⟨ret_b HF.out.symm, rfl⟩
  have hs := mstart_succ y (m := m) (by omega) (by omega)
  obtain ⟨a0, a1⟩ := mstart_in y m
  obtain ⟨b0, b1⟩ := mstart_in y (m + 1)
  have HF : Hid (dayB y m d = decide (d ≤ mstart y (m + 1) - mstart y m)) := by
    show _ = _
    unfold dayB
    rw [hs]
    apply decide_eq_decide.2
    unfold IsDay
    omega
  clear hs
  go_enter Tryd.func36, Tryd.ntmps36
  go_wp2_with fail
  refine (mstart_any y (m + 1) _ HT.out (by omega) (by omega) (by omega) (by omega)).mono ?_
  rintro e w' ⟨rfl, rfl⟩
  go_wp2_with fail
  refine (mstart_any y m _ HT.out (by omega) (by omega) (by omega) (by omega)).mono ?_
  rintro e w' ⟨rfl, rfl⟩
  go_wp2
  go_ret
  exact ⟨ret_b HF.out.symm, rfl⟩

theorem tmod_parts (n : Int) (k : Int) (hk : 0 < k) : ∃ r q : Int, n.tmod k = r ∧ n = r + k * q ∧ -k < r ∧ r < k ∧ (0 ≤ n → 0 ≤ r) ∧ (n ≤ 0 → r ≤ 0) := by
  refine ⟨n.tmod k, n.tdiv k, rfl, (Int.tmod_add_mul_tdiv n k).symm, ?_⟩
  by_cases h : 0 ≤ n
  · have e : n.tmod k = n % k := Int.tmod_eq_emod_of_nonneg h
    have e1 := Int.emod_nonneg n (Int.ne_of_gt hk)
    have e2 := Int.emod_lt_of_pos n hk
    rw [e]
    refine ⟨by omega, by omega, by omega, fun h0 => ?_⟩
    obtain rfl : n = 0 := by omega
    simp
  · have e : n.tmod k = -((-n) % k) := by
      rw [← Int.tmod_eq_emod_of_nonneg (show 0 ≤ -n by omega), Int.neg_tmod, Int.neg_neg]
    have e1 := Int.emod_nonneg (-n) (Int.ne_of_gt hk)
    have e2 := Int.emod_lt_of_pos (-n) hk
    rw [e]
    exact ⟨by omega, by omega, by omega, by omega⟩
set_option maxHeartbeats 400000 in
theorem wday_any (n : Int) (w : World) :
    Calls Tryd.prog 9 #[.int .i64 n] w fun e w' => e = .returned (.int .i8 (wdN n)) ∧ w' = w := by
  obtain ⟨r, q, hr, hq, r0, r1, _, _⟩ := tmod_parts n 7 (by decide)
  have HW : Hid (wdN n = (r + 7 + 4) % 7) := by
    show _ = _
    unfold wdN
    omega
  clear hq
  go_enter Tryd.func9, Tryd.ntmps9
  go_wp2
  go_ret
  exact ⟨congrArg (fun x => Ending.returned (Value.int .i8 x)) HW.out.symm, rfl⟩

set_option maxHeartbeats 400000 in
theorem days_any (y m d : Int) (w : World) (ht : Ahd w) (hy0 : -32768 ≤ y) (hy1 : y ≤ 32767) (hm0 : -128 ≤ m) (hm1 : m ≤ 127) (hd0 : -128 ≤ d) (hd1 : d ≤ 127) :
    Calls Tryd.prog 22 #[.int .i16 y, .int .i8 m, .int .i8 d] w fun e w' => e = .returned (.tuple #[.int .i64 (if IsDay y m d then numD y m d else 0), .int .i64 (if IsDay y m d then 0 else 60)]) ∧ w' = w := by
  have HT : Hid (Ahd w) := ht
  clear ht
  by_cases hd : IsDay y m d
  · have hb : dayB y m d = true := decide_eq_true hd
    have HD : Hid (IsDay y m d) := hd
    rw [if_pos hd, if_pos hd]
    obtain ⟨q1, q2, q3, q4, q5, q6⟩ := hd
    obtain ⟨a0, a1⟩ := mstart_in y m
    have hr := numD_in HD.out
    have hy := ystart_mono (a := 1) (b := y) q1
    have hy' := ystart_mono (a := y) (b := 10000) (by omega)
    rw [ystart_first] at hy
    rw [ystart_last] at hy'
    clear hr q6
    go_enter Tryd.func22, Tryd.ntmps22
    go_wp2_with (first | (go_at_call 36; refine (isday_any y m d _ HT.out hy0 hy1 hm0 hm1 hd0 hd1).mono ?_; rintro e w' ⟨rfl, rfl⟩) | (go_at_call 19; refine (ystart_any y _ (by omega) (by omega)).mono ?_; rintro e w' ⟨rfl, rfl⟩) | (go_at_call 20; refine (mstart_any y m _ HT.out (by omega) (by omega) (by omega) (by omega)).mono ?_; rintro e w' ⟨rfl, rfl⟩))
    go_ret2
    exact ⟨rfl, rfl⟩
  · have hb : dayB y m d = false := decide_eq_false hd
    rw [if_neg hd, if_neg hd]
    clear hd
    go_enter Tryd.func22, Tryd.ntmps22
    go_wp2_with (go_at_call 36; refine (isday_any y m d _ HT.out hy0 hy1 hm0 hm1 hd0 hd1).mono ?_; rintro e w' ⟨rfl, rfl⟩)
    go_ret2
    exact ⟨rfl, rfl⟩

theorem year_first (n : Int) : ystart ((n + 719162) * 400 / 146097 + 1) ≤ n := by
  have e : ystart ((n + 719162) * 400 / 146097 + 1) = -719162 + 365 * ((n + 719162) * 400 / 146097) + ((n + 719162) * 400 / 146097) / 4 - ((n + 719162) * 400 / 146097) / 100 + ((n + 719162) * 400 / 146097) / 400 := by
    unfold ystart
    rw [show (n + 719162) * 400 / 146097 + 1 - 1 = (n + 719162) * 400 / 146097 by omega]
  rw [e]
  obtain ⟨g, hg⟩ : ∃ g, g = (n + 719162) * 400 / 146097 := ⟨_, rfl⟩
  have h1 : 146097 * g ≤ (n + 719162) * 400 := by omega
  rw [← hg]
  clear hg e
  omega
theorem year_last {y n : Int} (h1 : n ≤ 2932896) (h : ystart (y + 1) ≤ n) : y + 1 ≤ 9999 := by
  rcases Int.lt_or_le (y + 1) 10000 with h2 | h2
  · omega
  · have := ystart_mono h2
    rw [ystart_last] at this
    omega
set_option maxHeartbeats 1000000 in
theorem yearof_any (n : Int) (w : World) (h0 : -719162 ≤ n) (h1 : n ≤ 2932896) :
    Calls Tryd.prog 18 #[.int .i64 n] w fun e w' => ∃ y, e = .returned (.int .i64 y) ∧ w' = w ∧ 1 ≤ y ∧ y ≤ 9999 ∧ ystart y ≤ n ∧ n < ystart (y + 1) := by
  have HF : Hid (ystart ((n + 719162) * 400 / 146097 + 1) ≤ n) := year_first n
  have HL : Hid (∀ y, ystart (y + 1) ≤ n → y + 1 ≤ 9999) := fun y h => year_last h1 h
  go_enter Tryd.func18, Tryd.ntmps18
  go_wp2
  go_loop [3] (fun i => ∃ y : Int, 1 ≤ y ∧ y ≤ 9999 ∧ i = .int .i64 y ∧ Hid (ystart y ≤ n)) (fun i => 10000 - (intOf i).toNat)
  case atStart =>
    have := HL.out ((n + 719162) * 400 / 146097) HF.out
    exact ⟨_, by omega, this, rfl, HF.out⟩
  case round =>
    obtain ⟨y, y0, y1, rfl, HY⟩ := hrel
    by_cases c : ystart (y + 1) ≤ n
    · have hy2 := HL.out y c
      have HN : Hid (ystart (y + 1) ≤ n) := c
      go_wp2_with (go_at_call 19; refine (ystart_any (y + 1) _ (by omega) (by omega)).mono ?_; rintro e w' ⟨rfl, rfl⟩)
      go_round
      case rel => exact ⟨y + 1, by omega, hy2, rfl, HN⟩
      case measure => simp [intOf]; omega
    · have HN : Hid (n < ystart (y + 1)) := by show _ < _; omega
      go_wp2_with (go_at_call 19; refine (ystart_any (y + 1) _ (by omega) (by omega)).mono ?_; rintro e w' ⟨rfl, rfl⟩)
      go_ret
      exact ⟨y, rfl, rfl, y0, y1, HY.out, HN.out⟩

/-- A day that a number tells. -/
structure Civ (n y m d : Int) : Prop where
  day : IsDay y m d
  num : numD y m d = n
set_option maxHeartbeats 1000000 in
theorem civil_in (n : Int) (w : World) (ht : Ahd w) (h0 : -719162 ≤ n) (h1 : n ≤ 2932896) :
    Calls Tryd.prog 8 #[.int .i64 n] w fun e w' => ∃ y m d, e = .returned (.tuple #[.int .i16 y, .int .i8 m, .int .i8 d, .int .i64 0]) ∧ w' = w ∧ Civ n y m d := by
  have HT : Hid (Ahd w) := ht
  clear ht
  go_enter Tryd.func8, Tryd.ntmps8
  go_wp2_with fail
  refine (yearof_any n _ h0 h1).mono ?_
  rintro e w' ⟨y, rfl, rfl, y0, y1, hy1, hy2⟩
  rw [ystart_succ] at hy2
  obtain ⟨p0, p1⟩ := wholeN_pos y
  have hlen := mstart_end y
  go_wp2_with fail
  refine (ystart_any y _ (by omega) (by omega)).mono ?_
  rintro e w' ⟨rfl, rfl⟩
  go_wp2_with fail
  obtain ⟨q, hq⟩ : ∃ q, q = ystart y := ⟨_, rfl⟩
  have HQ : Hid (q = ystart y) := hq
  have HL : Hid (n - q < mstart y 13) := by show _ < _; rw [hlen, hq]; omega
  rw [← hq] at hy1 hy2 ⊢
  have hqb : -719162 ≤ q := by
    have := ystart_mono (a := 1) (b := y) y0
    rw [ystart_first] at this
    omega
  clear hlen hq
  go_loop [8] (fun i => ∃ m : Int, 1 ≤ m ∧ m ≤ 12 ∧ i = .int .i8 m ∧ Hid (n - q < mstart y (m + 1))) (fun i => (intOf i).toNat)
  case atStart => exact ⟨12, by omega, by omega, rfl, HL.out⟩
  case round =>
    obtain ⟨m, m0, m1, rfl, HM⟩ := hrel
    by_cases c : n - q < mstart y m
    · have hm2 : 2 ≤ m := by
        rcases Int.lt_or_le m 2 with h | h
        · obtain rfl : m = 1 := by omega
          rw [mstart_one] at c
          omega
        · exact h
      have HN : Hid (n - q < mstart y (m - 1 + 1)) := by show _ < _; rw [Int.sub_add_cancel]; exact c
      go_wp2_with (go_at_call 20; refine (mstart_any y m _ HT.out (by omega) (by omega) (by omega) (by omega)).mono ?_; rintro e w' ⟨rfl, rfl⟩)
      go_round
      case rel => exact ⟨m - 1, by omega, by omega, rfl, HN⟩
      case measure => simp [intOf]; omega
    · have hm := mstart_succ y m0 m1
      have HC : Hid (Civ n y m (n - q - mstart y m + 1)) := by
        have h := HM.out
        rw [hm] at h
        refine ⟨⟨y0, y1, m0, m1, by omega, by omega⟩, ?_⟩
        unfold numD
        rw [← HQ.out]
        omega
      obtain ⟨l0, l1⟩ := longN_pos y m
      have hb : n - q - mstart y m < 31 := by have := HM.out; omega
      obtain ⟨a0, a1⟩ := mstart_in y m
      clear hm
      go_wp2_with (go_at_call 20; refine (mstart_any y m _ HT.out (by omega) (by omega) (by omega) (by omega)).mono ?_; rintro e w' ⟨rfl, rfl⟩)
      refine bodyPost_ret (v := .tuple #[.int .i16 y, .int .i8 m, .int .i8 (n - q - mstart y m + 1), .int .i64 0]) (by simp [results, Tryd.results8, go_sem]) rfl ?_
      exact ⟨y, m, _, rfl, rfl, HC.out⟩
set_option maxHeartbeats 1000000 in
theorem civil_out (n : Int) (w : World) (h : n < -719162 ∨ 2932896 < n) :
    Calls Tryd.prog 8 #[.int .i64 n] w fun e w' => e = .returned (.tuple #[.int .i16 0, .int .i8 0, .int .i8 0, .int .i64 5]) ∧ w' = w := by
  by_cases c : n < -719162
  · go_enter Tryd.func8, Tryd.ntmps8
    go_wp2
    refine bodyPost_ret (v := .tuple #[.int .i16 0, .int .i8 0, .int .i8 0, .int .i64 5]) (by simp [results, Tryd.results8, go_sem]) rfl ?_
    exact ⟨rfl, rfl⟩
  · have c2 : 2932896 < n := by omega
    clear h
    go_enter Tryd.func8, Tryd.ntmps8
    go_wp2
    refine bodyPost_ret (v := .tuple #[.int .i16 0, .int .i8 0, .int .i8 0, .int .i64 5]) (by simp [results, Tryd.results8, go_sem]) rfl ?_
    exact ⟨rfl, rfl⟩

/-- A date as the program has it. -/
def dtV (x : Dt) : Value := .agg #[.int .i16 x.y, .int .i8 x.mo, .int .i8 x.d, .int .i8 x.h, .int .i8 x.mi, .int .i8 x.s, .int .i16 x.z]
/-- The parts are within their kinds. -/
structure Dt.In (x : Dt) : Prop where
  y0 : -32768 ≤ x.y
  y1 : x.y ≤ 32767
  mo0 : -128 ≤ x.mo
  mo1 : x.mo ≤ 127
  d0 : -128 ≤ x.d
  d1 : x.d ≤ 127
  h0 : -128 ≤ x.h
  h1 : x.h ≤ 127
  mi0 : -128 ≤ x.mi
  mi1 : x.mi ≤ 127
  s0 : -128 ≤ x.s
  s1 : x.s ≤ 127
  z0 : -32768 ≤ x.z
  z1 : x.z ≤ 32767
set_option maxHeartbeats 400000 in
theorem zone_any (z : Int) (w : World) : Calls Tryd.prog 23 #[.int .i16 z] w fun e w' => e = .returned (.bool (decide (-1439 ≤ z ∧ z ≤ 1439))) ∧ w' = w := by
  by_cases c : -1439 ≤ z
  · by_cases d : z ≤ 1439
    · go_enter Tryd.func23, Tryd.ntmps23
      go_wp2
      go_ret
      exact ⟨ret_b (decide_eq_true ⟨c, d⟩).symm, rfl⟩
    · go_enter Tryd.func23, Tryd.ntmps23
      go_wp2
      go_ret
      exact ⟨ret_b (by simp; omega), rfl⟩
  · go_enter Tryd.func23, Tryd.ntmps23
    go_wp2
    go_ret
    exact ⟨ret_b (by simp; omega), rfl⟩
set_option maxHeartbeats 400000 in
theorem within_any (x m : Int) (w : World) : Calls Tryd.prog 50 #[.int .i8 x, .int .i8 m] w fun e w' => e = .returned (.bool (decide (0 ≤ x ∧ x ≤ m))) ∧ w' = w := by
  by_cases c : 0 ≤ x
  · by_cases d : x ≤ m
    · go_enter Tryd.func50, Tryd.ntmps50
      go_wp2
      go_ret
      exact ⟨ret_b (decide_eq_true ⟨c, d⟩).symm, rfl⟩
    · go_enter Tryd.func50, Tryd.ntmps50
      go_wp2
      go_ret
      exact ⟨ret_b (by simp; omega), rfl⟩
  · go_enter Tryd.func50, Tryd.ntmps50
    go_wp2
    go_ret
    exact ⟨ret_b (by simp; omega), rfl⟩
/-- Whether a time may be. -/
def timeB (x : Dt) : Bool := decide (0 ≤ x.h ∧ x.h ≤ 23 ∧ 0 ≤ x.mi ∧ x.mi ≤ 59 ∧ 0 ≤ x.s ∧ x.s ≤ 59)
theorem andB {a b : Prop} [Decidable a] [Decidable b] (h : ¬ (a ∧ b)) : (decide a && decide b) = false := by
  rw [← Bool.decide_and]
  exact decide_eq_false h
set_option maxHeartbeats 1000000 in
theorem time_any (x : Dt) (w : World) : Calls Tryd.prog 37 #[dtV x] w fun e w' => e = .returned (.bool (timeB x)) ∧ Below w.heap.size w w' := by
  unfold dtV
  by_cases c : 0 ≤ x.h ∧ x.h ≤ 23
  · by_cases d : 0 ≤ x.mi ∧ x.mi ≤ 59
    · go_enter Tryd.func37, Tryd.ntmps37
      go_wp2_with (go_at_call 50; refine (within_any _ _ _).mono ?_; rintro e w' ⟨rfl, rfl⟩)
      go_ret
      exact ⟨ret_b (by simp [timeB, c, d]), (Below.refl _ _).alloc (Nat.le_refl _) _⟩
    · have HF : Hid (timeB x = false) := by unfold timeB; exact decide_eq_false (fun h => d ⟨h.2.2.1, h.2.2.2.1⟩)
      have d' := andB d
      clear d
      go_enter Tryd.func37, Tryd.ntmps37
      go_wp2_with (go_at_call 50; refine (within_any _ _ _).mono ?_; rintro e w' ⟨rfl, rfl⟩)
      go_ret
      exact ⟨ret_b HF.out.symm, (Below.refl _ _).alloc (Nat.le_refl _) _⟩
  · have HF : Hid (timeB x = false) := by unfold timeB; exact decide_eq_false (fun h => c ⟨h.1, h.2.1⟩)
    have c' := andB c
    clear c
    go_enter Tryd.func37, Tryd.ntmps37
    go_wp2_with (go_at_call 50; refine (within_any _ _ _).mono ?_; rintro e w' ⟨rfl, rfl⟩)
    go_ret
    exact ⟨ret_b HF.out.symm, (Below.refl _ _).alloc (Nat.le_refl _) _⟩
theorem chk_parts (x : Dt) : chk x = if dayB x.y x.mo x.d = true then (if timeB x = true then (if -1439 ≤ x.z ∧ x.z ≤ 1439 then 0 else 61) else 60) else 60 := by
  unfold chk dayB timeB
  simp only [decide_eq_true_eq]
  by_cases c : IsDay x.y x.mo x.d
  · simp only [c, true_and, if_true]
  · simp only [c, false_and, if_false]
theorem Ahd.lt {w : World} (h : Ahd w) : (0 : Nat) < w.heap.size := by
  have := h 0 (by omega)
  rcases Nat.lt_or_ge 0 w.heap.size with h' | h'
  · exact h'
  · simp [World.cell?, Array.getElem?_eq_none h'] at this
theorem Ahd.below {w w' : World} (h : Ahd w) (hb : Below w.heap.size w w') : Ahd w' := fun c hc => (hb.cell (p := ⟨0, c, none⟩) h.lt).trans (h c hc)
/-- A date's cells. -/
def dtC (x : Dt) : Array Value := #[.int .i16 x.y, .int .i8 x.mo, .int .i8 x.d, .int .i8 x.h, .int .i8 x.mi, .int .i8 x.s, .int .i16 x.z]
set_option maxHeartbeats 1000000 in
theorem check_any (x : Dt) (w : World) (ht : Ahd w) (hx : x.In) : Calls Tryd.prog 21 #[dtV x] w fun e w' => e = .returned (.int .i64 (chk x)) ∧ Below w.heap.size w w' := by
  rw [chk_parts]
  have HT : Hid (Ahd w) := ht
  have HX : Hid x.In := hx
  have HB : Hid (Below w.heap.size w (w.alloc (.cells (dtC x) 34))) := (Below.refl _ _).alloc (Nat.le_refl _) _
  have HL : Hid (Lies (w.alloc (.cells (dtC x) 34)) w.heap.size (dtC x) 34) := Lies.new w _ _
  have HS : Hid (w.heap.size < (w.alloc (.cells (dtC x) 34)).heap.size) := HL.out.lt
  unfold dtC at HB HL HS
  clear ht hx
  unfold dtV
  by_cases c : dayB x.y x.mo x.d = true
  · rw [if_pos c]
    by_cases d : timeB x = true
    · rw [if_pos d]
      by_cases z : -1439 ≤ x.z ∧ x.z ≤ 1439
      · rw [if_pos z]
        go_enter Tryd.func21, Tryd.ntmps21
        go_wp2_with fail
        refine (isday_any _ _ _ _ (HT.out.below HB.out) HX.out.y0 HX.out.y1 HX.out.mo0 HX.out.mo1 HX.out.d0 HX.out.d1).mono ?_
        rintro e w' ⟨rfl, rfl⟩
        go_wp2_with fail
        refine (time_any x _).mono ?_
        rintro e w2 ⟨rfl, hb2⟩
        have c6 := (HL.out.below hb2 HS.out).cell 6
        have HB2 : Hid (Below w.heap.size w w2) := HB.out.trans (hb2.mono (Nat.le_of_lt HS.out))
        generalize w.heap.size = B at c6 ⊢
        clear hb2 HB HL HS
        simp at c6
        go_wp2_with (go_at_call 23; refine (zone_any _ _).mono ?_; rintro e w' ⟨rfl, rfl⟩)
        go_ret
        exact ⟨rfl, HB2.out⟩
      · rw [if_neg z]
        have z' := andB z
        clear z
        go_enter Tryd.func21, Tryd.ntmps21
        go_wp2_with fail
        refine (isday_any _ _ _ _ (HT.out.below HB.out) HX.out.y0 HX.out.y1 HX.out.mo0 HX.out.mo1 HX.out.d0 HX.out.d1).mono ?_
        rintro e w' ⟨rfl, rfl⟩
        go_wp2_with fail
        refine (time_any x _).mono ?_
        rintro e w2 ⟨rfl, hb2⟩
        have c6 := (HL.out.below hb2 HS.out).cell 6
        have HB2 : Hid (Below w.heap.size w w2) := HB.out.trans (hb2.mono (Nat.le_of_lt HS.out))
        generalize w.heap.size = B at c6 ⊢
        clear hb2 HB HL HS
        simp at c6
        go_wp2_with (go_at_call 23; refine (zone_any _ _).mono ?_; rintro e w' ⟨rfl, rfl⟩)
        go_ret
        exact ⟨rfl, HB2.out⟩
    · rw [if_neg d]
      have d' : timeB x = false := by simpa using d
      clear d
      go_enter Tryd.func21, Tryd.ntmps21
      go_wp2_with fail
      refine (isday_any _ _ _ _ (HT.out.below HB.out) HX.out.y0 HX.out.y1 HX.out.mo0 HX.out.mo1 HX.out.d0 HX.out.d1).mono ?_
      rintro e w' ⟨rfl, rfl⟩
      go_wp2_with fail
      refine (time_any x _).mono ?_
      rintro e w2 ⟨rfl, hb2⟩
      have HB2 : Hid (Below w.heap.size w w2) := HB.out.trans (hb2.mono (Nat.le_of_lt HS.out))
      generalize w.heap.size = B
      clear hb2 HB HL HS
      go_wp2
      go_ret
      exact ⟨rfl, HB2.out⟩
  · rw [if_neg c]
    have c' : dayB x.y x.mo x.d = false := by simpa using c
    clear c
    go_enter Tryd.func21, Tryd.ntmps21
    go_wp2_with fail
    refine (isday_any _ _ _ _ (HT.out.below HB.out) HX.out.y0 HX.out.y1 HX.out.mo0 HX.out.mo1 HX.out.d0 HX.out.d1).mono ?_
    rintro e w' ⟨rfl, rfl⟩
    go_wp2
    go_ret
    exact ⟨rfl, HB.out⟩

theorem chk_cases (x : Dt) : chk x = 0 ∨ chk x = 60 ∨ chk x = 61 := by
  unfold chk
  split
  · split <;> simp
  · simp
set_option maxHeartbeats 1000000 in
theorem secs_any (x : Dt) (w : World) (ht : Ahd w) (hx : x.In) : Calls Tryd.prog 12 #[dtV x] w fun e w' => e = .returned (.tuple #[.int .i64 (if chk x = 0 then secD x else 0), .int .i64 (chk x)]) ∧ Below w.heap.size w w' := by
  have HT : Hid (Ahd w) := ht
  have HX : Hid x.In := hx
  have HB : Hid (Below w.heap.size w (w.alloc (.cells (dtC x) 34))) := (Below.refl _ _).alloc (Nat.le_refl _) _
  have HL : Hid (Lies (w.alloc (.cells (dtC x) 34)) w.heap.size (dtC x) 34) := Lies.new w _ _
  have HS : Hid (w.heap.size < (w.alloc (.cells (dtC x) 34)).heap.size) := HL.out.lt
  have HT1 : Hid (Ahd (w.alloc (.cells (dtC x) 34))) := HT.out.below HB.out
  have HC : Hid (∀ w, Ahd w → Calls Tryd.prog 21 #[dtV x] w fun e w' => e = .returned (.int .i64 (chk x)) ∧ Below w.heap.size w w') := fun w h => check_any x w h HX.out
  unfold dtC at HB HL HS HT1
  unfold dtV at HC
  clear ht hx
  unfold dtV
  by_cases c : chk x = 0
  · rw [if_pos c]
    obtain ⟨q1, q2, q3, q4, q5, q6, q7, q8, q9⟩ := (chk_may x).1 c
    have HD : Hid (∀ w, Ahd w → Calls Tryd.prog 22 #[.int .i16 x.y, .int .i8 x.mo, .int .i8 x.d] w fun e w' => e = .returned (.tuple #[.int .i64 (numD x.y x.mo x.d), .int .i64 0]) ∧ w' = w) := by
      intro w h
      have := days_any x.y x.mo x.d w h HX.out.y0 HX.out.y1 HX.out.mo0 HX.out.mo1 HX.out.d0 HX.out.d1
      rw [if_pos q1, if_pos q1] at this
      exact this
    obtain ⟨n0, n1⟩ := numD_range q1
    have HN : Hid (secD x = numD x.y x.mo x.d * 86400 + 60 * (60 * x.h + x.mi - x.z) + x.s) := by
      show _ = _
      unfold secD
      omega
    clear q1
    go_enter Tryd.func12, Tryd.ntmps12
    go_wp2_with fail
    refine (HC.out _ HT1.out).mono ?_
    rintro e w2 ⟨rfl, hb2⟩
    have hl := HL.out.below hb2 HS.out
    have c0 := hl.cell 0
    have c1 := hl.cell 1
    have c2 := hl.cell 2
    have c3 := hl.cell 3
    have c4 := hl.cell 4
    have c5 := hl.cell 5
    have c6 := hl.cell 6
    have HT2 : Hid (Ahd w2) := HT1.out.below hb2
    have HB2 : Hid (Below w.heap.size w w2) := HB.out.trans (hb2.mono (Nat.le_of_lt HS.out))
    generalize w.heap.size = B at c0 c1 c2 c3 c4 c5 c6 ⊢
    clear hl hb2 HB HL HS HT HT1 HC
    simp at c0 c1 c2 c3 c4 c5 c6
    generalize numD x.y x.mo x.d = N at HD HN n0 n1
    go_wp2_with (go_at_call 22; refine (HD.out _ HT2.out).mono ?_; rintro e w' ⟨rfl, rfl⟩)
    go_ret2
    exact ⟨by rw [HN.out, c]; rfl, HB2.out⟩
  · rw [if_neg c]
    have c' : (chk x == 0) = false := by simpa using c
    have HC' := HC
    generalize chk x = z at HC c c' ⊢
    clear c HC'
    go_enter Tryd.func12, Tryd.ntmps12
    go_wp2_with fail
    refine (HC.out _ HT1.out).mono ?_
    rintro e w2 ⟨rfl, hb2⟩
    have HB2 : Hid (Below w.heap.size w w2) := HB.out.trans (hb2.mono (Nat.le_of_lt HS.out))
    generalize w.heap.size = B
    clear hb2 HB HL HS HT HT1 HC
    go_wp2
    go_ret2
    exact ⟨rfl, HB2.out⟩

/-- The date of a second in a zone. -/
structure OfD (n z : Int) (x : Dt) : Prop where
  may : May x
  zone : x.z = z
  sec : secD x = n
theorem ofD_mk {n z y m d r : Int} (hz0 : -1439 ≤ z) (hz1 : z ≤ 1439) (q : Int) (hn : n + 60 * z = 86400 * q + r) (r0 : 0 ≤ r) (r1 : r < 86400) (hc : Civ q y m d) : OfD n z ⟨y, m, d, r / 3600, r / 60 % 60, r % 60, z⟩ := by
  refine ⟨⟨hc.day, by simp only []; omega, by simp only []; omega, by simp only []; omega, by simp only []; omega, by simp only []; omega, by simp only []; omega, hz0, hz1⟩, rfl, ?_⟩
  have := hc.num
  simp only [secD, this]
  omega
theorem civ_in {n y m d : Int} (h : Civ n y m d) : 1 ≤ y ∧ y ≤ 9999 ∧ 1 ≤ m ∧ m ≤ 12 ∧ 1 ≤ d ∧ d ≤ 31 := by
  obtain ⟨a, b, c, d', e, f⟩ := h.day
  have := longN_pos y m
  omega
end Go.Proofs.YtedfnebadenmdabDoor
