/-
  The contracts of the document's Civil, Weekday, Check, Seconds and Of.
-/
import Derived.Test.YtedfnebadenmdaaDoorRcal
namespace Go.Proofs.YtedfnebadenmdaaDoor
open Go.RowKit

set_option maxHeartbeats 1000000 in
theorem rcivil_in (n : Int) (w : World) (h0 : -719162 ≤ n) (h1 : n ≤ 2932896) :
    Calls Tryd.prog 12 #[.int .i64 n] w fun e w' => ∃ y m d, e = .returned (.tuple #[.int .i16 y, .int .i8 m, .int .i8 d, .int .i64 0]) ∧ w' = w ∧ Civ n y m d := by
  have HL : Hid (∀ y, ystart (y + 1) ≤ n → y + 1 ≤ 9999) := fun y h => year_last h1 h
  go_enter Tryd.func12, Tryd.ntmps12
  go_wp2
  go_loop [6, 7] (fun l i => ∃ y : Int, 1 ≤ y ∧ y ≤ 9999 ∧ i = .int .i64 y ∧ l = .int .i64 (n - ystart y) ∧ Hid (ystart y ≤ n)) (fun _ i => 10000 - (intOf i).toNat)
  case atStart => exact ⟨1, by omega, by omega, rfl, by rw [ystart_first, Int.sub_neg], by show _ ≤ _; rw [ystart_first]; omega⟩
  case round =>
    obtain ⟨y, y0, y1, rfl, rfl, HY⟩ := hrel
    have hs := ystart_succ y
    obtain ⟨p0, p1⟩ := wholeN_pos y
    have hyn := HY.out
    have hy0 : -719162 ≤ ystart y := by
      have := ystart_mono (a := 1) (b := y) y0
      rw [ystart_first] at this
      exact this
    by_cases c : ystart (y + 1) ≤ n
    · have hy2 := HL.out y c
      have HN : Hid (ystart (y + 1) ≤ n) := c
      have HS : Hid (n - ystart (y + 1) = n - ystart y - wholeN y) := by show _ = _; omega
      have c2 : wholeN y ≤ n - ystart y := by omega
      clear c hs
      go_wp2_with (go_at_call 28; refine (rwhole_any y _ (by omega) (by omega)).mono ?_; rintro e w' ⟨rfl, rfl⟩)
      go_round
      case rel => exact ⟨y + 1, by omega, hy2, rfl, by rw [HS.out], HN⟩
      case measure => simp [intOf]; omega
    · have c2 : n - ystart y < wholeN y := by omega
      have HLW : Hid (n - ystart y < mstart y 13) := by show _ < _; rw [mstart_end]; exact c2
      obtain ⟨q, hq⟩ : ∃ q, q = ystart y := ⟨_, rfl⟩
      have HQ : Hid (q = ystart y) := hq
      rw [← hq] at hyn hy0 c2 HLW ⊢
      clear c hs hq HY
      go_wp2_with (go_at_call 28; refine (rwhole_any y _ (by omega) (by omega)).mono ?_; rintro e w' ⟨rfl, rfl⟩)
      go_loop [6, 8] (fun l i => ∃ m : Int, 1 ≤ m ∧ m ≤ 12 ∧ i = .int .i64 m ∧ l = .int .i64 (n - q - mstart y m) ∧ Hid (mstart y m ≤ n - q)) (fun _ i => 100 - (intOf i).toNat)
      case atStart => exact ⟨1, by omega, by omega, rfl, by rw [mstart_one, Int.sub_zero], by show _ ≤ _; rw [mstart_one]; omega⟩
      case round =>
        obtain ⟨m, m0, m1, rfl, rfl, HM⟩ := hrel
        have hms := mstart_succ y m0 m1
        have hmn := HM.out
        obtain ⟨a0, a1⟩ := mstart_in y m
        obtain ⟨l0, l1⟩ := longN_pos y m
        by_cases c : mstart y (m + 1) ≤ n - q
        · have hm2 : m ≤ 11 := by
            rcases Int.lt_or_le m 12 with h | h
            · omega
            · obtain rfl : m = 12 := by omega
              have := HLW.out
              have e13 : (12 : Int) + 1 = 13 := rfl
              rw [e13] at c
              omega
          have HN : Hid (mstart y (m + 1) ≤ n - q) := c
          have HS : Hid (n - q - mstart y (m + 1) = n - q - mstart y m - longN y m) := by show _ = _; omega
          have c3 : longN y m ≤ n - q - mstart y m := by omega
          clear c hms
          go_wp2_with (go_at_call 29; refine (rlong_any y m _ (by omega) (by omega) (by omega) (by omega)).mono ?_; rintro e w' ⟨rfl, rfl⟩)
          go_round
          case rel => exact ⟨m + 1, by omega, by omega, rfl, by rw [HS.out], HN⟩
          case measure => simp [intOf]; omega
        · have c3 : n - q - mstart y m < longN y m := by omega
          have HC : Hid (Civ n y m (n - q - mstart y m + 1)) := by
            refine ⟨⟨y0, y1, m0, m1, by omega, by omega⟩, ?_⟩
            unfold numD
            rw [← HQ.out]
            omega
          clear c hms
          go_wp2_with (go_at_call 29; refine (rlong_any y m _ (by omega) (by omega) (by omega) (by omega)).mono ?_; rintro e w' ⟨rfl, rfl⟩)
          refine bodyPost_ret (v := .tuple #[.int .i16 y, .int .i8 m, .int .i8 (n - q - mstart y m + 1), .int .i64 0]) (by simp [results, Tryd.results12, go_sem]) rfl ?_
          exact ⟨y, m, _, rfl, rfl, HC.out⟩
set_option maxHeartbeats 1000000 in
theorem rcivil_out (n : Int) (w : World) (h : n < -719162 ∨ 2932896 < n) :
    Calls Tryd.prog 12 #[.int .i64 n] w fun e w' => e = .returned (.tuple #[.int .i16 0, .int .i8 0, .int .i8 0, .int .i64 5]) ∧ w' = w := by
  by_cases c : n < -719162
  · go_enter Tryd.func12, Tryd.ntmps12
    go_wp2
    refine bodyPost_ret (v := .tuple #[.int .i16 0, .int .i8 0, .int .i8 0, .int .i64 5]) (by simp [results, Tryd.results12, go_sem]) rfl ?_
    exact ⟨rfl, rfl⟩
  · have c2 : 2932896 < n := by omega
    clear h
    go_enter Tryd.func12, Tryd.ntmps12
    go_wp2
    refine bodyPost_ret (v := .tuple #[.int .i16 0, .int .i8 0, .int .i8 0, .int .i64 5]) (by simp [results, Tryd.results12, go_sem]) rfl ?_
    exact ⟨rfl, rfl⟩
set_option maxHeartbeats 400000 in
theorem rwday_any (n : Int) (w : World) : Calls Tryd.prog 15 #[.int .i64 n] w fun e w' => e = .returned (.int .i8 (wdN n)) ∧ w' = w := by
  obtain ⟨r, q, hr, hq, r0, r1, _, _⟩ := tmod_parts n 7 (by decide)
  by_cases c : r < 0
  · have HW : Hid (wdN n = (r + 7 + 4) % 7) := by
      show _ = _
      unfold wdN
      omega
    clear hq
    go_enter Tryd.func15, Tryd.ntmps15
    go_wp2
    go_ret
    exact ⟨congrArg (fun x => Ending.returned (Value.int .i8 x)) HW.out.symm, rfl⟩
  · have HW : Hid (wdN n = (r + 4) % 7) := by
      show _ = _
      unfold wdN
      omega
    clear hq
    go_enter Tryd.func15, Tryd.ntmps15
    go_wp2
    go_ret
    exact ⟨congrArg (fun x => Ending.returned (Value.int .i8 x)) HW.out.symm, rfl⟩

set_option maxHeartbeats 1000000 in
theorem rof_far (n z : Int) (w : World) (hz : -1439 ≤ z ∧ z ≤ 1439) (hn : n < -62135683200 ∨ 253402387200 < n) :
    Calls Tryd.prog 22 #[.int .i64 n, .int .i16 z] w fun e w' => e = .returned (.tuple #[dtV ⟨0, 0, 0, 0, 0, 0, 0⟩, .int .i64 5]) ∧ Below w.heap.size w w' := by
  obtain ⟨z0, z1⟩ := hz
  by_cases c : n < -62135683200
  · clear hn
    go_enter Tryd.func22, Tryd.ntmps22
    go_wp2
    refine bodyPost_ret (v := .tuple #[.agg #[.int .i16 0, .int .i8 0, .int .i8 0, .int .i8 0, .int .i8 0, .int .i8 0, .int .i16 0], .int .i64 5]) (by simp [results, Tryd.results22, go_sem]) rfl ⟨rfl, (Below.refl _ _).alloc (Nat.le_refl _) _⟩
  · have c2 : 253402387200 < n := by omega
    clear hn
    go_enter Tryd.func22, Tryd.ntmps22
    go_wp2
    refine bodyPost_ret (v := .tuple #[.agg #[.int .i16 0, .int .i8 0, .int .i8 0, .int .i8 0, .int .i8 0, .int .i8 0, .int .i16 0], .int .i64 5]) (by simp [results, Tryd.results22, go_sem]) rfl ⟨rfl, (Below.refl _ _).alloc (Nat.le_refl _) _⟩
set_option maxHeartbeats 1000000 in
theorem rof_zone (n z : Int) (w : World) (hz : ¬ (-1439 ≤ z ∧ z ≤ 1439)) :
    Calls Tryd.prog 22 #[.int .i64 n, .int .i16 z] w fun e w' => e = .returned (.tuple #[dtV ⟨0, 0, 0, 0, 0, 0, 0⟩, .int .i64 61]) ∧ Below w.heap.size w w' := by
  by_cases c : z < -1439
  · clear hz
    go_enter Tryd.func22, Tryd.ntmps22
    go_wp2
    refine bodyPost_ret (v := .tuple #[.agg #[.int .i16 0, .int .i8 0, .int .i8 0, .int .i8 0, .int .i8 0, .int .i8 0, .int .i16 0], .int .i64 61]) (by simp [results, Tryd.results22, go_sem]) rfl ⟨rfl, (Below.refl _ _).alloc (Nat.le_refl _) _⟩
  · have c2 : 1439 < z := by omega
    clear hz
    go_enter Tryd.func22, Tryd.ntmps22
    go_wp2
    refine bodyPost_ret (v := .tuple #[.agg #[.int .i16 0, .int .i8 0, .int .i8 0, .int .i8 0, .int .i8 0, .int .i8 0, .int .i16 0], .int .i64 61]) (by simp [results, Tryd.results22, go_sem]) rfl ⟨rfl, (Below.refl _ _).alloc (Nat.le_refl _) _⟩
set_option maxHeartbeats 2000000 in
theorem rof_near (n z : Int) (w : World) (hz : -1439 ≤ z ∧ z ≤ 1439) (hn0 : ¬ n < -62135683200) (hn1 : ¬ 253402387200 < n) :
    Calls Tryd.prog 22 #[.int .i64 n, .int .i16 z] w fun e w' => OfAns n z e ∧ Below w.heap.size w w' := by
  have HZ : Hid (-1439 ≤ z ∧ z ≤ 1439) := hz
  obtain ⟨z0, z1⟩ := hz
  have HD : Hid (∀ q r y m d, n + 60 * z = r + 86400 * q → 0 ≤ r → r < 86400 → Civ q y m d → OfD n z ⟨y, m, d, r / 3600, r / 60 % 60, r % 60, z⟩) := fun q r y m d he r0 r1 h => ofD_mk z0 z1 q (by omega) r0 r1 h
  have HDAY : Hid (∀ D R : Int, n + 60 * z = R + 86400 * D → 0 ≤ R → dayOf n z = D + R / 86400 ∧ n + 60 * z = R % 86400 + 86400 * (D + R / 86400)) := by
    intro D R h h0
    unfold dayOf
    omega
  have hb1 : -62135769540 ≤ n + 60 * z := by omega
  have hb2 : n + 60 * z ≤ 253402473540 := by omega
  go_enter Tryd.func22, Tryd.ntmps22
  go_wp2
  go_loop [7, 8] (fun d r => ∃ D R : Int, d = .int .i64 D ∧ r = .int .i64 R ∧ Hid (n + 60 * z = R + 86400 * D) ∧ -62135769540 ≤ R ∧ R ≤ 253402473540 ∧ -3000000 ≤ D ∧ D ≤ 3000000) (fun _ r => (0 - intOf r).toNat)
  case atStart => exact ⟨0, n + 60 * z, rfl, rfl, by show _ = _; omega, by omega, by omega, by omega, by omega⟩
  case round =>
    obtain ⟨D, R, rfl, rfl, HI, r0, r1, d0, d1⟩ := hrel
    by_cases c : R < 0
    · have h2 : 0 ≤ -R + 86399 := by omega
      obtain ⟨q, hq⟩ : ∃ q, q = (-R + 86399) / 86400 := ⟨_, rfl⟩
      have q0 : 0 ≤ R + 86400 * q := by omega
      have q1 : R + 86400 * q < 86400 := by omega
      have hi := HI.out
      have HN : Hid (n + 60 * z = (R + 86400 * q) + 86400 * (D - q)) := by show _ = _; omega
      have e0 : -3000000 ≤ D - q := by omega
      have e1 : D - q ≤ 3000000 := by omega
      have q2 : 0 ≤ q := by omega
      have q3 : q ≤ 1000000 := by omega
      have hq' : (-R + 86399) / 86400 = q := hq.symm
      clear hi hq
      go_wp2
      go_round
      case rel => exact ⟨D - q, R + 86400 * q, rfl, rfl, HN, by omega, by omega, e0, e1⟩
      case measure => simp [intOf]; omega
    · have c0 : 0 ≤ R := by omega
      obtain ⟨x1, x2⟩ := HDAY.out D R HI.out c0
      have HX1 : Hid (dayOf n z = D + R / 86400) := x1
      have HX2 : Hid (n + 60 * z = R % 86400 + 86400 * (D + R / 86400)) := x2
      have m0 : 0 ≤ R % 86400 := by omega
      have m1 : R % 86400 < 86400 := by omega
      have e0 : -10000000 ≤ D + R / 86400 := by omega
      have e1 : D + R / 86400 ≤ 10000000 := by omega
      have f0 : 0 ≤ R / 86400 := by omega
      have f1 : R / 86400 ≤ 3000000 := by omega
      clear x1 x2 c
      generalize hQ : D + R / 86400 = Q at HX1 HX2 e0 e1
      generalize hM : R % 86400 = M at HX2 m0 m1
      by_cases hin : -719162 ≤ Q ∧ Q ≤ 2932896
      · have HA : Hid (∀ e, (∃ x, e = .returned (.tuple #[dtV x, .int .i64 0]) ∧ OfD n z x) → OfAns n z e) := by
          intro e h
          unfold OfAns
          rw [if_pos HZ.out, HX1.out, if_pos hin]
          exact h
        go_wp2_with fail
        refine (rcivil_in Q _ hin.1 hin.2).mono ?_
        rintro e w' ⟨y, m, d, rfl, rfl, hciv⟩
        have HC : Hid (Civ Q y m d) := hciv
        obtain ⟨y0, y1, m00, m10, dd0, dd1⟩ := civ_in hciv
        clear hciv hQ hM
        go_wp2
        refine bodyPost_ret (v := .tuple #[.agg #[.int .i16 y, .int .i8 m, .int .i8 d, .int .i8 (M / 3600), .int .i8 (M / 60 % 60), .int .i8 (M % 60), .int .i16 z], .int .i64 0]) (by simp [results, Tryd.results22, go_sem]) rfl ⟨HA.out _ ⟨_, rfl, HD.out Q M y m d HX2.out m0 m1 HC.out⟩, (Below.refl _ _).alloc (Nat.le_refl _) _⟩
      · have HA : Hid (∀ e, e = .returned (.tuple #[dtV ⟨0, 0, 0, 0, 0, 0, 0⟩, .int .i64 5]) → OfAns n z e) := by
          intro e h
          unfold OfAns
          rw [if_pos HZ.out, HX1.out, if_neg hin]
          exact h
        go_wp2_with fail
        refine (rcivil_out Q _ (by omega)).mono ?_
        rintro e w' ⟨rfl, rfl⟩
        clear hQ hM hin
        go_wp2
        refine bodyPost_ret (v := .tuple #[.agg #[.int .i16 0, .int .i8 0, .int .i8 0, .int .i8 0, .int .i8 0, .int .i8 0, .int .i16 0], .int .i64 5]) (by simp [results, Tryd.results22, go_sem]) rfl ⟨HA.out _ rfl, (Below.refl _ _).alloc (Nat.le_refl _) _⟩
theorem rof_any (n z : Int) (w : World) : Calls Tryd.prog 22 #[.int .i64 n, .int .i16 z] w fun e w' => OfAns n z e ∧ Below w.heap.size w w' := by
  by_cases hz : -1439 ≤ z ∧ z ≤ 1439
  · by_cases hn : n < -62135683200 ∨ 253402387200 < n
    · have h : ¬ (-719162 ≤ dayOf n z ∧ dayOf n z ≤ 2932896) := by unfold dayOf; omega
      unfold OfAns
      simp only [if_pos hz, if_neg h]
      exact rof_far n z w hz hn
    · exact rof_near n z w hz (by omega) (by omega)
  · unfold OfAns
    simp only [if_neg hz]
    exact rof_zone n z w hz
end Go.Proofs.YtedfnebadenmdaaDoor
