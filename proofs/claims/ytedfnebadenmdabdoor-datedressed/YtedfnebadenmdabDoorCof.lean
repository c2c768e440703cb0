/-
  The contract of the program's Of: the date of a second in a zone.
-/
import Derived.Test.YtedfnebadenmdabDoorCald
namespace Go.Proofs.YtedfnebadenmdabDoor
open Go.RowKit

set_option maxHeartbeats 1000000 in
theorem of_zone (n z : Int) (w : World) (hz : ¬ (-1439 ≤ z ∧ z ≤ 1439)) :
    Calls Tryd.prog 14 #[.int .i64 n, .int .i16 z] w fun e w' => e = .returned (.tuple #[dtV ⟨0, 0, 0, 0, 0, 0, 0⟩, .int .i64 61]) ∧ Below w.heap.size w w' := by
  have z' := andB hz
  clear hz
  go_enter Tryd.func14, Tryd.ntmps14
  go_wp2_with (go_at_call 23; refine (zone_any _ _).mono ?_; rintro e w' ⟨rfl, rfl⟩)
  refine bodyPost_ret (v := .tuple #[.agg #[.int .i16 0, .int .i8 0, .int .i8 0, .int .i8 0, .int .i8 0, .int .i8 0, .int .i16 0], .int .i64 61]) (by simp [results, Tryd.results14, go_sem]) rfl ⟨rfl, (Below.refl _ _).alloc (Nat.le_refl _) _⟩
set_option maxHeartbeats 1000000 in
theorem of_far (n z : Int) (w : World) (hz : -1439 ≤ z ∧ z ≤ 1439) (hn : n < -62135683200 ∨ 253402387200 < n) :
    Calls Tryd.prog 14 #[.int .i64 n, .int .i16 z] w fun e w' => e = .returned (.tuple #[dtV ⟨0, 0, 0, 0, 0, 0, 0⟩, .int .i64 5]) ∧ Below w.heap.size w w' := by
  by_cases c : n < -62135683200
  · clear hn
    go_enter Tryd.func14, Tryd.ntmps14
    go_wp2_with (go_at_call 23; refine (zone_any _ _).mono ?_; rintro e w' ⟨rfl, rfl⟩)
    refine bodyPost_ret (v := .tuple #[.agg #[.int .i16 0, .int .i8 0, .int .i8 0, .int .i8 0, .int .i8 0, .int .i8 0, .int .i16 0], .int .i64 5]) (by simp [results, Tryd.results14, go_sem]) rfl ⟨rfl, (Below.refl _ _).alloc (Nat.le_refl _) _⟩
  · have c2 : 253402387200 < n := by omega
    clear hn
    go_enter Tryd.func14, Tryd.ntmps14
    go_wp2_with (go_at_call 23; refine (zone_any _ _).mono ?_; rintro e w' ⟨rfl, rfl⟩)
    refine bodyPost_ret (v := .tuple #[.agg #[.int .i16 0, .int .i8 0, .int .i8 0, .int .i8 0, .int .i8 0, .int .i8 0, .int .i16 0], .int .i64 5]) (by simp [results, Tryd.results14, go_sem]) rfl ⟨rfl, (Below.refl _ _).alloc (Nat.le_refl _) _⟩
set_option maxHeartbeats 1000000 in
theorem of_pin (n z q r : Int) (w : World) (ht : Ahd w) (hz : -1439 ≤ z ∧ z ≤ 1439) (hn0 : ¬ n < -62135683200) (hn1 : ¬ 253402387200 < n)
    (hr : (n + 60 * z).tmod 86400 = r) (hq : (n + 60 * z).tdiv 86400 = q) (he : n + 60 * z = r + 86400 * q) (r0 : 0 ≤ r) (r1 : r < 86400) (q0 : -719162 ≤ q) (q1 : q ≤ 2932896) :
    Calls Tryd.prog 14 #[.int .i64 n, .int .i16 z] w fun e w' => (∃ x, e = .returned (.tuple #[dtV x, .int .i64 0]) ∧ OfD n z x) ∧ Below w.heap.size w w' := by
  have HT : Hid (Ahd w) := ht
  clear ht
  have HD : Hid (∀ y m d, Civ (q) y m d → OfD n z ⟨y, m, d, (r) / 3600, (r) / 60 % 60, (r) % 60, z⟩) := fun y m d h => ofD_mk hz.1 hz.2 (q) (by omega) (by omega) (by omega) h
  have HB : Hid (Below w.heap.size w (w.alloc (.cells #[.int .i16 0, .int .i8 0, .int .i8 0, .int .i8 0, .int .i8 0, .int .i8 0, .int .i16 0] 34))) := (Below.refl _ _).alloc (Nat.le_refl _) _
  clear he
  go_enter Tryd.func14, Tryd.ntmps14
  go_wp2_with (go_at_call 23; refine (zone_any _ _).mono ?_; rintro e w' ⟨rfl, rfl⟩)
  refine (civil_in (q) _ (HT.out.below HB.out) (by omega) (by omega)).mono ?_
  rintro e w' ⟨y, m, d, rfl, rfl, hciv⟩
  have HC : Hid (Civ (q) y m d) := hciv
  obtain ⟨y0, y1, m0, m1, d0, d1⟩ := civ_in hciv
  clear hciv
  go_wp2
  refine bodyPost_ret (v := .tuple #[.agg #[.int .i16 y, .int .i8 m, .int .i8 d, .int .i8 ((r) / 3600), .int .i8 ((r) / 60 % 60), .int .i8 ((r) % 60), .int .i16 z], .int .i64 0]) (by simp [results, Tryd.results14, go_sem]) rfl ⟨⟨_, rfl, HD.out y m d HC.out⟩, (Below.refl _ _).alloc (Nat.le_refl _) _⟩
set_option maxHeartbeats 1000000 in
theorem of_pout (n z q r : Int) (w : World) (hz : -1439 ≤ z ∧ z ≤ 1439) (hn0 : ¬ n < -62135683200) (hn1 : ¬ 253402387200 < n)
    (hr : (n + 60 * z).tmod 86400 = r) (hq : (n + 60 * z).tdiv 86400 = q) (r0 : 0 ≤ r) (r1 : r < 86400) (hqb : q < -719162 ∨ 2932896 < q) (b0 : -1000000 ≤ q) (b1 : q ≤ 3000000) :
    Calls Tryd.prog 14 #[.int .i64 n, .int .i16 z] w fun e w' => e = .returned (.tuple #[dtV ⟨0, 0, 0, 0, 0, 0, 0⟩, .int .i64 5]) ∧ Below w.heap.size w w' := by
  go_enter Tryd.func14, Tryd.ntmps14
  go_wp2_with (go_at_call 23; refine (zone_any _ _).mono ?_; rintro e w' ⟨rfl, rfl⟩)
  refine (civil_out (q) _ hqb).mono ?_
  rintro e w' ⟨rfl, rfl⟩
  go_wp2
  refine bodyPost_ret (v := .tuple #[.agg #[.int .i16 0, .int .i8 0, .int .i8 0, .int .i8 0, .int .i8 0, .int .i8 0, .int .i16 0], .int .i64 5]) (by simp [results, Tryd.results14, go_sem]) rfl ⟨rfl, (Below.refl _ _).alloc (Nat.le_refl _) _⟩
set_option maxHeartbeats 1000000 in
theorem of_nin (n z q r : Int) (w : World) (ht : Ahd w) (hz : -1439 ≤ z ∧ z ≤ 1439) (hn0 : ¬ n < -62135683200) (hn1 : ¬ 253402387200 < n)
    (hr : (n + 60 * z).tmod 86400 = r) (hq : (n + 60 * z).tdiv 86400 = q) (he : n + 60 * z = r + 86400 * q) (r0 : -86400 < r) (r1 : r < 0) (q0 : -719162 ≤ q - 1) (q1 : q - 1 ≤ 2932896) :
    Calls Tryd.prog 14 #[.int .i64 n, .int .i16 z] w fun e w' => (∃ x, e = .returned (.tuple #[dtV x, .int .i64 0]) ∧ OfD n z x) ∧ Below w.heap.size w w' := by
  have HT : Hid (Ahd w) := ht
  clear ht
  have HD : Hid (∀ y m d, Civ (q - 1) y m d → OfD n z ⟨y, m, d, (r + 86400) / 3600, (r + 86400) / 60 % 60, (r + 86400) % 60, z⟩) := fun y m d h => ofD_mk hz.1 hz.2 (q - 1) (by omega) (by omega) (by omega) h
  have HB : Hid (Below w.heap.size w (w.alloc (.cells #[.int .i16 0, .int .i8 0, .int .i8 0, .int .i8 0, .int .i8 0, .int .i8 0, .int .i16 0] 34))) := (Below.refl _ _).alloc (Nat.le_refl _) _
  clear he
  go_enter Tryd.func14, Tryd.ntmps14
  go_wp2_with (go_at_call 23; refine (zone_any _ _).mono ?_; rintro e w' ⟨rfl, rfl⟩)
  refine (civil_in (q - 1) _ (HT.out.below HB.out) (by omega) (by omega)).mono ?_
  rintro e w' ⟨y, m, d, rfl, rfl, hciv⟩
  have HC : Hid (Civ (q - 1) y m d) := hciv
  obtain ⟨y0, y1, m0, m1, d0, d1⟩ := civ_in hciv
  clear hciv
  go_wp2
  refine bodyPost_ret (v := .tuple #[.agg #[.int .i16 y, .int .i8 m, .int .i8 d, .int .i8 ((r + 86400) / 3600), .int .i8 ((r + 86400) / 60 % 60), .int .i8 ((r + 86400) % 60), .int .i16 z], .int .i64 0]) (by simp [results, Tryd.results14, go_sem]) rfl ⟨⟨_, rfl, HD.out y m d HC.out⟩, (Below.refl _ _).alloc (Nat.le_refl _) _⟩
set_option maxHeartbeats 1000000 in
theorem of_nout (n z q r : Int) (w : World) (hz : -1439 ≤ z ∧ z ≤ 1439) (hn0 : ¬ n < -62135683200) (hn1 : ¬ 253402387200 < n)
    (hr : (n + 60 * z).tmod 86400 = r) (hq : (n + 60 * z).tdiv 86400 = q) (r0 : -86400 < r) (r1 : r < 0) (hqb : q - 1 < -719162 ∨ 2932896 < q - 1) (b0 : -1000000 ≤ q) (b1 : q ≤ 3000000) :
    Calls Tryd.prog 14 #[.int .i64 n, .int .i16 z] w fun e w' => e = .returned (.tuple #[dtV ⟨0, 0, 0, 0, 0, 0, 0⟩, .int .i64 5]) ∧ Below w.heap.size w w' := by
  go_enter Tryd.func14, Tryd.ntmps14
  go_wp2_with (go_at_call 23; refine (zone_any _ _).mono ?_; rintro e w' ⟨rfl, rfl⟩)
  refine (civil_out (q - 1) _ hqb).mono ?_
  rintro e w' ⟨rfl, rfl⟩
  go_wp2
  refine bodyPost_ret (v := .tuple #[.agg #[.int .i16 0, .int .i8 0, .int .i8 0, .int .i8 0, .int .i8 0, .int .i8 0, .int .i16 0], .int .i64 5]) (by simp [results, Tryd.results14, go_sem]) rfl ⟨rfl, (Below.refl _ _).alloc (Nat.le_refl _) _⟩

/-- The number of the day of a second in a zone. -/
def dayOf (n z : Int) : Int := (n + 60 * z) / 86400
/-- What Of answers. -/
def OfAns (n z : Int) (e : Ending) : Prop :=
  if -1439 ≤ z ∧ z ≤ 1439 then (if -719162 ≤ dayOf n z ∧ dayOf n z ≤ 2932896 then ∃ x, e = .returned (.tuple #[dtV x, .int .i64 0]) ∧ OfD n z x else e = .returned (.tuple #[dtV ⟨0, 0, 0, 0, 0, 0, 0⟩, .int .i64 5]))
  else e = .returned (.tuple #[dtV ⟨0, 0, 0, 0, 0, 0, 0⟩, .int .i64 61])
theorem of_any (n z : Int) (w : World) (ht : Ahd w) :
    Calls Tryd.prog 14 #[.int .i64 n, .int .i16 z] w fun e w' => OfAns n z e ∧ Below w.heap.size w w' := by
  by_cases hz : -1439 ≤ z ∧ z ≤ 1439
  · unfold OfAns
    simp only [if_pos hz]
    by_cases hn : n < -62135683200 ∨ 253402387200 < n
    · have : ¬ (-719162 ≤ dayOf n z ∧ dayOf n z ≤ 2932896) := by unfold dayOf; omega
      simp only [if_neg this]
      exact of_far n z w hz hn
    · have hn0 : ¬ n < -62135683200 := by omega
      have hn1 : ¬ 253402387200 < n := by omega
      obtain ⟨r, q, hr, hq, r0, r1, rp, rn⟩ := tmod_parts (n + 60 * z) 86400 (by decide)
      have hq' : (n + 60 * z).tdiv 86400 = q := by
        have h := Int.tmod_add_mul_tdiv (n + 60 * z) 86400
        rw [hr] at h
        omega
      by_cases c : r < 0
      · have ed : dayOf n z = q - 1 := by unfold dayOf; omega
        rw [ed]
        by_cases hin : -719162 ≤ q - 1 ∧ q - 1 ≤ 2932896
        · simp only [if_pos hin]
          exact of_nin n z q r w ht hz hn0 hn1 hr hq' hq r0 c hin.1 hin.2
        · simp only [if_neg hin]
          exact of_nout n z q r w hz hn0 hn1 hr hq' r0 c (by omega) (by omega) (by omega)
      · have ed : dayOf n z = q := by unfold dayOf; omega
        rw [ed]
        by_cases hin : -719162 ≤ q ∧ q ≤ 2932896
        · simp only [if_pos hin]
          exact of_pin n z q r w ht hz hn0 hn1 hr hq' hq (by omega) r1 hin.1 hin.2
        · simp only [if_neg hin]
          exact of_pout n z q r w hz hn0 hn1 hr hq' (by omega) r1 (by omega) (by omega) (by omega)
  · unfold OfAns
    simp only [if_neg hz]
    exact of_zone n z w hz
end Go.Proofs.YtedfnebadenmdabDoor
