/-
  The plain mathematics of the calendar: no Go in sight.
-/
import Derived.WalkKit
namespace Go.Proofs.YtedfnebadenmdabDoor

/-- A leap year. -/
def leapB (y : Int) : Bool := decide (y % 4 = 0) && (decide (y % 100 ≠ 0) || decide (y % 400 = 0))
/-- The number of a year's first day. -/
def ystart (y : Int) : Int := -719162 + 365 * (y - 1) + (y - 1) / 4 - (y - 1) / 100 + (y - 1) / 400
/-- The days of a year. -/
def wholeN (y : Int) : Int := if leapB y = true then 366 else 365
/-- The days ahead of a month in a year that is no leap year. -/
def aheadN (m : Int) : Int :=
  if m = 1 then 0 else if m = 2 then 31 else if m = 3 then 59 else if m = 4 then 90 else if m = 5 then 120 else if m = 6 then 151 else
  if m = 7 then 181 else if m = 8 then 212 else if m = 9 then 243 else if m = 10 then 273 else if m = 11 then 304 else if m = 12 then 334 else 365
/-- The days ahead of a month. -/
def mstart (y m : Int) : Int := aheadN m + (if 2 < m ∧ leapB y = true then 1 else 0)
/-- The days of a month. -/
def longN (y m : Int) : Int := if m = 4 ∨ m = 6 ∨ m = 9 ∨ m = 11 then 30 else if m = 2 then (if leapB y = true then 29 else 28) else 31

theorem leapB_iff (y : Int) : leapB y = true ↔ y % 4 = 0 ∧ (y % 100 ≠ 0 ∨ y % 400 = 0) := by simp [leapB]
theorem ystart_succ (y : Int) : ystart (y + 1) = ystart y + wholeN y := by
  have h4 : (y + 1 - 1) / 4 = (y - 1) / 4 + (if y % 4 = 0 then 1 else 0) := by split <;> omega
  have h1 : (y + 1 - 1) / 100 = (y - 1) / 100 + (if y % 100 = 0 then 1 else 0) := by split <;> omega
  have h5 : (y + 1 - 1) / 400 = (y - 1) / 400 + (if y % 400 = 0 then 1 else 0) := by split <;> omega
  unfold ystart wholeN
  rw [h4, h1, h5]
  by_cases c : leapB y = true
  · rw [if_pos c]
    rw [leapB_iff] at c
    obtain ⟨c4, c⟩ := c
    rw [if_pos c4]
    by_cases d : y % 100 = 0
    · rw [if_pos d, if_pos (by omega)]; omega
    · rw [if_neg d, if_neg (by omega)]; omega
  · rw [if_neg c]
    rw [leapB_iff] at c
    by_cases d : y % 4 = 0
    · have d1 : y % 100 = 0 := by omega
      have d2 : ¬ y % 400 = 0 := by omega
      rw [if_pos d, if_pos d1, if_neg d2]; omega
    · rw [if_neg d, if_neg (by omega), if_neg (by omega)]; omega
theorem ystart_mono {a b : Int} (h : a ≤ b) : ystart a ≤ ystart b := by
  unfold ystart
  by_cases e : a = b
  · subst e; omega
  · omega
theorem wholeN_pos (y : Int) : 365 ≤ wholeN y ∧ wholeN y ≤ 366 := by unfold wholeN; split <;> omega
theorem month_cases {m : Int} (h1 : 1 ≤ m) (h2 : m ≤ 12) : m = 1 ∨ m = 2 ∨ m = 3 ∨ m = 4 ∨ m = 5 ∨ m = 6 ∨ m = 7 ∨ m = 8 ∨ m = 9 ∨ m = 10 ∨ m = 11 ∨ m = 12 := by omega
theorem mstart_succ (y : Int) {m : Int} (h1 : 1 ≤ m) (h2 : m ≤ 12) : mstart y (m + 1) = mstart y m + longN y m := by
  by_cases c : leapB y = true
  · rcases month_cases h1 h2 with rfl | rfl | rfl | rfl | rfl | rfl | rfl | rfl | rfl | rfl | rfl | rfl <;> simp [mstart, aheadN, longN, c]
  · rcases month_cases h1 h2 with rfl | rfl | rfl | rfl | rfl | rfl | rfl | rfl | rfl | rfl | rfl | rfl <;> simp [mstart, aheadN, longN, c]
theorem mstart_one (y : Int) : mstart y 1 = 0 := by simp [mstart, aheadN]
theorem mstart_end (y : Int) : mstart y 13 = wholeN y := by
  by_cases c : leapB y = true <;> simp [mstart, aheadN, wholeN, c]
theorem longN_pos (y m : Int) : 28 ≤ longN y m ∧ longN y m ≤ 31 := by
  unfold longN
  split
  · omega
  · split
    · split <;> omega
    · omega
/-- A month begins behind an earlier one's last day. -/
theorem mstart_lt (y : Int) {m k : Int} (h1 : 1 ≤ m) (h2 : k ≤ 12) (h : m < k) : mstart y m + longN y m ≤ mstart y k := by
  obtain ⟨n, hn⟩ : ∃ n : Nat, k = m + 1 + n := ⟨(k - m - 1).toNat, by omega⟩
  induction n generalizing k with
  | zero =>
    subst hn
    have := mstart_succ y h1 (m := m) (by omega)
    simp only [Int.natCast_zero, Int.add_zero]
    omega
  | succ n ih =>
    have h3 := ih (k := m + 1 + n) (by omega) (by omega) rfl
    have h4 := mstart_succ y (m := m + 1 + n) (by omega) (by omega)
    have h5 := longN_pos y (m + 1 + n)
    have e : k = m + 1 + n + 1 := by omega
    rw [e]
    omega
theorem mstart_bounds (y : Int) {m : Int} (h1 : 1 ≤ m) (h2 : m ≤ 12) : 0 ≤ mstart y m ∧ mstart y m + longN y m ≤ wholeN y := by
  refine ⟨?_, ?_⟩
  · by_cases e : m = 1
    · subst e; rw [mstart_one]; omega
    · have := mstart_lt y (m := 1) (k := m) (by omega) h2 (by omega)
      have := longN_pos y 1
      rw [mstart_one] at *
      omega
  · have e12 := mstart_succ y (m := 12) (by omega) (by omega)
    have e13 := mstart_end y
    have h3 : (12 : Int) + 1 = 13 := rfl
    rw [h3, e13] at e12
    by_cases e : m = 12
    · subst e; omega
    · have := mstart_lt y (m := m) (k := 12) h1 (by omega) (by omega)
      have := longN_pos y 12
      omega

/-- There is such a day. -/
def IsDay (y m d : Int) : Prop := 1 ≤ y ∧ y ≤ 9999 ∧ 1 ≤ m ∧ m ≤ 12 ∧ 1 ≤ d ∧ d ≤ longN y m
instance (y m d : Int) : Decidable (IsDay y m d) := by unfold IsDay; infer_instance
/-- Its number. -/
def numD (y m d : Int) : Int := ystart y + mstart y m + d - 1
theorem ystart_first : ystart 1 = -719162 := by decide
theorem ystart_last : ystart 10000 = 2932897 := by decide
theorem numD_in {y m d : Int} (h : IsDay y m d) : ystart y ≤ numD y m d ∧ numD y m d < ystart (y + 1) := by
  obtain ⟨h1, h2, h3, h4, h5, h6⟩ := h
  have := mstart_bounds y h3 h4
  rw [ystart_succ]
  unfold numD
  omega
theorem numD_range {y m d : Int} (h : IsDay y m d) : -719162 ≤ numD y m d ∧ numD y m d ≤ 2932896 := by
  have h0 := numD_in h
  have h1 := ystart_mono (a := 1) (b := y) h.1
  have h2 := ystart_mono (a := y + 1) (b := 10000) (by have := h.2.1; omega)
  rw [ystart_first] at h1
  rw [ystart_last] at h2
  omega
theorem year_uniq {y z n : Int} (h1 : ystart y ≤ n) (h2 : n < ystart (y + 1)) (h3 : ystart z ≤ n) (h4 : n < ystart (z + 1)) : y = z := by
  rcases Int.lt_trichotomy y z with h | h | h
  · have := ystart_mono (a := y + 1) (b := z) (by omega); omega
  · exact h
  · have := ystart_mono (a := z + 1) (b := y) (by omega); omega
theorem numD_lt_month {y m d k e : Int} (h : IsDay y m d) (h' : IsDay y k e) (hl : m < k) : numD y m d < numD y k e := by
  obtain ⟨h1, h2, h3, h4, h5, h6⟩ := h
  obtain ⟨k1, k2, k3, k4, k5, k6⟩ := h'
  have := mstart_lt y h3 k4 hl
  unfold numD
  omega
theorem numD_lt_year {y m d z k e : Int} (h : IsDay y m d) (h' : IsDay z k e) (hl : y < z) : numD y m d < numD z k e := by
  have a := numD_in h
  have b := numD_in h'
  have := ystart_mono (a := y + 1) (b := z) (by omega)
  omega
/-- A number is that of one day. -/
theorem numD_uniq {y m d z k e : Int} (h : IsDay y m d) (h' : IsDay z k e) (he : numD y m d = numD z k e) : y = z ∧ m = k ∧ d = e := by
  have a := numD_in h
  have b := numD_in h'
  rw [← he] at b
  obtain rfl := year_uniq a.1 a.2 b.1 b.2
  rcases Int.lt_trichotomy m k with hl | hl | hl
  · have := numD_lt_month h h' hl; omega
  · subst hl
    refine ⟨rfl, rfl, ?_⟩
    unfold numD at he
    omega
  · have := numD_lt_month h' h hl; omega

/-- The weekday of a number. -/
def wdN (n : Int) : Int := (n + 4) % 7
theorem wdN_in (n : Int) : 0 ≤ wdN n ∧ wdN n ≤ 6 := by unfold wdN; omega

/-- A date. -/
structure Dt where
  y : Int
  mo : Int
  d : Int
  h : Int
  mi : Int
  s : Int
  z : Int
deriving DecidableEq
/-- What Check answers. -/
def chk (x : Dt) : Int := if IsDay x.y x.mo x.d ∧ 0 ≤ x.h ∧ x.h ≤ 23 ∧ 0 ≤ x.mi ∧ x.mi ≤ 59 ∧ 0 ≤ x.s ∧ x.s ≤ 59 then (if -1439 ≤ x.z ∧ x.z ≤ 1439 then 0 else 61) else 60
/-- A date that may be. -/
structure May (x : Dt) : Prop where
  day : IsDay x.y x.mo x.d
  h0 : 0 ≤ x.h
  h1 : x.h ≤ 23
  m0 : 0 ≤ x.mi
  m1 : x.mi ≤ 59
  s0 : 0 ≤ x.s
  s1 : x.s ≤ 59
  z0 : -1439 ≤ x.z
  z1 : x.z ≤ 1439
theorem chk_may (x : Dt) : chk x = 0 ↔ May x := by
  unfold chk
  by_cases c : IsDay x.y x.mo x.d ∧ 0 ≤ x.h ∧ x.h ≤ 23 ∧ 0 ≤ x.mi ∧ x.mi ≤ 59 ∧ 0 ≤ x.s ∧ x.s ≤ 59
  · rw [if_pos c]
    by_cases d : -1439 ≤ x.z ∧ x.z ≤ 1439
    · rw [if_pos d]
      exact ⟨fun _ => ⟨c.1, c.2.1, c.2.2.1, c.2.2.2.1, c.2.2.2.2.1, c.2.2.2.2.2.1, c.2.2.2.2.2.2, d.1, d.2⟩, fun _ => rfl⟩
    · rw [if_neg d]
      exact ⟨fun h => by omega, fun h => absurd ⟨h.z0, h.z1⟩ d⟩
  · rw [if_neg c]
    exact ⟨fun h => by omega, fun h => absurd ⟨h.day, h.h0, h.h1, h.m0, h.m1, h.s0, h.s1⟩ c⟩
/-- Its second. -/
def secD (x : Dt) : Int := numD x.y x.mo x.d * 86400 + 3600 * x.h + 60 * x.mi + x.s - 60 * x.z
theorem secD_range {x : Dt} (h : May x) : -62135683140 ≤ secD x ∧ secD x ≤ 253402387139 := by
  have := numD_range h.day
  have := h.h0; have := h.h1; have := h.m0; have := h.m1; have := h.s0; have := h.s1; have := h.z0; have := h.z1
  unfold secD
  omega
/-- A second is that of one date of a zone. -/
theorem secD_uniq {x u : Dt} (h : May x) (k : May u) (hz : x.z = u.z) (he : secD x = secD u) : x = u := by
  have h0 := h.h0; have h1 := h.h1; have h2 := h.m0; have h3 := h.m1; have h4 := h.s0; have h5 := h.s1
  have k0 := k.h0; have k1 := k.h1; have k2 := k.m0; have k3 := k.m1; have k4 := k.s0; have k5 := k.s1
  have hd := h.day
  have kd := k.day
  obtain ⟨y, mo, d, hh, mi, s, z⟩ := x
  obtain ⟨y', mo', d', hh', mi', s', z'⟩ := u
  simp only [secD] at *
  subst hz
  obtain ⟨n, hn⟩ : ∃ n, n = numD y mo d := ⟨_, rfl⟩
  obtain ⟨n', hn'⟩ : ∃ n, n = numD y' mo' d' := ⟨_, rfl⟩
  rw [← hn, ← hn'] at he
  have e1 : n = n' := by omega
  obtain ⟨rfl, rfl, rfl⟩ := numD_uniq hd kd (by rw [← hn, ← hn', e1])
  have e2 : hh = hh' := by omega
  have e3 : mi = mi' := by omega
  have e4 : s = s' := by omega
  subst e2 e3 e4
  rfl
end Go.Proofs.YtedfnebadenmdabDoor
