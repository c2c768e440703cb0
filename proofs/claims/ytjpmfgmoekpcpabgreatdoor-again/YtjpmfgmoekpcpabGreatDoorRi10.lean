/-
  The contract of the document's Is: what it answers for every class and byte.
-/
import Derived.Test.YtjpmfgmoekpcpabGreatDoorIs4
namespace Go.Proofs.YtjpmfgmoekpcpabGreatDoor
open Go.RowKit

set_option maxHeartbeats 400000 in
theorem has_any (s : ByteArray) (b : Int) (w : World) (hs : s.size ≤ maxLen) :
    Calls Tryz.prog 88 #[.string s, .int .u8 b] w fun e w' => e = .returned (.bool (hasB s.data.toList b)) ∧ w' = w := by
  unfold maxLen at hs
  go_enter Tryz.func88, Tryz.ntmps88
  go_wp2
  go_loop [5] (fun i => ∃ k : Nat, k ≤ s.size ∧ i = .int .i64 k ∧ Hid (hasB s.data.toList b = hasB (s.data.toList.drop k) b)) (fun i => s.size - (intOf i).toNat)
  case atStart => exact ⟨0, Nat.zero_le _, rfl, rfl⟩
  case round =>
    obtain ⟨k, hk, rfl, HH⟩ := hrel
    by_cases hlt : k < s.size
    · have HS : Hid (hasB (s.data.toList.drop k) b = (((s[k].toNat : Int) == b) || hasB (s.data.toList.drop (k + 1)) b)) := hasB_drop s.data.toList b k (by simpa using hlt)
      by_cases hb : ((s[k].toNat : Int) == b) = true
      · go_wp2
        go_ret
        exact ⟨ret_bool (by rw [HH.out, HS.out, hb]; rfl), rfl⟩
      · have hb' : ((s[k].toNat : Int) == b) = false := by simpa using hb
        clear hb
        go_wp2
        go_round
        case rel => exact ⟨k + 1, by omega, by go_num, by rw [HH.out, HS.out, hb']; rfl⟩
        case measure => simp [intOf]; omega
    · go_wp2
      go_ret
      exact ⟨ret_bool (by rw [HH.out, List.drop_eq_nil_of_le (by simp; omega)]; rfl), rfl⟩

set_option maxHeartbeats 400000 in
theorem shown_any (b : Int) (s : ByteArray) (w : World) (hs : s.size ≤ maxLen) :
    Calls Tryz.prog 89 #[.int .u8 b, .string s] w fun e w' => e = .returned (.bool (shownB b s.data.toList)) ∧ w' = w := by
  unfold shownB
  by_cases h1 : 33 ≤ b
  · by_cases h2 : b ≤ 126
    · go_enter Tryz.func89, Tryz.ntmps89
      go_wp2_with (go_at_call 88; refine (has_any _ _ _ hs).mono ?_; rintro e w' ⟨rfl, rfl⟩)
      go_ret
      exact ⟨ret_bool (by simp [h1, h2]), rfl⟩
    · rw [decide_eq_false h2, Bool.and_false, Bool.false_and]
      go_enter Tryz.func89, Tryz.ntmps89
      go_wp2_with (go_at_call 88; refine (has_any _ _ _ hs).mono ?_; rintro e w' ⟨rfl, rfl⟩)
      go_ret
      exact ⟨rfl, rfl⟩
  · rw [decide_eq_false h1, Bool.false_and, Bool.false_and]
    go_enter Tryz.func89, Tryz.ntmps89
    go_wp2_with (go_at_call 88; refine (has_any _ _ _ hs).mono ?_; rintro e w' ⟨rfl, rfl⟩)
    go_ret
    exact ⟨rfl, rfl⟩

theorem has_caps (b : Int) (w : World) : Calls Tryz.prog 88 #[.string ⟨#[65, 66, 67, 68, 69, 70, 71, 72, 73, 74, 75, 76, 77, 78, 79, 80, 81, 82, 83, 84, 85, 86, 87, 88, 89, 90]⟩, .int .u8 b] w fun e w' => e = .returned (.bool (hasB caps b)) ∧ w' = w :=
  has_any ⟨#[65, 66, 67, 68, 69, 70, 71, 72, 73, 74, 75, 76, 77, 78, 79, 80, 81, 82, 83, 84, 85, 86, 87, 88, 89, 90]⟩ b w (by unfold maxLen; decide)
theorem has_smls (b : Int) (w : World) : Calls Tryz.prog 88 #[.string ⟨#[97, 98, 99, 100, 101, 102, 103, 104, 105, 106, 107, 108, 109, 110, 111, 112, 113, 114, 115, 116, 117, 118, 119, 120, 121, 122]⟩, .int .u8 b] w fun e w' => e = .returned (.bool (hasB smls b)) ∧ w' = w :=
  has_any ⟨#[97, 98, 99, 100, 101, 102, 103, 104, 105, 106, 107, 108, 109, 110, 111, 112, 113, 114, 115, 116, 117, 118, 119, 120, 121, 122]⟩ b w (by unfold maxLen; decide)
theorem has_digs (b : Int) (w : World) : Calls Tryz.prog 88 #[.string ⟨#[48, 49, 50, 51, 52, 53, 54, 55, 56, 57]⟩, .int .u8 b] w fun e w' => e = .returned (.bool (hasB odigs b)) ∧ w' = w :=
  has_any ⟨#[48, 49, 50, 51, 52, 53, 54, 55, 56, 57]⟩ b w (by unfold maxLen; decide)
theorem has_hexs (b : Int) (w : World) : Calls Tryz.prog 88 #[.string ⟨#[48, 49, 50, 51, 52, 53, 54, 55, 56, 57, 65, 66, 67, 68, 69, 70, 97, 98, 99, 100, 101, 102]⟩, .int .u8 b] w fun e w' => e = .returned (.bool (hasB hexs b)) ∧ w' = w :=
  has_any ⟨#[48, 49, 50, 51, 52, 53, 54, 55, 56, 57, 65, 66, 67, 68, 69, 70, 97, 98, 99, 100, 101, 102]⟩ b w (by unfold maxLen; decide)
theorem has_sgns (b : Int) (w : World) : Calls Tryz.prog 88 #[.string ⟨#[33, 35, 36, 37, 38, 39, 42, 43, 45, 47, 61, 63, 94, 95, 123, 124, 125, 126, 96]⟩, .int .u8 b] w fun e w' => e = .returned (.bool (hasB sgns b)) ∧ w' = w :=
  has_any ⟨#[33, 35, 36, 37, 38, 39, 42, 43, 45, 47, 61, 63, 94, 95, 123, 124, 125, 126, 96]⟩ b w (by unfold maxLen; decide)
def s6 (b : Int) : Bool := shownB b [34, 92]
theorem shown_6 (b : Int) (w : World) : Calls Tryz.prog 89 #[.int .u8 b, .string ⟨#[34, 92]⟩] w fun e w' => e = .returned (.bool (s6 b)) ∧ w' = w :=
  shown_any b ⟨#[34, 92]⟩ w (by unfold maxLen; decide)
def s7 (b : Int) : Bool := shownB b [91, 92, 93]
theorem shown_7 (b : Int) (w : World) : Calls Tryz.prog 89 #[.int .u8 b, .string ⟨#[91, 92, 93]⟩] w fun e w' => e = .returned (.bool (s7 b)) ∧ w' = w :=
  shown_any b ⟨#[91, 92, 93]⟩ w (by unfold maxLen; decide)
def s8 (b : Int) : Bool := shownB b [61]
theorem shown_8 (b : Int) (w : World) : Calls Tryz.prog 89 #[.int .u8 b, .string ⟨#[61]⟩] w fun e w' => e = .returned (.bool (s8 b)) ∧ w' = w :=
  shown_any b ⟨#[61]⟩ w (by unfold maxLen; decide)
def s9 (b : Int) : Bool := shownB b [43, 61]
theorem shown_9 (b : Int) (w : World) : Calls Tryz.prog 89 #[.int .u8 b, .string ⟨#[43, 61]⟩] w fun e w' => e = .returned (.bool (s9 b)) ∧ w' = w :=
  shown_any b ⟨#[43, 61]⟩ w (by unfold maxLen; decide)
def s11 (b : Int) : Bool := shownB b [58]
theorem shown_11 (b : Int) (w : World) : Calls Tryz.prog 89 #[.int .u8 b, .string ⟨#[58]⟩] w fun e w' => e = .returned (.bool (s11 b)) ∧ w' = w :=
  shown_any b ⟨#[58]⟩ w (by unfold maxLen; decide)
def s12 (b : Int) : Bool := shownB b []
theorem shown_12 (b : Int) (w : World) : Calls Tryz.prog 89 #[.int .u8 b, .string ⟨#[]⟩] w fun e w' => e = .returned (.bool (s12 b)) ∧ w' = w :=
  shown_any b ⟨#[]⟩ w (by unfold maxLen; decide)
set_option maxHeartbeats 400000 in
theorem ris_1 (b : Int) (w : World) : Calls Tryz.prog 44 #[.int .i64 1, .int .u8 b] w fun e w' => e = .returned (.bool (r1 b)) ∧ w' = w := by
  unfold r1; cases h : hasB caps b
  · go_enter Tryz.func44, Tryz.ntmps44
    go_wp2_with fail
    refine (has_caps b _).mono ?_
    rintro e w' ⟨rfl, rfl⟩
    go_wp2_with fail
    refine (has_smls b _).mono ?_
    rintro e w' ⟨rfl, rfl⟩
    go_wp2
    go_ret
    exact ⟨rfl, rfl⟩
  · go_enter Tryz.func44, Tryz.ntmps44
    go_wp2_with fail
    refine (has_caps b _).mono ?_
    rintro e w' ⟨rfl, rfl⟩
    go_wp2
    go_ret
    exact ⟨rfl, rfl⟩

set_option maxHeartbeats 400000 in
theorem ris_2 (b : Int) (w : World) : Calls Tryz.prog 44 #[.int .i64 2, .int .u8 b] w fun e w' => e = .returned (.bool (r2 b)) ∧ w' = w := by
  go_enter Tryz.func44, Tryz.ntmps44
  go_wp2_with fail
  refine (has_digs b _).mono ?_
  rintro e w' ⟨rfl, rfl⟩
  go_wp2
  go_ret
  exact ⟨rfl, rfl⟩

set_option maxHeartbeats 400000 in
theorem ris_3 (b : Int) (w : World) : Calls Tryz.prog 44 #[.int .i64 3, .int .u8 b] w fun e w' => e = .returned (.bool (r3 b)) ∧ w' = w := by
  unfold r3; cases h : r1 b
  · go_enter Tryz.func44, Tryz.ntmps44
    go_wp2_with fail
    refine (ris_1 b _).mono ?_
    rintro e w' ⟨rfl, rfl⟩
    go_wp2_with fail
    refine (ris_2 b _).mono ?_
    rintro e w' ⟨rfl, rfl⟩
    go_wp2
    go_ret
    exact ⟨rfl, rfl⟩
  · go_enter Tryz.func44, Tryz.ntmps44
    go_wp2_with fail
    refine (ris_1 b _).mono ?_
    rintro e w' ⟨rfl, rfl⟩
    go_wp2
    go_ret
    exact ⟨rfl, rfl⟩

set_option maxHeartbeats 400000 in
theorem ris_4 (b : Int) (w : World) : Calls Tryz.prog 44 #[.int .i64 4, .int .u8 b] w fun e w' => e = .returned (.bool (hasB hexs b)) ∧ w' = w := by
  go_enter Tryz.func44, Tryz.ntmps44
  go_wp2_with fail
  refine (has_hexs b _).mono ?_
  rintro e w' ⟨rfl, rfl⟩
  go_wp2
  go_ret
  exact ⟨rfl, rfl⟩

set_option maxHeartbeats 400000 in
theorem ris_5 (b : Int) (w : World) : Calls Tryz.prog 44 #[.int .i64 5, .int .u8 b] w fun e w' => e = .returned (.bool (r3 b || hasB sgns b)) ∧ w' = w := by
  cases h : r3 b
  · go_enter Tryz.func44, Tryz.ntmps44
    go_wp2_with fail
    refine (ris_3 b _).mono ?_
    rintro e w' ⟨rfl, rfl⟩
    go_wp2_with fail
    refine (has_sgns b _).mono ?_
    rintro e w' ⟨rfl, rfl⟩
    go_wp2
    go_ret
    exact ⟨rfl, rfl⟩
  · go_enter Tryz.func44, Tryz.ntmps44
    go_wp2_with fail
    refine (ris_3 b _).mono ?_
    rintro e w' ⟨rfl, rfl⟩
    go_wp2
    go_ret
    exact ⟨rfl, rfl⟩

set_option maxHeartbeats 400000 in
theorem ris_6 (b : Int) (w : World) : Calls Tryz.prog 44 #[.int .i64 6, .int .u8 b] w fun e w' => e = .returned (.bool (decide (b = 32) || s6 b)) ∧ w' = w := by
  by_cases h : b = 32
  · rw [decide_eq_true h, Bool.true_or]
    go_enter Tryz.func44, Tryz.ntmps44
    go_wp2
    go_ret
    exact ⟨rfl, rfl⟩
  · rw [decide_eq_false h, Bool.false_or]
    have hb : (b == 32) = false := by simpa using h
    go_enter Tryz.func44, Tryz.ntmps44
    go_wp2_with fail
    refine (shown_6 b _).mono ?_
    rintro e w' ⟨rfl, rfl⟩
    go_wp2
    go_ret
    exact ⟨rfl, rfl⟩

set_option maxHeartbeats 400000 in
theorem ris_12 (b : Int) (w : World) : Calls Tryz.prog 44 #[.int .i64 12, .int .u8 b] w fun e w' => e = .returned (.bool (decide (b = 9) || decide (b = 32) || s12 b)) ∧ w' = w := by
  by_cases h : b = 9
  · rw [decide_eq_true h, Bool.true_or, Bool.true_or]
    go_enter Tryz.func44, Tryz.ntmps44
    go_wp2
    go_ret
    exact ⟨rfl, rfl⟩
  · by_cases h' : b = 32
    · rw [decide_eq_false h, decide_eq_true h', Bool.false_or, Bool.true_or]
      have hb : (b == 9) = false := by simpa using h
      go_enter Tryz.func44, Tryz.ntmps44
      go_wp2
      go_ret
      exact ⟨rfl, rfl⟩
    · rw [decide_eq_false h, decide_eq_false h', Bool.false_or, Bool.false_or]
      have hb : (b == 9) = false := by simpa using h
      have hb' : (b == 32) = false := by simpa using h'
      go_enter Tryz.func44, Tryz.ntmps44
      go_wp2_with fail
      refine (shown_12 b _).mono ?_
      rintro e w' ⟨rfl, rfl⟩
      go_wp2
      go_ret
      exact ⟨rfl, rfl⟩

set_option maxHeartbeats 400000 in
theorem ris_7 (b : Int) (w : World) : Calls Tryz.prog 44 #[.int .i64 7, .int .u8 b] w fun e w' => e = .returned (.bool (s7 b)) ∧ w' = w := by
  go_enter Tryz.func44, Tryz.ntmps44
  go_wp2_with fail
  refine (shown_7 b _).mono ?_
  rintro e w' ⟨rfl, rfl⟩
  go_wp2
  go_ret
  exact ⟨rfl, rfl⟩

set_option maxHeartbeats 400000 in
theorem ris_8 (b : Int) (w : World) : Calls Tryz.prog 44 #[.int .i64 8, .int .u8 b] w fun e w' => e = .returned (.bool (s8 b)) ∧ w' = w := by
  go_enter Tryz.func44, Tryz.ntmps44
  go_wp2_with fail
  refine (shown_8 b _).mono ?_
  rintro e w' ⟨rfl, rfl⟩
  go_wp2
  go_ret
  exact ⟨rfl, rfl⟩

set_option maxHeartbeats 400000 in
theorem ris_9 (b : Int) (w : World) : Calls Tryz.prog 44 #[.int .i64 9, .int .u8 b] w fun e w' => e = .returned (.bool (s9 b)) ∧ w' = w := by
  go_enter Tryz.func44, Tryz.ntmps44
  go_wp2_with fail
  refine (shown_9 b _).mono ?_
  rintro e w' ⟨rfl, rfl⟩
  go_wp2
  go_ret
  exact ⟨rfl, rfl⟩

set_option maxHeartbeats 400000 in
theorem ris_11 (b : Int) (w : World) : Calls Tryz.prog 44 #[.int .i64 11, .int .u8 b] w fun e w' => e = .returned (.bool (s11 b)) ∧ w' = w := by
  go_enter Tryz.func44, Tryz.ntmps44
  go_wp2_with fail
  refine (shown_11 b _).mono ?_
  rintro e w' ⟨rfl, rfl⟩
  go_wp2
  go_ret
  exact ⟨rfl, rfl⟩

set_option maxHeartbeats 400000 in
theorem ris_10 (b : Int) (w : World) : Calls Tryz.prog 44 #[.int .i64 10, .int .u8 b] w fun e w' => e = .returned (.bool (r3 b || decide (b = 45))) ∧ w' = w := by
  cases h : r3 b
  · go_enter Tryz.func44, Tryz.ntmps44
    go_wp2_with fail
    refine (ris_3 b _).mono ?_
    rintro e w' ⟨rfl, rfl⟩
    go_wp2
    go_ret
    exact ⟨rfl, rfl⟩
  · go_enter Tryz.func44, Tryz.ntmps44
    go_wp2_with fail
    refine (ris_3 b _).mono ?_
    rintro e w' ⟨rfl, rfl⟩
    go_wp2
    go_ret
    exact ⟨rfl, rfl⟩

set_option maxHeartbeats 400000 in
theorem ris_13 (b : Int) (w : World) : Calls Tryz.prog 44 #[.int .i64 13, .int .u8 b] w fun e w' => e = .returned (.bool (decide (b < 128))) ∧ w' = w := by
  go_enter Tryz.func44, Tryz.ntmps44
  go_wp2
  go_ret
  exact ⟨rfl, rfl⟩

set_option maxHeartbeats 400000 in
theorem ris_14 (b : Int) (w : World) : Calls Tryz.prog 44 #[.int .i64 14, .int .u8 b] w fun e w' => e = .returned (.bool (decide (128 ≤ b))) ∧ w' = w := by
  go_enter Tryz.func44, Tryz.ntmps44
  go_wp2
  go_ret
  exact ⟨rfl, rfl⟩

set_option maxHeartbeats 400000 in
theorem ris_out (c b : Int) (w : World) (hc : c < 1 ∨ 14 < c) : Calls Tryz.prog 44 #[.int .i64 c, .int .u8 b] w fun e w' => e = .returned (.bool false) ∧ w' = w := by
  rcases hc with hc | hc
  · go_enter Tryz.func44, Tryz.ntmps44
    go_wp2
    go_ret
    exact ⟨rfl, rfl⟩
  · go_enter Tryz.func44, Tryz.ntmps44
    go_wp2
    go_ret
    exact ⟨rfl, rfl⟩

/-- The document's Is. -/
theorem ris_any (c b : Int) (w : World) : Calls Tryz.prog 44 #[.int .i64 c, .int .u8 b] w fun e w' => e = .returned (.bool (refB c b)) ∧ w' = w := by
  by_cases hc : c < 1 ∨ 14 < c
  · have e : refB c b = false := by
      unfold refB
      repeat rw [if_neg (by omega)]
    rw [e]
    exact ris_out c b w hc
  · obtain ⟨n, rfl⟩ := Int.eq_ofNat_of_zero_le (show 0 ≤ c by omega)
    match n, hc with
    | 0, hc => exact absurd (Or.inl (by decide)) hc
    | 1, _ => exact ris_1 b w
    | 2, _ => exact ris_2 b w
    | 3, _ => exact ris_3 b w
    | 4, _ => exact ris_4 b w
    | 5, _ => exact ris_5 b w
    | 6, _ => exact ris_6 b w
    | 7, _ => exact ris_7 b w
    | 8, _ => exact ris_8 b w
    | 9, _ => exact ris_9 b w
    | 10, _ => exact ris_10 b w
    | 11, _ => exact ris_11 b w
    | 12, _ => exact ris_12 b w
    | 13, _ => exact ris_13 b w
    | 14, _ => exact ris_14 b w
    | n + 15, hc => exact absurd (Or.inr (by omega)) hc
end Go.Proofs.YtjpmfgmoekpcpabGreatDoor
