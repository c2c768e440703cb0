/-
  The document's Is and Bad of the class Name.
-/
import Derived.Test.YtpepjiocjcjeeaaDoorIs4
import Derived.Test.YtpepjiocjcjeeaaDoorPureBad
namespace Go.Proofs.YtpepjiocjcjeeaaDoor
open Go.RowKit

set_option maxHeartbeats 400000 in
theorem has_any (s : ByteArray) (b : Int) (w : World) (hs : s.size ≤ maxLen) :
    Calls Tryd.prog 57 #[.string s, .int .u8 b] w fun e w' => e = .returned (.bool (hasB s.data.toList b)) ∧ w' = w := by
  unfold maxLen at hs
  go_enter Tryd.func57, Tryd.ntmps57
  go_wp2
  go_loop [5] (fun i => ∃ k : Nat, k ≤ s.size ∧ i = .int .i64 k ∧ Hid (hasB s.data.toList b = hasB (s.data.toList.drop k) b)) (fun i => s.size - (intOf i).toNat)
  case atStart => exact ⟨0, Nat.zero_le _, rfl, rfl⟩
  case round =>
    obtain ⟨k, hk, rfl, HH⟩ := hrel
    by_cases hlt : k < s.size
    · have HS : Hid (hasB (s.data.toList.drop k) b = (((s[k].toNat : Int) == b) || hasB (s.data.toList.drop (k + 1)) b)) := hasB_drop s.data.toList b k (by simpa using hlt)
      by_cases hb : ((s[k].toNat : Int) == b) = true
      · go_wp2
        go_ret
        exact ⟨ret_bool (by rw [HH.out, HS.out, hb]; rfl), rfl⟩
      · have hb' : ((s[k].toNat : Int) == b) = false := by simpa using hb
        clear hb
        go_wp2
        go_round
        case rel => exact ⟨k + 1, by omega, by go_num, by rw [HH.out, HS.out, hb']; rfl⟩
        case measure => simp [intOf]; omega
    · go_wp2
      go_ret
      exact ⟨ret_bool (by rw [HH.out, List.drop_eq_nil_of_le (by simp; omega)]; rfl), rfl⟩

set_option maxHeartbeats 400000 in
theorem shown_any (b : Int) (s : ByteArray) (w : World) (hs : s.size ≤ maxLen) :
    Calls Tryd.prog 58 #[.int .u8 b, .string s] w fun e w' => e = .returned (.bool (shownB b s.data.toList)) ∧ w' = w := by
  unfold shownB
  by_cases h1 : 33 ≤ b
  · by_cases h2 : b ≤ 126
    · go_enter Tryd.func58, Tryd.ntmps58
      go_wp2_with (go_at_call 57; refine (has_any _ _ _ hs).mono ?_; rintro e w' ⟨rfl, rfl⟩)
      go_ret
      exact ⟨ret_bool (by simp [h1, h2]), rfl⟩
    · rw [decide_eq_false h2, Bool.and_false, Bool.false_and]
      go_enter Tryd.func58, Tryd.ntmps58
      go_wp2_with (go_at_call 57; refine (has_any _ _ _ hs).mono ?_; rintro e w' ⟨rfl, rfl⟩)
      go_ret
      exact ⟨rfl, rfl⟩
  · rw [decide_eq_false h1, Bool.false_and, Bool.false_and]
    go_enter Tryd.func58, Tryd.ntmps58
    go_wp2_with (go_at_call 57; refine (has_any _ _ _ hs).mono ?_; rintro e w' ⟨rfl, rfl⟩)
    go_ret
    exact ⟨rfl, rfl⟩
def s11 (b : Int) : Bool := shownB b [58]
theorem shown_11 (b : Int) (w : World) : Calls Tryd.prog 58 #[.int .u8 b, .string ⟨#[58]⟩] w fun e w' => e = .returned (.bool (s11 b)) ∧ w' = w :=
  shown_any b ⟨#[58]⟩ w (by unfold maxLen; decide)
set_option maxHeartbeats 400000 in
theorem ris_11 (b : Int) (w : World) : Calls Tryd.prog 44 #[.int .i64 11, .int .u8 b] w fun e w' => e = .returned (.bool (s11 b)) ∧ w' = w := by
  go_enter Tryd.func44, Tryd.ntmps44
  go_wp2_with fail
  refine (shown_11 b _).mono ?_
  rintro e w' ⟨rfl, rfl⟩
  go_wp2
  go_ret
  exact ⟨rfl, rfl⟩

theorem s11_fin : ∀ b : Fin 256, s11 (b.val : Int) = isB 11 (b.val : Int) := by decide +kernel
theorem s11_is (c : UInt8) : s11 (c.toNat : Int) = isB 11 (c.toNat : Int) := s11_fin ⟨c.toNat, c.toNat_lt⟩
theorem ret_i64r {a b : Int} (h : a = b) : Ending.returned (.int .i64 a) = .returned (.int .i64 b) := by rw [h]

set_option maxRecDepth 100000 in
set_option maxHeartbeats 400000 in
theorem rbad_11 (s : ByteArray) (w : World) (hs : s.size ≤ maxLen) :
    Calls Tryd.prog 29 #[.int .i64 11, .string s] w fun e w' => e = .returned (.int .i64 (badN 11 s.data.toList)) ∧ w' = w := by
  unfold maxLen at hs
  go_enter Tryd.func29, Tryd.ntmps29
  go_wp2
  go_loop [5] (fun i => ∃ m : Nat, m ≤ s.size ∧ i = .int .i64 m ∧ Hid (badN 11 s.data.toList = m + badN 11 (s.data.toList.drop m))) (fun i => s.size - (intOf i).toNat)
  case atStart => exact ⟨0, Nat.zero_le _, rfl, by show _ = _; rw [List.drop_zero, Nat.zero_add]⟩
  case round =>
    obtain ⟨m, hm, rfl, HM⟩ := hrel
    by_cases hlt : m < s.size
    · have hr : s11 (s[m].toNat : Int) = isB 11 (s[m].toNat : Int) := s11_is _
      by_cases hb : isB 11 (s[m].toNat : Int) = true
      · have HN : Hid (badN 11 s.data.toList = (m + 1) + badN 11 (s.data.toList.drop (m + 1))) := by
          have := badN_yes 11 s.data.toList m (by simpa using hlt) hb
          show _ = _
          rw [HM.out, this]; omega
        go_wp2_with (go_at_call 44; refine (ris_11 _ _).mono ?_; rintro e w' ⟨rfl, rfl⟩)
        go_round
        case rel => exact ⟨m + 1, by omega, by go_num, HN⟩
        case measure => simp [intOf]; omega
      · have hb' : isB 11 (s[m].toNat : Int) = false := by simpa using hb
        have HN : Hid (badN 11 s.data.toList = m) := by
          have := badN_no 11 s.data.toList m (by simpa using hlt) hb'
          show _ = _
          rw [HM.out, this]; omega
        clear hb
        go_wp2_with (go_at_call 44; refine (ris_11 _ _).mono ?_; rintro e w' ⟨rfl, rfl⟩)
        go_ret
        exact ⟨ret_i64r (by have := HN.out; omega), rfl⟩
    · have HN : Hid (badN 11 s.data.toList = m) := by
        have := badN_end 11 s.data.toList m (by simp; omega)
        show _ = _
        rw [HM.out, this]; omega
      go_wp2
      go_ret
      exact ⟨ret_i64r (by have := HN.out; omega), rfl⟩
end Go.Proofs.YtpepjiocjcjeeaaDoor
