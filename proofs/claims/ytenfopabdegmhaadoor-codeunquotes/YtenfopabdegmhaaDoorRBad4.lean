/-
  The contracts of the document's Is and Bad, of digits to the base sixteen.
-/
import Derived.Test.YtenfopabdegmhaaDoorIs4
import Derived.Test.YtenfopabdegmhaaDoorPureBad
namespace Go.Proofs.YtenfopabdegmhaaDoor
open Go.RowKit

set_option maxHeartbeats 400000 in
theorem has_any (s : ByteArray) (b : Int) (w : World) (hs : s.size ≤ maxLen) :
    Calls Tryd.prog 62 #[.string s, .int .u8 b] w fun e w' => e = .returned (.bool (hasB s.data.toList b)) ∧ w' = w := by
  unfold maxLen at hs
  go_enter Tryd.func62, Tryd.ntmps62
  go_wp2
  go_loop [5] (fun i => ∃ k : Nat, k ≤ s.size ∧ i = .int .i64 k ∧ Hid (hasB s.data.toList b = hasB (s.data.toList.drop k) b)) (fun i => s.size - (intOf i).toNat)
  case atStart => exact ⟨0, Nat.zero_le _, rfl, rfl⟩
  case round =>
    obtain ⟨k, hk, rfl, HH⟩ := hrel
    by_cases hlt : k < s.size
    · have HS : Hid (hasB (s.data.toList.drop k) b = (((s[k].toNat : Int) == b) || hasB (s.data.toList.drop (k + 1)) b)) := hasB_drop s.data.toList b k (by simpa using hlt)
      by_cases hb : ((s[k].toNat : Int) == b) = true
      · go_wp2
        go_ret
        exact ⟨ret_bool (by rw [HH.out, HS.out, hb]; rfl), rfl⟩
      · have hb' : ((s[k].toNat : Int) == b) = false := by simpa using hb
        clear hb
        go_wp2
        go_round
        case rel => exact ⟨k + 1, by omega, by go_num, by rw [HH.out, HS.out, hb']; rfl⟩
        case measure => simp [intOf]; omega
    · go_wp2
      go_ret
      exact ⟨ret_bool (by rw [HH.out, List.drop_eq_nil_of_le (by simp; omega)]; rfl), rfl⟩

theorem has_hexs (b : Int) (w : World) : Calls Tryd.prog 62 #[.string ⟨#[48, 49, 50, 51, 52, 53, 54, 55, 56, 57, 65, 66, 67, 68, 69, 70, 97, 98, 99, 100, 101, 102]⟩, .int .u8 b] w fun e w' => e = .returned (.bool (hasB hexs b)) ∧ w' = w :=
  has_any ⟨#[48, 49, 50, 51, 52, 53, 54, 55, 56, 57, 65, 66, 67, 68, 69, 70, 97, 98, 99, 100, 101, 102]⟩ b w (by unfold maxLen; decide)
set_option maxHeartbeats 400000 in
theorem ris_4 (b : Int) (w : World) : Calls Tryd.prog 56 #[.int .i64 4, .int .u8 b] w fun e w' => e = .returned (.bool (hasB hexs b)) ∧ w' = w := by
  go_enter Tryd.func56, Tryd.ntmps56
  go_wp2_with fail
  refine (has_hexs b _).mono ?_
  rintro e w' ⟨rfl, rfl⟩
  go_wp2
  go_ret
  exact ⟨rfl, rfl⟩


theorem ris_hex (b : Int) (w : World) (h0 : 0 ≤ b) (h1 : b ≤ 255) : Calls Tryd.prog 56 #[.int .i64 4, .int .u8 b] w fun e w' => e = .returned (.bool (isB 4 b)) ∧ w' = w := by
  rw [is_ref 4 b h0 h1]
  exact ris_4 b w

theorem ret_i64r {a b : Int} (h : a = b) : Ending.returned (.int .i64 a) = .returned (.int .i64 b) := by rw [h]

set_option maxRecDepth 100000 in
set_option maxHeartbeats 400000 in
theorem rbad_four (s : ByteArray) (w : World) (hs : s.size ≤ maxLen) :
    Calls Tryd.prog 48 #[.int .i64 4, .string s] w fun e w' => e = .returned (.int .i64 (badN 4 s.data.toList)) ∧ w' = w := by
  unfold maxLen at hs
  go_enter Tryd.func48, Tryd.ntmps48
  go_wp2
  go_loop [5] (fun i => ∃ m : Nat, m ≤ s.size ∧ i = .int .i64 m ∧ Hid (badN 4 s.data.toList = m + badN 4 (s.data.toList.drop m))) (fun i => s.size - (intOf i).toNat)
  case atStart => exact ⟨0, Nat.zero_le _, rfl, by show _ = _; rw [List.drop_zero, Nat.zero_add]⟩
  case round =>
    obtain ⟨m, hm, rfl, HM⟩ := hrel
    by_cases hlt : m < s.size
    · have h255 : (s[m].toNat : Int) ≤ 255 := by have := s[m].toNat_lt; omega
      by_cases hb : isB 4 (s[m].toNat : Int) = true
      · have HN : Hid (badN 4 s.data.toList = (m + 1) + badN 4 (s.data.toList.drop (m + 1))) := by
          have := badN_yes 4 s.data.toList m (by simpa using hlt) hb
          show _ = _
          rw [HM.out, this]; omega
        go_wp2_with (go_at_call 56; refine (ris_hex _ _ (by omega) (by omega)).mono ?_; rintro e w' ⟨rfl, rfl⟩)
        go_round
        case rel => exact ⟨m + 1, by omega, by go_num, HN⟩
        case measure => simp [intOf]; omega
      · have hb' : isB 4 (s[m].toNat : Int) = false := by simpa using hb
        have HN : Hid (badN 4 s.data.toList = m) := by
          have := badN_no 4 s.data.toList m (by simpa using hlt) hb'
          show _ = _
          rw [HM.out, this]; omega
        clear hb
        go_wp2_with (go_at_call 56; refine (ris_hex _ _ (by omega) (by omega)).mono ?_; rintro e w' ⟨rfl, rfl⟩)
        go_ret
        exact ⟨ret_i64r (by have := HN.out; omega), rfl⟩
    · have HN : Hid (badN 4 s.data.toList = m) := by
        have := badN_end 4 s.data.toList m (by simp; omega)
        show _ = _
        rw [HM.out, this]; omega
      go_wp2
      go_ret
      exact ⟨ret_i64r (by have := HN.out; omega), rfl⟩
end Go.Proofs.YtenfopabdegmhaaDoor
