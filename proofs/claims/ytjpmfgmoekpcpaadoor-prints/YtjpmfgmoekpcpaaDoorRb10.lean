/-
  The contracts of the document's Bad and Span.
-/
import Derived.Test.YtjpmfgmoekpcpaaDoorRi10
import Derived.Test.YtjpmfgmoekpcpaaDoorPureBad
namespace Go.Proofs.YtjpmfgmoekpcpaaDoor
open Go.RowKit

theorem ret_i64r {a b : Int} (h : a = b) : Ending.returned (.int .i64 a) = .returned (.int .i64 b) := by rw [h]

set_option maxRecDepth 100000 in
set_option maxHeartbeats 400000 in
theorem rbad_any (c : Int) (s : ByteArray) (w : World) (hs : s.size ≤ maxLen) :
    Calls Tryd.prog 69 #[.int .i64 c, .string s] w fun e w' => e = .returned (.int .i64 (badN c s.data.toList)) ∧ w' = w := by
  unfold maxLen at hs
  go_enter Tryd.func69, Tryd.ntmps69
  go_wp2
  go_loop [5] (fun i => ∃ m : Nat, m ≤ s.size ∧ i = .int .i64 m ∧ Hid (badN c s.data.toList = m + badN c (s.data.toList.drop m))) (fun i => s.size - (intOf i).toNat)
  case atStart => exact ⟨0, Nat.zero_le _, rfl, by show _ = _; rw [List.drop_zero, Nat.zero_add]⟩
  case round =>
    obtain ⟨m, hm, rfl, HM⟩ := hrel
    by_cases hlt : m < s.size
    · have hr : refB c (s[m].toNat : Int) = isB c (s[m].toNat : Int) := (is_ref c _ (by omega) (by have := s[m].toNat_lt; omega)).symm
      by_cases hb : isB c (s[m].toNat : Int) = true
      · have HN : Hid (badN c s.data.toList = (m + 1) + badN c (s.data.toList.drop (m + 1))) := by
          have := badN_yes c s.data.toList m (by simpa using hlt) hb
          show _ = _
          rw [HM.out, this]; omega
        go_wp2_with (go_at_call 35; refine (ris_any _ _ _).mono ?_; rintro e w' ⟨rfl, rfl⟩)
        go_round
        case rel => exact ⟨m + 1, by omega, by go_num, HN⟩
        case measure => simp [intOf]; omega
      · have hb' : isB c (s[m].toNat : Int) = false := by simpa using hb
        have HN : Hid (badN c s.data.toList = m) := by
          have := badN_no c s.data.toList m (by simpa using hlt) hb'
          show _ = _
          rw [HM.out, this]; omega
        clear hb
        go_wp2_with (go_at_call 35; refine (ris_any _ _ _).mono ?_; rintro e w' ⟨rfl, rfl⟩)
        go_ret
        exact ⟨ret_i64r (by have := HN.out; omega), rfl⟩
    · have HN : Hid (badN c s.data.toList = m) := by
        have := badN_end c s.data.toList m (by simp; omega)
        show _ = _
        rw [HM.out, this]; omega
      go_wp2
      go_ret
      exact ⟨ret_i64r (by have := HN.out; omega), rfl⟩
end Go.Proofs.YtjpmfgmoekpcpaaDoor
