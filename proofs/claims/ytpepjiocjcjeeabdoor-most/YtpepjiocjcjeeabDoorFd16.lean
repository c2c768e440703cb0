/-
  The document's Is and Bad of the class Name.
-/
import Derived.Test.YtpepjiocjcjeeabDoorSpan4
import Derived.Test.YtpepjiocjcjeeabDoorFa16
namespace Go.Proofs.YtpepjiocjcjeeabDoor
open Go.RowKit

set_option maxHeartbeats 400000 in
theorem has_any (s : ByteArray) (b : Int) (w : World) (hs : s.size ≤ maxLen) :
    Calls Tryd.prog 52 #[.string s, .int .u8 b] w fun e w' => e = .returned (.bool (hasB s.data.toList b)) ∧ w' = w := by
  unfold maxLen at hs
  go_enter Tryd.func52, Tryd.ntmps52
  go_wp2
  go_loop [5] (fun i => ∃ k : Nat, k ≤ s.size ∧ i = .int .i64 k ∧ Hid (hasB s.data.toList b = hasB (s.data.toList.drop k) b)) (fun i => s.size - (intOf i).toNat)
  case atStart => exact ⟨0, Nat.zero_le _, rfl, rfl⟩
  case round =>
    obtain ⟨k, hk, rfl, HH⟩ := hrel
    by_cases hlt : k < s.size
    · have HS : Hid (hasB (s.data.toList.drop k) b = (((s[k].toNat : Int) == b) || hasB (s.data.toList.drop (k + 1)) b)) := hasB_drop s.data.toList b k (by simpa using hlt)
      by_cases hb : ((s[k].toNat : Int) == b) = true
      · go_wp2
        go_ret
        exact ⟨ret_bool (by rw [HH.out, HS.out, hb]; rfl), rfl⟩
      · have hb' : ((s[k].toNat : Int) == b) = false := by simpa using hb
        clear hb
        go_wp2
        go_round
        case rel => exact ⟨k + 1, by omega, by go_num, by rw [HH.out, HS.out, hb']; rfl⟩
        case measure => simp [intOf]; omega
    · go_wp2
      go_ret
      exact ⟨ret_bool (by rw [HH.out, List.drop_eq_nil_of_le (by simp; omega)]; rfl), rfl⟩

set_option maxHeartbeats 400000 in
theorem shown_any (b : Int) (s : ByteArray) (w : World) (hs : s.size ≤ maxLen) :
    Calls Tryd.prog 53 #[.int .u8 b, .string s] w fun e w' => e = .returned (.bool (shownB b s.data.toList)) ∧ w' = w := by
  unfold shownB
  by_cases h1 : 33 ≤ b
  · by_cases h2 : b ≤ 126
    · go_enter Tryd.func53, Tryd.ntmps53
      go_wp2_with (go_at_call 52; refine (has_any _ _ _ hs).mono ?_; rintro e w' ⟨rfl, rfl⟩)
      go_ret
      exact ⟨ret_bool (by simp [h1, h2]), rfl⟩
    · rw [decide_eq_false h2, Bool.and_false, Bool.false_and]
      go_enter Tryd.func53, Tryd.ntmps53
      go_wp2_with (go_at_call 52; refine (has_any _ _ _ hs).mono ?_; rintro e w' ⟨rfl, rfl⟩)
      go_ret
      exact ⟨rfl, rfl⟩
  · rw [decide_eq_false h1, Bool.false_and, Bool.false_and]
    go_enter Tryd.func53, Tryd.ntmps53
    go_wp2_with (go_at_call 52; refine (has_any _ _ _ hs).mono ?_; rintro e w' ⟨rfl, rfl⟩)
    go_ret
    exact ⟨rfl, rfl⟩
def s11 (b : Int) : Bool := shownB b [58]
theorem shown_11 (b : Int) (w : World) : Calls Tryd.prog 53 #[.int .u8 b, .string ⟨#[58]⟩] w fun e w' => e = .returned (.bool (s11 b)) ∧ w' = w :=
  shown_any b ⟨#[58]⟩ w (by unfold maxLen; decide)
set_option maxHeartbeats 400000 in
theorem ris_11 (b : Int) (w : World) : Calls Tryd.prog 43 #[.int .i64 11, .int .u8 b] w fun e w' => e = .returned (.bool (s11 b)) ∧ w' = w := by
  go_enter Tryd.func43, Tryd.ntmps43
  go_wp2_with fail
  refine (shown_11 b _).mono ?_
  rintro e w' ⟨rfl, rfl⟩
  go_wp2
  go_ret
  exact ⟨rfl, rfl⟩

theorem s11_fin : ∀ b : Fin 256, s11 (b.val : Int) = isB 11 (b.val : Int) := by decide +kernel
theorem s11_is (c : UInt8) : s11 (c.toNat : Int) = isB 11 (c.toNat : Int) := s11_fin ⟨c.toNat, c.toNat_lt⟩
theorem ret_i64r {a b : Int} (h : a = b) : Ending.returned (.int .i64 a) = .returned (.int .i64 b) := by rw [h]

set_option maxRecDepth 100000 in
set_option maxHeartbeats 400000 in
theorem rbad_11 (s : ByteArray) (w : World) (hs : s.size ≤ maxLen) :
    Calls Tryd.prog 27 #[.int .i64 11, .string s] w fun e w' => e = .returned (.int .i64 (badN 11 s.data.toList)) ∧ w' = w := by
  unfold maxLen at hs
  go_enter Tryd.func27, Tryd.ntmps27
  go_wp2
  go_loop [5] (fun i => ∃ m : Nat, m ≤ s.size ∧ i = .int .i64 m ∧ Hid (badN 11 s.data.toList = m + badN 11 (s.data.toList.drop m))) (fun i => s.size - (intOf i).toNat)
  case atStart => exact ⟨0, Nat.zero_le _, rfl, by show _ = _; rw [List.drop_zero, Nat.zero_add]⟩
  case round =>
    obtain ⟨m, hm, rfl, HM⟩ := hrel
    by_cases hlt : m < s.size
    · have hr : s11 (s[m].toNat : Int) = isB 11 (s[m].toNat : Int) := s11_is _
      by_cases hb : isB 11 (s[m].toNat : Int) = true
      · have HN : Hid (badN 11 s.data.toList = (m + 1) + badN 11 (s.data.toList.drop (m + 1))) := by
          have := badN_yes 11 s.data.toList m (by simpa using hlt) hb
          show _ = _
          rw [HM.out, this]; omega
        go_wp2_with (go_at_call 43; refine (ris_11 _ _).mono ?_; rintro e w' ⟨rfl, rfl⟩)
        go_round
        case rel => exact ⟨m + 1, by omega, by go_num, HN⟩
        case measure => simp [intOf]; omega
      · have hb' : isB 11 (s[m].toNat : Int) = false := by simpa using hb
        have HN : Hid (badN 11 s.data.toList = m) := by
          have := badN_no 11 s.data.toList m (by simpa using hlt) hb'
          show _ = _
          rw [HM.out, this]; omega
        clear hb
        go_wp2_with (go_at_call 43; refine (ris_11 _ _).mono ?_; rintro e w' ⟨rfl, rfl⟩)
        go_ret
        exact ⟨ret_i64r (by have := HN.out; omega), rfl⟩
    · have HN : Hid (badN 11 s.data.toList = m) := by
        have := badN_end 11 s.data.toList m (by simp; omega)
        show _ = _
        rw [HM.out, this]; omega
      go_wp2
      go_ret
      exact ⟨ret_i64r (by have := HN.out; omega), rfl⟩
end Go.Proofs.YtpepjiocjcjeeabDoor
/-
  The document's ends, blank, Unfold.
-/
namespace Go.Proofs.YtpepjiocjcjeeabDoor
open Go.RowKit

theorem ublank_any (b : UInt8) (w : World) : Calls Tryd.prog 25 #[.int .u8 (b.toNat : Int)] w fun e w' => e = .returned (.bool (blB b)) ∧ w' = w := by
  unfold blB
  by_cases h1 : b = 32
  · have k1 := u8v (m := 32) h1
    have e1 : (b == 32) = true := by simp [h1]
    rw [e1]
    clear h1 e1
    go_enter Tryd.func25, Tryd.ntmps25
    go_wp2
    go_ret
    exact ⟨rfl, rfl⟩
  · have k1 := u8w (m := 32) h1
    have e1 : (b == 32) = false := by simp [h1]
    rw [e1]
    by_cases h2 : b = 9
    · have k2 := u8v (m := 9) h2
      have e2 : (b == 9) = true := by simp [h2]
      rw [e2]
      clear h1 e1 h2 e2
      go_enter Tryd.func25, Tryd.ntmps25
      go_wp2
      go_ret
      exact ⟨rfl, rfl⟩
    · have k2 := u8w (m := 9) h2
      have e2 : (b == 9) = false := by simp [h2]
      rw [e2]
      clear h1 e1 h2 e2
      go_enter Tryd.func25, Tryd.ntmps25
      go_wp2
      go_ret
      exact ⟨rfl, rfl⟩
set_option maxHeartbeats 1000000 in
theorem uends_any (s : ByteArray) (a : Nat) (hs : s.size ≤ 281474976710656) (ha : a ≤ 281474976710656) (w : World) : Calls Tryd.prog 22 #[.string s, .int .i64 (a : Int)] w fun e w' => e = .returned (.bool (leH (s.data.toList.drop a))) ∧ w' = w := by
  by_cases h : a + 1 < s.size
  · have hr := leH_yes s.data.toList a (by rw [len_list]; exact h)
    rw [at_list s a (by omega), at_list s (a + 1) h] at hr
    rw [hr]
    clear hr
    have h' : (a : Int) + 1 < (s.size : Int) := by omega
    have e1 : IntKind.i64.wrap ((a : Int) + 1) = (a : Int) + 1 := by rw [IntKind.wrap_i64]; omega
    have ga : a < s.size := by omega
    by_cases h1 : s[a] = 13
    · have k1 := u8v (m := 13) h1
      by_cases h2 : s[a + 1] = 10
      · have k2 := u8v (m := 10) h2
        rw [decide_eq_true h1, decide_eq_true h2]
        go_enter Tryd.func22, Tryd.ntmps22
        go_wp2
        go_ret
        exact ⟨rfl, rfl⟩
      · have k2 := u8w (m := 10) h2
        rw [decide_eq_true h1, decide_eq_false h2]
        go_enter Tryd.func22, Tryd.ntmps22
        go_wp2
        go_ret
        exact ⟨rfl, rfl⟩
    · have k1 := u8w (m := 13) h1
      rw [decide_eq_false h1, Bool.false_and]
      go_enter Tryd.func22, Tryd.ntmps22
      go_wp2
      go_ret
      exact ⟨rfl, rfl⟩
  · rw [leH_no _ _ (by rw [len_list]; exact h)]
    have h' : ¬ (a : Int) + 1 < (s.size : Int) := by omega
    have e1 : IntKind.i64.wrap ((a : Int) + 1) = (a : Int) + 1 := by rw [IntKind.wrap_i64]; omega
    go_enter Tryd.func22, Tryd.ntmps22
    go_wp2
    go_ret
    exact ⟨rfl, rfl⟩
end Go.Proofs.YtpepjiocjcjeeabDoor
