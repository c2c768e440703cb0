/-
  The document's ends, blank, Unfold.
-/
import Derived.Test.YtpepjiocjcjeeaaDoorFa16
namespace Go.Proofs.YtpepjiocjcjeeaaDoor
open Go.RowKit

theorem ublank_any (b : UInt8) (w : World) : Calls Tryd.prog 27 #[.int .u8 (b.toNat : Int)] w fun e w' => e = .returned (.bool (blB b)) ∧ w' = w := by
  unfold blB
  by_cases h1 : b = 32
  · have k1 := u8v (m := 32) h1
    have e1 : (b == 32) = true := by simp [h1]
    rw [e1]
    clear h1 e1
    go_enter Tryd.func27, Tryd.ntmps27
    go_wp2
    go_ret
    exact ⟨rfl, rfl⟩
  · have k1 := u8w (m := 32) h1
    have e1 : (b == 32) = false := by simp [h1]
    rw [e1]
    by_cases h2 : b = 9
    · have k2 := u8v (m := 9) h2
      have e2 : (b == 9) = true := by simp [h2]
      rw [e2]
      clear h1 e1 h2 e2
      go_enter Tryd.func27, Tryd.ntmps27
      go_wp2
      go_ret
      exact ⟨rfl, rfl⟩
    · have k2 := u8w (m := 9) h2
      have e2 : (b == 9) = false := by simp [h2]
      rw [e2]
      clear h1 e1 h2 e2
      go_enter Tryd.func27, Tryd.ntmps27
      go_wp2
      go_ret
      exact ⟨rfl, rfl⟩
set_option maxHeartbeats 1000000 in
theorem uends_any (s : ByteArray) (a : Nat) (hs : s.size ≤ 281474976710656) (ha : a ≤ 281474976710656) (w : World) : Calls Tryd.prog 24 #[.string s, .int .i64 (a : Int)] w fun e w' => e = .returned (.bool (leH (s.data.toList.drop a))) ∧ w' = w := by
  by_cases h : a + 1 < s.size
  · have hr := leH_yes s.data.toList a (by rw [len_list]; exact h)
    rw [at_list s a (by omega), at_list s (a + 1) h] at hr
    rw [hr]
    clear hr
    have h' : (a : Int) + 1 < (s.size : Int) := by omega
    have e1 : IntKind.i64.wrap ((a : Int) + 1) = (a : Int) + 1 := by rw [IntKind.wrap_i64]; omega
    have ga : a < s.size := by omega
    by_cases h1 : s[a] = 13
    · have k1 := u8v (m := 13) h1
      by_cases h2 : s[a + 1] = 10
      · have k2 := u8v (m := 10) h2
        rw [decide_eq_true h1, decide_eq_true h2]
        go_enter Tryd.func24, Tryd.ntmps24
        go_wp2
        go_ret
        exact ⟨rfl, rfl⟩
      · have k2 := u8w (m := 10) h2
        rw [decide_eq_true h1, decide_eq_false h2]
        go_enter Tryd.func24, Tryd.ntmps24
        go_wp2
        go_ret
        exact ⟨rfl, rfl⟩
    · have k1 := u8w (m := 13) h1
      rw [decide_eq_false h1, Bool.false_and]
      go_enter Tryd.func24, Tryd.ntmps24
      go_wp2
      go_ret
      exact ⟨rfl, rfl⟩
  · rw [leH_no _ _ (by rw [len_list]; exact h)]
    have h' : ¬ (a : Int) + 1 < (s.size : Int) := by omega
    have e1 : IntKind.i64.wrap ((a : Int) + 1) = (a : Int) + 1 := by rw [IntKind.wrap_i64]; omega
    go_enter Tryd.func24, Tryd.ntmps24
    go_wp2
    go_ret
    exact ⟨rfl, rfl⟩
end Go.Proofs.YtpepjiocjcjeeaaDoor
