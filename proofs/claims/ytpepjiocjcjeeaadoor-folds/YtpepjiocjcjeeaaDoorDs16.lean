/-
  The document's joint.
-/
import Derived.Test.YtpepjiocjcjeeaaDoorDe16
import Derived.Test.YtpepjiocjcjeeaaDoorFqP
namespace Go.Proofs.YtpepjiocjcjeeaaDoor
open Go.RowKit

theorem any_all (l : List UInt8) : (l.any fun c => !blB c) = !l.all blB := by
  induction l with
  | nil => rfl
  | cons c r ih => simp [ih]
set_option maxHeartbeats 2000000 in
theorem ujoint_any (s : ByteArray) (j : Nat) (hs : s.size ≤ 281474976710656) (h : j + 1 < s.size) (w : World) : Calls Tryd.prog 42 #[.string s, .int .i64 ((j : Int) + 1)] w fun e w' => e = .returned (.bool (jtB s.data.toList (j + 1))) ∧ w' = w := by
  have hsI : (s.size : Int) ≤ 281474976710656 := by omega
  have hJ : Hid (jtB s.data.toList (j + 1) = ((blB s[j + 1] && !blB s[j]) && !(s.extract (j + 1) s.size).data.toList.all blB)) := by
    show _ = _
    rw [jt_at s.data.toList (j + 1) (by omega) (by rw [len_list]; exact h), any_all]
    have e : (s.extract (j + 1) s.size).data.toList = s.data.toList.drop (j + 1) := by
      rw [ext_list, List.take_of_length_le (by rw [len_list]; exact Nat.le_refl _)]
    rw [e]
    rfl
  have HB1 : Hid (∀ wx, Calls Tryd.prog 27 #[.int .u8 (s[j + 1].toNat : Int)] wx fun e w' => e = .returned (.bool (blB s[j + 1])) ∧ w' = wx) := fun wx => ublank_any _ wx
  have HB0 : Hid (∀ wx, Calls Tryd.prog 27 #[.int .u8 (s[j].toNat : Int)] wx fun e w' => e = .returned (.bool (blB s[j])) ∧ w' = wx) := fun wx => ublank_any _ wx
  have HA : Hid (∀ wx, Calls Tryd.prog 28 #[.string (s.extract (j + 1) s.size)] wx fun e w' => e = .returned (.bool ((s.extract (j + 1) s.size).data.toList.all blB)) ∧ w' = wx) := fun wx => ublanks_any _ (by rw [ByteArray.size_extract]; omega) wx
  have h0 : (j : Int) + 1 < (s.size : Int) := by omega
  have h1 : (j : Int) < (s.size : Int) := by omega
  have h2 : (0 : Int) < (j : Int) + 1 := by omega
  have e1 : IntKind.i64.wrap (j : Int) = (j : Int) := by rw [IntKind.wrap_i64]; omega
  have e2 : (j : Int) + 1 ≤ (s.size : Int) := by omega
  generalize jtB s.data.toList (j + 1) = R at *
  generalize (s.extract (j + 1) s.size).data.toList.all blB = b3 at *
  generalize blB s[j + 1] = b1 at *
  generalize blB s[j] = b2 at *
  cases b1 with
  | false =>
    have hr : Hid (R = false) := hJ.out
    clear hJ HB0 HA
    go_enter Tryd.func42, Tryd.ntmps42
    go_wp2_with (go_at_call 27; refine (HB1.out _).mono ?_; rintro e w1 ⟨rfl, rfl⟩)
    go_ret
    exact ⟨by rw [hr.out]; rfl, rfl⟩
  | true =>
    cases b2 with
    | true =>
      have hr : Hid (R = false) := hJ.out
      clear hJ HA
      go_enter Tryd.func42, Tryd.ntmps42
      go_wp2_with fail
      refine (HB1.out _).mono ?_
      rintro e w1 ⟨rfl, rfl⟩
      go_wp2_with fail
      refine (HB0.out _).mono ?_
      rintro e w1 ⟨rfl, rfl⟩
      go_wp2_with fail
      go_ret
      exact ⟨by rw [hr.out]; rfl, rfl⟩
    | false =>
      have hr : Hid (R = !b3) := hJ.out
      clear hJ
      go_enter Tryd.func42, Tryd.ntmps42
      go_wp2_with fail
      refine (HB1.out _).mono ?_
      rintro e w1 ⟨rfl, rfl⟩
      go_wp2_with fail
      refine (HB0.out _).mono ?_
      rintro e w1 ⟨rfl, rfl⟩
      go_wp2_with fail
      refine (HA.out _).mono ?_
      rintro e w1 ⟨rfl, rfl⟩
      go_wp2_with fail
      go_ret
      exact ⟨by rw [hr.out]; rfl, rfl⟩
end Go.Proofs.YtpepjiocjcjeeaaDoor
