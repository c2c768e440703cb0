/-
  The statements' own blank and more.
-/
import Derived.Test.YtpepjiocjcjeeabDoorDe16
import Derived.Test.YtpepjiocjcjeeabDoorFbP
import Derived.Test.YtpepjiocjcjeeabDoorFqP
import Derived.Test.YtpepjiocjcjeeabDoorProg
import Derived.WalkKit
import Derived.Ground.NamesProg
import Derived.Shelf.Strings.SlTrimAscii
namespace Go.Proofs.YtpepjiocjcjeeabDoor
open Go.RowKit

set_option maxHeartbeats 1000000 in
theorem lblank_any (c : UInt8) (w : World) : Calls Tryd.prog 16 #[.int .u8 (c.toNat : Int)] w fun e w' => e = .returned (.bool (blB c)) ∧ w' = w := by
  by_cases h1 : c = 32
  · have k1 := u8v (m := 32) h1
    have HR : Hid (blB c = true) := by rw [h1]; exact rfl
    clear h1
    go_enter Tryd.func16, Tryd.ntmps16
    go_wp2_with fail
    go_ret
    exact ⟨by rw [HR.out]; rfl, rfl⟩
  · have k1 := u8w (m := 32) h1
    by_cases h2 : c = 9
    · have k2 := u8v (m := 9) h2
      have HR : Hid (blB c = true) := by rw [h2]; exact rfl
      clear h1 h2
      go_enter Tryd.func16, Tryd.ntmps16
      go_wp2_with fail
      go_ret
      exact ⟨by rw [HR.out]; rfl, rfl⟩
    · have k2 := u8w (m := 9) h2
      have HR : Hid (blB c = false) := by show _ = _; unfold blB; simp [h1, h2]
      clear h1 h2
      go_enter Tryd.func16, Tryd.ntmps16
      go_wp2_with fail
      go_ret
      exact ⟨by rw [HR.out]; rfl, rfl⟩
set_option maxHeartbeats 4000000 in
theorem lmore_any (s : ByteArray) (hs : s.size ≤ 281474976710656) (w : World) : Calls Tryd.prog 17 #[.string s] w fun e w' => e = .returned (.bool (moreB s.data.toList)) ∧ w' = w := by
  have hsI : (s.size : Int) ≤ 281474976710656 := by omega
  go_enter Tryd.func17, Tryd.ntmps17
  go_wp2_with fail
  go_loopw [3] (fun iv wr => ∃ k : Nat, k ≤ s.size ∧ iv = .int .i64 (k : Int) ∧ wr = w ∧ Hid (moreB s.data.toList = moreB (s.data.toList.drop k))) (fun iv _ => s.size - (intOf iv).toNat)
  case atStart => exact ⟨0, Nat.zero_le _, rfl, rfl, rfl⟩
  case round =>
    obtain ⟨k, hk, rfl, rfl, HE⟩ := hrel
    by_cases hlt : k < s.size
    · have hki : (k : Int) < (s.size : Int) := by omega
      have HE2 : Hid (moreB s.data.toList = (!(blB s[k] || crB s[k]) || moreB (s.data.toList.drop (k + 1)))) := by
        rw [HE.out, List.drop_eq_getElem_cons (show k < s.data.toList.length by rw [len_list]; exact hlt)]
        exact rfl
      clear HE
      by_cases h1 : s[k] = 32
      · have k1 := u8nv (m := 32) h1
        have HR : Hid (moreB s.data.toList = moreB (s.data.toList.drop (k + 1))) := by rw [HE2.out, h1]; exact rfl
        clear HE2 h1
        go_wp2_with fail
        go_roundw
        case rel => exact ⟨k + 1, by omega, by go_num, trivial, HR.out⟩
        case measure => simp [intOf]; omega
      · have k1 := u8nw (m := 32) h1
        by_cases h2 : s[k] = 9
        · have k2 := u8nv (m := 9) h2
          have HR : Hid (moreB s.data.toList = moreB (s.data.toList.drop (k + 1))) := by rw [HE2.out, h2]; exact rfl
          clear HE2 h1 h2
          go_wp2_with fail
          go_roundw
          case rel => exact ⟨k + 1, by omega, by go_num, trivial, HR.out⟩
          case measure => simp [intOf]; omega
        · have k2 := u8nw (m := 9) h2
          by_cases h3 : s[k] = 13
          · have k3 := u8nv (m := 13) h3
            have HR : Hid (moreB s.data.toList = moreB (s.data.toList.drop (k + 1))) := by rw [HE2.out, h3]; exact rfl
            clear HE2 h1 h2 h3
            go_wp2_with fail
            go_roundw
            case rel => exact ⟨k + 1, by omega, by go_num, trivial, HR.out⟩
            case measure => simp [intOf]; omega
          · have k3 := u8nw (m := 13) h3
            by_cases h4 : s[k] = 10
            · have k4 := u8nv (m := 10) h4
              have HR : Hid (moreB s.data.toList = moreB (s.data.toList.drop (k + 1))) := by rw [HE2.out, h4]; exact rfl
              clear HE2 h1 h2 h3 h4
              go_wp2_with fail
              go_roundw
              case rel => exact ⟨k + 1, by omega, by go_num, trivial, HR.out⟩
              case measure => simp [intOf]; omega
            · have k4 := u8nw (m := 10) h4
              have HR : Hid (moreB s.data.toList = true) := by
                show _ = _
                rw [HE2.out]
                unfold blB crB
                simp [h1, h2, h3, h4]
              clear HE2 h1 h2 h3 h4
              go_wp2_with fail
              go_ret
              exact ⟨by rw [HR.out]; rfl, rfl⟩
    · obtain rfl : k = s.size := by omega
      have HR : Hid (moreB s.data.toList = false) := by
        rw [HE.out, List.drop_eq_nil_of_le (by rw [len_list]; exact Nat.le_refl _)]
        exact rfl
      go_wp2_with fail
      go_ret
      exact ⟨by rw [HR.out]; rfl, rfl⟩
end Go.Proofs.YtpepjiocjcjeeabDoor
/-
  The document's joint.
-/
namespace Go.Proofs.YtpepjiocjcjeeabDoor
open Go.RowKit

theorem any_all (l : List UInt8) : (l.any fun c => !blB c) = !l.all blB := by
  induction l with
  | nil => rfl
  | cons c r ih => simp [ih]
set_option maxHeartbeats 2000000 in
theorem ujoint_any (s : ByteArray) (j : Nat) (hs : s.size ≤ 281474976710656) (h : j + 1 < s.size) (w : World) : Calls Tryd.prog 35 #[.string s, .int .i64 ((j : Int) + 1)] w fun e w' => e = .returned (.bool (jtB s.data.toList (j + 1))) ∧ w' = w := by
  have hsI : (s.size : Int) ≤ 281474976710656 := by omega
  have hJ : Hid (jtB s.data.toList (j + 1) = ((blB s[j + 1] && !blB s[j]) && !(s.extract (j + 1) s.size).data.toList.all blB)) := by
    show _ = _
    rw [jt_at s.data.toList (j + 1) (by omega) (by rw [len_list]; exact h), any_all]
    have e : (s.extract (j + 1) s.size).data.toList = s.data.toList.drop (j + 1) := by
      rw [ext_list, List.take_of_length_le (by rw [len_list]; exact Nat.le_refl _)]
    rw [e]
    rfl
  have HB1 : Hid (∀ wx, Calls Tryd.prog 25 #[.int .u8 (s[j + 1].toNat : Int)] wx fun e w' => e = .returned (.bool (blB s[j + 1])) ∧ w' = wx) := fun wx => ublank_any _ wx
  have HB0 : Hid (∀ wx, Calls Tryd.prog 25 #[.int .u8 (s[j].toNat : Int)] wx fun e w' => e = .returned (.bool (blB s[j])) ∧ w' = wx) := fun wx => ublank_any _ wx
  have HA : Hid (∀ wx, Calls Tryd.prog 26 #[.string (s.extract (j + 1) s.size)] wx fun e w' => e = .returned (.bool ((s.extract (j + 1) s.size).data.toList.all blB)) ∧ w' = wx) := fun wx => ublanks_any _ (by rw [ByteArray.size_extract]; omega) wx
  have h0 : (j : Int) + 1 < (s.size : Int) := by omega
  have h1 : (j : Int) < (s.size : Int) := by omega
  have h2 : (0 : Int) < (j : Int) + 1 := by omega
  have e1 : IntKind.i64.wrap (j : Int) = (j : Int) := by rw [IntKind.wrap_i64]; omega
  have e2 : (j : Int) + 1 ≤ (s.size : Int) := by omega
  generalize jtB s.data.toList (j + 1) = R at *
  generalize (s.extract (j + 1) s.size).data.toList.all blB = b3 at *
  generalize blB s[j + 1] = b1 at *
  generalize blB s[j] = b2 at *
  cases b1 with
  | false =>
    have hr : Hid (R = false) := hJ.out
    clear hJ HB0 HA
    go_enter Tryd.func35, Tryd.ntmps35
    go_wp2_with (go_at_call 25; refine (HB1.out _).mono ?_; rintro e w1 ⟨rfl, rfl⟩)
    go_ret
    exact ⟨by rw [hr.out]; rfl, rfl⟩
  | true =>
    cases b2 with
    | true =>
      have hr : Hid (R = false) := hJ.out
      clear hJ HA
      go_enter Tryd.func35, Tryd.ntmps35
      go_wp2_with fail
      refine (HB1.out _).mono ?_
      rintro e w1 ⟨rfl, rfl⟩
      go_wp2_with fail
      refine (HB0.out _).mono ?_
      rintro e w1 ⟨rfl, rfl⟩
      go_wp2_with fail
      go_ret
      exact ⟨by rw [hr.out]; rfl, rfl⟩
    | false =>
      have hr : Hid (R = !b3) := hJ.out
      clear hJ
      go_enter Tryd.func35, Tryd.ntmps35
      go_wp2_with fail
      refine (HB1.out _).mono ?_
      rintro e w1 ⟨rfl, rfl⟩
      go_wp2_with fail
      refine (HB0.out _).mono ?_
      rintro e w1 ⟨rfl, rfl⟩
      go_wp2_with fail
      refine (HA.out _).mono ?_
      rintro e w1 ⟨rfl, rfl⟩
      go_wp2_with fail
      go_ret
      exact ⟨by rw [hr.out]; rfl, rfl⟩
end Go.Proofs.YtpepjiocjcjeeabDoor
/-
  The library's contract of strings.TrimRight, laid at this program.
-/
namespace Go.Proofs
open Go.Shelf
def Tryd.lays162_ren : Go.Shelf.Ren := ⟨fun | 162 => 56 | 232 => 59 | 227 => 60 | 234 => 61 | 236 => 62 | 228 => 63 | 271 => 64 | 151 => 65 | 120 => 66 | 197 => 67 | 152 => 68 | 260 => 69 | 137 => 70 | 119 => 71 | 224 => 72 | 225 => 73 | 217 => 74 | 266 => 75 | n => n, fun | 9 => 9 | 4 => 4 | 3 => 3 | 5 => 5 | 117 => 84 | 116 => 83 | 0 => 0 | 124 => 87 | 21 => 21 | 105 => 89 | 46 => 96 | 119 => 98 | 139 => 101 | 138 => 100 | n => n, fun | 3 => 1 | 4 => 2 | n => n⟩
theorem Tryd.lays162 : Go.Proofs.Lays.n162 Tryd.prog Tryd.lays162_ren := {
  mixed := by kernel_rfl
  f119 := Tryd.func71.trans (congrArg some (by kernel_rfl))
  f120 := Tryd.func66.trans (congrArg some (by kernel_rfl))
  f137 := Tryd.func70.trans (congrArg some (by kernel_rfl))
  f151 := Tryd.func65.trans (congrArg some (by kernel_rfl))
  f152 := Tryd.func68.trans (congrArg some (by kernel_rfl))
  f162 := Tryd.func56.trans (congrArg some (by kernel_rfl))
  f197 := Tryd.func67.trans (congrArg some (by kernel_rfl))
  f217 := Tryd.func74.trans (congrArg some (by kernel_rfl))
  f224 := Tryd.func72.trans (congrArg some (by kernel_rfl))
  f225 := Tryd.func73.trans (congrArg some (by kernel_rfl))
  f227 := Tryd.func60.trans (congrArg some (by kernel_rfl))
  f228 := Tryd.func63.trans (congrArg some (by kernel_rfl))
  f232 := Tryd.func59.trans (congrArg some (by kernel_rfl))
  f234 := Tryd.func61.trans (congrArg some (by kernel_rfl))
  f236 := Tryd.func62.trans (congrArg some (by kernel_rfl))
  f260 := Tryd.func69.trans (congrArg some (by kernel_rfl))
  f266 := Tryd.func75.trans (congrArg some (by kernel_rfl))
  f271 := Tryd.func64.trans (congrArg some (by kernel_rfl))
  t0 := Tryd.underlying0
  a0 := Tryd.isAgg0
  z0 := Tryd.sizeOf0
  v0 := Tryd.zeroValue0
  t3 := Tryd.underlying3
  a3 := Tryd.isAgg3
  z3 := Tryd.sizeOf3
  v3 := Tryd.zeroValue3
  t4 := Tryd.underlying4
  a4 := Tryd.isAgg4
  z4 := Tryd.sizeOf4
  v4 := Tryd.zeroValue4
  t5 := Tryd.underlying5
  a5 := Tryd.isAgg5
  z5 := Tryd.sizeOf5
  v5 := Tryd.zeroValue5
  t9 := Tryd.underlying9
  a9 := Tryd.isAgg9
  z9 := Tryd.sizeOf9
  v9 := Tryd.zeroValue9
  t21 := Tryd.underlying21
  a21 := Tryd.isAgg21
  z21 := Tryd.sizeOf21
  v21 := Tryd.zeroValue21
  t46 := Tryd.underlying96
  a46 := Tryd.isAgg96
  z46 := Tryd.sizeOf96
  v46 := Tryd.zeroValue96
  t105 := Tryd.underlying89
  a105 := Tryd.isAgg89
  z105 := Tryd.sizeOf89
  v105 := Tryd.zeroValue89
  t116 := Tryd.underlying83
  a116 := Tryd.isAgg83
  z116 := Tryd.sizeOf83
  t117 := Tryd.underlying84
  a117 := Tryd.isAgg84
  z117 := Tryd.sizeOf84
  v117 := Tryd.zeroValue84
  t119 := Tryd.underlying98
  a119 := Tryd.isAgg98
  z119 := Tryd.sizeOf98
  t124 := Tryd.underlying87
  a124 := Tryd.isAgg87
  z124 := Tryd.sizeOf87
  v124 := Tryd.zeroValue87
  t138 := Tryd.underlying100
  a138 := Tryd.isAgg100
  z138 := Tryd.sizeOf100
  v138 := Tryd.zeroValue100
  t139 := Tryd.underlying101
  a139 := Tryd.isAgg101
  z139 := Tryd.sizeOf101
  v139 := Tryd.zeroValue101
  g3 := by kernel_rfl
  g4 := by kernel_rfl }
end Go.Proofs
