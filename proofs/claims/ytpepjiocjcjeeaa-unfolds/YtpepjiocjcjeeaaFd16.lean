/-
  The document's ends, blank, Unfold.
-/
import Derived.Test.YtpepjiocjcjeeaaFa16
namespace Go.Proofs.Ytpepjiocjcjeeaa
open Go.RowKit

theorem ublank_any (b : UInt8) (w : World) : Calls Try.prog 16 #[.int .u8 (b.toNat : Int)] w fun e w' => e = .returned (.bool (blB b)) ∧ w' = w := by
  unfold blB
  by_cases h1 : b = 32
  · have k1 := u8v (m := 32) h1
    have e1 : (b == 32) = true := by simp [h1]
    rw [e1]
    clear h1 e1
    go_enter Try.func16, Try.ntmps16
    go_wp2
    go_ret
    exact ⟨rfl, rfl⟩
  · have k1 := u8w (m := 32) h1
    have e1 : (b == 32) = false := by simp [h1]
    rw [e1]
    by_cases h2 : b = 9
    · have k2 := u8v (m := 9) h2
      have e2 : (b == 9) = true := by simp [h2]
      rw [e2]
      clear h1 e1 h2 e2
      go_enter Try.func16, Try.ntmps16
      go_wp2
      go_ret
      exact ⟨rfl, rfl⟩
    · have k2 := u8w (m := 9) h2
      have e2 : (b == 9) = false := by simp [h2]
      rw [e2]
      clear h1 e1 h2 e2
      go_enter Try.func16, Try.ntmps16
      go_wp2
      go_ret
      exact ⟨rfl, rfl⟩
set_option maxHeartbeats 1000000 in
theorem uends_any (s : ByteArray) (a : Nat) (hs : s.size ≤ 281474976710656) (ha : a ≤ 281474976710656) (w : World) : Calls Try.prog 15 #[.string s, .int .i64 (a : Int)] w fun e w' => e = .returned (.bool (leH (s.data.toList.drop a))) ∧ w' = w := by
  by_cases h : a + 1 < s.size
  · have hr := leH_yes s.data.toList a (by rw [len_list]; exact h)
    rw [at_list s a (by omega), at_list s (a + 1) h] at hr
    rw [hr]
    clear hr
    have h' : (a : Int) + 1 < (s.size : Int) := by omega
    have e1 : IntKind.i64.wrap ((a : Int) + 1) = (a : Int) + 1 := by rw [IntKind.wrap_i64]; omega
    have ga : a < s.size := by omega
    by_cases h1 : s[a] = 13
    · have k1 := u8v (m := 13) h1
      by_cases h2 : s[a + 1] = 10
      · have k2 := u8v (m := 10) h2
        rw [decide_eq_true h1, decide_eq_true h2]
        go_enter Try.func15, Try.ntmps15
        go_wp2
        go_ret
        exact ⟨rfl, rfl⟩
      · have k2 := u8w (m := 10) h2
        rw [decide_eq_true h1, decide_eq_false h2]
        go_enter Try.func15, Try.ntmps15
        go_wp2
        go_ret
        exact ⟨rfl, rfl⟩
    · have k1 := u8w (m := 13) h1
      rw [decide_eq_false h1, Bool.false_and]
      go_enter Try.func15, Try.ntmps15
      go_wp2
      go_ret
      exact ⟨rfl, rfl⟩
  · rw [leH_no _ _ (by rw [len_list]; exact h)]
    have h' : ¬ (a : Int) + 1 < (s.size : Int) := by omega
    have e1 : IntKind.i64.wrap ((a : Int) + 1) = (a : Int) + 1 := by rw [IntKind.wrap_i64]; omega
    go_enter Try.func15, Try.ntmps15
    go_wp2
    go_ret
    exact ⟨rfl, rfl⟩
set_option maxHeartbeats 2000000 in
theorem uunfold_any (s : ByteArray) (hs : s.size ≤ 140737488351232) (w : World) : Calls Try.prog 6 #[.string s] w fun e w' => e = .returned (.string (tx (unf s.data.toList))) ∧ Below w.heap.size w w' := by
  have hsI : (s.size : Int) ≤ 140737488351232 := by omega
  go_enter Try.func6, Try.ntmps6
  go_wp2_with fail
  go_loopw [3, 4] (fun ov iv wr => ∃ (k : Nat) (out : List UInt8), k ≤ s.size ∧ iv = .int .i64 (k : Int) ∧ Hid (unf s.data.toList = out ++ unf (s.data.toList.drop k)) ∧ Hid (out.length ≤ k) ∧ Hid (wr.ownsRow w.heap.size 5 1 ov out.length (cellsB out)) ∧ Hid (Below w.heap.size w wr)) (fun _ iv _ => s.size - (intOf iv).toNat)
  case atStart => exact ⟨0, [], Nat.zero_le _, rfl, by show _ = _; simp, Nat.le_refl _, own_nil _ _, Below.refl _ _⟩
  case round =>
    obtain ⟨k, out, hk, rfl, HU, HO, HW, HB⟩ := hrel
    by_cases hlt : k < s.size
    · have hki : (k : Int) < (s.size : Int) := by omega
      have e1 : IntKind.i64.wrap ((k : Int) + 2) = (k : Int) + 2 := by rw [IntKind.wrap_i64]; omega
      have e2 : IntKind.i64.wrap ((k : Int) + 1) = (k : Int) + 1 := by rw [IntKind.wrap_i64]; omega
      have e3 : IntKind.i64.wrap ((k : Int) + 1 + 1) = (k : Int) + 1 + 1 := by rw [IntKind.wrap_i64]; omega
      have HLE : Hid (∀ wx, Calls Try.prog 15 #[.string s, .int .i64 (k : Int)] wx fun e w' => e = .returned (.bool (leH (s.data.toList.drop k))) ∧ w' = wx) := fun wx => uends_any s k (by omega) (by omega) wx
      have HUN : Hid (unf (s.data.toList.drop k) = if fdH (s.data.toList.drop k) then unf (s.data.toList.drop (k + 2)) else s[k] :: unf (s.data.toList.drop (k + 1))) := unf_at s.data.toList k (by rw [len_list]; exact hlt)
      have HST : Hid (fdH (s.data.toList.drop k) = false → unf s.data.toList = (out ++ [s[k]]) ++ unf (s.data.toList.drop (k + 1))) := fun h => by rw [HU.out, HUN.out, h]; simp
      have HSF : Hid (fdH (s.data.toList.drop k) = true → unf s.data.toList = out ++ unf (s.data.toList.drop (k + 2))) := fun h => by rw [HU.out, HUN.out, h]; simp
      by_cases h2 : k + 2 < s.size
      · have h2I : (k : Int) + 2 < (s.size : Int) := by omega
        have HIB : Hid (∀ wx, Calls Try.prog 16 #[.int .u8 (s[k + 2].toNat : Int)] wx fun e w' => e = .returned (.bool (blB s[k + 2])) ∧ w' = wx) := fun wx => ublank_any _ wx
        have HFD : Hid (fdH (s.data.toList.drop k) = (leH (s.data.toList.drop k) && blB s[k + 2])) := by
          rw [fdH_at, List.getElem?_eq_getElem (by rw [len_list]; exact h2)]
          rfl
        generalize leH (s.data.toList.drop k) = b1 at *
        generalize blB s[k + 2] = b2 at *
        cases b1 with
        | false =>
          have HFD : Hid (unf s.data.toList = (out ++ [s[k]]) ++ unf (s.data.toList.drop (k + 1))) := HST.out HFD.out
          clear HSF HST HUN
          go_wp2_with (first | (go_at_call 15; refine (HLE.out _).mono ?_; rintro e w1 ⟨rfl, h1⟩; rw [h1]; clear h1 w1) | (at_builtin; refine wpList_append_byte rfl _ _ rfl w.heap.size _ out.length out rfl (own_below HW.out ((Below.refl _ _).alloc (Nat.le_refl _) _)) wr s[k] _ rfl rfl 1 rfl (by have := HO.out; omega) HB.out.size ?_; intro v4 w4 ho4 hb4; have HO4 : Hid _ := ho4; have HB4 : Hid _ := hb4 w.heap.size w HB.out (Nat.le_refl _); clear ho4 hb4))
          go_round
          case rel => exact ⟨k + 1, out ++ [s[k]], hlt, by go_num, HFD.out, (by have := HO.out; show _ ≤ _; rw [List.length_append, List.length_singleton]; omega), (by show World.ownsRow _ _ _ _ _ _ _; rw [List.length_append, List.length_singleton]; exact HO4.out), HB4.out⟩
          case measure => simp [intOf]; omega
        | true =>
          cases b2 with
          | false =>
            have HFD : Hid (unf s.data.toList = (out ++ [s[k]]) ++ unf (s.data.toList.drop (k + 1))) := HST.out HFD.out
            clear HSF HST HUN
            go_wp2_with (first | (go_at_call 15; refine (HLE.out _).mono ?_; rintro e w1 ⟨rfl, h1⟩; rw [h1]; clear h1 w1) | (go_at_call 16; refine (HIB.out _).mono ?_; rintro e w1 ⟨rfl, h1⟩; rw [h1]; clear h1 w1) | (at_builtin; refine wpList_append_byte rfl _ _ rfl w.heap.size _ out.length out rfl (own_below HW.out ((Below.refl _ _).alloc (Nat.le_refl _) _)) wr s[k] _ rfl rfl 1 rfl (by have := HO.out; omega) HB.out.size ?_; intro v4 w4 ho4 hb4; have HO4 : Hid _ := ho4; have HB4 : Hid _ := hb4 w.heap.size w HB.out (Nat.le_refl _); clear ho4 hb4))
            go_round
            case rel => exact ⟨k + 1, out ++ [s[k]], hlt, by go_num, HFD.out, (by have := HO.out; show _ ≤ _; rw [List.length_append, List.length_singleton]; omega), (by show World.ownsRow _ _ _ _ _ _ _; rw [List.length_append, List.length_singleton]; exact HO4.out), HB4.out⟩
            case measure => simp [intOf]; omega
          | true =>
            have HFD : Hid (unf s.data.toList = out ++ unf (s.data.toList.drop (k + 2))) := HSF.out HFD.out
            clear HSF HST HUN
            go_wp2_with (first | (go_at_call 15; refine (HLE.out _).mono ?_; rintro e w1 ⟨rfl, h1⟩; rw [h1]; clear h1 w1) | (go_at_call 16; refine (HIB.out _).mono ?_; rintro e w1 ⟨rfl, h1⟩; rw [h1]; clear h1 w1))
            go_round
            case rel => exact ⟨k + 2, out, by omega, by go_num, HFD.out, Nat.le_trans HO.out (by omega), HW.out, HB.out⟩
            case measure => simp [intOf]; omega
      · have h2I : ¬ (k : Int) + 2 < (s.size : Int) := by omega
        have HFD : Hid (unf s.data.toList = (out ++ [s[k]]) ++ unf (s.data.toList.drop (k + 1))) := HST.out (fdH_end _ _ (by rw [len_list]; omega))
        generalize leH (s.data.toList.drop k) = b1 at *
        clear HSF HST HUN
        cases b1 with
        | false =>
          go_wp2_with (first | (go_at_call 15; refine (HLE.out _).mono ?_; rintro e w1 ⟨rfl, h1⟩; rw [h1]; clear h1 w1) | (at_builtin; refine wpList_append_byte rfl _ _ rfl w.heap.size _ out.length out rfl (own_below HW.out ((Below.refl _ _).alloc (Nat.le_refl _) _)) wr s[k] _ rfl rfl 1 rfl (by have := HO.out; omega) HB.out.size ?_; intro v4 w4 ho4 hb4; have HO4 : Hid _ := ho4; have HB4 : Hid _ := hb4 w.heap.size w HB.out (Nat.le_refl _); clear ho4 hb4))
          go_round
          case rel => exact ⟨k + 1, out ++ [s[k]], hlt, by go_num, HFD.out, (by have := HO.out; show _ ≤ _; rw [List.length_append, List.length_singleton]; omega), (by show World.ownsRow _ _ _ _ _ _ _; rw [List.length_append, List.length_singleton]; exact HO4.out), HB4.out⟩
          case measure => simp [intOf]; omega
        | true =>
          go_wp2_with (first | (go_at_call 15; refine (HLE.out _).mono ?_; rintro e w1 ⟨rfl, h1⟩; rw [h1]; clear h1 w1) | (at_builtin; refine wpList_append_byte rfl _ _ rfl w.heap.size _ out.length out rfl (own_below HW.out ((Below.refl _ _).alloc (Nat.le_refl _) _)) wr s[k] _ rfl rfl 1 rfl (by have := HO.out; omega) HB.out.size ?_; intro v4 w4 ho4 hb4; have HO4 : Hid _ := ho4; have HB4 : Hid _ := hb4 w.heap.size w HB.out (Nat.le_refl _); clear ho4 hb4))
          go_round
          case rel => exact ⟨k + 1, out ++ [s[k]], hlt, by go_num, HFD.out, (by have := HO.out; show _ ≤ _; rw [List.length_append, List.length_singleton]; omega), (by show World.ownsRow _ _ _ _ _ _ _; rw [List.length_append, List.length_singleton]; exact HO4.out), HB4.out⟩
          case measure => simp [intOf]; omega
    · obtain rfl : k = s.size := by omega
      have HF : Hid (unf s.data.toList = out) := by
        have := HU.out
        rw [List.drop_eq_nil_of_le (by rw [len_list]; exact Nat.le_refl _), unf_nil, List.append_nil] at this
        exact this
      have hcv := own_tx HW.out
      go_wp2_with fail
      go_ret
      exact ⟨by rw [HF.out]; rfl, HB.out⟩
end Go.Proofs.Ytpepjiocjcjeeaa
