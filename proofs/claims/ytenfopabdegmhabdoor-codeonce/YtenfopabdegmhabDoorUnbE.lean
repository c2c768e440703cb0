/-
  Unbase64 of a text that is not taken, of any length.
-/
import Derived.Test.YtenfopabdegmhabDoorUnb
import Derived.Test.YtenfopabdegmhabDoorOncP
namespace Go.Proofs.YtenfopabdegmhabDoor
open Go.RowKit

set_option maxHeartbeats 4000000 in
set_option maxRecDepth 100000 in
theorem unb_err (s : ByteArray) (hs : s.size ≤ 4611686018427387904) (hnz : unbE s.data.toList ≠ 0) (w : World) :
    Calls Tryd.prog 9 #[.string s] w fun e w' => ∃ v, e = .returned (.tuple #[v, .agg #[.int .i64 (unbE s.data.toList : Nat), .int .i64 (unbA s.data.toList : Nat)]]) ∧ w'.ownsRow w.heap.size 5 1 v (unbL s.data.toList).length (cellsB (unbL s.data.toList)) ∧ Below w.heap.size w w' := by
  have HNZ : Hid (unbE s.data.toList ≠ 0) := hnz
  clear hnz
  have HB0 : Hid (∀ o, Below w.heap.size w (w.alloc o)) := fun o => (Below.refl _ _).alloc (Nat.le_refl _) o
  go_enter Tryd.func9, Tryd.ntmps9
  go_wp2_with fail
  go_loop [4, 9] (fun d i => ∃ k x : Nat, k ≤ s.size ∧ i = .int .i64 k ∧ d = .int .i64 x ∧ x < 8 ∧ Hid (okN 0 (s.data.toList.take k) = k ∧ x = stD 0 (s.data.toList.take k))) (fun _ i => s.size - (intOf i).toNat)
  case atStart => exact ⟨0, 0, by omega, rfl, rfl, by omega, rfl, rfl⟩
  case round =>
    obtain ⟨k, x, hk, rfl, rfl, hx, HK⟩ := hrel
    by_cases hlt : k < s.size
    · have hll : k < s.data.toList.length := by rw [len_list]; exact hlt
      have HC : Hid (∀ wx, Calls Tryd.prog 19 #[.int .i64 x, .int .u8 (s[k].toNat : Int)] wx fun e w' => e = .returned (.tuple #[.int .i64 (behD x s[k] : Nat), .int .i64 (behE x s[k] : Nat)]) ∧ w' = wx) := fun wx => behind_any x hx s[k] wx
      cases hn : nextD x s[k] with
      | some d' =>
        have HS : Hid (okN 0 (s.data.toList.take (k + 1)) = k + 1 ∧ d' = stD 0 (s.data.toList.take (k + 1))) := by
          have := okN_some 0 _ k hll HK.out.1 d' (by rw [← HK.out.2]; exact hn)
          exact ⟨this.1, this.2.symm⟩
        rw [(behD_some hn).1, (behD_some hn).2] at HC
        have hd := nextD_lt _ _ _ hn
        clear hn HK
        go_wp2_with (go_at_call 19; refine Calls.mono (HC.out _) ?_; rintro e w1 ⟨rfl, rfl⟩)
        go_round
        case rel => exact ⟨k + 1, d', by omega, by go_num, rfl, hd, HS⟩
        case measure => simp [intOf]; omega
      | none =>
        have he := okN_none 0 _ k hll HK.out.1 (by rw [← HK.out.2]; exact hn)
        have HE : Hid (unbE s.data.toList = errC s[k] ∧ unbA s.data.toList = k ∧ unbL s.data.toList = []) := by
          refine ⟨?_, ?_, ?_⟩
          · unfold unbE
            rw [dif_pos (by rw [he]; exact hll)]
            simp only [he]
            rfl
          · unfold unbA
            rw [if_pos (by rw [he]; exact hll), he]
          · unfold unbL
            rw [if_pos (by rw [he]; exact hll)]
        rw [behE_none hn] at HC
        have hne : (((errC s[k] : Nat) : Int) != 0) = true := by have := errC_pos s[k]; simp; omega
        clear hn HK he
        go_wp2_with (go_at_call 19; refine Calls.mono (HC.out _) ?_; rintro e w1 ⟨rfl, rfl⟩)
        refine bodyPost_ret (v := .tuple #[.slice none 0 0, .agg #[.int .i64 (errC s[k] : Nat), .int .i64 (k : Nat)]]) (by simp [results, Tryd.results9, go_sem]) rfl ⟨_, by rw [HE.out.1, HE.out.2.1], ?_, ?_⟩
        · rw [HE.out.2.2]
          exact own_nil _ _
        · exact HB0.out _
    · obtain rfl : k = s.size := by omega
      have hok : okN 0 s.data.toList = s.data.toList.length := by
        have := HK.out.1
        rw [List.take_of_length_le (by rw [len_list]; exact Nat.le_refl _)] at this
        rw [len_list]
        exact this
      clear HK hk hlt
      by_cases h4 : s.size % 4 = 0
      · have HE : Hid (unbE s.data.toList = 0 ∧ unbA s.data.toList = 0 ∧ unbL s.data.toList = decL s.data.toList) := by
          refine ⟨?_, ?_, ?_⟩
          · unfold unbE
            rw [dif_neg (by omega), if_neg (by rw [len_list]; omega)]
          · unfold unbA
            rw [if_neg (by omega), if_neg (by rw [len_list]; omega)]
          · unfold unbL
            rw [if_neg (by omega), if_neg (by rw [len_list]; omega)]
        exact absurd HE.out.1 HNZ.out
      · have HE : Hid (unbE s.data.toList = 41 ∧ unbA s.data.toList = s.size ∧ unbL s.data.toList = []) := by
          refine ⟨?_, ?_, ?_⟩
          · unfold unbE
            rw [dif_neg (by omega), if_pos (by rw [len_list]; exact h4)]
          · unfold unbA
            rw [if_neg (by omega), if_pos (by rw [len_list]; exact h4), len_list]
          · unfold unbL
            rw [if_neg (by omega), if_pos (by rw [len_list]; exact h4)]
        have hq : ((s.size : Int) % 4 != 0) = true := by simp; omega
        clear hok
        go_wp2
        refine bodyPost_ret (v := .tuple #[.slice none 0 0, .agg #[.int .i64 41, .int .i64 (s.size : Nat)]]) (by simp [results, Tryd.results9, go_sem]) rfl ⟨_, by rw [HE.out.1, HE.out.2.1]; rfl, ?_, ?_⟩
        · rw [HE.out.2.2]
          exact own_nil _ _
        · exact HB0.out _
end Go.Proofs.YtenfopabdegmhabDoor
