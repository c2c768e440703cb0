/-
  The document's Unbase64.
-/
import Derived.Test.YtenfopabdegmhaaRUnb
namespace Go.Proofs.Ytenfopabdegmhaa
open Go.RowKit

set_option maxHeartbeats 2000000 in
theorem runb_any (s : ByteArray) (hs : s.size ≤ 140737488355328) (w : World) :
    Calls Try.prog 6 #[.string s] w fun e w' => ∃ v, e = .returned (.tuple #[v, .agg #[.int .i64 (unbE s.data.toList : Nat), .int .i64 (unbA s.data.toList : Nat)]]) ∧ w'.ownsRow w.heap.size 5 1 v (unbL s.data.toList).length (cellsB (unbL s.data.toList)) ∧ Below w.heap.size w w' := by
  have hmax : s.size ≤ maxLen := by unfold maxLen; omega
  have HN : Hid (∀ k, k < s.size → Calls Try.prog 21 #[.string s, .int .i64 k] (w.alloc (.cells #[.int .i64 0, .int .i64 0] 25)) fun e w' => e = .returned (.bool (onB s.data.toList k)) ∧ w' = w.alloc (.cells #[.int .i64 0, .int .i64 0] 25)) := fun k h => on_any s k h hmax _
  clear hmax
  have HB0 : Hid (∀ o, Below w.heap.size w (w.alloc o)) := fun o => (Below.refl _ _).alloc (Nat.le_refl _) o
  go_enter Try.func6, Try.ntmps6
  go_wp2_with fail
  go_loop [4] (fun i => ∃ k : Nat, k ≤ s.size ∧ i = .int .i64 k ∧ Hid (okN 0 (s.data.toList.take k) = k)) (fun i => s.size - (intOf i).toNat)
  case atStart => exact ⟨0, by omega, rfl, rfl⟩
  case round =>
    obtain ⟨k, hk, rfl, HK⟩ := hrel
    by_cases hlt : k < s.size
    · have hll : k < s.data.toList.length := by rw [len_list]; exact hlt
      have hon := on_iff s.data.toList k hll HK.out
      have HC := HN.out k hlt
      rw [hon] at HC
      have HW : Hid (∀ wx, Calls Try.prog 22 #[.int .u8 (s[k].toNat : Int)] wx fun e w' => e = .returned (.int .i64 (errC s[k] : Nat)) ∧ w' = wx) := fun wx => why_any s[k] wx
      cases hn : nextD (stD 0 (s.data.toList.take k)) s.data.toList[k] with
      | some d' =>
        have HS : Hid (okN 0 (s.data.toList.take (k + 1)) = k + 1) := (okN_some 0 _ k hll HK.out d' hn).1
        rw [hn] at HC
        have HCC : Hid _ := HC
        clear HC hon hn HK
        go_wp2_with (go_at_call 21; refine Calls.mono HCC.out ?_; rintro e w1 ⟨rfl, rfl⟩)
        go_round
        case rel => exact ⟨k + 1, by omega, by go_num, HS⟩
        case measure => simp [intOf]; omega
      | none =>
        have he := okN_none 0 _ k hll HK.out hn
        have HE : Hid (unbE s.data.toList = errC s[k] ∧ unbA s.data.toList = k ∧ unbL s.data.toList = []) := by
          refine ⟨?_, ?_, ?_⟩
          · unfold unbE
            rw [dif_pos (by rw [he]; exact hll)]
            simp only [he]
            rfl
          · unfold unbA
            rw [if_pos (by rw [he]; exact hll), he]
          · unfold unbL
            rw [if_pos (by rw [he]; exact hll)]
        rw [hn] at HC
        have HCC : Hid _ := HC
        clear HC hon hn HK he
        go_wp2_with (first | (go_at_call 21; refine Calls.mono HCC.out ?_; rintro e w1 ⟨rfl, rfl⟩) | (go_at_call 22; refine Calls.mono (HW.out _) ?_; rintro e w2 ⟨rfl, rfl⟩))
        refine bodyPost_ret (v := .tuple #[.slice none 0 0, .agg #[.int .i64 (errC s[k] : Nat), .int .i64 (k : Nat)]]) (by simp [results, Try.results6, go_sem]) rfl ⟨_, by rw [HE.out.1, HE.out.2.1], ?_, ?_⟩
        · rw [HE.out.2.2]
          exact own_nil _ _
        · exact HB0.out _
    · obtain rfl : k = s.size := by omega
      have hok : okN 0 s.data.toList = s.data.toList.length := by
        have := HK.out
        rw [List.take_of_length_le (by rw [len_list]; exact Nat.le_refl _)] at this
        rw [len_list]
        exact this
      clear HK hk hlt
      by_cases h4 : s.size % 4 = 0
      · have HE : Hid (unbE s.data.toList = 0 ∧ unbA s.data.toList = 0 ∧ unbL s.data.toList = decL s.data.toList) := by
          refine ⟨?_, ?_, ?_⟩
          · unfold unbE
            rw [dif_neg (by omega), if_neg (by rw [len_list]; omega)]
          · unfold unbA
            rw [if_neg (by omega), if_neg (by rw [len_list]; omega)]
          · unfold unbL
            rw [if_neg (by omega), if_neg (by rw [len_list]; omega)]
        have hq : ((s.size : Int) % 4 != 0) = false := by simp; omega
        have HOK : Hid (okN 0 s.data.toList = s.data.toList.length) := hok
        clear hok HN
        go_wp2_with fail
        go_loopw [5, 6] (fun v i wr => ∃ k : Nat, k ≤ s.size ∧ k % 4 = 0 ∧ i = .int .i64 k ∧ Hid (wr.ownsRow w.heap.size 5 1 v (decL (s.data.toList.take k)).length (cellsB (decL (s.data.toList.take k)))) ∧ Hid (Below w.heap.size w wr) ∧ Hid (Lies wr w.heap.size #[.int .i64 0, .int .i64 0] 25)) (fun _ i _ => s.size - (intOf i).toNat)
        case atStart => exact ⟨0, by omega, rfl, rfl, own_nil _ _, HB0.out _, Lies.new _ _ _⟩
        case round =>
          obtain ⟨k, hk, hk4, rfl, HO, HB, HL⟩ := hrel
          by_cases hlt : k < s.size
          · have hk3 : k + 4 ≤ s.size := by omega
            obtain ⟨e0, e1, e2, e3⟩ : ((s.extract k (k + 4))[0]'(by rw [ByteArray.size_extract]; omega)) = s[k] ∧ ((s.extract k (k + 4))[1]'(by rw [ByteArray.size_extract]; omega)) = s[k + 1] ∧ ((s.extract k (k + 4))[2]'(by rw [ByteArray.size_extract]; omega)) = s[k + 2] ∧ ((s.extract k (k + 4))[3]'(by rw [ByteArray.size_extract]; omega)) = s[k + 3] := ⟨by simp [ByteArray.getElem_extract], by simp [ByteArray.getElem_extract], by simp [ByteArray.getElem_extract], by simp [ByteArray.getElem_extract]⟩
            have HC : Hid (∀ wx : World, Calls Try.prog 23 #[.string (s.extract k (k + 4))] wx fun e w' => ∃ b, e = .returned (.slice (some ⟨b, 0, none⟩) (grp s[k] s[k + 1] s[k + 2] s[k + 3]).length 3) ∧ wx.heap.size ≤ b ∧ Bts (some ⟨b, 0, none⟩) (grp s[k] s[k + 1] s[k + 2] s[k + 3]) w' ∧ Below wx.heap.size wx w') := fun wx => by
              have := group_any (s.extract k (k + 4)) (by rw [ByteArray.size_extract]; omega) wx
              simp only [e0, e1, e2, e3] at this
              exact this
            have HD : Hid (decL (s.data.toList.take (k + 4)) = decL (s.data.toList.take k) ++ grp s[k] s[k + 1] s[k + 2] s[k + 3]) := by
              show _ = _
              have el : s.data.toList.length = s.size := len_list s
              have e4 : s.data.toList.take (k + 4) = s.data.toList.take k ++ [s[k], s[k + 1], s[k + 2], s[k + 3]] := take4 _ k (by omega)
              rw [e4, decL_append (k / 4) _ _ (by rw [List.length_take]; omega)]
              simp [decL]
            have hdl := decL_le (s.data.toList.take k)
            have hgl := (grp_len s[k] s[k + 1] s[k + 2] s[k + 3]).2
            rw [List.length_take, len_list, Nat.min_eq_left hk] at hdl
            clear e0 e1 e2 e3
            generalize grp s[k] s[k + 1] s[k + 2] s[k + 3] = G at HC HD hgl
            generalize decL (s.data.toList.take k) = D at HO HD hdl
            go_wp2_with fail
            refine Calls.mono (HC.out wr) ?_
            rintro e w1 ⟨b, rfl, hb1, hbt, hbel⟩
            have HO1 : Hid (w1.ownsRow w.heap.size 5 1 u5 D.length (cellsB D)) := own_below HO.out hbel
            have HL1 : Hid (Lies w1 w.heap.size #[.int .i64 0, .int .i64 0] 25) := HL.out.below hbel HL.out.lt
            have HB1 : Hid (Below w.heap.size w w1) := HB.out.trans (hbel.mono HB.out.size)
            have HBT : Hid (Bts (some ⟨b, 0, none⟩) G w1) := hbt
            clear HO HL HB hbt hbel hb1 HC
            go_wp2_with (at_builtin; refine wpList_append_keep rfl _ _ rfl w.heap.size _ _ _ rfl HO1.out _ G G.length 3 rfl rfl HBT.out (fun e => by cases e) (by omega) HB1.out.size ?_; intro v3 w3 hown3 hgrow3)
            have HO3 : Hid (w3.ownsRow w.heap.size 5 1 v3 (decL (s.data.toList.take (k + 4))).length (cellsB (decL (s.data.toList.take (k + 4))))) := by
              show World.ownsRow _ _ _ _ _ _ _
              rw [HD.out, List.length_append]
              exact hown3
            have hne : ∀ q, u5.ownBlock = some q → q ≠ w.heap.size := own_apart HO1.out HL1.out (by decide)
            have HL3 : Hid (Lies w3 w.heap.size #[.int .i64 0, .int .i64 0] 25) := (hgrow3.block _ HL1.out.lt (fun e => hne _ e.symm rfl)).trans HL1.out
            have HB3 : Hid (Below w.heap.size w w3) := HB1.out.grown hgrow3 HB1.out.size (fun q hq => (HO1.out.lt q hq).1)
            clear hown3 hgrow3 hne HO1 HL1 HB1 HBT
            go_wp2
            go_roundw
            case rel => exact ⟨k + 4, by omega, by omega, by go_num, HO3, HB3, HL3⟩
            case measure => simp [intOf]; omega
          · obtain rfl : k = s.size := by omega
            have HO2 : Hid (wr.ownsRow w.heap.size 5 1 u5 (decL s.data.toList).length (cellsB (decL s.data.toList))) := by
              have := HO.out
              rw [List.take_of_length_le (by rw [len_list]; exact Nat.le_refl _)] at this
              exact this
            have hc0 : wr.cell? ⟨w.heap.size, 0, none⟩ = some (.int .i64 0) := HL.out.cell 0
            have hc1 : wr.cell? ⟨w.heap.size, 1, none⟩ = some (.int .i64 0) := HL.out.cell 1
            have hf0 := HL.out.frozen 0
            have hf1 := HL.out.frozen 1
            have hne : ∀ q, u5.ownBlock = some q → q ≠ w.heap.size := own_apart HO2.out HL.out (by decide)
            clear HO
            go_wp2
            refine bodyPost_ret (v := .tuple #[u5, .agg #[.int .i64 0, .int .i64 0]]) (by simp [results, Try.results6, go_sem, hc0, hc1]) rfl ⟨_, by rw [HE.out.1, HE.out.2.1]; rfl, ?_, ?_⟩
            · rw [HE.out.2.2]
              refine own_keep HO2.out (fun q hq => ?_)
              rw [Below.heap_setCell _ _ _ _ (hne q hq), Below.heap_setCell _ _ _ _ (hne q hq)]
            · exact (HB.out.setCell (p := ⟨w.heap.size, 0, none⟩) (Nat.le_refl _) _).setCell (p := ⟨w.heap.size, 1, none⟩) (Nat.le_refl _) _
      · have HE : Hid (unbE s.data.toList = 41 ∧ unbA s.data.toList = s.size ∧ unbL s.data.toList = []) := by
          refine ⟨?_, ?_, ?_⟩
          · unfold unbE
            rw [dif_neg (by omega), if_pos (by rw [len_list]; exact h4)]
          · unfold unbA
            rw [if_neg (by omega), if_pos (by rw [len_list]; exact h4), len_list]
          · unfold unbL
            rw [if_neg (by omega), if_pos (by rw [len_list]; exact h4)]
        have hq : ((s.size : Int) % 4 != 0) = true := by simp; omega
        clear hok
        go_wp2
        refine bodyPost_ret (v := .tuple #[.slice none 0 0, .agg #[.int .i64 41, .int .i64 (s.size : Nat)]]) (by simp [results, Try.results6, go_sem]) rfl ⟨_, by rw [HE.out.1, HE.out.2.1]; rfl, ?_, ?_⟩
        · rw [HE.out.2.2]
          exact own_nil _ _
        · exact HB0.out _
end Go.Proofs.Ytenfopabdegmhaa
