/-
  The document's On, group and Unbase64.
-/
import Derived.Test.YtenfopabdegmhaaRUn
namespace Go.Proofs.Ytenfopabdegmhaa
open Go.RowKit

set_option maxHeartbeats 1000000 in
theorem on_any (s : ByteArray) (i : Nat) (hi : i < s.size) (hs : s.size ≤ maxLen) (w : World) : Calls Try.prog 21 #[.string s, .int .i64 i] w fun e w' => e = .returned (.bool (onB s.data.toList i)) ∧ w' = w := by
  unfold maxLen at hs
  obtain ⟨K, hK⟩ : ∃ K, K = i / 4 * 4 := ⟨_, rfl⟩
  have HB : Hid (Calls Try.prog 31 #[.string (s.extract K (i + 1))] w fun e w' => e = .returned (.bool (decide (okN 0 ((s.data.toList.take (i + 1)).drop K) = i + 1 - K))) ∧ w' = w) := by
    have hsz : (s.extract K (i + 1)).size ≤ 4 := by rw [ByteArray.size_extract]; omega
    have := begun_any (s.extract K (i + 1)) hsz w
    rw [ext_list] at this
    unfold begB at this
    rw [List.length_drop, List.length_take, len_list, show min (i + 1) s.size - K = i + 1 - K by omega] at this
    exact this
  have hq : (i : Int) / 4 * 4 = (K : Int) := by omega
  have HO : Hid (onB s.data.toList i = ((decide (K = 0) || decide (s.data.toList[K - 1]? ≠ some 61)) && decide (okN 0 ((s.data.toList.take (i + 1)).drop K) = i + 1 - K))) := by
    show _ = _
    unfold onB
    rw [← hK]
  generalize decide (okN 0 ((s.data.toList.take (i + 1)).drop K) = i + 1 - K) = r at HB HO
  by_cases h0 : K = 0
  · subst h0
    have HE : Hid (onB s.data.toList i = r) := by show _ = _; rw [HO.out]; simp
    clear HO hK
    have hq' : (i : Int) / 4 * 4 = 0 := by omega
    go_enter Try.func21, Try.ntmps21
    go_wp2_with (go_at_call 31; refine Calls.mono HB.out ?_; rintro e w1 ⟨rfl, rfl⟩)
    go_ret
    exact ⟨ret_b HE.out.symm, rfl⟩
  · have hlt : K - 1 < s.size := by omega
    have hne : ((K : Int) == 0) = false := by simp; omega
    have hp := pad_ne (s[K - 1]'hlt)
    have e1 : s.data.toList[K - 1]? = some (s[K - 1]'hlt) := by
      rw [List.getElem?_eq_getElem (by rw [len_list]; exact hlt)]
      rfl
    have HE : Hid (onB s.data.toList i = (!decide ((s[K - 1]'hlt) = 61) && r)) := by
      show _ = _
      rw [HO.out, e1]
      simp [h0]
    have hk1 : (K : Int) - 1 = ((K - 1 : Nat) : Int) := by omega
    have hle : K ≤ i := by omega
    clear HO hK e1
    generalize decide ((s[K - 1]'hlt) = 61) = pd at hp HE
    generalize K - 1 = J at hlt hp hk1
    cases pd with
    | true =>
      simp only [Bool.not_true] at hp
      go_enter Try.func21, Try.ntmps21
      go_wp2_with (go_at_call 31; refine Calls.mono HB.out ?_; rintro e w1 ⟨rfl, rfl⟩)
      go_ret
      exact ⟨ret_b (by rw [HE.out]; rfl), rfl⟩
    | false =>
      simp only [Bool.not_false] at hp
      go_enter Try.func21, Try.ntmps21
      go_wp2_with (go_at_call 31; refine Calls.mono HB.out ?_; rintro e w1 ⟨rfl, rfl⟩)
      go_ret
      exact ⟨ret_b (by rw [HE.out]; rfl), rfl⟩

/-- The number of a group's letters together. -/
def bitsG (a b c d : UInt8) : Nat := (((numI a).toNat * 64 + (numI b).toNat) * 64 + (numI c).toNat) * 64 + (numI d).toNat
theorem max_num (c : UInt8) : max 0 (numI c) = ((numI c).toNat : Int) := by
  have := numI_lt c
  omega
theorem grp_bits (a b c d : UInt8) : grp a b c d = [UInt8.ofNat (bitsG a b c d / 65536), UInt8.ofNat (bitsG a b c d / 256 % 256), UInt8.ofNat (bitsG a b c d % 256)].take (if c = 61 then 1 else if d = 61 then 2 else 3) := by
  have ba := numI_lt a
  have bb := numI_lt b
  have bc := numI_lt c
  have bd := numI_lt d
  have e1 : UInt8.ofNat (bitsG a b c d / 65536) = UInt8.ofNat ((numI a).toNat * 4 + (numI b).toNat / 16) := by
    unfold bitsG; congr 1; omega
  have e2 : UInt8.ofNat (bitsG a b c d / 256 % 256) = UInt8.ofNat ((numI b).toNat % 16 * 16 + (numI c).toNat / 4) := by
    unfold bitsG; congr 1; omega
  have e3 : UInt8.ofNat (bitsG a b c d % 256) = UInt8.ofNat ((numI c).toNat % 4 * 64 + (numI d).toNat) := by
    unfold bitsG; congr 1; omega
  rw [e1, e2, e3]
  unfold grp
  by_cases hc : c = 61
  · simp [hc]
  · by_cases hd : d = 61 <;> simp [hc, hd]
/-- The first of them. -/
def partG (l : List UInt8) : Nat → Nat
  | 0 => 0
  | k + 1 => partG l k * 64 + (numI (l.getD k 0)).toNat
theorem partG_lt (l : List UInt8) : ∀ k, partG l k < 64 ^ k
  | 0 => by simp [partG]
  | k + 1 => by
    have h1 := partG_lt l k
    have h2 := numI_lt (l.getD k 0)
    rw [partG, Nat.pow_succ]
    omega
theorem bitsG_lt (a b c d : UInt8) : bitsG a b c d < 16777216 := by
  have ba := numI_lt a
  have bb := numI_lt b
  have bc := numI_lt c
  have bd := numI_lt d
  unfold bitsG
  omega

set_option maxHeartbeats 2000000 in
theorem group_any (s : ByteArray) (h4 : s.size = 4) (w : World) : Calls Try.prog 23 #[.string s] w fun e w' => ∃ b, e = .returned (.slice (some ⟨b, 0, none⟩) (grp s[0] s[1] s[2] s[3]).length 3) ∧ w.heap.size ≤ b ∧ Bts (some ⟨b, 0, none⟩) (grp s[0] s[1] s[2] s[3]) w' ∧ Below w.heap.size w w' := by
  have HG : Hid (grp s[0] s[1] s[2] s[3] = [UInt8.ofNat (bitsG s[0] s[1] s[2] s[3] / 65536), UInt8.ofNat (bitsG s[0] s[1] s[2] s[3] / 256 % 256), UInt8.ofNat (bitsG s[0] s[1] s[2] s[3] % 256)].take (if s[2] = 61 then 1 else if s[3] = 61 then 2 else 3)) := grp_bits _ _ _ _
  have hlt := bitsG_lt s[0] s[1] s[2] s[3]
  obtain ⟨T, hT⟩ : ∃ T, T = bitsG s[0] s[1] s[2] s[3] := ⟨_, rfl⟩
  rw [← hT] at HG hlt
  have HN : Hid (∀ k, (h : k < s.size) → Calls Try.prog 32 #[.int .u8 (s[k].toNat : Int)] w fun e w' => e = .returned (.int .i64 (numI s[k])) ∧ w' = w) := fun k h => number_any s[k] w
  have HS : Hid (T = (((numI s[0]).toNat * 64 + (numI s[1]).toNat) * 64 + (numI s[2]).toNat) * 64 + (numI s[3]).toNat) := by rw [hT]; rfl
  clear hT
  have p2 := pad_eq s[2]
  have p3 := pad_eq s[3]
  obtain ⟨n, hn, hn0, hn3⟩ : ∃ n : Nat, n = (if s[2] = 61 then 1 else if s[3] = 61 then 2 else 3) ∧ 1 ≤ n ∧ n ≤ 3 := ⟨_, rfl, by split <;> first | omega | (split <;> omega), by split <;> first | omega | (split <;> omega)⟩
  rw [← hn] at HG
  generalize grp s[0] s[1] s[2] s[3] = G at HG
  have hGl : G.length = n := by rw [HG.out, List.length_take]; simp; omega
  rw [hGl]
  have HNN : Hid (n = (if s[2] = 61 then 1 else if s[3] = 61 then 2 else 3)) := hn
  clear hGl hn
  by_cases c2 : s[2] = 61
  all_goals by_cases c3 : s[3] = 61
  all_goals
    simp only [c2, c3, decide_true, decide_false, if_true, if_false] at p2 p3 HNN
    have hnn := HNN.out
    subst hnn
    go_enter Try.func23, Try.ntmps23
    go_wp2_with fail
    go_loop [4, 5] (fun x i => ∃ k y : Nat, k ≤ 4 ∧ i = .int .i64 k ∧ x = .int .i64 y ∧ y < 16777216 ∧ Hid (y = partG s.data.toList k)) (fun _ i => 4 - (intOf i).toNat)
    case atStart => exact ⟨0, 0, by omega, rfl, rfl, by omega, rfl⟩
    case round =>
      obtain ⟨k, y, hk, rfl, rfl, hy, HY⟩ := hrel
      by_cases hlt4 : k < 4
      · have hks : k < s.size := by omega
        have HC := HN.out k hks
        have hy2 : y < 262144 := by
          have := partG_lt s.data.toList k
          rw [← HY.out] at this
          have : 64 ^ k ≤ 64 ^ 3 := Nat.pow_le_pow_right (by omega) (by omega)
          omega
        have HZ : Hid (partG s.data.toList (k + 1) = y * 64 + (numI s[k]).toNat) := by
          show _ = _
          rw [partG, ← HY.out]
          have : s.data.toList.getD k 0 = s[k] := by
            rw [List.getD_eq_getElem?_getD, List.getElem?_eq_getElem (by rw [len_list]; exact hks)]
            rfl
          rw [this]
        have hm := numI_lt s[k]
        generalize numI s[k] = n at HC HZ hm
        have HCC : Hid _ := HC
        clear HC
        by_cases hneg : 0 ≤ n
        · obtain ⟨m, rfl⟩ := Int.eq_ofNat_of_zero_le hneg
          have hmx : max (0 : Int) (m : Int) = (m : Int) := by omega
          go_wp2_with (go_at_call 32; refine Calls.mono HCC.out ?_; rintro e w1 ⟨rfl, rfl⟩)
          go_round
          case rel => exact ⟨k + 1, y * 64 + m, by omega, by go_num, by go_num, by omega, by rw [HZ.out]; rfl⟩
          case measure => simp [intOf]; omega
        · obtain rfl : n = -1 := by omega
          go_wp2_with (go_at_call 32; refine Calls.mono HCC.out ?_; rintro e w1 ⟨rfl, rfl⟩)
          go_round
          case rel => exact ⟨k + 1, y * 64, by omega, by go_num, by go_num, by omega, by rw [HZ.out]; rfl⟩
          case measure => simp [intOf]; omega
      · have HT : Hid (y = T) := by
          obtain rfl : k = 4 := by omega
          show _ = _
          rw [HY.out, HS.out]
          have e : ∀ j, (h : j < s.size) → s.data.toList.getD j 0 = s[j] := fun j h => by
            rw [List.getD_eq_getElem?_getD, List.getElem?_eq_getElem (by rw [len_list]; exact h)]
            rfl
          simp only [partG, e 0 (by omega), e 1 (by omega), e 2 (by omega), e 3 (by omega)]
          omega
        have hyt := HT.out
        subst hyt
        clear HY hk HN HS HT
        go_wp2
        go_ret
        refine ⟨_, rfl, Nat.le_refl _, ?_, (Below.refl _ _).alloc (Nat.le_refl _) _⟩
        rw [HG.out]
        exact three_bts w 5 _ _ _ _ _ _ (by simp; omega) (by simp) (by simp) _

end Go.Proofs.Ytenfopabdegmhaa
