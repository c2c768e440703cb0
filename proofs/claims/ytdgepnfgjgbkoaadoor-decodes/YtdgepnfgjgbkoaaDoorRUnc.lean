/-
  The document's On, group and Unbase64.
-/
import Derived.Test.YtdgepnfgjgbkoaaDoorRUn
namespace Go.Proofs.YtdgepnfgjgbkoaaDoor
open Go.RowKit

set_option maxHeartbeats 1000000 in
theorem on_any (s : ByteArray) (i : Nat) (hi : i < s.size) (hs : s.size ≤ maxLen) (w : World) : Calls Tryd.prog 75 #[.string s, .int .i64 i] w fun e w' => e = .returned (.bool (onB s.data.toList i)) ∧ w' = w := by
  unfold maxLen at hs
  obtain ⟨K, hK⟩ : ∃ K, K = i / 4 * 4 := ⟨_, rfl⟩
  have HB : Hid (Calls Tryd.prog 93 #[.string (s.extract K (i + 1))] w fun e w' => e = .returned (.bool (decide (okN 0 ((s.data.toList.take (i + 1)).drop K) = i + 1 - K))) ∧ w' = w) := by
    have hsz : (s.extract K (i + 1)).size ≤ 4 := by rw [ByteArray.size_extract]; omega
    have := begun_any (s.extract K (i + 1)) hsz w
    rw [ext_list] at this
    unfold begB at this
    rw [List.length_drop, List.length_take, len_list, show min (i + 1) s.size - K = i + 1 - K by omega] at this
    exact this
  have hq : (i : Int) / 4 * 4 = (K : Int) := by omega
  have HO : Hid (onB s.data.toList i = ((decide (K = 0) || decide (s.data.toList[K - 1]? ≠ some 61)) && decide (okN 0 ((s.data.toList.take (i + 1)).drop K) = i + 1 - K))) := by
    show _ = _
    unfold onB
    rw [← hK]
  generalize decide (okN 0 ((s.data.toList.take (i + 1)).drop K) = i + 1 - K) = r at HB HO
  by_cases h0 : K = 0
  · subst h0
    have HE : Hid (onB s.data.toList i = r) := by show _ = _; rw [HO.out]; simp
    clear HO hK
    have hq' : (i : Int) / 4 * 4 = 0 := by omega
    go_enter Tryd.func75, Tryd.ntmps75
    go_wp2_with (go_at_call 93; refine Calls.mono HB.out ?_; rintro e w1 ⟨rfl, rfl⟩)
    go_ret
    exact ⟨ret_b HE.out.symm, rfl⟩
  · have hlt : K - 1 < s.size := by omega
    have hne : ((K : Int) == 0) = false := by simp; omega
    have hp := pad_ne (s[K - 1]'hlt)
    have e1 : s.data.toList[K - 1]? = some (s[K - 1]'hlt) := by
      rw [List.getElem?_eq_getElem (by rw [len_list]; exact hlt)]
      rfl
    have HE : Hid (onB s.data.toList i = (!decide ((s[K - 1]'hlt) = 61) && r)) := by
      show _ = _
      rw [HO.out, e1]
      simp [h0]
    have hk1 : (K : Int) - 1 = ((K - 1 : Nat) : Int) := by omega
    have hle : K ≤ i := by omega
    clear HO hK e1
    generalize decide ((s[K - 1]'hlt) = 61) = pd at hp HE
    generalize K - 1 = J at hlt hp hk1
    cases pd with
    | true =>
      simp only [Bool.not_true] at hp
      go_enter Tryd.func75, Tryd.ntmps75
      go_wp2_with (go_at_call 93; refine Calls.mono HB.out ?_; rintro e w1 ⟨rfl, rfl⟩)
      go_ret
      exact ⟨ret_b (by rw [HE.out]; rfl), rfl⟩
    | false =>
      simp only [Bool.not_false] at hp
      go_enter Tryd.func75, Tryd.ntmps75
      go_wp2_with (go_at_call 93; refine Calls.mono HB.out ?_; rintro e w1 ⟨rfl, rfl⟩)
      go_ret
      exact ⟨ret_b (by rw [HE.out]; rfl), rfl⟩

/-- The number of a group's letters together. -/
def bitsG (a b c d : UInt8) : Nat := (((numI a).toNat * 64 + (numI b).toNat) * 64 + (numI c).toNat) * 64 + (numI d).toNat
theorem max_num (c : UInt8) : max 0 (numI c) = ((numI c).toNat : Int) := by
  have := numI_lt c
  omega
theorem grp_bits (a b c d : UInt8) : grp a b c d = [UInt8.ofNat (bitsG a b c d / 65536), UInt8.ofNat (bitsG a b c d / 256 % 256), UInt8.ofNat (bitsG a b c d % 256)].take (if c = 61 then 1 else if d = 61 then 2 else 3) := by
  have ba := numI_lt a
  have bb := numI_lt b
  have bc := numI_lt c
  have bd := numI_lt d
  have e1 : UInt8.ofNat (bitsG a b c d / 65536) = UInt8.ofNat ((numI a).toNat * 4 + (numI b).toNat / 16) := by
    unfold bitsG; congr 1; omega
  have e2 : UInt8.ofNat (bitsG a b c d / 256 % 256) = UInt8.ofNat ((numI b).toNat % 16 * 16 + (numI c).toNat / 4) := by
    unfold bitsG; congr 1; omega
  have e3 : UInt8.ofNat (bitsG a b c d % 256) = UInt8.ofNat ((numI c).toNat % 4 * 64 + (numI d).toNat) := by
    unfold bitsG; congr 1; omega
  rw [e1, e2, e3]
  unfold grp
  by_cases hc : c = 61
  · simp [hc]
  · by_cases hd : d = 61 <;> simp [hc, hd]
/-- The first of them. -/
def partG (l : List UInt8) : Nat → Nat
  | 0 => 0
  | k + 1 => partG l k * 64 + (numI (l.getD k 0)).toNat
theorem partG_lt (l : List UInt8) : ∀ k, partG l k < 64 ^ k
  | 0 => by simp [partG]
  | k + 1 => by
    have h1 := partG_lt l k
    have h2 := numI_lt (l.getD k 0)
    rw [partG, Nat.pow_succ]
    omega
theorem bitsG_lt (a b c d : UInt8) : bitsG a b c d < 16777216 := by
  have ba := numI_lt a
  have bb := numI_lt b
  have bc := numI_lt c
  have bd := numI_lt d
  unfold bitsG
  omega

set_option maxHeartbeats 2000000 in
theorem group_any (s : ByteArray) (h4 : s.size = 4) (w : World) : Calls Tryd.prog 77 #[.string s] w fun e w' => ∃ b, e = .returned (.slice (some ⟨b, 0, none⟩) (grp s[0] s[1] s[2] s[3]).length 3) ∧ w.heap.size ≤ b ∧ Bts (some ⟨b, 0, none⟩) (grp s[0] s[1] s[2] s[3]) w' ∧ Below w.heap.size w w' := by
  have HG : Hid (grp s[0] s[1] s[2] s[3] = [UInt8.ofNat (bitsG s[0] s[1] s[2] s[3] / 65536), UInt8.ofNat (bitsG s[0] s[1] s[2] s[3] / 256 % 256), UInt8.ofNat (bitsG s[0] s[1] s[2] s[3] % 256)].take (if s[2] = 61 then 1 else if s[3] = 61 then 2 else 3)) := grp_bits _ _ _ _
  have hlt := bitsG_lt s[0] s[1] s[2] s[3]
  obtain ⟨T, hT⟩ : ∃ T, T = bitsG s[0] s[1] s[2] s[3] := ⟨_, rfl⟩
  rw [← hT] at HG hlt
  have HN : Hid (∀ k, (h : k < s.size) → Calls Tryd.prog 94 #[.int .u8 (s[k].toNat : Int)] w fun e w' => e = .returned (.int .i64 (numI s[k])) ∧ w' = w) := fun k h => number_any s[k] w
  have HS : Hid (T = (((numI s[0]).toNat * 64 + (numI s[1]).toNat) * 64 + (numI s[2]).toNat) * 64 + (numI s[3]).toNat) := by rw [hT]; rfl
  clear hT
  have p2 := pad_eq s[2]
  have p3 := pad_eq s[3]
  obtain ⟨n, hn, hn0, hn3⟩ : ∃ n : Nat, n = (if s[2] = 61 then 1 else if s[3] = 61 then 2 else 3) ∧ 1 ≤ n ∧ n ≤ 3 := ⟨_, rfl, by split <;> first | omega | (split <;> omega), by split <;> first | omega | (split <;> omega)⟩
  rw [← hn] at HG
  generalize grp s[0] s[1] s[2] s[3] = G at HG
  have hGl : G.length = n := by rw [HG.out, List.length_take]; simp; omega
  rw [hGl]
  have HNN : Hid (n = (if s[2] = 61 then 1 else if s[3] = 61 then 2 else 3)) := hn
  clear hGl hn
  by_cases c2 : s[2] = 61
  all_goals by_cases c3 : s[3] = 61
  all_goals
    simp only [c2, c3, decide_true, decide_false, if_true, if_false] at p2 p3 HNN
    have hnn := HNN.out
    subst hnn
    go_enter Tryd.func77, Tryd.ntmps77
    go_wp2_with fail
    go_loop [4, 5] (fun x i => ∃ k y : Nat, k ≤ 4 ∧ i = .int .i64 k ∧ x = .int .i64 y ∧ y < 16777216 ∧ Hid (y = partG s.data.toList k)) (fun _ i => 4 - (intOf i).toNat)
    case atStart => exact ⟨0, 0, by omega, rfl, rfl, by omega, rfl⟩
    case round =>
      obtain ⟨k, y, hk, rfl, rfl, hy, HY⟩ := hrel
      by_cases hlt4 : k < 4
      · have hks : k < s.size := by omega
        have HC := HN.out k hks
        have hy2 : y < 262144 := by
          have := partG_lt s.data.toList k
          rw [← HY.out] at this
          have : 64 ^ k ≤ 64 ^ 3 := Nat.pow_le_pow_right (by omega) (by omega)
          omega
        have HZ : Hid (partG s.data.toList (k + 1) = y * 64 + (numI s[k]).toNat) := by
          show _ = _
          rw [partG, ← HY.out]
          have : s.data.toList.getD k 0 = s[k] := by
            rw [List.getD_eq_getElem?_getD, List.getElem?_eq_getElem (by rw [len_list]; exact hks)]
            rfl
          rw [this]
        have hm := numI_lt s[k]
        generalize numI s[k] = n at HC HZ hm
        have HCC : Hid _ := HC
        clear HC
        by_cases hneg : 0 ≤ n
        · obtain ⟨m, rfl⟩ := Int.eq_ofNat_of_zero_le hneg
          have hmx : max (0 : Int) (m : Int) = (m : Int) := by omega
          go_wp2_with (go_at_call 94; refine Calls.mono HCC.out ?_; rintro e w1 ⟨rfl, rfl⟩)
          go_round
          case rel => exact ⟨k + 1, y * 64 + m, by omega, by go_num, by go_num, by omega, by rw [HZ.out]; rfl⟩
          case measure => simp [intOf]; omega
        · obtain rfl : n = -1 := by omega
          go_wp2_with (go_at_call 94; refine Calls.mono HCC.out ?_; rintro e w1 ⟨rfl, rfl⟩)
          go_round
          case rel => exact ⟨k + 1, y * 64, by omega, by go_num, by go_num, by omega, by rw [HZ.out]; rfl⟩
          case measure => simp [intOf]; omega
      · have HT : Hid (y = T) := by
          obtain rfl : k = 4 := by omega
          show _ = _
          rw [HY.out, HS.out]
          have e : ∀ j, (h : j < s.size) → s.data.toList.getD j 0 = s[j] := fun j h => by
            rw [List.getD_eq_getElem?_getD, List.getElem?_eq_getElem (by rw [len_list]; exact h)]
            rfl
          simp only [partG, e 0 (by omega), e 1 (by omega), e 2 (by omega), e 3 (by omega)]
          omega
        have hyt := HT.out
        subst hyt
        clear HY hk HN HS HT
        go_wp2
        go_ret
        refine ⟨_, rfl, Nat.le_refl _, ?_, (Below.refl _ _).alloc (Nat.le_refl _) _⟩
        rw [HG.out]
        exact three_bts w 5 _ _ _ _ _ _ (by simp; omega) (by simp) (by simp) _

end Go.Proofs.YtdgepnfgjgbkoaaDoor
/-
  The document's Unbase64.
-/
namespace Go.Proofs.YtdgepnfgjgbkoaaDoor
open Go.RowKit

set_option maxHeartbeats 2000000 in
theorem runb_any (s : ByteArray) (hs : s.size ≤ 140737488355328) (w : World) :
    Calls Tryd.prog 55 #[.string s] w fun e w' => ∃ v, e = .returned (.tuple #[v, .agg #[.int .i64 (unbE s.data.toList : Nat), .int .i64 (unbA s.data.toList : Nat)]]) ∧ w'.ownsRow w.heap.size 5 1 v (unbL s.data.toList).length (cellsB (unbL s.data.toList)) ∧ Below w.heap.size w w' := by
  have hmax : s.size ≤ maxLen := by unfold maxLen; omega
  have HN : Hid (∀ k, k < s.size → Calls Tryd.prog 75 #[.string s, .int .i64 k] (w.alloc (.cells #[.int .i64 0, .int .i64 0] 25)) fun e w' => e = .returned (.bool (onB s.data.toList k)) ∧ w' = w.alloc (.cells #[.int .i64 0, .int .i64 0] 25)) := fun k h => on_any s k h hmax _
  clear hmax
  have HB0 : Hid (∀ o, Below w.heap.size w (w.alloc o)) := fun o => (Below.refl _ _).alloc (Nat.le_refl _) o
  go_enter Tryd.func55, Tryd.ntmps55
  go_wp2_with fail
  go_loop [4] (fun i => ∃ k : Nat, k ≤ s.size ∧ i = .int .i64 k ∧ Hid (okN 0 (s.data.toList.take k) = k)) (fun i => s.size - (intOf i).toNat)
  case atStart => exact ⟨0, by omega, rfl, rfl⟩
  case round =>
    obtain ⟨k, hk, rfl, HK⟩ := hrel
    by_cases hlt : k < s.size
    · have hll : k < s.data.toList.length := by rw [len_list]; exact hlt
      have hon := on_iff s.data.toList k hll HK.out
      have HC := HN.out k hlt
      rw [hon] at HC
      have HW : Hid (∀ wx, Calls Tryd.prog 76 #[.int .u8 (s[k].toNat : Int)] wx fun e w' => e = .returned (.int .i64 (errC s[k] : Nat)) ∧ w' = wx) := fun wx => why_any s[k] wx
      cases hn : nextD (stD 0 (s.data.toList.take k)) s.data.toList[k] with
      | some d' =>
        have HS : Hid (okN 0 (s.data.toList.take (k + 1)) = k + 1) := (okN_some 0 _ k hll HK.out d' hn).1
        rw [hn] at HC
        have HCC : Hid _ := HC
        clear HC hon hn HK
        go_wp2_with (go_at_call 75; refine Calls.mono HCC.out ?_; rintro e w1 ⟨rfl, rfl⟩)
        go_round
        case rel => exact ⟨k + 1, by omega, by go_num, HS⟩
        case measure => simp [intOf]; omega
      | none =>
        have he := okN_none 0 _ k hll HK.out hn
        have HE : Hid (unbE s.data.toList = errC s[k] ∧ unbA s.data.toList = k ∧ unbL s.data.toList = []) := by
          refine ⟨?_, ?_, ?_⟩
          · unfold unbE
            rw [dif_pos (by rw [he]; exact hll)]
            simp only [he]
            rfl
          · unfold unbA
            rw [if_pos (by rw [he]; exact hll), he]
          · unfold unbL
            rw [if_pos (by rw [he]; exact hll)]
        rw [hn] at HC
        have HCC : Hid _ := HC
        clear HC hon hn HK he
        go_wp2_with (first | (go_at_call 75; refine Calls.mono HCC.out ?_; rintro e w1 ⟨rfl, rfl⟩) | (go_at_call 76; refine Calls.mono (HW.out _) ?_; rintro e w2 ⟨rfl, rfl⟩))
        refine bodyPost_ret (v := .tuple #[.slice none 0 0, .agg #[.int .i64 (errC s[k] : Nat), .int .i64 (k : Nat)]]) (by simp [results, Tryd.results55, go_sem]) rfl ⟨_, by rw [HE.out.1, HE.out.2.1], ?_, ?_⟩
        · rw [HE.out.2.2]
          exact own_nil _ _
        · exact HB0.out _
    · obtain rfl : k = s.size := by omega
      have hok : okN 0 s.data.toList = s.data.toList.length := by
        have := HK.out
        rw [List.take_of_length_le (by rw [len_list]; exact Nat.le_refl _)] at this
        rw [len_list]
        exact this
      clear HK hk hlt
      by_cases h4 : s.size % 4 = 0
      · have HE : Hid (unbE s.data.toList = 0 ∧ unbA s.data.toList = 0 ∧ unbL s.data.toList = d64L s.data.toList) := by
          refine ⟨?_, ?_, ?_⟩
          · unfold unbE
            rw [dif_neg (by omega), if_neg (by rw [len_list]; omega)]
          · unfold unbA
            rw [if_neg (by omega), if_neg (by rw [len_list]; omega)]
          · unfold unbL
            rw [if_neg (by omega), if_neg (by rw [len_list]; omega)]
        have hq : ((s.size : Int) % 4 != 0) = false := by simp; omega
        have HOK : Hid (okN 0 s.data.toList = s.data.toList.length) := hok
        clear hok HN
        go_wp2_with fail
        go_loopw [5, 6] (fun v i wr => ∃ k : Nat, k ≤ s.size ∧ k % 4 = 0 ∧ i = .int .i64 k ∧ Hid (wr.ownsRow w.heap.size 5 1 v (d64L (s.data.toList.take k)).length (cellsB (d64L (s.data.toList.take k)))) ∧ Hid (Below w.heap.size w wr) ∧ Hid (Lies wr w.heap.size #[.int .i64 0, .int .i64 0] 25)) (fun _ i _ => s.size - (intOf i).toNat)
        case atStart => exact ⟨0, by omega, rfl, rfl, own_nil _ _, HB0.out _, Lies.new _ _ _⟩
        case round =>
          obtain ⟨k, hk, hk4, rfl, HO, HB, HL⟩ := hrel
          by_cases hlt : k < s.size
          · have hk3 : k + 4 ≤ s.size := by omega
            obtain ⟨e0, e1, e2, e3⟩ : ((s.extract k (k + 4))[0]'(by rw [ByteArray.size_extract]; omega)) = s[k] ∧ ((s.extract k (k + 4))[1]'(by rw [ByteArray.size_extract]; omega)) = s[k + 1] ∧ ((s.extract k (k + 4))[2]'(by rw [ByteArray.size_extract]; omega)) = s[k + 2] ∧ ((s.extract k (k + 4))[3]'(by rw [ByteArray.size_extract]; omega)) = s[k + 3] := ⟨by simp [ByteArray.getElem_extract], by simp [ByteArray.getElem_extract], by simp [ByteArray.getElem_extract], by simp [ByteArray.getElem_extract]⟩
            have HC : Hid (∀ wx : World, Calls Tryd.prog 77 #[.string (s.extract k (k + 4))] wx fun e w' => ∃ b, e = .returned (.slice (some ⟨b, 0, none⟩) (grp s[k] s[k + 1] s[k + 2] s[k + 3]).length 3) ∧ wx.heap.size ≤ b ∧ Bts (some ⟨b, 0, none⟩) (grp s[k] s[k + 1] s[k + 2] s[k + 3]) w' ∧ Below wx.heap.size wx w') := fun wx => by
              have := group_any (s.extract k (k + 4)) (by rw [ByteArray.size_extract]; omega) wx
              simp only [e0, e1, e2, e3] at this
              exact this
            have HD : Hid (d64L (s.data.toList.take (k + 4)) = d64L (s.data.toList.take k) ++ grp s[k] s[k + 1] s[k + 2] s[k + 3]) := by
              show _ = _
              have el : s.data.toList.length = s.size := len_list s
              have e4 : s.data.toList.take (k + 4) = s.data.toList.take k ++ [s[k], s[k + 1], s[k + 2], s[k + 3]] := take4 _ k (by omega)
              rw [e4, d64L_append (k / 4) _ _ (by rw [List.length_take]; omega)]
              simp [d64L]
            have hdl := d64L_le (s.data.toList.take k)
            have hgl := (grp_len s[k] s[k + 1] s[k + 2] s[k + 3]).2
            rw [List.length_take, len_list, Nat.min_eq_left hk] at hdl
            clear e0 e1 e2 e3
            generalize grp s[k] s[k + 1] s[k + 2] s[k + 3] = G at HC HD hgl
            generalize d64L (s.data.toList.take k) = D at HO HD hdl
            go_wp2_with fail
            refine Calls.mono (HC.out wr) ?_
            rintro e w1 ⟨b, rfl, hb1, hbt, hbel⟩
            have HO1 : Hid (w1.ownsRow w.heap.size 5 1 u5 D.length (cellsB D)) := own_below HO.out hbel
            have HL1 : Hid (Lies w1 w.heap.size #[.int .i64 0, .int .i64 0] 25) := HL.out.below hbel HL.out.lt
            have HB1 : Hid (Below w.heap.size w w1) := HB.out.trans (hbel.mono HB.out.size)
            have HBT : Hid (Bts (some ⟨b, 0, none⟩) G w1) := hbt
            clear HO HL HB hbt hbel hb1 HC
            go_wp2_with (at_builtin; refine wpList_append_keep rfl _ _ rfl w.heap.size _ _ _ rfl HO1.out _ G G.length 3 rfl rfl HBT.out (fun e => by cases e) (by omega) HB1.out.size ?_; intro v3 w3 hown3 hgrow3)
            have HO3 : Hid (w3.ownsRow w.heap.size 5 1 v3 (d64L (s.data.toList.take (k + 4))).length (cellsB (d64L (s.data.toList.take (k + 4))))) := by
              show World.ownsRow _ _ _ _ _ _ _
              rw [HD.out, List.length_append]
              exact hown3
            have hne : ∀ q, u5.ownBlock = some q → q ≠ w.heap.size := own_apart HO1.out HL1.out (by decide)
            have HL3 : Hid (Lies w3 w.heap.size #[.int .i64 0, .int .i64 0] 25) := (hgrow3.block _ HL1.out.lt (fun e => hne _ e.symm rfl)).trans HL1.out
            have HB3 : Hid (Below w.heap.size w w3) := HB1.out.grown hgrow3 HB1.out.size (fun q hq => (HO1.out.lt q hq).1)
            clear hown3 hgrow3 hne HO1 HL1 HB1 HBT
            go_wp2
            go_roundw
            case rel => exact ⟨k + 4, by omega, by omega, by go_num, HO3, HB3, HL3⟩
            case measure => simp [intOf]; omega
          · obtain rfl : k = s.size := by omega
            have HO2 : Hid (wr.ownsRow w.heap.size 5 1 u5 (d64L s.data.toList).length (cellsB (d64L s.data.toList))) := by
              have := HO.out
              rw [List.take_of_length_le (by rw [len_list]; exact Nat.le_refl _)] at this
              exact this
            have hc0 : wr.cell? ⟨w.heap.size, 0, none⟩ = some (.int .i64 0) := HL.out.cell 0
            have hc1 : wr.cell? ⟨w.heap.size, 1, none⟩ = some (.int .i64 0) := HL.out.cell 1
            have hf0 := HL.out.frozen 0
            have hf1 := HL.out.frozen 1
            have hne : ∀ q, u5.ownBlock = some q → q ≠ w.heap.size := own_apart HO2.out HL.out (by decide)
            clear HO
            go_wp2
            refine bodyPost_ret (v := .tuple #[u5, .agg #[.int .i64 0, .int .i64 0]]) (by simp [results, Tryd.results55, go_sem, hc0, hc1]) rfl ⟨_, by rw [HE.out.1, HE.out.2.1]; rfl, ?_, ?_⟩
            · rw [HE.out.2.2]
              refine own_keep HO2.out (fun q hq => ?_)
              rw [Below.heap_setCell _ _ _ _ (hne q hq), Below.heap_setCell _ _ _ _ (hne q hq)]
            · exact (HB.out.setCell (p := ⟨w.heap.size, 0, none⟩) (Nat.le_refl _) _).setCell (p := ⟨w.heap.size, 1, none⟩) (Nat.le_refl _) _
      · have HE : Hid (unbE s.data.toList = 41 ∧ unbA s.data.toList = s.size ∧ unbL s.data.toList = []) := by
          refine ⟨?_, ?_, ?_⟩
          · unfold unbE
            rw [dif_neg (by omega), if_pos (by rw [len_list]; exact h4)]
          · unfold unbA
            rw [if_neg (by omega), if_pos (by rw [len_list]; exact h4), len_list]
          · unfold unbL
            rw [if_neg (by omega), if_pos (by rw [len_list]; exact h4)]
        have hq : ((s.size : Int) % 4 != 0) = true := by simp; omega
        clear hok
        go_wp2
        refine bodyPost_ret (v := .tuple #[.slice none 0 0, .agg #[.int .i64 41, .int .i64 (s.size : Nat)]]) (by simp [results, Tryd.results55, go_sem]) rfl ⟨_, by rw [HE.out.1, HE.out.2.1]; rfl, ?_, ?_⟩
        · rw [HE.out.2.2]
          exact own_nil _ _
        · exact HB0.out _
end Go.Proofs.YtdgepnfgjgbkoaaDoor
