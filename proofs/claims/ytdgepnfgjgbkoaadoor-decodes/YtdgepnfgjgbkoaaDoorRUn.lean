/-
  The document's begun, On, group and Unbase64.
-/
import Derived.Test.YtdgepnfgjgbkoaaDoorRDue
import Derived.Test.YtdgepnfgjgbkoaaDoorChk2
namespace Go.Proofs.YtdgepnfgjgbkoaaDoor
open Go.RowKit

/-- A group's begin, as the document asks. -/
def begB (g : List UInt8) : Bool := decide (okN 0 g = g.length)

theorem beg1 (a : UInt8) : begB [a] = decide (0 ≤ numI a) := by
  unfold begB
  by_cases h : 0 ≤ numI a
  · simp [okN, nextD, h]
  · by_cases e : a = 61 <;> simp [okN, nextD, h, e, num_pad]
theorem beg2 (a b : UInt8) (ha : 0 ≤ numI a) : begB [a, b] = decide (0 ≤ numI b) := by
  unfold begB
  by_cases h : 0 ≤ numI b
  · by_cases q : numI b % 16 = 0 <;> simp [okN, nextD, ha, h, q]
  · by_cases e : b = 61 <;> simp [okN, nextD, ha, h, e, num_pad]
theorem beg3 (a b c : UInt8) (ha : 0 ≤ numI a) (hb : 0 ≤ numI b) : begB [a, b, c] = (decide (0 ≤ numI c) || (decide (c = 61) && decide (numI b % 2 ^ 4 = 0))) := by
  unfold begB
  have e16 : (2 : Int) ^ 4 = 16 := rfl
  rw [e16]
  by_cases h : 0 ≤ numI c
  · by_cases q : numI b % 16 = 0 <;> by_cases r : numI c % 4 = 0 <;> simp [okN, nextD, ha, hb, h, q, r]
  · by_cases e : c = 61 <;> by_cases q : numI b % 16 = 0 <;> simp [okN, nextD, ha, hb, h, e, q, num_pad]
theorem beg4 (a b c d : UInt8) (ha : 0 ≤ numI a) (hb : 0 ≤ numI b) (hc : begB [a, b, c] = true) :
    begB [a, b, c, d] = (if c = 61 then decide (d = 61) else (decide (0 ≤ numI d) || (decide (d = 61) && decide (numI c % 2 ^ 2 = 0)))) := by
  rw [beg3 a b c ha hb] at hc
  unfold begB
  have e4 : (2 : Int) ^ 2 = 4 := rfl
  have e16 : (2 : Int) ^ 4 = 16 := rfl
  rw [e4]
  rw [e16] at hc
  by_cases h : 0 ≤ numI c
  · have hne := ne_pad h
    rw [if_neg hne]
    by_cases hd : 0 ≤ numI d
    · by_cases q : numI b % 16 = 0 <;> by_cases r : numI c % 4 = 0 <;> simp [okN, nextD, ha, hb, h, hd, q, r]
    · by_cases e : d = 61 <;> by_cases q : numI b % 16 = 0 <;> by_cases r : numI c % 4 = 0 <;> simp [okN, nextD, ha, hb, h, hd, e, q, r, num_pad]
  · simp [h] at hc
    obtain ⟨rfl, q⟩ := hc
    rw [if_pos rfl]
    by_cases hd : 0 ≤ numI d
    · have := ne_pad hd
      simp [okN, nextD, ha, hb, hd, q, num_pad, this]
    · by_cases e : d = 61 <;> simp [okN, nextD, ha, hb, hd, e, q, num_pad]
theorem begB_pre (g : List UInt8) (k : Nat) (h : begB (g.take k) = false) : begB g = false := by
  unfold begB at *
  simp only [decide_eq_false_iff_not] at *
  intro e
  exact h (okN_pre 0 g k (by
    rcases Nat.lt_or_ge k g.length with h' | h'
    · omega
    · rw [List.take_of_length_le h'] at h
      exact absurd e h))

theorem begB_take (g : List UInt8) (k j : Nat) (hj : j ≤ k) (h : begB (g.take k) = true) : begB (g.take j) = true := by
  cases hb : begB (g.take j) with
  | true => rfl
  | false =>
    have := begB_pre (g.take k) j (by rw [List.take_take, Nat.min_eq_left hj]; exact hb)
    rw [h] at this
    cases this
theorem T1 (s : ByteArray) (h : 0 < s.size) : s.data.toList.take 1 = [s[0]] := by
  have hl : s.data.toList.length = s.size := by rw [Array.length_toList]; rfl
  rw [List.take_succ_eq_append_getElem (by omega)]
  rfl
theorem T2 (s : ByteArray) (h : 1 < s.size) : s.data.toList.take 2 = [s[0], s[1]] := by
  have hl : s.data.toList.length = s.size := by rw [Array.length_toList]; rfl
  rw [List.take_succ_eq_append_getElem (by omega), T1 s (by omega)]
  rfl
theorem T3 (s : ByteArray) (h : 2 < s.size) : s.data.toList.take 3 = [s[0], s[1], s[2]] := by
  have hl : s.data.toList.length = s.size := by rw [Array.length_toList]; rfl
  rw [List.take_succ_eq_append_getElem (by omega), T2 s (by omega)]
  rfl
theorem T4 (s : ByteArray) (h : 3 < s.size) : s.data.toList.take 4 = [s[0], s[1], s[2], s[3]] := by
  have hl : s.data.toList.length = s.size := by rw [Array.length_toList]; rfl
  rw [List.take_succ_eq_append_getElem (by omega), T3 s (by omega)]
  rfl
theorem pre1 (s : ByteArray) (h : 0 < s.size) (hb : begB (s.data.toList.take 1) = true) : 0 ≤ numI s[0] := by
  rw [T1 s h, beg1] at hb
  simpa using hb
theorem pre2 (s : ByteArray) (h : 1 < s.size) (hb : begB (s.data.toList.take 2) = true) : 0 ≤ numI s[1] := by
  have h0 := pre1 s (by omega) (begB_take _ 2 1 (by omega) hb)
  rw [T2 s h, beg2 _ _ h0] at hb
  simpa using hb
theorem pre3 (s : ByteArray) (h : 2 < s.size) (h0 : 0 ≤ numI s[0]) (h1 : 0 ≤ numI s[1]) (hb : begB (s.data.toList.take 3) = true) (hne : s[2] ≠ 61) : 0 ≤ numI s[2] := by
  rw [T3 s h, beg3 _ _ _ h0 h1] at hb
  simpa [hne] using hb

set_option maxHeartbeats 2000000 in
set_option maxRecDepth 100000 in
theorem begun_any (s : ByteArray) (h4 : s.size ≤ 4) (w : World) : Calls Tryd.prog 93 #[.string s] w fun e w' => e = .returned (.bool (begB s.data.toList)) ∧ w' = w := by
  have HL : Hid (s.data.toList.length = s.size) := by show _ = _; rw [Array.length_toList]; rfl
  go_enter Tryd.func93, Tryd.ntmps93
  go_wp2_with fail
  go_loop [3] (fun i => ∃ k : Nat, k ≤ s.size ∧ i = .int .i64 k ∧ Hid (begB (s.data.toList.take k) = true)) (fun i => s.size - (intOf i).toNat)
  case atStart => exact ⟨0, by omega, rfl, rfl⟩
  case round =>
    obtain ⟨k, hk, rfl, HK⟩ := hrel
    by_cases hlt : k < s.size
    · have HN : Hid (Calls Tryd.prog 94 #[.int .u8 (s[k].toNat : Int)] w fun e w' => e = .returned (.int .i64 (numI s[k])) ∧ w' = w) := number_any s[k] w
      have HT : Hid (s.data.toList.take (k + 1) = s.data.toList.take k ++ [s[k]]) := by
        show _ = _
        rw [List.take_succ_eq_append_getElem (by rw [HL.out]; exact hlt)]
        rfl
      have hk4 : k = 0 ∨ k = 1 ∨ k = 2 ∨ k = 3 := by omega
      rcases hk4 with rfl | rfl | rfl | rfl
      · have HB : Hid (begB (s.data.toList.take 1) = decide (0 ≤ numI s[0])) := by
          show _ = _
          rw [HT.out]
          exact beg1 s[0]
        clear HK HT
        generalize numI s[0] = n at HN HB
        by_cases hp : (0 : Int) ≤ n
        · have hq : decide ((0 : Int) ≤ n) = true := by simpa using hp
          have HE : Hid (begB (s.data.toList.take 1) = true) := by show _ = _; rw [HB.out]; exact hq
          clear HB hp
          go_wp2_with (go_at_call 94; refine Calls.mono HN.out ?_; rintro e w1 ⟨rfl, rfl⟩)
          go_round
          case rel => exact ⟨1, by omega, by go_num, HE⟩
          case measure => simp [intOf]; omega
        · have hq : decide ((0 : Int) ≤ n) = false := by simpa using hp
          have HE : Hid (begB s.data.toList = false) := by show _ = _; exact begB_pre _ 1 (by rw [HB.out]; exact hq)
          clear HB hp
          go_wp2_with (go_at_call 94; refine Calls.mono HN.out ?_; rintro e w1 ⟨rfl, rfl⟩)
          go_ret
          exact ⟨ret_b HE.out.symm, rfl⟩
      · have HB : Hid (begB (s.data.toList.take 2) = decide (0 ≤ numI s[1])) := by
          show _ = _
          rw [T2 s hlt]
          exact beg2 s[0] s[1] (pre1 s (by omega) (by have := HK.out; exact this))
        clear HK HT
        generalize numI s[1] = n at HN HB
        by_cases hp : (0 : Int) ≤ n
        · have hq : decide ((0 : Int) ≤ n) = true := by simpa using hp
          have HE : Hid (begB (s.data.toList.take 2) = true) := by show _ = _; rw [HB.out]; exact hq
          clear HB hp
          go_wp2_with (go_at_call 94; refine Calls.mono HN.out ?_; rintro e w1 ⟨rfl, rfl⟩)
          go_round
          case rel => exact ⟨2, by omega, by go_num, HE⟩
          case measure => simp [intOf]; omega
        · have hq : decide ((0 : Int) ≤ n) = false := by simpa using hp
          have HE : Hid (begB s.data.toList = false) := by show _ = _; exact begB_pre _ 2 (by rw [HB.out]; exact hq)
          clear HB hp
          go_wp2_with (go_at_call 94; refine Calls.mono HN.out ?_; rintro e w1 ⟨rfl, rfl⟩)
          go_ret
          exact ⟨ret_b HE.out.symm, rfl⟩
      · have h0 : 0 ≤ numI s[0] := pre1 s (by omega) (begB_take _ 2 1 (by omega) HK.out)
        have h1 : 0 ≤ numI s[1] := pre2 s (by omega) HK.out
        have HB : Hid (begB (s.data.toList.take 3) = (decide ((0 : Int) ≤ numI s[2]) || (decide (s[2] = 61) && decide (numI s[1] % 2 ^ 4 = 0)))) := by
          show _ = _
          rw [T3 s hlt]
          exact beg3 s[0] s[1] s[2] h0 h1
        have HW : Hid (Calls Tryd.prog 107 #[.int .u8 (s[1].toNat : Int), .int .i64 4] w fun e w' => e = .returned (.bool (decide (numI s[1] % 2 ^ 4 = 0))) ∧ w' = w) := low_any s[1] h1 4 (by omega) w
        have hpe := pad_ne s[2]
        clear HK HT h0 h1
        generalize decide (numI s[1] % 2 ^ 4 = 0) = lw at HW HB
        generalize numI s[2] = n at HN HB
        generalize decide (s[2] = 61) = pd at HB hpe
        by_cases hp : (0 : Int) ≤ n
        · have hq : decide ((0 : Int) ≤ n) = true := by simpa using hp
          have HE : Hid (begB (s.data.toList.take 3) = true) := by show _ = _; rw [HB.out, hq]; rfl
          clear HB hp
          go_wp2_with (first | (go_at_call 94; refine Calls.mono HN.out ?_; rintro e w1 ⟨rfl, rfl⟩) | (go_at_call 107; refine Calls.mono HW.out ?_; rintro e w1 ⟨rfl, rfl⟩))
          go_round
          case rel => exact ⟨3, by omega, by go_num, HE⟩
          case measure => simp [intOf]; omega
        · have hq : decide ((0 : Int) ≤ n) = false := by simpa using hp
          rw [hq, Bool.false_or] at HB
          cases pd with
          | false =>
            have HE : Hid (begB s.data.toList = false) := by show _ = _; exact begB_pre _ 3 HB.out
            clear HB hp
            simp only [Bool.not_false] at hpe
            go_wp2_with (first | (go_at_call 94; refine Calls.mono HN.out ?_; rintro e w1 ⟨rfl, rfl⟩) | (go_at_call 107; refine Calls.mono HW.out ?_; rintro e w1 ⟨rfl, rfl⟩))
            go_ret
            exact ⟨ret_b HE.out.symm, rfl⟩
          | true =>
            simp only [Bool.not_true] at hpe
            cases lw with
            | false =>
              have HE : Hid (begB s.data.toList = false) := by show _ = _; exact begB_pre _ 3 HB.out
              clear HB hp
              go_wp2_with (first | (go_at_call 94; refine Calls.mono HN.out ?_; rintro e w1 ⟨rfl, rfl⟩) | (go_at_call 107; refine Calls.mono HW.out ?_; rintro e w1 ⟨rfl, rfl⟩))
              go_ret
              exact ⟨ret_b HE.out.symm, rfl⟩
            | true =>
              have HE : Hid (begB (s.data.toList.take 3) = true) := HB.out
              clear HB hp
              go_wp2_with (first | (go_at_call 94; refine Calls.mono HN.out ?_; rintro e w1 ⟨rfl, rfl⟩) | (go_at_call 107; refine Calls.mono HW.out ?_; rintro e w1 ⟨rfl, rfl⟩))
              go_round
              case rel => exact ⟨3, by omega, by go_num, HE⟩
              case measure => simp [intOf]; omega
      · have h0 : 0 ≤ numI s[0] := pre1 s (by omega) (begB_take _ 3 1 (by omega) HK.out)
        have h1 : 0 ≤ numI s[1] := pre2 s (by omega) (begB_take _ 3 2 (by omega) HK.out)
        have HB : Hid (begB (s.data.toList.take 4) = (if s[2] = 61 then decide (s[3] = 61) else (decide ((0 : Int) ≤ numI s[3]) || (decide (s[3] = 61) && decide (numI s[2] % 2 ^ 2 = 0))))) := by
          show _ = _
          rw [T4 s hlt]
          refine beg4 s[0] s[1] s[2] s[3] h0 h1 ?_
          have := HK.out
          rw [T3 s (by omega)] at this
          exact this
        have hp2 := pad_eq s[2]
        have hn2 := pad_ne s[2]
        have hn3 := pad_ne s[3]
        by_cases e2 : s[2] = 61
        · rw [if_pos e2] at HB
          simp only [e2, decide_true, Bool.not_true] at hp2 hn2
          rw [← e2] at hp2 hn2
          clear HK HT h0 h1 e2
          generalize numI s[3] = n at HN
          generalize decide (s[3] = 61) = pd at HB hn3
          cases pd with
          | false =>
            have HE : Hid (begB s.data.toList = false) := by show _ = _; exact begB_pre _ 4 HB.out
            clear HB
            simp only [Bool.not_false] at hn3
            go_wp2_with (go_at_call 94; refine Calls.mono HN.out ?_; rintro e w1 ⟨rfl, rfl⟩)
            go_ret
            exact ⟨ret_b HE.out.symm, rfl⟩
          | true =>
            have HE : Hid (begB (s.data.toList.take 4) = true) := HB.out
            clear HB
            simp only [Bool.not_true] at hn3
            go_wp2_with (go_at_call 94; refine Calls.mono HN.out ?_; rintro e w1 ⟨rfl, rfl⟩)
            go_round
            case rel => exact ⟨4, by omega, by go_num, HE⟩
            case measure => simp [intOf]; omega
        · rw [if_neg e2] at HB
          simp only [e2, decide_false, Bool.not_false] at hp2 hn2
          have h2 : 0 ≤ numI s[2] := pre3 s (by omega) h0 h1 HK.out e2
          have HW : Hid (Calls Tryd.prog 107 #[.int .u8 (s[2].toNat : Int), .int .i64 2] w fun e w' => e = .returned (.bool (decide (numI s[2] % 2 ^ 2 = 0))) ∧ w' = w) := low_any s[2] h2 2 (by omega) w
          clear HK HT h0 h1 e2 h2
          generalize decide (numI s[2] % 2 ^ 2 = 0) = lw at HW HB
          generalize numI s[3] = n at HN HB
          generalize decide (s[3] = 61) = pd at HB hn3
          by_cases hp : (0 : Int) ≤ n
          · have hq : decide ((0 : Int) ≤ n) = true := by simpa using hp
            have HE : Hid (begB (s.data.toList.take 4) = true) := by show _ = _; rw [HB.out, hq]; rfl
            clear HB hp
            go_wp2_with (first | (go_at_call 94; refine Calls.mono HN.out ?_; rintro e w1 ⟨rfl, rfl⟩) | (go_at_call 107; refine Calls.mono HW.out ?_; rintro e w1 ⟨rfl, rfl⟩))
            go_round
            case rel => exact ⟨4, by omega, by go_num, HE⟩
            case measure => simp [intOf]; omega
          · have hq : decide ((0 : Int) ≤ n) = false := by simpa using hp
            rw [hq, Bool.false_or] at HB
            cases pd with
            | false =>
              have HE : Hid (begB s.data.toList = false) := by show _ = _; exact begB_pre _ 4 HB.out
              clear HB hp
              simp only [Bool.not_false] at hn3
              go_wp2_with (first | (go_at_call 94; refine Calls.mono HN.out ?_; rintro e w1 ⟨rfl, rfl⟩) | (go_at_call 107; refine Calls.mono HW.out ?_; rintro e w1 ⟨rfl, rfl⟩))
              go_ret
              exact ⟨ret_b HE.out.symm, rfl⟩
            | true =>
              simp only [Bool.not_true] at hn3
              cases lw with
              | false =>
                have HE : Hid (begB s.data.toList = false) := by show _ = _; exact begB_pre _ 4 HB.out
                clear HB hp
                go_wp2_with (first | (go_at_call 94; refine Calls.mono HN.out ?_; rintro e w1 ⟨rfl, rfl⟩) | (go_at_call 107; refine Calls.mono HW.out ?_; rintro e w1 ⟨rfl, rfl⟩))
                go_ret
                exact ⟨ret_b HE.out.symm, rfl⟩
              | true =>
                have HE : Hid (begB (s.data.toList.take 4) = true) := HB.out
                clear HB hp
                go_wp2_with (first | (go_at_call 94; refine Calls.mono HN.out ?_; rintro e w1 ⟨rfl, rfl⟩) | (go_at_call 107; refine Calls.mono HW.out ?_; rintro e w1 ⟨rfl, rfl⟩))
                go_round
                case rel => exact ⟨4, by omega, by go_num, HE⟩
                case measure => simp [intOf]; omega
    · obtain rfl : k = s.size := by omega
      have HE : Hid (begB s.data.toList = true) := by
        have := HK.out
        rw [List.take_of_length_le (by rw [HL.out]; exact Nat.le_refl _)] at this
        exact this
      clear HK
      go_wp2
      go_ret
      exact ⟨ret_b HE.out.symm, rfl⟩
end Go.Proofs.YtdgepnfgjgbkoaaDoor
