/-
  whole: is each CR and LF of a body a line end's, and its last line ended? Check: and no line too long?
-/
import Derived.Test.YtfifpepcmpaipaaCkP
import Derived.Test.YtfifpepcmpaipaaTi14
namespace Go.Proofs.Ytfifpepcmpaipaa
open Go.RowKit

theorem u8b (c k : UInt8) : ((c.toNat : Int) == (k.toNat : Int)) = (c == k) := by
  by_cases h : c = k
  · rw [u8v h, h]; simp
  · rw [u8w h, beq_false_of_ne h]
theorem wholeI_bad {l : List UInt8} (h : whE false l = true) : wholeI l = 130 := if_pos h
set_option maxHeartbeats 1000000 in
theorem dwhole_any (ad : Option Addr) (l : List UInt8) (n cap : Nat) (hn : n = l.length) (hl : l.length ≤ 140737488355328) (w : World) (hb : Bts ad l w) : Calls Try.prog 29 #[.slice ad n cap] w fun e w' => e = .returned (.int .i64 (wholeI l)) ∧ w' = w := by
  subst hn
  obtain ⟨Y, hY⟩ : ∃ Y, wholeI l = Y := ⟨_, rfl⟩
  rw [hY]
  have HY : Hid (wholeI l = Y) := hY
  have HB : Hid (Bts ad l w) := hb
  clear hb hY
  go_enter Try.func29, Try.ntmps29
  go_wp2_with fail
  go_loopw [3, 5, 8] (fun hv _ iv wr => ∃ (k : Nat) (h : Bool), k ≤ l.length ∧ hv = .bool h ∧ iv = .int .i64 k ∧ wr = w ∧ Hid (whE false l = whE h (l.drop k))) (fun _ _ iv _ => l.length - (intOf iv).toNat)
  case atStart => exact ⟨0, false, Nat.zero_le _, rfl, rfl, rfl, by show _ = _; simp⟩
  case round =>
    obtain ⟨k, h, hk, rfl, rfl, rfl, HE⟩ := hrel
    by_cases hlt : k < l.length
    · obtain ⟨g, q, rfl, hg, hrow⟩ := HB.out.resolve_left (fun e => by rw [e] at hlt; cases hlt)
      have hce := hrow k hlt
      have HE2 : Hid (whE false l = if (h != (l[k] == 10)) = true then true else whE (l[k] == 13) (l.drop (k + 1))) := by
        have := HE.out
        rw [List.drop_eq_getElem_cons hlt, whE_cons] at this
        exact this
      clear hrow HE
      generalize l[k] = d at *
      by_cases h10 : d = 10
      · have k10 : ((d.toNat : Int) == 10) = true := u8v h10
        have k13 : ((d.toNat : Int) == 13) = false := u8w (k := 13) (by rw [h10]; decide)
        cases h with
        | true =>
          have HE3 : Hid (whE false l = whE false (l.drop (k + 1))) := by have := HE2.out; rw [h10] at this; exact this
          clear HE2 h10
          go_wp2_with fail
          go_round
          case rel => exact ⟨k + 1, false, hlt, rfl, by go_num, trivial, HE3.out⟩
          case measure => simp [intOf]; omega
        | false =>
          have HE3 : Hid (Y = 130) := by have := HE2.out; rw [h10] at this; exact HY.out.symm.trans (wholeI_bad this)
          clear HE2 h10
          go_wp2_with fail
          go_ret
          exact ⟨by rw [HE3.out]; rfl, rfl⟩
      · have k10 : ((d.toNat : Int) == 10) = false := u8w h10
        cases h with
        | true =>
          have HE3 : Hid (Y = 130) := by have := HE2.out; rw [beq_false_of_ne h10] at this; exact HY.out.symm.trans (wholeI_bad this)
          clear HE2 h10
          go_wp2_with fail
          go_ret
          exact ⟨by rw [HE3.out]; rfl, rfl⟩
        | false =>
          have HE3 : Hid (whE false l = whE ((d.toNat : Int) == 13) (l.drop (k + 1))) := by
            have := HE2.out
            rw [beq_false_of_ne h10] at this
            rw [show ((d.toNat : Int) == 13) = (d == 13) from u8b d 13]
            exact this
          clear HE2 h10
          go_wp2_with fail
          go_round
          case rel => exact ⟨k + 1, _, hlt, rfl, by go_num, trivial, HE3.out⟩
          case measure => simp [intOf]; omega
    · obtain rfl : k = l.length := by omega
      have HE2 : Hid (whE false l = h) := by have := HE.out; rw [List.drop_length] at this; exact this
      clear HE
      cases h with
      | true =>
        have HE3 : Hid (Y = 130) := HY.out.symm.trans (wholeI_bad HE2.out)
        clear HE2
        go_wp2_with fail
        go_ret
        exact ⟨by rw [HE3.out]; rfl, rfl⟩
      | false =>
        by_cases h0 : 0 < l.length
        · obtain ⟨g, q, rfl, hg, hrow⟩ := HB.out.resolve_left (fun e => by rw [e] at h0; cases h0)
          have hce := hrow (l.length - 1) (by omega)
          have HE3 : Hid (Y = if (l[l.length - 1]'(by omega) == 10) = true then 0 else 141) := by
            rw [← lastOk_of l h0, ← HY.out]
            unfold Hid wholeI
            rw [HE2.out]
            rfl
          have e1 : ((l.length : Int) - 1) = ((l.length - 1 : Nat) : Int) := by omega
          have h0' : (0 : Int) < (l.length : Int) := by omega
          clear hrow HE2
          generalize l[l.length - 1]'(by omega) = d at *
          by_cases h10 : d = 10
          · have k10 : ((d.toNat : Int) == 10) = true := u8v h10
            have HE4 : Hid (Y = 0) := by rw [HE3.out, h10]; rfl
            clear HE3 h10
            go_wp2_with fail
            go_ret
            exact ⟨by rw [HE4.out]; rfl, rfl⟩
          · have k10 : ((d.toNat : Int) == 10) = false := u8w h10
            have HE4 : Hid (Y = 141) := by rw [HE3.out, beq_false_of_ne h10]; rfl
            clear HE3 h10
            go_wp2_with fail
            go_ret
            exact ⟨by rw [HE4.out]; rfl, rfl⟩
        · have HE3 : Hid (Y = 0) := by
            obtain rfl : l = [] := List.eq_nil_of_length_eq_zero (by omega)
            exact HY.out.symm.trans rfl
          have h0' : ¬ (0 : Int) < (l.length : Int) := by omega
          clear HE2 h0
          go_wp2_with fail
          go_ret
          exact ⟨by rw [HE3.out]; rfl, rfl⟩
set_option maxHeartbeats 1000000 in
theorem dcheck_arg (ad : Option Addr) (n cap : Nat) (t : Int) (ht : okLim t = false) (w : World) : Calls Try.prog 10 #[.slice ad n cap, .int .i64 t] w fun e w' => e = .returned (.int .i64 2) ∧ w' = w := by
  have HL := dbounded_any t w
  rw [ht] at HL
  clear ht
  go_enter Try.func10, Try.ntmps10
  go_wp2_with fail
  refine HL.mono ?_
  rintro e w2 ⟨rfl, rfl⟩
  go_wp2_with fail
  go_ret
  exact ⟨rfl, rfl⟩
set_option maxHeartbeats 1000000 in
theorem dcheck_ok (ad : Option Addr) (l : List UInt8) (n cap t : Nat) (hn : n = l.length) (hl : l.length ≤ 140737488355328) (h1 : 1 ≤ t) (h2 : t ≤ 16777216) (w : World) (hb : Bts ad l w) : Calls Try.prog 10 #[.slice ad n cap, .int .i64 (t : Int)] w fun e w' => e = .returned (.int .i64 (checkI t l)) ∧ w' = w := by
  subst hn
  have HLM := dbounded_yes (t : Int) (by omega) (by omega) w
  have HWH := dwhole_any ad l l.length cap rfl hl w hb
  obtain ⟨Y, hY⟩ : ∃ Y, checkI t l = Y := ⟨_, rfl⟩
  obtain ⟨Z, hZ⟩ : ∃ Z, wholeI l = Z := ⟨_, rfl⟩
  rw [hY]
  rw [hZ] at HWH
  have HY : Hid (checkI t l = Y) := hY
  have HZ : Hid (wholeI l = Z) := hZ
  have HB : Hid (Bts ad l w) := hb
  clear hb hY hZ
  by_cases hz : Z = 0
  · have HY2 : Hid (Y = if lgE t 0 0 l = true then 140 else 0) := by
      rw [← HY.out]
      unfold Hid checkI
      rw [HZ.out, if_pos hz]
    have hzz : (Z != 0) = false := by simp [hz]
    clear hz HY HZ
    go_enter Try.func10, Try.ntmps10
    go_wp2_with fail
    refine HLM.mono ?_
    rintro e w2 ⟨rfl, rfl⟩
    go_wp2_with fail
    refine HWH.mono ?_
    rintro e w2 ⟨rfl, rfl⟩
    clear HLM HWH
    go_wp2_with fail
    go_loopw [6, 7, 8, 19] (fun bv _ _ iv wr => ∃ (k b : Nat), k ≤ l.length ∧ b ≤ k ∧ bv = .int .i64 b ∧ iv = .int .i64 k ∧ wr = w2 ∧ Hid (lgE t 0 0 l = lgE t k b (l.drop k))) (fun _ _ _ iv _ => l.length - (intOf iv).toNat)
    case atStart => exact ⟨0, 0, Nat.zero_le _, Nat.zero_le _, rfl, rfl, rfl, by show _ = _; simp⟩
    case round =>
      obtain ⟨k, b, hk, hbk, rfl, rfl, rfl, HE⟩ := hrel
      by_cases hlt : k < l.length
      · obtain ⟨g, q, rfl, hg, hrow⟩ := HB.out.resolve_left (fun e => by rw [e] at hlt; cases hlt)
        have hce := hrow k hlt
        have HE2 : Hid (lgE t 0 0 l = if l[k] = 10 then (if t + 1 + b < k then true else lgE t (k + 1) (k + 1) (l.drop (k + 1))) else lgE t (k + 1) b (l.drop (k + 1))) := by
          have := HE.out
          rw [List.drop_eq_getElem_cons hlt, lgE_cons] at this
          exact this
        clear hrow HE
        generalize l[k] = d at *
        by_cases h10 : d = 10
        · have k10 : ((d.toNat : Int) == 10) = true := u8v h10
          have k11 : ((d.toNat : Int) != 10) = false := by simp [bne, k10]
          by_cases hlg : t + 1 + b < k
          · have HE3 : Hid (Y = 140) := by rw [HY2.out, HE2.out, if_pos h10, if_pos hlg]; rfl
            have hlg' : (t : Int) < (k : Int) - 1 - (b : Int) := by omega
            clear HE2 h10 hlg
            go_wp2_with fail
            go_ret
            exact ⟨by rw [HE3.out]; rfl, rfl⟩
          · have HE3 : Hid (lgE t 0 0 l = lgE t (k + 1) (k + 1) (l.drop (k + 1))) := by rw [HE2.out, if_pos h10, if_neg hlg]; exact rfl
            have hlg' : ¬ (t : Int) < (k : Int) - 1 - (b : Int) := by omega
            clear HE2 h10 hlg
            go_wp2_with fail
            go_round
            case rel => exact ⟨k + 1, k + 1, hlt, Nat.le_refl _, by go_num, by go_num, trivial, HE3.out⟩
            case measure => simp [intOf]; omega
        · have k10 : ((d.toNat : Int) == 10) = false := u8w h10
          have k11 : ((d.toNat : Int) != 10) = true := by simp [bne, k10]
          have HE3 : Hid (lgE t 0 0 l = lgE t (k + 1) b (l.drop (k + 1))) := by rw [HE2.out, if_neg h10]; exact rfl
          clear HE2 h10
          go_wp2_with fail
          go_round
          case rel => exact ⟨k + 1, b, hlt, Nat.le_succ_of_le hbk, by go_num, by go_num, trivial, HE3.out⟩
          case measure => simp [intOf]; omega
      · obtain rfl : k = l.length := by omega
        have HE3 : Hid (Y = 0) := by
          have := HE.out
          rw [List.drop_length] at this
          rw [HY2.out, this]
          rfl
        clear HE
        go_wp2_with fail
        go_ret
        exact ⟨by rw [HE3.out]; rfl, rfl⟩
  · have HY2 : Hid (Y = Z) := by
      rw [← HY.out]
      unfold Hid checkI
      rw [HZ.out, if_neg hz]
    have hzz : (Z != 0) = true := by simp [hz]
    clear hz HY HZ
    go_enter Try.func10, Try.ntmps10
    go_wp2_with fail
    refine HLM.mono ?_
    rintro e w2 ⟨rfl, rfl⟩
    go_wp2_with fail
    refine HWH.mono ?_
    rintro e w2 ⟨rfl, rfl⟩
    clear HLM HWH
    go_wp2_with fail
    go_ret
    exact ⟨by rw [HY2.out]; rfl, rfl⟩
end Go.Proofs.Ytfifpepcmpaipaa
