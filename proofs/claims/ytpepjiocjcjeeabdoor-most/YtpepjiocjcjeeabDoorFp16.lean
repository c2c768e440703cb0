/-
  The stops of a text.
-/
import Derived.Test.YtpepjiocjcjeeabDoorFb16
import Derived.Test.YtpepjiocjcjeeabDoorFoP
import Derived.Test.YtpepjiocjcjeeabDoorSht
namespace Go.Proofs.YtpepjiocjcjeeabDoor
open Go.RowKit Go.Shelf

attribute [local go_sem] Oper.semAt_some

theorem tnd_trim (l : List UInt8) : (Lib.trimRightS l [32, 9]).length = tnd l := by
  unfold Lib.trimRightS tnd
  rw [List.length_reverse]
  congr 2
  funext c
  unfold blB
  simp only [List.contains_cons, List.contains_nil, Bool.or_false]
theorem trimr_any (s : ByteArray) (w : World) (hs : s.size ≤ 9223372036854775807) : Calls Tryd.prog 56 #[.string s, .string ⟨#[32, 9]⟩] w fun e w' => ∃ r : ByteArray, e = .returned (.string r) ∧ r.size = tnd s.data.toList ∧ Below w.heap.size w w' := by
  have h := Any.strings_TrimRight_laid Tryd.lays162 (by kernel_rfl) s ⟨#[32, 9]⟩ w hs (by decide) (ascii_of_all (by decide))
  refine Calls.mono h fun e w' he => ⟨_, he.1, ?_, he.2⟩
  show (Lib.trimRightS s.data.toList [32, 9]).toArray.size = _
  rw [List.size_toArray, tnd_trim]
/-- What the loop over the stops is handed. -/
def vsS (l : List UInt8) : List (Array Value) := (stps l).map fun (p : Nat) => #[Value.int .i64 (p : Int)]
theorem vsS_len (l : List UInt8) : (vsS l).length = (jts l l.length).length + 1 := by unfold vsS; rw [List.length_map, stps_len]
theorem vsS_at (l : List UInt8) (k : Nat) (h : k < (vsS l).length) : (vsS l)[k] = #[.int .i64 (stK l k : Int)] := by
  have hk : k < (stps l).length := by unfold vsS at h; rw [List.length_map] at h; exact h
  have h5 : (vsS l)[k]? = some #[.int .i64 (stK l k : Int)] := by
    unfold vsS
    rw [List.getElem?_map, List.getElem?_eq_getElem hk, stK_eq l k hk]
    rfl
  rw [List.getElem?_eq_getElem h] at h5
  exact Option.some.inj h5
set_option maxRecDepth 100000 in
set_option maxHeartbeats 4000000 in
theorem stops_in (s : ByteArray) (hs : s.size ≤ 140737488355328) (lp g n : Nat) (hn : 1 ≤ n) (J Jx : Nat → World → Prop) (W : World) (hJ : AbidesFrom W.heap.size J)
    (hY : ∀ (k : Nat) (hk : k < (vsS s.data.toList).length) (W1 : World), J k W1 → YieldAt Fence.wide (n - 1) Tryd.prog lp (vsS s.data.toList)[k] W1 fun e W' => (e = .returned (.bool true) ∧ J (k + 1) W' ∧ Kg (· = g) W1 W') ∨ (e = .returned (.bool false) ∧ Jx (k + 1) W'))
    (hb : Lies W g #[.string s] 9) (h0 : J 0 W) :
    CallsIn Fence.wide n Tryd.prog 55 #[.func (.yield lp) #[] #[], .pointer (some ⟨g, 0, none⟩)] W fun e W' => (∃ v, e = .returned v) ∧ (J (vsS s.data.toList).length W' ∨ ∃ k, k ≤ (vsS s.data.toList).length ∧ Jx k W') := by
  have hsI : (s.size : Int) ≤ 140737488355328 := by omega
  have hlen := len_list s
  have htl : tnd s.data.toList ≤ s.size := by rw [← hlen]; exact tnd_le _
  have HTR : Hid (∀ wx, Calls Tryd.prog 56 #[.string s, .string ⟨#[32, 9]⟩] wx fun e w' => ∃ r : ByteArray, e = .returned (.string r) ∧ r.size = tnd s.data.toList ∧ Below wx.heap.size wx w') := fun wx => trimr_any s wx (by omega)
  have HY : Hid (∀ (k : Nat) (hk : k < (vsS s.data.toList).length) (W1 : World), J k W1 → YieldAt Fence.wide (n - 1) Tryd.prog lp (vsS s.data.toList)[k] W1 fun e W' => (e = .returned (.bool true) ∧ J (k + 1) W' ∧ Kg (· = g) W1 W') ∨ (e = .returned (.bool false) ∧ Jx (k + 1) W')) := hY
  have HB : Hid (Lies W g #[.string s] 9) := hb
  have HJ0 : Hid (∀ w1, Below W.heap.size W w1 → J (jts s.data.toList 1).length w1 ∧ Lies w1 g #[.string s] 9) := fun w1 h => ⟨by rw [jts_one]; exact hJ 0 W w1 none h0 (grown_of_below h) (fun r e => by cases e), hb.below h hb.lt⟩
  have c0 := HB.out.cell 0
  rw [show (#[Value.string s] : Array Value)[0]? = some (.string s) from rfl] at c0
  clear hY h0 hb hJ hlen HB
  refine callsIn_of_wp Tryd.func55 rfl trivial ?_ rfl
  simp only [Tryd.ntmps55, List.size_toArray, List.length_cons, List.length_nil, Nat.reduceAdd, Nat.reduceSub, Array.replicate_succ, Array.replicate_zero, List.push_toArray, List.append_toArray, List.nil_append, List.cons_append]
  gi_wp2_with fail
  refine ⟨trivial, ?_⟩
  refine (callsIn_wide.2 (HTR.out _)).mono ?_
  rintro e w1 ⟨r, rfl, hr, hB1⟩
  have HR : Hid (r.size = tnd s.data.toList) := hr
  have HJ1 := HJ0.out w1 hB1
  have HJA : Hid (J (jts s.data.toList 1).length w1) := HJ1.1
  have HLA : Hid (Lies w1 g #[.string s] 9) := HJ1.2
  have hrI : (r.size : Int) ≤ 140737488355328 := by omega
  clear hB1 HJ1 HJ0 HTR c0 hr htl
  gi_wp2_with fail
  gi_loopw [4] (fun iv wr => ∃ j : Nat, j ≤ r.size ∧ iv = .int .i64 ((j : Int) + 1) ∧ Hid (J (jts s.data.toList (j + 1)).length wr) ∧ Hid (Lies wr g #[.string s] 9)) (fun iv _ => r.size + 1 - (intOf iv).toNat)
  case atStart => exact ⟨0, Nat.zero_le _, rfl, HJA.out, HLA.out⟩
  case round =>
    obtain ⟨j, hj, rfl, HJ, HL⟩ := hrel
    clear HJA HLA
    have c0 := HL.out.cell 0
    rw [show (#[Value.string s] : Array Value)[0]? = some (.string s) from rfl] at c0
    have htl : tnd s.data.toList ≤ s.size := by rw [← len_list s]; exact tnd_le _
    by_cases hlt : j + 1 < r.size
    · have hki : (j : Int) + 1 < (r.size : Int) := by omega
      have hsz : j + 1 < s.size := by have := HR.out; omega
      have hkS : (j : Int) + 1 < (s.size : Int) := by omega
      have hkS0 : (j : Int) < (s.size : Int) := by omega
      have e1 : IntKind.i64.wrap ((j : Int) + 1) = (j : Int) + 1 := by rw [IntKind.wrap_i64]; omega
      have e2 : IntKind.i64.wrap ((j : Int) + 1 + 1) = (j : Int) + 1 + 1 := by rw [IntKind.wrap_i64]; omega
      have e3 : IntKind.i64.wrap (j : Int) = (j : Int) := by rw [IntKind.wrap_i64]; omega
      have HIB1 : Hid (∀ wx, Calls Tryd.prog 40 #[.int .u8 (s[j + 1].toNat : Int)] wx fun e w' => e = .returned (.bool (blB s[j + 1])) ∧ w' = wx) := fun wx => isb_any _ wx
      have HIB0 : Hid (∀ wx, Calls Tryd.prog 40 #[.int .u8 (s[j].toNat : Int)] wx fun e w' => e = .returned (.bool (blB s[j])) ∧ w' = wx) := fun wx => isb_any _ wx
      have HFD : Hid (jtB s.data.toList (j + 1) = (blB s[j + 1] && !blB s[j])) := jt_in s.data.toList (j + 1) (by omega) (by have := HR.out; omega) (by rw [len_list]; exact hsz)
      have HNO : Hid (jtB s.data.toList (j + 1) = false → jts s.data.toList (j + 1 + 1) = jts s.data.toList (j + 1)) := fun h => jts_skip _ _ h
      have HYS : Hid (jtB s.data.toList (j + 1) = true → _) := fun h => stK_joint s.data.toList (j + 1) h
      clear htl
      generalize blB s[j + 1] = b1 at *
      generalize blB s[j] = b2 at *
      cases b1 with
      | false =>
        have HN1 : Hid (jts s.data.toList (j + 1 + 1) = jts s.data.toList (j + 1)) := HNO.out HFD.out
        clear HYS HNO HFD HY HIB0
        gi_wp2_with fail
        refine ⟨trivial, ?_⟩
        refine (callsIn_wide.2 (HIB1.out _)).mono ?_
        rintro e w2 ⟨rfl, rfl⟩
        gi_wp2_with fail
        refine ⟨trivial, ?_⟩
        gi_wp2_with fail
        refine ⟨fun _ h => (by cases h), ?_⟩
        gi_wp2_with fail
        go_roundw
        case rel => exact ⟨j + 1, by omega, by go_num, by rw [HN1.out]; exact HJ.out, HL.out⟩
        case measure => simp [intOf]; omega
      | true =>
        cases b2 with
        | true =>
          have HN1 : Hid (jts s.data.toList (j + 1 + 1) = jts s.data.toList (j + 1)) := HNO.out HFD.out
          clear HYS HNO HFD HY
          gi_wp2_with fail
          refine ⟨trivial, ?_⟩
          refine (callsIn_wide.2 (HIB1.out _)).mono ?_
          rintro e w2 ⟨rfl, rfl⟩
          gi_wp2_with fail
          refine ⟨trivial, ?_⟩
          refine (callsIn_wide.2 (HIB0.out _)).mono ?_
          rintro e w2 ⟨rfl, rfl⟩
          gi_wp2_with fail
          refine ⟨fun _ h => (by cases h), ?_⟩
          gi_wp2_with fail
          go_roundw
          case rel => exact ⟨j + 1, by omega, by go_num, by rw [HN1.out]; exact HJ.out, HL.out⟩
          case measure => simp [intOf]; omega
        | false =>
          obtain ⟨hi1, hi2, hi3⟩ := HYS.out HFD.out
          have hi4 : (jts s.data.toList (j + 1)).length < (vsS s.data.toList).length := by rw [vsS_len]; omega
          have hv := vsS_at s.data.toList _ hi4
          rw [hi2, show ((j + 1 : Nat) : Int) = (j : Int) + 1 by omega] at hv
          obtain ⟨fn, tmps, assign, body, hy, hR⟩ := HY.out _ hi4 wr HJ.out
          rw [hv] at hy
          have HI3 : Hid ((jts s.data.toList (j + 1 + 1)).length = (jts s.data.toList (j + 1)).length + 1) := hi3
          have HI4 : Hid ((jts s.data.toList (j + 1)).length < (vsS s.data.toList).length) := hi4
          clear hi1 hi2 hi3 hi4 hv HYS HNO HFD
          gi_wp2_with fail
          refine ⟨trivial, ?_⟩
          refine (callsIn_wide.2 (HIB1.out _)).mono ?_
          rintro e w2 ⟨rfl, rfl⟩
          gi_wp2_with fail
          refine ⟨trivial, ?_⟩
          refine (callsIn_wide.2 (HIB0.out _)).mono ?_
          rintro e w2 ⟨rfl, rfl⟩
          gi_wp2_with fail
          refine hR.mono ?_
          rintro e W3 (⟨rfl, hJ3, hk3⟩ | ⟨rfl, hJx3⟩)
          · have HJ3 : Hid (J ((jts s.data.toList (j + 1)).length + 1) W3) := hJ3
            have HL3 : Hid (Lies W3 g #[.string s] 9) := hk3.lies HL.out rfl
            clear hk3 hJ3
            gi_wp2
            go_roundw
            case rel => exact ⟨j + 1, by omega, by go_num, by rw [HI3.out]; exact HJ3.out, HL3.out⟩
            case measure => simp [intOf]; omega
          · gi_wp2
            refine bodyPost_ret (results_none rfl _ _ _) rfl ?_
            exact ⟨⟨_, rfl⟩, .inr ⟨_, HI4.out, hJx3⟩⟩
    · have hki : ¬ (j : Int) + 1 < (r.size : Int) := by omega
      have HE : Hid ((jts s.data.toList (j + 1)).length = (jts s.data.toList s.data.toList.length).length) := by
        show _ = _
        rw [jts_fin s.data.toList (j + 1) (by have := HR.out; omega)]
      have hi4 : (jts s.data.toList (j + 1)).length < (vsS s.data.toList).length := by rw [vsS_len]; have := HE.out; omega
      have hJ0 := HJ.out
      rw [HE.out] at hJ0 hi4
      have hv2 : (vsS s.data.toList)[(jts s.data.toList s.data.toList.length).length] = #[.int .i64 (s.size : Int)] := by
        have h5 := vsS_at s.data.toList _ hi4
        rw [stK_last] at h5
        exact h5.trans (by rw [len_list])
      obtain ⟨fn, tmps, assign, body, hy, hR⟩ := HY.out _ hi4 wr hJ0
      rw [hv2] at hy
      have HI4 : Hid ((jts s.data.toList s.data.toList.length).length + 1 = (vsS s.data.toList).length) := (vsS_len _).symm
      clear hv2 hJ0 HE htl HY
      gi_wp2_with fail
      refine hR.mono ?_
      rintro e W3 (⟨rfl, hJ3, hk3⟩ | ⟨rfl, hJx3⟩)
      · rw [HI4.out] at hJ3
        have HJ3 : Hid _ := hJ3
        clear hk3 hJ3
        gi_wp2
        go_end0
        exact ⟨⟨_, rfl⟩, .inl HJ3.out⟩
      · rw [HI4.out] at hJx3
        gi_wp2
        go_end0
        exact ⟨⟨_, rfl⟩, .inr ⟨_, Nat.le_refl _, hJx3⟩⟩
theorem stops_seq (s : ByteArray) (hs : s.size ≤ 140737488355328) (g n : Nat) (hn : 1 ≤ n) (w : World) (h : Lies w g #[.string s] 9) : SeqL n Tryd.prog 55 #[.pointer (some ⟨g, 0, none⟩)] (vsS s.data.toList) (Kg (· = g)) w :=
  fun lp J Jx W hW hJ hY h0 => stops_in s hs lp g n hn J Jx W hJ hY (h.below hW h.lt) h0
theorem stops_any (s : ByteArray) (w : World) : Calls Tryd.prog 48 #[.string s] w fun e w' => e = .returned (.func (.func 55) #[] #[.pointer (some ⟨w.heap.size, 0, none⟩)]) ∧ w' = w.alloc (.cells #[.string s] 9) := by
  go_enter Tryd.func48, Tryd.ntmps48
  go_wp2
  go_ret
  exact ⟨rfl, rfl⟩
end Go.Proofs.YtpepjiocjcjeeabDoor
