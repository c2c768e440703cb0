/-
  P14.1, P14.2: Check and Stuff of any bytes; proved for inputs of bulk at most 1048576.
-/
import Derived.Test.YtfifpepcmpaipaaDh14
import Derived.Test.YtfifpepcmpaipaaCl14
import Derived.Test.YtfifpepcmpaipaaWk14
import Derived.Test.YtfifpepcmpaipaaOpenN
import Derived.Test.YtfifpepcmpaipaaRows
import Derived.ProofKit
import Derived.ChangeMaps5
import Derived.OpenShut
import Derived.ShutString
import Derived.ChangeOld
import Derived.SizedLaws
namespace Go.Proofs.Ytfifpepcmpaipaa.dotsChecks
open Go.ChangeShapes Go.WideShapes Go.ChangeAt Go.RowKit

set_option maxHeartbeats 4000000 in
set_option maxRecDepth 20000 in
theorem walk_a {w : World} (a1 : Option Addr) (l1 : List UInt8) (cap1 : Nat) (hr1 : Bts a1 l1 w) (hl1 : l1.length ≤ 1048576) (hc1 : l1.length ≤ cap1) (hn1 : a1 = none → cap1 = 0) (hm1 : cap1 ≤ 9223372036854775807) (t : Nat) (ht1 : 1 ≤ t) (ht2 : t ≤ 16777216) (hz : wholeI l1 = 0) :
    Calls Try.prog 4 #[.slice a1 l1.length cap1, .int .i64 (t : Int)] w fun e w' => e = .returned (.bool true) ∧ Below w.heap.size w w' := by
  have HPE : Hid (PeOk w ⟨a1, l1, cap1⟩) := ⟨hr1, hc1, hm1, hn1⟩
  clear hr1 hc1 hm1 hn1
  have HS1 := estuff_ok a1 l1 l1.length cap1 rfl w HPE.out (by omega) hz
  have HZ : Hid (wholeI l1 = 0) := hz
  clear hz
  go_enter Try.func4, Try.ntmps4
  go_wp2_with fail
  refine HS1.mono ?_
  rintro e w1 ⟨v1, rfl, hO1, hB1⟩
  obtain ⟨g1, c1, rfl, hb1, -⟩ := own_bts hO1
  have HB1 : Hid (Below w.heap.size w w1) := hB1
  have HBT1 : Hid (Bts g1 (stuffL l1) w1) := hb1
  clear hO1 hB1 hb1 HS1
  have HC1 := clone_any a1 l1 cap1 w1 (HPE.out.bt.below HB1.out) (by omega) HPE.out.nn
  go_wp2_with fail
  refine HC1.mono ?_
  rintro e w2 ⟨v2, rfl, hO2, hB2⟩
  obtain ⟨g2, c2, rfl, hb2, -⟩ := own_bts hO2
  have HB2 : Hid (Below w.heap.size w w2) := HB1.out.trans (hB2.mono HB1.out.size)
  have HBT2 : Hid (Bts g1 (stuffL l1) w2) := HBT1.out.below hB2
  have HS2 := dstuff_ok g2 l1 l1.length c2 rfl (by omega) w2 hb2 HZ.out
  clear hO2 hB2 hb2 HC1 HBT1
  go_wp2_with fail
  refine HS2.mono ?_
  rintro e w3 ⟨v3, rfl, hO3, hB3⟩
  obtain ⟨g3, c3, rfl, hb3, -⟩ := own_bts hO3
  have HB3 : Hid (Below w.heap.size w w3) := HB2.out.trans (hB3.mono HB2.out.size)
  have HBT3 : Hid (Bts g1 (stuffL l1) w3) := HBT2.out.below hB3
  have HBU3 : Hid (Bts g3 (stuffL l1) w3) := hb3
  clear hO3 hB3 hb3 HS2 HBT2
  have HC2 := clone_any a1 l1 cap1 w3 (HPE.out.bt.below HB3.out) (by omega) HPE.out.nn
  go_wp2_with fail
  refine HC2.mono ?_
  rintro e w4 ⟨v4, rfl, hO4, hB4⟩
  obtain ⟨g4, c4, rfl, hb4, -⟩ := own_bts hO4
  have HB4 : Hid (Below w.heap.size w w4) := HB3.out.trans (hB4.mono HB3.out.size)
  have HBT4 : Hid (Bts g1 (stuffL l1) w4) := HBT3.out.below hB4
  have HBU4 : Hid (Bts g3 (stuffL l1) w4) := HBU3.out.below hB4
  clear HBT3 HBU3
  have HK1 := dcheck_ok g4 l1 l1.length c4 t rfl (by omega) ht1 ht2 w4 hb4
  have HK2 := echeck_ok a1 l1 l1.length cap1 t rfl w4 (HPE.out.below HB4.out) (by omega) ht1 ht2
  generalize checkI t l1 = Y at *
  clear hO4 hB4 hb4 HC2
  go_wp2_with fail
  refine HK1.mono ?_
  rintro e w5 ⟨rfl, rfl⟩
  go_wp2_with fail
  refine HK2.mono ?_
  rintro e w6 ⟨rfl, hB6⟩
  have HB6 : Hid (Below w.heap.size w w6) := HB4.out.trans (hB6.mono HB4.out.size)
  have HBT6 : Hid (Bts g1 (stuffL l1) w6) := HBT4.out.below hB6
  have HBU6 : Hid (Bts g3 (stuffL l1) w6) := HBU4.out.below hB6
  clear hB6 HK1 HK2
  have HEQ := beq_yes g3 g1 (stuffL l1) (stuffL l1).length (stuffL l1).length c3 c1 rfl rfl w6 HBU6.out HBT6.out
  go_wp2_with fail
  refine HEQ.mono ?_
  rintro e w7 ⟨rfl, rfl⟩
  clear HEQ
  go_wp2_with fail
  refine (wakes_any _).mono ?_
  rintro e wk ⟨rfl, hBk⟩
  have HBk : Hid (Below w.heap.size w wk) := HB6.out.trans (hBk.mono HB6.out.size)
  clear hBk
  go_wp2_with fail
  go_ret
  exact ⟨rfl, HBk.out⟩
set_option maxHeartbeats 4000000 in
set_option maxRecDepth 20000 in
theorem walk_b {w : World} (a1 : Option Addr) (l1 : List UInt8) (cap1 : Nat) (hr1 : Bts a1 l1 w) (hl1 : l1.length ≤ 1048576) (hc1 : l1.length ≤ cap1) (hn1 : a1 = none → cap1 = 0) (hm1 : cap1 ≤ 9223372036854775807) (t : Int) (ht : okLim t = false) (hz : wholeI l1 = 0) :
    Calls Try.prog 4 #[.slice a1 l1.length cap1, .int .i64 t] w fun e w' => e = .returned (.bool true) ∧ Below w.heap.size w w' := by
  have HPE : Hid (PeOk w ⟨a1, l1, cap1⟩) := ⟨hr1, hc1, hm1, hn1⟩
  clear hr1 hc1 hm1 hn1
  have HS1 := estuff_ok a1 l1 l1.length cap1 rfl w HPE.out (by omega) hz
  have HZ : Hid (wholeI l1 = 0) := hz
  clear hz
  go_enter Try.func4, Try.ntmps4
  go_wp2_with fail
  refine HS1.mono ?_
  rintro e w1 ⟨v1, rfl, hO1, hB1⟩
  obtain ⟨g1, c1, rfl, hb1, -⟩ := own_bts hO1
  have HB1 : Hid (Below w.heap.size w w1) := hB1
  have HBT1 : Hid (Bts g1 (stuffL l1) w1) := hb1
  clear hO1 hB1 hb1 HS1
  have HC1 := clone_any a1 l1 cap1 w1 (HPE.out.bt.below HB1.out) (by omega) HPE.out.nn
  go_wp2_with fail
  refine HC1.mono ?_
  rintro e w2 ⟨v2, rfl, hO2, hB2⟩
  obtain ⟨g2, c2, rfl, hb2, -⟩ := own_bts hO2
  have HB2 : Hid (Below w.heap.size w w2) := HB1.out.trans (hB2.mono HB1.out.size)
  have HBT2 : Hid (Bts g1 (stuffL l1) w2) := HBT1.out.below hB2
  have HS2 := dstuff_ok g2 l1 l1.length c2 rfl (by omega) w2 hb2 HZ.out
  clear hO2 hB2 hb2 HC1 HBT1
  go_wp2_with fail
  refine HS2.mono ?_
  rintro e w3 ⟨v3, rfl, hO3, hB3⟩
  obtain ⟨g3, c3, rfl, hb3, -⟩ := own_bts hO3
  have HB3 : Hid (Below w.heap.size w w3) := HB2.out.trans (hB3.mono HB2.out.size)
  have HBT3 : Hid (Bts g1 (stuffL l1) w3) := HBT2.out.below hB3
  have HBU3 : Hid (Bts g3 (stuffL l1) w3) := hb3
  clear hO3 hB3 hb3 HS2 HBT2
  have HC2 := clone_any a1 l1 cap1 w3 (HPE.out.bt.below HB3.out) (by omega) HPE.out.nn
  go_wp2_with fail
  refine HC2.mono ?_
  rintro e w4 ⟨v4, rfl, hO4, hB4⟩
  obtain ⟨g4, c4, rfl, hb4, -⟩ := own_bts hO4
  have HB4 : Hid (Below w.heap.size w w4) := HB3.out.trans (hB4.mono HB3.out.size)
  have HBT4 : Hid (Bts g1 (stuffL l1) w4) := HBT3.out.below hB4
  have HBU4 : Hid (Bts g3 (stuffL l1) w4) := HBU3.out.below hB4
  clear HBT3 HBU3
  have HK1 := dcheck_arg g4 l1.length c4 t ht w4
  have HK2 := echeck_arg a1 l1.length cap1 t ht w4
  clear hO4 hB4 hb4 HC2
  go_wp2_with fail
  refine HK1.mono ?_
  rintro e w5 ⟨rfl, rfl⟩
  go_wp2_with fail
  refine HK2.mono ?_
  rintro e w6 ⟨rfl, rfl⟩
  have HB6 : Hid (Below w.heap.size w w6) := HB4.out
  have HBT6 : Hid (Bts g1 (stuffL l1) w6) := HBT4.out
  have HBU6 : Hid (Bts g3 (stuffL l1) w6) := HBU4.out
  clear HK1 HK2
  have HEQ := beq_yes g3 g1 (stuffL l1) (stuffL l1).length (stuffL l1).length c3 c1 rfl rfl w6 HBU6.out HBT6.out
  go_wp2_with fail
  refine HEQ.mono ?_
  rintro e w7 ⟨rfl, rfl⟩
  clear HEQ
  go_wp2_with fail
  refine (wakes_any _).mono ?_
  rintro e wk ⟨rfl, hBk⟩
  have HBk : Hid (Below w.heap.size w wk) := HB6.out.trans (hBk.mono HB6.out.size)
  clear hBk
  go_wp2_with fail
  go_ret
  exact ⟨rfl, HBk.out⟩
set_option maxHeartbeats 4000000 in
set_option maxRecDepth 20000 in
theorem walk_c {w : World} (a1 : Option Addr) (l1 : List UInt8) (cap1 : Nat) (hr1 : Bts a1 l1 w) (hl1 : l1.length ≤ 1048576) (hc1 : l1.length ≤ cap1) (hn1 : a1 = none → cap1 = 0) (hm1 : cap1 ≤ 9223372036854775807) (t : Nat) (ht1 : 1 ≤ t) (ht2 : t ≤ 16777216) (hz : ¬ wholeI l1 = 0) :
    Calls Try.prog 4 #[.slice a1 l1.length cap1, .int .i64 (t : Int)] w fun e w' => e = .returned (.bool true) ∧ Below w.heap.size w w' := by
  have HPE : Hid (PeOk w ⟨a1, l1, cap1⟩) := ⟨hr1, hc1, hm1, hn1⟩
  clear hr1 hc1 hm1 hn1
  have HS1 := estuff_bad a1 l1 l1.length cap1 rfl w HPE.out (by omega) hz
  have HZ : Hid (¬ wholeI l1 = 0) := hz
  obtain ⟨Z, hZ⟩ : ∃ Z, wholeI l1 = Z := ⟨_, rfl⟩
  have HZZ : Hid (wholeI l1 = Z) := hZ
  rw [hZ] at HS1
  clear hZ
  clear hz
  go_enter Try.func4, Try.ntmps4
  go_wp2_with fail
  refine HS1.mono ?_
  rintro e w1 ⟨rfl, hB1⟩
  have HB1 : Hid (Below w.heap.size w w1) := hB1
  clear hB1 HS1
  have HC1 := clone_any a1 l1 cap1 w1 (HPE.out.bt.below HB1.out) (by omega) HPE.out.nn
  go_wp2_with fail
  refine HC1.mono ?_
  rintro e w2 ⟨v2, rfl, hO2, hB2⟩
  obtain ⟨g2, c2, rfl, hb2, -⟩ := own_bts hO2
  have HB2 : Hid (Below w.heap.size w w2) := HB1.out.trans (hB2.mono HB1.out.size)
  have HS2 := dstuff_bad g2 l1 l1.length c2 rfl (by omega) w2 hb2 HZ.out
  rw [HZZ.out] at HS2
  clear hO2 hB2 hb2 HC1
  go_wp2_with fail
  refine HS2.mono ?_
  rintro e w3 ⟨rfl, rfl⟩
  have HB3 : Hid (Below w.heap.size w w3) := HB2.out
  clear HS2
  have HC2 := clone_any a1 l1 cap1 w3 (HPE.out.bt.below HB3.out) (by omega) HPE.out.nn
  go_wp2_with fail
  refine HC2.mono ?_
  rintro e w4 ⟨v4, rfl, hO4, hB4⟩
  obtain ⟨g4, c4, rfl, hb4, -⟩ := own_bts hO4
  have HB4 : Hid (Below w.heap.size w w4) := HB3.out.trans (hB4.mono HB3.out.size)
  have HK1 := dcheck_ok g4 l1 l1.length c4 t rfl (by omega) ht1 ht2 w4 hb4
  have HK2 := echeck_ok a1 l1 l1.length cap1 t rfl w4 (HPE.out.below HB4.out) (by omega) ht1 ht2
  generalize checkI t l1 = Y at *
  clear hO4 hB4 hb4 HC2
  go_wp2_with fail
  refine HK1.mono ?_
  rintro e w5 ⟨rfl, rfl⟩
  go_wp2_with fail
  refine HK2.mono ?_
  rintro e w6 ⟨rfl, hB6⟩
  have HB6 : Hid (Below w.heap.size w w6) := HB4.out.trans (hB6.mono HB4.out.size)
  clear hB6 HK1 HK2
  have HEQ := beq_yes none none [] 0 0 0 0 rfl rfl w6 (.inl rfl) (.inl rfl)
  go_wp2_with fail
  refine HEQ.mono ?_
  rintro e w7 ⟨rfl, rfl⟩
  clear HEQ
  go_wp2_with fail
  refine (wakes_any _).mono ?_
  rintro e wk ⟨rfl, hBk⟩
  have HBk : Hid (Below w.heap.size w wk) := HB6.out.trans (hBk.mono HB6.out.size)
  clear hBk
  go_wp2_with fail
  go_ret
  exact ⟨rfl, HBk.out⟩
set_option maxHeartbeats 4000000 in
set_option maxRecDepth 20000 in
theorem walk_d {w : World} (a1 : Option Addr) (l1 : List UInt8) (cap1 : Nat) (hr1 : Bts a1 l1 w) (hl1 : l1.length ≤ 1048576) (hc1 : l1.length ≤ cap1) (hn1 : a1 = none → cap1 = 0) (hm1 : cap1 ≤ 9223372036854775807) (t : Int) (ht : okLim t = false) (hz : ¬ wholeI l1 = 0) :
    Calls Try.prog 4 #[.slice a1 l1.length cap1, .int .i64 t] w fun e w' => e = .returned (.bool true) ∧ Below w.heap.size w w' := by
  have HPE : Hid (PeOk w ⟨a1, l1, cap1⟩) := ⟨hr1, hc1, hm1, hn1⟩
  clear hr1 hc1 hm1 hn1
  have HS1 := estuff_bad a1 l1 l1.length cap1 rfl w HPE.out (by omega) hz
  have HZ : Hid (¬ wholeI l1 = 0) := hz
  obtain ⟨Z, hZ⟩ : ∃ Z, wholeI l1 = Z := ⟨_, rfl⟩
  have HZZ : Hid (wholeI l1 = Z) := hZ
  rw [hZ] at HS1
  clear hZ
  clear hz
  go_enter Try.func4, Try.ntmps4
  go_wp2_with fail
  refine HS1.mono ?_
  rintro e w1 ⟨rfl, hB1⟩
  have HB1 : Hid (Below w.heap.size w w1) := hB1
  clear hB1 HS1
  have HC1 := clone_any a1 l1 cap1 w1 (HPE.out.bt.below HB1.out) (by omega) HPE.out.nn
  go_wp2_with fail
  refine HC1.mono ?_
  rintro e w2 ⟨v2, rfl, hO2, hB2⟩
  obtain ⟨g2, c2, rfl, hb2, -⟩ := own_bts hO2
  have HB2 : Hid (Below w.heap.size w w2) := HB1.out.trans (hB2.mono HB1.out.size)
  have HS2 := dstuff_bad g2 l1 l1.length c2 rfl (by omega) w2 hb2 HZ.out
  rw [HZZ.out] at HS2
  clear hO2 hB2 hb2 HC1
  go_wp2_with fail
  refine HS2.mono ?_
  rintro e w3 ⟨rfl, rfl⟩
  have HB3 : Hid (Below w.heap.size w w3) := HB2.out
  clear HS2
  have HC2 := clone_any a1 l1 cap1 w3 (HPE.out.bt.below HB3.out) (by omega) HPE.out.nn
  go_wp2_with fail
  refine HC2.mono ?_
  rintro e w4 ⟨v4, rfl, hO4, hB4⟩
  obtain ⟨g4, c4, rfl, hb4, -⟩ := own_bts hO4
  have HB4 : Hid (Below w.heap.size w w4) := HB3.out.trans (hB4.mono HB3.out.size)
  have HK1 := dcheck_arg g4 l1.length c4 t ht w4
  have HK2 := echeck_arg a1 l1.length cap1 t ht w4
  clear hO4 hB4 hb4 HC2
  go_wp2_with fail
  refine HK1.mono ?_
  rintro e w5 ⟨rfl, rfl⟩
  go_wp2_with fail
  refine HK2.mono ?_
  rintro e w6 ⟨rfl, rfl⟩
  have HB6 : Hid (Below w.heap.size w w6) := HB4.out
  clear HK1 HK2
  have HEQ := beq_yes none none [] 0 0 0 0 rfl rfl w6 (.inl rfl) (.inl rfl)
  go_wp2_with fail
  refine HEQ.mono ?_
  rintro e w7 ⟨rfl, rfl⟩
  clear HEQ
  go_wp2_with fail
  refine (wakes_any _).mono ?_
  rintro e wk ⟨rfl, hBk⟩
  have HBk : Hid (Below w.heap.size w wk) := HB6.out.trans (hBk.mono HB6.out.size)
  clear hBk
  go_wp2_with fail
  go_ret
  exact ⟨rfl, HBk.out⟩
theorem walk {w : World} (a1 : Option Addr) (l1 : List UInt8) (cap1 : Nat) (hr1 : Bts a1 l1 w) (hl1 : l1.length ≤ 1048576) (hc1 : l1.length ≤ cap1) (hn1 : a1 = none → cap1 = 0) (hm1 : cap1 ≤ 9223372036854775807) (t : Int) (_ : -9223372036854775808 ≤ t ∧ t ≤ 9223372036854775807) :
    Calls Try.prog 4 #[.slice a1 l1.length cap1, .int .i64 t] w fun e w' => e = .returned (.bool true) ∧ Below w.heap.size w w' := by
  by_cases hz : wholeI l1 = 0
  · cases h : okLim t with
    | true =>
      have h2 := of_decide_eq_true h
      obtain ⟨t', rfl⟩ : ∃ t' : Nat, t = (t' : Int) := ⟨t.toNat, by omega⟩
      exact walk_a a1 l1 cap1 hr1 hl1 hc1 hn1 hm1 t' (by omega) (by omega) hz
    | false => exact walk_b a1 l1 cap1 hr1 hl1 hc1 hn1 hm1 t h hz
  · cases h : okLim t with
    | true =>
      have h2 := of_decide_eq_true h
      obtain ⟨t', rfl⟩ : ∃ t' : Nat, t = (t' : Int) := ⟨t.toNat, by omega⟩
      exact walk_c a1 l1 cap1 hr1 hl1 hc1 hn1 hm1 t' (by omega) (by omega) hz
    | false => exact walk_d a1 l1 cap1 hr1 hl1 hc1 hn1 hm1 t h hz

theorem own : ownKnob Try.prog.godebug = none := by kernel_rfl
theorem laidOut : laidOutB Try.prog = true := by kernel_rfl
set_option maxRecDepth 100000 in
theorem contract (H : Type) (enc : TypeId × Value → H) (W : World) (base : Nat) (args : Array Value) (ds gs : List (DataW H)) (before : List MemPlace)
    (hval : ∀ (j : Nat) t v, Try.f4.params[j]? = some t → args[j]? = some v → Value.okWide Try.prog W .any base t v)
    (hW : DataW.Whole enc Try.prog Try.f4.params.toList Rows.dotsChecksSpec.vars false W args.toList ds gs before)
    (hk : Rows.uptoSmall H (ds ++ gs) = true) :
    Calls Try.prog 4 args W fun e W' => ∃ v, e = .returned v ∧ Rows.dotsChecksSpec.post enc Try.prog Try.f4 false true false false W args v W' := by
  have hW' := hW
  obtain ⟨p, q, hA0, hV, rfl, hfz, hnd⟩ := hW
  have hA : DataW.TrodAll enc Try.prog W 0 (fun _ => true) true Try.f4.params.toList args.toList ds p := hA0
  rw [Try.params4] at hA hval
  obtain ⟨v0, vs0, d0, ds0, p0, q0, hargs, rfl, rfl, h0, r0⟩ := trodAll_cons hA
  obtain ⟨v1, vs1, d1, ds1, p1, q1, rfl, rfl, rfl, h1, r1⟩ := trodAll_cons r0
  obtain ⟨rfl, rfl, rfl⟩ := trodAll_nil r1
  obtain rfl : args = #[v0, v1] := by cases args; simp_all
  obtain ⟨rfl, rfl⟩ := trodVars_none hV
  have k0 := h0
  have lt0 : ∀ x ∈ p0, x.block < W.heap.size := by obtain ⟨m, hm⟩ := k0; exact DataW.trod_lt m _ _ _ hm
  obtain ⟨a0, len0, cap0, rfl⟩ := okWide_slice Try.underlying27 (hval 0 27 v0 rfl rfl)
  obtain ⟨l0, e0, row0, cp0, bd0⟩ := open_bytes h0
  have nn0 := open_none k0
  obtain ⟨a1, rfl, rfl, rfl, w1⟩ := open_int Try.underlying3 (hval 1 3 v1 rfl rfl) h1
  have b1 := bounds_i64 w1
  clear hA0
  have s0 : l0.length ≤ 1048576 := by
    rcases bd0 with ⟨el, sp, rfl, hl⟩ | ⟨rfl, hl⟩
    · have := bulk_slice hk (el := el) (sp := sp) (by simp)
      omega
    · omega
  subst e0
  refine (walk a0 l0 cap0 row0 s0 cp0 nn0 (open_cap k0) a1 b1).mono fun e W' ⟨he, bel⟩ => ?_
  subst he
  exact ⟨_, rfl, _, _, _, [], _, [], hW', trodAll_mk1 (shut_bool Try.underlying4 _), trodAll_cons_mk (Below.trod laidOut (by kernel_rfl) (of_decide_eq_true (by kernel_rfl)) k0 bel lt0) (trodAll_cons_mk (shut_int Try.underlying3 w1) trodAll_mk0), rfl, bel.frame _, fun h => by cases h⟩

set_option maxRecDepth 100000 in
theorem lifted (os : Os) (started : os.Started) (H : Type) (enc : TypeId × Value → H) (F : Stop.Interp) :
    ReturnsInHanded {} Try.checked os 4 .any ((Rows.OpenSpec.upto Rows.dotsChecksSpec).pre6 enc Try.prog Try.f4 Rows.dotsChecksUptoRow.domain false) (((Rows.OpenSpec.upto Rows.dotsChecksSpec).at F).post enc Try.prog Try.f4 false true false false) := by
  refine returnsInHanded_of_cond (C := Try.checked) (s := Rows.OpenSpec.upto Rows.dotsChecksSpec) (k := Rows.uptoSmall) rfl own started (by kernel_rfl) Try.func4
    (OpenSpec.witness (enc := enc) (C := Try.checked) (s := Rows.OpenSpec.upto Rows.dotsChecksSpec) (k := Rows.uptoSmall) rfl false ⟨#[], #[.slice none 0 0, .int .i64 0], []⟩ 8 (by kernel_rfl) (by kernel_rfl) (by kernel_rfl)
      (x := ([.nil, .lit (.int .i64 0)], [], [])) (by kernel_rfl) rfl (by kernel_rfl)) ?_
  intro W base args ds gs before hval hW _ hk _
  exact contract H enc W base args ds gs before hval hW hk

theorem over : Rows.DotsChecksUptoSaid :=
  OpenClaim.holds_of_cond 4 Try.f4 rfl rfl rfl rfl rfl rfl rfl ⟨rfl, rfl, rfl, rfl, rfl⟩ rfl rfl rfl rfl rfl (by kernel_rfl) Try.func4 (by kernel_rfl)
    (of_decide_eq_true (by kernel_rfl)) (by unfold Func.isWrapper; first | (rw [if_pos (by decide +kernel)]; kernel_rfl) | (rw [if_neg (by decide +kernel)]; exact ⟨rfl, rfl⟩))
    (fun os started H enc _ F => lifted os started H enc F)
end Go.Proofs.Ytfifpepcmpaipaa.dotsChecks
namespace Go.Proofs.Ytfifpepcmpaipaa
theorem dotsChecksUpto_said : Rows.DotsChecksUptoSaid := dotsChecks.over
#print axioms dotsChecksUpto_said
end Go.Proofs.Ytfifpepcmpaipaa
