/-
  P15.3: within something under way nothing else begins, and the refusal changes nothing.
-/
import Derived.Test.YthnjbnhmdjpfpabWt15
import Derived.Test.YthnjbnhmdjpfpabOpW15
import Derived.Test.YthnjbnhmdjpfpabRows
import Derived.Deep.CutRange
import Derived.ProofKit
import Derived.ChangeMaps5
import Derived.OpenShut
import Derived.ShutString
import Derived.ChangeOld
import Derived.SizedLaws
namespace Go.Proofs.Ythnjbnhmdjpfpab.framerWaits
open Go.ChangeShapes Go.WideShapes Go.ChangeAt Go.RowKit

theorem wt_cells {w : World} {g : Nat} {s : ByteArray} {mo n rm : Int} {v : Value} (h : Lies w g #[.string s, .int .i64 mo, .int .i64 n, .int .i64 rm, v] 24) : w.cell? ⟨g, 0, none⟩ = some (.string s) ∧ w.cell? ⟨g, 1, none⟩ = some (.int .i64 mo) ∧ w.cell? ⟨g, 2, none⟩ = some (.int .i64 n) ∧ w.cell? ⟨g, 3, none⟩ = some (.int .i64 rm) ∧ w.cell? ⟨g, 4, none⟩ = some v := ⟨h.cell 0, h.cell 1, h.cell 2, h.cell 3, h.cell 4⟩
theorem cut_long {a1 : Option Addr} {l1 : List UInt8} {w : World} (c : Nat) (h : c < l1.length) (hb : Bts a1 l1 w) : ∃ L : List UInt8, L.length = c ∧ Bts a1 L w := ⟨l1.take c, by rw [List.length_take]; omega, hb.take c⟩
theorem run_slH (a : Option Addr) (n cap q : Nat) (h2 : q ≤ cap) (w : World) : (Instr.sliceAt 22 (.slice a n cap) none (some (.int .i64 (q : Int))) none).run Try.prog w = .ok (.slice a q cap) w := by
  have hu : Try.prog.underlying 22 = some (.slice (Try.prog.elem 22)) := Try.underlying22
  have hs : (sizeOf (Try.prog.elem 22)).run Try.prog w = .ok 1 w := by
    obtain ⟨i0, hi0, hz0, hz1, hz2⟩ := info_parts info5
    have : (sizeOf 5).run Try.prog w = .ok 1 w := by go_simp
    exact this
  rw [run_sliceAt_slice (h := hu), run_slice_h (ht := hu) (h0 := by omega) (h2 := by omega), hs]
  cases a <;> simp [Result.andThen, sliced, Addr.add]
theorem str_add (p : List UInt8) : (⟨p.toArray⟩ : ByteArray) ++ ⟨#[120]⟩ = ⟨(p ++ [120]).toArray⟩ := by
  apply ByteArray.ext
  simp
theorem conv_bytes (w : World) (s : List UInt8) : ∃ c w2, (convert 9 22 (.string ⟨s.toArray⟩)).run Try.prog w = .ok (.slice (some ⟨w.heap.size, 0, none⟩) s.length c) w2 ∧ s.length ≤ c ∧ Bts (some ⟨w.heap.size, 0, none⟩) s w2 ∧ Below w.heap.size w w2 := by
  refine ⟨_, _, Lib.run_convert_string_bytes w 9 22 5 ⟨s.toArray⟩ Try.underlying9 Try.underlying22 Try.underlying5, ?_, ?_, ?_⟩
  · exact grownCap_ge _ _ _ _
  · refine .inr ⟨w.heap.size, 0, rfl, by rw [Lib.bytesWorld_size]; omega, fun j hj => ?_⟩
    rw [Nat.zero_add, Lib.bytesWorld_cell w 5 ⟨s.toArray⟩ j (show j < s.toArray.size by simpa using hj)]
    simp [List.getD, hj]
  · exact ⟨rfl, rfl, rfl, by rw [Lib.bytesWorld_size]; omega, fun k hk => Lib.bytesWorld_at_old w 5 _ k hk⟩

set_option maxHeartbeats 16000000 in
set_option maxRecDepth 100000 in
theorem walk {w : World} (s : ByteArray) (hs : s.size ≤ 140737488351232) (mo n rm : Int) (hn : -9223372036854775808 ≤ n ∧ n ≤ 9223372036854775807) (hr : -9223372036854775808 ≤ rm ∧ rm ≤ 9223372036854775807) (a1 : Option Addr) (l1 : List UInt8) (cap1 : Nat) (hr1 : Bts a1 l1 w) (hc1 : l1.length ≤ cap1) (hm1 : cap1 ≤ 9223372036854775807) (hn1 : a1 = none → cap1 = 0) :
    Calls Try.prog 3 #[.agg #[.string s, .int .i64 mo, .int .i64 n, .int .i64 rm, .slice a1 l1.length cap1]] w fun e w' => e = .returned (.bool true) ∧ Below w.heap.size w w' := by
  obtain ⟨W0, hW0⟩ : ∃ W0, W0 = w.alloc (.cells #[.string s, .int .i64 mo, .int .i64 n, .int .i64 rm, .slice a1 l1.length cap1] 24) := ⟨_, rfl⟩
  have hB0 : Below w.heap.size w W0 := by subst hW0; exact (Below.refl _ _).alloc (Nat.le_refl _) _
  have hL0 : Lies W0 w.heap.size #[.string s, .int .i64 mo, .int .i64 n, .int .i64 rm, .slice a1 l1.length cap1] 24 := by subst hW0; exact Lies.new w _ _
  have HL0 : Hid (Lies W0 w.heap.size #[.string s, .int .i64 mo, .int .i64 n, .int .i64 rm, .slice a1 l1.length cap1] 24) := hL0
  have HB0 : Hid (Below w.heap.size w W0) := hB0
  have HBT : Hid (Bts a1 l1 w) := hr1
  have HN : Hid (a1 = none → cap1 = 0) := hn1
  have HSS : Hid (s.size ≤ 140737488351232) := hs
  have HNR : Hid ((-9223372036854775808 ≤ n ∧ n ≤ 9223372036854775807) ∧ (-9223372036854775808 ≤ rm ∧ rm ≤ 9223372036854775807)) := ⟨hn, hr⟩
  have HWW : Hid (w.alloc (.cells #[.string s, .int .i64 mo, .int .i64 n, .int .i64 rm, .slice a1 l1.length cap1] 24) = W0) := hW0.symm
  have HHD := lhead_any W0
  clear hW0 hB0 hL0 hr1 hn1 hs hn hr
  go_enter Try.func3, Try.ntmps3
  go_wp2_with (rw [HWW.out])
  refine HHD.mono ?_
  rintro e w1 ⟨rfl, hB1⟩
  have hL1 := HL0.out.below hB1 HL0.out.lt
  have HB1 : Hid (Below w.heap.size w w1) := HB0.out.trans (hB1.mono HB0.out.size)
  obtain ⟨c0, c1, c2, c3, c4⟩ := wt_cells hL1
  clear hB1 hL1 HHD HWW HL0 HB0
  go_wp2_with fail
  go_region
  go_upto_if 35 with fail
  go_cut [7] from 33 to 37 (fun v wc => ∃ L : List UInt8, v = .slice a1 L.length cap1 ∧ wc = w1.drew ∧ Hid (Bts a1 L w ∧ L.length ≤ 1048576 ∧ L.length ≤ cap1))
  case first =>
    by_cases hlong : 1048576 < l1.length
    · have hlong' : (1048576 : Int) < (l1.length : Int) := by omega
      have hcc : ¬ (cap1 : Int) < 1048576 := by omega
      obtain ⟨L0, e0, b0⟩ := cut_long 1048576 hlong HBT.out
      have hsl : (Instr.sliceAt 22 (.slice a1 l1.length cap1) none (some (.int .i64 1048576)) none).run Try.prog w1.drew = .ok (.slice a1 1048576 cap1) w1.drew := run_slH a1 l1.length cap1 1048576 (by omega) w1.drew
      have HE0 : Hid (L0.length = 1048576 ∧ Bts a1 L0 w ∧ 1048576 ≤ cap1) := ⟨e0, b0, by omega⟩
      clear e0 b0 hlong hcc hc1 hm1 c0 c1 c2 c3 c4
      go_wp2_with fail
      go_meet
      exact ⟨L0, by rw [HE0.out.1], rfl, HE0.out.2.1, by rw [HE0.out.1]; exact Nat.le_refl _, by rw [HE0.out.1]; exact HE0.out.2.2⟩
    · have hlong' : ¬ (1048576 : Int) < (l1.length : Int) := by omega
      go_wp2_with fail
      go_meet
      exact ⟨l1, rfl, rfl, HBT.out, by omega, hc1⟩
  case rest =>
    obtain ⟨L, rfl, rfl, HLQ⟩ := hcut
    clear hc1 hm1
    obtain ⟨W2, hW2⟩ : ∃ W2, W2 = (w1.alloc (.cells #[.int .i64 1024, .int .i64 9, .int .i64 9, .int .i64 1, .int .i64 1, .int .i64 1] 27)).drew := ⟨_, rfl⟩
    have hB2 : Below w1.heap.size w1 W2 := by subst hW2; exact ((Below.refl _ _).alloc (Nat.le_refl _) _).drew
    have HB2 : Hid (Below w.heap.size w W2) := HB1.out.trans (hB2.mono HB1.out.size)
    have hL2 : Lies W2 w1.heap.size #[.int .i64 1024, .int .i64 9, .int .i64 9, .int .i64 1, .int .i64 1, .int .i64 1] 27 := by subst hW2; exact Lies.new w1 _ _
    have HL2 : Hid (Lies W2 w1.heap.size #[.int .i64 1024, .int .i64 9, .int .i64 9, .int .i64 1, .int .i64 1, .int .i64 1] 27) := hL2
    have HN1 := xnew_ok 1024 9 9 1 1 1 (by unfold okL; omega) (by unfold okL; omega) (by unfold okL; omega) (by unfold okL; omega) (by unfold okL; omega) (by unfold okL; omega) W2
    unfold limC at HN1
    have HW2 : Hid ((w1.alloc (.cells #[.int .i64 1024, .int .i64 9, .int .i64 9, .int .i64 1, .int .i64 1, .int .i64 1] 27)).drew = W2) := hW2.symm
    clear hW2 hB2 hL2 c0 c1 c2 c3 c4 HB1
    go_wp2_with fail
    rw [HW2.out]
    clear HW2
    refine HN1.mono ?_
    rintro e w3 ⟨b1, rfl, hX1, hB3⟩
    have HX1 : Hid (Fm w3 (fun k => W2.heap.size ≤ k ∧ k < w3.heap.size) b1 1024 9 9 (.ln [])) := hX1
    have HB3 : Hid (Below W2.heap.size W2 w3) := hB3
    have hL3 : Lies w3 w1.heap.size #[.int .i64 1024, .int .i64 9, .int .i64 9, .int .i64 1, .int .i64 1, .int .i64 1] 27 := HL2.out.below hB3 HL2.out.lt
    obtain ⟨d0, d1, d2, d3, d4, d5⟩ : w3.cell? ⟨w1.heap.size, 0, none⟩ = some (.int .i64 1024) ∧ w3.cell? ⟨w1.heap.size, 1, none⟩ = some (.int .i64 9) ∧ w3.cell? ⟨w1.heap.size, 2, none⟩ = some (.int .i64 9) ∧ w3.cell? ⟨w1.heap.size, 3, none⟩ = some (.int .i64 1) ∧ w3.cell? ⟨w1.heap.size, 4, none⟩ = some (.int .i64 1) ∧ w3.cell? ⟨w1.heap.size, 5, none⟩ = some (.int .i64 1) := ⟨hL3.cell 0, hL3.cell 1, hL3.cell 2, hL3.cell 3, hL3.cell 4, hL3.cell 5⟩
    have HN2 := fun w => xnew_ok 1024 9 9 1 1 1 (by unfold okL; omega) (by unfold okL; omega) (by unfold okL; omega) (by unfold okL; omega) (by unfold okL; omega) (by unfold okL; omega) w
    unfold limC at HN2
    clear hX1 hB3 hL3 HN1 HL2
    go_wp2_with fail
    refine (HN2 _).mono ?_
    rintro e w4 ⟨b2, rfl, hX2, hB4⟩
    have HTW4 : Hid (Tw w4 w.heap.size w4.heap.size b1 b2 (.ln []) (.ln [])) := by
      have h0 := HB2.out.size
      have h1 := HB3.out.size
      have h2 := hB4.size
      refine ⟨_, _, HX1.out.below hB4, hX2, fun q a b => ?_, fun q a => ?_, fun q a => ?_, fun a => ?_, fun a => ?_⟩
      · have := a.2; have := b.1; omega
      · have := a.1; omega
      · have := a.1; omega
      · have := a.2; omega
      · have := a.2; omega
    have HB4 : Hid (Below w.heap.size w w4) := (HB2.out.trans (HB3.out.mono HB2.out.size)).trans (hB4.mono (Nat.le_trans HB2.out.size HB3.out.size))
    obtain ⟨p, hp⟩ : ∃ p, plG 512 [] s.data.toList = p := ⟨_, rfl⟩
    have HPK : Hid (bareB p = false ∧ p.length ≤ 512) := by rw [← hp]; exact plG_ok 512 _ [] rfl (by simp)
    have HP := lplain_any s 512 (by decide) (by have := HSS.out; omega) w4
    rw [hp] at HP
    have hpl : ¬ 9223372036854775807 < p.length + 1 := by have := HPK.out.2; omega
    clear hX2 hB4 HX1 HB3 HB2 HN2 d0 d1 d2 d3 d4 d5 hp
    go_wp2_with fail
    refine HP.mono ?_
    rintro e w5 ⟨rfl, hB5⟩
    have HTW5 : Hid (Tw w5 w.heap.size w5.heap.size b1 b2 (.ln []) (.ln [])) := (HTW4.out.below hB5).turn
    have HB5 : Hid (Below w.heap.size w w5) := HB4.out.trans (hB5.mono HB4.out.size)
    clear hB5 HP HTW4 HB4
    obtain ⟨W6, hW6⟩ : ∃ W6, W6 = w5.alloc (.cells #[.pointer (some ⟨b1, 0, none⟩), .pointer (some ⟨b2, 0, none⟩)] 28) := ⟨_, rfl⟩
    have hB6 : Below w5.heap.size w5 W6 := by subst hW6; exact (Below.refl _ _).alloc (Nat.le_refl _) _
    have HL6 : Hid (Lies W6 w5.heap.size #[.pointer (some ⟨b1, 0, none⟩), .pointer (some ⟨b2, 0, none⟩)] 28) := by subst hW6; exact Lies.new w5 _ _
    have HTW6 : Hid (Tw W6 w.heap.size w5.heap.size b1 b2 (.ln []) (.ln [])) := HTW5.out.below hB6
    have HB6 : Hid (Below w.heap.size w W6) := HB5.out.trans (hB6.mono HB5.out.size)
    have HW6 : Hid (w5.alloc (.cells #[.pointer (some ⟨b1, 0, none⟩), .pointer (some ⟨b2, 0, none⟩)] 28) = W6) := hW6.symm
    clear hW6 hB6 HTW5 HB5
    go_wp2_with (rw [HW6.out])
    clear HW6 hpl
    go_loopw [62] (fun iv wr => ∃ k : Nat, k ≤ 2 ∧ iv = .int .i64 (k : Int) ∧ Hid (Tw wr w.heap.size w5.heap.size b1 b2 (if 1 ≤ k then stW mo p else .ln []) (if 2 ≤ k then stW mo p else .ln [])) ∧ Hid (Lies wr w5.heap.size #[.pointer (some ⟨b1, 0, none⟩), .pointer (some ⟨b2, 0, none⟩)] 28) ∧ Hid (Below w.heap.size w wr)) (fun iv _ => 2 - (intOf iv).toNat)
    case atStart => exact ⟨0, by omega, rfl, HTW6.out, HL6.out, HB6.out⟩
    case round =>
      obtain ⟨k, hk, rfl, HTW, HL, HB⟩ := hrel
      clear HTW6 HL6 HB6
      by_cases hk2 : k < 2
      · obtain ⟨b, c, S, hcell, hX, hY⟩ : ∃ b c S, wr.cell? ⟨w5.heap.size, k, none⟩ = some (.pointer (some ⟨b, 0, none⟩)) ∧ Tw wr w.heap.size w5.heap.size b c (.ln []) S ∧ ∀ w', Tw w' w.heap.size w5.heap.size b c (stW mo p) S → Tw w' w.heap.size w5.heap.size b1 b2 (if 1 ≤ k + 1 then stW mo p else .ln []) (if 2 ≤ k + 1 then stW mo p else .ln []) := by
          rcases (by omega : k = 0 ∨ k = 1) with rfl | rfl
          · exact ⟨b1, b2, .ln [], HL.out.cell 0, HTW.out, fun _ h => h⟩
          · exact ⟨b2, b1, stW mo p, HL.out.cell 1, HTW.out.swap, fun _ h => h.swap⟩
        have HY : Hid _ := hY
        have HX : Hid _ := hX
        have hk2' : (k : Int) < 2 := by omega
        clear hY hX HTW
        by_cases hmo : mo = 1
        · have m1 : (mo == 1) = true := by simp [hmo]
          have hst : stW mo p = .dt Ds.new := by unfold stW; rw [if_pos hmo]
          have HD := tw_data w.heap.size w5.heap.size b c S wr HB.out.size HL.out.lt HX.out
          clear hmo
          go_wp2_with fail
          refine HD.mono ?_
          rintro e w7 ⟨rfl, hT7, hB7, hZ7⟩
          have HT7 : Hid (Tw w7 w.heap.size w5.heap.size b1 b2 (if 1 ≤ k + 1 then stW mo p else .ln []) (if 2 ≤ k + 1 then stW mo p else .ln [])) := by rw [← hst] at hT7; exact HY.out _ hT7
          have HL7 : Hid (Lies w7 w5.heap.size #[.pointer (some ⟨b1, 0, none⟩), .pointer (some ⟨b2, 0, none⟩)] 28) := hZ7.trans HL.out
          have HB7 : Hid (Below w.heap.size w w7) := HB.out.trans hB7
          clear hT7 hB7 hZ7 HD HX HY HL HB hst
          go_wp2_with fail
          go_roundw
          case rel => exact ⟨k + 1, by omega, by go_num, HT7.out, HL7.out, HB7.out⟩
          case measure => simp [intOf]; omega
        · have m1 : (mo == 1) = false := by simp [hmo]
          by_cases hmp : mo = 2
          · have m2 : (mo == 2) = true := by simp [hmp]
            have hst : stW mo p = .ch 1099511627776 3 := by unfold stW; rw [if_neg hmo, if_pos hmp]
            have HD : Calls Try.prog 8 #[.pointer (some ⟨b, 0, none⟩), .int .i64 1099511627776, .int .i64 3] wr fun e w' => e = .returned (.int .i64 0) ∧ Tw w' w.heap.size w5.heap.size b c (.ch 1099511627776 3) S ∧ Below w.heap.size wr w' ∧ w'.heap[w5.heap.size]? = wr.heap[w5.heap.size]? := tw_chunk w.heap.size w5.heap.size b c 1099511627776 3 (by omega) (by omega) S wr HB.out.size HL.out.lt HX.out
            clear hmo hmp
            go_wp2_with fail
            refine HD.mono ?_
            rintro e w7 ⟨rfl, hT7, hB7, hZ7⟩
            have HT7 : Hid (Tw w7 w.heap.size w5.heap.size b1 b2 (if 1 ≤ k + 1 then stW mo p else .ln []) (if 2 ≤ k + 1 then stW mo p else .ln [])) := by rw [← hst] at hT7; exact HY.out _ hT7
            have HL7 : Hid (Lies w7 w5.heap.size #[.pointer (some ⟨b1, 0, none⟩), .pointer (some ⟨b2, 0, none⟩)] 28) := hZ7.trans HL.out
            have HB7 : Hid (Below w.heap.size w w7) := HB.out.trans hB7
            clear hT7 hB7 hZ7 HD HX HY HL HB hst
            go_wp2_with fail
            go_roundw
            case rel => exact ⟨k + 1, by omega, by go_num, HT7.out, HL7.out, HB7.out⟩
            case measure => simp [intOf]; omega
          · have m2 : (mo == 2) = false := by simp [hmp]
            have hst : stW mo p = .ln (p ++ [120]) := by unfold stW; rw [if_neg hmo, if_neg hmp]
            obtain ⟨cv, wv, hcv, hcc, hbv, hBv⟩ := conv_bytes wr (p ++ [120])
            rw [← str_add] at hcv
            have HD := tw_take w.heap.size w5.heap.size b c (.ln []) S trivial (some ⟨wr.heap.size, 0, none⟩) (p ++ [120]) (p.length + 1) cv (by simp) (by have := HPK.out.2; simp; omega) hcc (fun e => by cases e) wr wv HB.out.size HL.out.lt HX.out hBv hbv (fun a' e => by cases e; exact Nat.le_refl _)
            rw [take_begin HPK.out.1] at HD
            have HBV : Hid (Below wr.heap.size wr wv) := hBv
            clear hmo hmp hbv hBv hcc
            go_wp2_with fail
            refine HD.mono ?_
            rintro e w7 ⟨v, rfl, -, -, hT7, hB7, hZ7, -⟩
            have HT7 : Hid (Tw w7 w.heap.size w5.heap.size b1 b2 (if 1 ≤ k + 1 then stW mo p else .ln []) (if 2 ≤ k + 1 then stW mo p else .ln [])) := by rw [← hst] at hT7; exact HY.out _ hT7
            have HL7 : Hid (Lies w7 w5.heap.size #[.pointer (some ⟨b1, 0, none⟩), .pointer (some ⟨b2, 0, none⟩)] 28) := hZ7.trans HL.out
            have HB7 : Hid (Below w.heap.size w w7) := (HB.out.trans (HBV.out.mono HB.out.size)).trans hB7
            clear hT7 hB7 hZ7 HD HX HY HL HB hst hcv HBV
            go_wp2_with fail
            go_roundw
            case rel => exact ⟨k + 1, by omega, by go_num, HT7.out, HL7.out, HB7.out⟩
            case measure => simp [intOf]; omega

      · obtain rfl : k = 2 := by omega
        have hTW : Tw wr w.heap.size w5.heap.size b1 b2 (stW mo p) (stW mo p) := HTW.out
        obtain ⟨st, hst⟩ : ∃ st, stW mo p = st := ⟨_, rfl⟩
        have HLE : Hid (st.le 1152921504606846976) := by rw [← hst]; exact stW_le mo p
        have hfree := stW_free mo p
        rw [hst] at hTW hfree
        obtain ⟨F1, F2, h1, h2, h3, h4, h5, h6, h7⟩ := hTW.ex
        have HD := xdata_no F1 b1 1024 9 9 st wr h1 hfree
        have HM1 := xmode_fm F1 b1 1024 9 9 st wr h1
        have HM2 := xmode_fm F2 b2 1024 9 9 st wr h2
        have HH1 := xheld_fm F1 b1 1024 9 9 st wr h1
        have HH2 := xheld_fm F2 b2 1024 9 9 st wr h2
        have HCK : Calls Try.prog 8 #[.pointer (some ⟨b1, 0, none⟩), .int .i64 n, .int .i64 rm] wr fun e w' => e = .returned (.int .i64 (if n < 0 ∨ rm < 0 then 2 else 6)) ∧ w' = wr := by
          by_cases hneg : n < 0 ∨ rm < 0
          · rw [if_pos hneg]
            exact xchunk_arg F1 b1 1024 9 9 st n rm wr h1 hneg
          · rw [if_neg hneg]
            exact xchunk_no F1 b1 1024 9 9 st n rm wr h1 (fun h => hneg (.inl h)) (fun h => hneg (.inr h)) hfree
        have HX : Hid (Tw wr w.heap.size w5.heap.size b1 b2 st st) := hTW
        clear hTW hst hfree h1 h2 h3 h4 h5 h6 h7 HTW HNR
        go_upto_region 25 with fail
        go_cut [87] from 82 to 87 (fun v wc => wc = wr ∧ v = .bool (decide (n < 0 ∨ rm < 0)))
        case first =>
          by_cases hn : n < 0
          · go_wp2_with fail
            go_meet
            exact ⟨rfl, by rw [decide_eq_true (by omega)]⟩
          · by_cases hr : rm < 0
            · go_wp2_with fail
              go_meet
              exact ⟨rfl, by rw [decide_eq_true (by omega)]⟩
            · go_wp2_with fail
              go_meet
              exact ⟨rfl, by rw [decide_eq_false (by omega)]⟩
        case rest =>
          obtain ⟨rfl, rfl⟩ := hcut
          go_upto_if 87 with fail
          go_cut [16] from 82 to 87 (fun v wx => wx = wc ∧ v = .int .i64 (if n < 0 ∨ rm < 0 then 2 else 6))
          case first =>
            by_cases hn : n < 0 ∨ rm < 0
            · rw [decide_eq_true hn]
              go_wp2_with fail
              go_meet
              exact ⟨rfl, by rw [if_pos hn]⟩
            · rw [decide_eq_false hn]
              go_wp2_with fail
              go_meet
              exact ⟨rfl, by rw [if_neg hn]⟩
          case rest =>
            obtain ⟨rfl, rfl⟩ := hcut
            generalize (if n < 0 ∨ rm < 0 then (2 : Int) else 6) = E at HCK ⊢
            go_wp2_with fail
            refine HD.mono ?_
            rintro e w8 ⟨rfl, rfl⟩
            go_wp2_with fail
            refine HCK.mono ?_
            rintro e w8 ⟨rfl, rfl⟩
            go_wp2_with fail
            refine HM1.mono ?_
            rintro e w8 ⟨rfl, rfl⟩
            go_wp2_with fail
            refine HM2.mono ?_
            rintro e w8 ⟨rfl, rfl⟩
            go_wp2_with fail
            refine HH1.mono ?_
            rintro e w8 ⟨rfl, rfl⟩
            go_wp2_with fail
            refine HH2.mono ?_
            rintro e w8 ⟨rfl, rfl⟩
            clear HD HCK HM1 HM2 HH1 HH2
            have HQ0 : Hid ((w8.alloc (.cells #[] 5)).ownsRow w8.heap.size 5 1 (.slice (some ⟨w8.heap.size, 0, none⟩) 0 0) 0 (cellsB [])) := World.ownsRow_made w8 #[] 0 (Nat.le_refl _) (by unfold maxLen; omega) rfl
            have HBA : Hid (Below w8.heap.size w8 (w8.alloc (.cells #[] 5))) := (Below.refl _ _).alloc (Nat.le_refl _) _
            have HL9 : Hid (Bts a1 L w8) := HLQ.out.1.below HB.out
            go_wp2_with (at_builtin; refine wpList_append_keep rfl _ _ rfl w8.heap.size _ 0 [] rfl HQ0.out a1 L L.length cap1 rfl rfl (HL9.out.below HBA.out) HN.out (by have := HLQ.out.2.1; omega) HBA.out.size ?_)
            intro v1 wa hown1 hgrow1
            have HBa : Hid (Below w8.heap.size w8 wa) := HBA.out.grown hgrow1 HBA.out.size (fun q hq => (HQ0.out.lt q hq).1)
            have hown1' : wa.ownsRow w8.heap.size 5 1 v1 L.length (cellsB L) := by simpa using hown1
            obtain ⟨ga, gc, rfl, hbt1, -, hgn, hgc, -⟩ := own_bts hown1'
            have HT1 := tw_take w.heap.size w5.heap.size b1 b2 st st HLE.out ga L L.length gc rfl (by have := HLQ.out.2.1; omega) hgc hgn w8 wa HB.out.size HL.out.lt HX.out HBa.out hbt1 (fun a' e => (hown1'.lt a'.block (by rw [e]; rfl)).1)
            obtain ⟨⟨K, I, S2⟩, hR⟩ : ∃ R, ftk 1024 9 9 st L = R := ⟨_, rfl⟩
            rw [hR] at HT1
            dsimp only at HT1
            unfold fiV fiC at HT1
            have HR : Hid (ftk 1024 9 9 st L = (K, I, S2)) := hR
            have HGN : Hid ((ga = none → gc = 0) ∧ L.length ≤ gc) := ⟨hgn, hgc⟩
            clear hown1 hgrow1 hown1' hbt1 hgn hgc HQ0 HBA hR
            go_wp2_with fail
            refine HT1.mono ?_
            rintro e wx ⟨v1, rfl, hO1, hN1, -, hB1', -, F, hF, hFB⟩
            obtain ⟨gv, cv1, rfl, -⟩ := own_bts hO1
            have hsa := HBa.out.size
            have hsx := hB1'.size
            obtain ⟨V1, hV1⟩ : ∃ V1, V1 = wx.alloc (.cells #[.int .i64 (fiK I), .string ⟨(fiT I).toArray⟩, .slice gv (fiB I).length cv1, .int .i64 (fiY I), .bool (fiH I)] 37) := ⟨_, rfl⟩
            have hVB1 : Below wx.heap.size wx V1 := by subst hV1; exact (Below.refl _ _).alloc (Nat.le_refl _) _
            have HVL1 : Hid (Lies V1 wx.heap.size #[.int .i64 (fiK I), .string ⟨(fiT I).toArray⟩, .slice gv (fiB I).length cv1, .int .i64 (fiY I), .bool (fiH I)] 37) := by subst hV1; exact Lies.new wx _ _
            have HV1 : Hid (wx.alloc (.cells #[.int .i64 (fiK I), .string ⟨(fiT I).toArray⟩, .slice gv (fiB I).length cv1, .int .i64 (fiY I), .bool (fiH I)] 37) = V1) := hV1.symm
            have HBx : Hid (Below w.heap.size w wx) := (HB.out.trans (HBa.out.mono HB.out.size)).trans hB1'
            have HBV1 : Hid (Below w.heap.size w V1) := HBx.out.trans (hVB1.mono HBx.out.size)
            have HO1 : Hid (V1.ownsRow 0 5 1 (.slice gv (fiB I).length cv1) (fiB I).length (cellsB (fiB I))) := own_keep hO1 (fun q e => hVB1.block q (hO1.lt q e).2)
            have HN1 : Hid (∀ q, (Value.slice gv (fiB I).length cv1).ownBlock = some q → wa.heap.size ≤ q) := hN1
            have HF : Hid (Fm V1 F b2 1024 9 9 st) := hF.below hVB1
            have HFB : Hid ((∀ q, F q → w.heap.size ≤ q ∧ q < w8.heap.size) ∧ w8.heap.size ≤ wa.heap.size ∧ wa.heap.size ≤ wx.heap.size ∧ wx.heap.size < V1.heap.size) := ⟨hFB, hsa, hsx, HVL1.out.lt⟩
            have HLV : Hid (Bts a1 L V1) := HLQ.out.1.below HBV1.out
            clear hO1 hN1 hB1' hF hFB hV1 hVB1 hsa hsx HT1 HX HBa HBx HL HL9
            have HQ0 : Hid ((V1.alloc (.cells #[] 5)).ownsRow V1.heap.size 5 1 (.slice (some ⟨V1.heap.size, 0, none⟩) 0 0) 0 (cellsB [])) := World.ownsRow_made V1 #[] 0 (Nat.le_refl _) (by unfold maxLen; omega) rfl
            have HBA : Hid (Below V1.heap.size V1 (V1.alloc (.cells #[] 5))) := (Below.refl _ _).alloc (Nat.le_refl _) _
            go_wp2_with (first | rw [HV1.out] | (at_builtin; refine wpList_append_keep rfl _ _ rfl V1.heap.size _ 0 [] rfl HQ0.out a1 L L.length cap1 rfl rfl (HLV.out.below HBA.out) HN.out (by have := HLQ.out.2.1; omega) HBA.out.size ?_))
            intro v2 wb hown2 hgrow2
            have HBb : Hid (Below V1.heap.size V1 wb) := HBA.out.grown hgrow2 HBA.out.size (fun q hq => (HQ0.out.lt q hq).1)
            have hown2' : wb.ownsRow V1.heap.size 5 1 v2 L.length (cellsB L) := by simpa using hown2
            obtain ⟨gb, gd, rfl, hbt2, -, hgn2, hgc2, -⟩ := own_bts hown2'
            have HT2 := xtake_any F b2 1024 9 9 st gb L L.length gd rfl (by have := HLQ.out.2.1; omega) hgc2 hgn2 HLE.out wb (HF.out.below HBb.out) hbt2 (fun a' e h => by have h1 := (hown2'.lt a'.block (by rw [e]; rfl)).1; have h2 := HF.out.fl _ h; omega)
            rw [HR.out] at HT2
            dsimp only at HT2
            unfold fiV fiC at HT2
            clear hown2 hgrow2 hown2' hbt2 hgn2 hgc2 HQ0 HBA HV1
            go_wp2_with fail
            refine HT2.mono ?_
            rintro e wy ⟨v2, G, rfl, hK⟩
            have hO2 := hK.ow
            obtain ⟨gw, cv2, rfl, hbw, -⟩ := own_bts hO2
            have hnF : ∀ q, wa.heap.size ≤ q → ¬ F q := fun q hq h => by have h1 := (HFB.out.1 q h).2; have h2 := HFB.out.2.1; omega
            have hb1w : Bts gv (fiB I) V1 := by
              obtain ⟨xa, xc, e1, h, -⟩ := own_bts HO1.out
              cases e1
              exact h
            have hb1 : Bts gv (fiB I) wy := (hb1w.below HBb.out).chg hK.ch (fun a' e h => by subst e; exact hnF _ (HN1.out _ rfl) h)
            have hLy : Lies wy wx.heap.size #[.int .i64 (fiK I), .string ⟨(fiT I).toArray⟩, .slice gv (fiB I).length cv1, .int .i64 (fiY I), .bool (fiH I)] 37 := hK.ch.lies (HVL1.out.below HBb.out HVL1.out.lt) (hnF _ HFB.out.2.2.1)
            have HBy : Hid (Below w.heap.size w wy) := (HBV1.out.trans (HBb.out.mono HBV1.out.size)).trans (hK.ch.to_below (Nat.le_trans HBV1.out.size HBb.out.size) (fun q h => (HFB.out.1 q h).1))
            obtain ⟨V2, hV2⟩ : ∃ V2, V2 = wy.alloc (.cells #[.int .i64 (fiK I), .string ⟨(fiT I).toArray⟩, .slice gw (fiB I).length cv2, .int .i64 (fiY I), .bool (fiH I)] 37) := ⟨_, rfl⟩
            have hVB2 : Below wy.heap.size wy V2 := by subst hV2; exact (Below.refl _ _).alloc (Nat.le_refl _) _
            have hLV2 : Lies V2 wy.heap.size #[.int .i64 (fiK I), .string ⟨(fiT I).toArray⟩, .slice gw (fiB I).length cv2, .int .i64 (fiY I), .bool (fiH I)] 37 := by subst hV2; exact Lies.new wy _ _
            have HV2 : Hid (wy.alloc (.cells #[.int .i64 (fiK I), .string ⟨(fiT I).toArray⟩, .slice gw (fiB I).length cv2, .int .i64 (fiY I), .bool (fiH I)] 37) = V2) := hV2.symm
            obtain ⟨⟨x0, x1, x2, x3, x4⟩, -⟩ := it_cells (hLy.below hVB2 hLy.lt)
            obtain ⟨⟨y0, y1, y2, y3, y4⟩, -⟩ := it_cells hLV2
            have HSM := lsame_yes (fiK I) (fiY I) ⟨(fiT I).toArray⟩ (fiH I) gv gw (fiB I) (fiB I).length (fiB I).length cv1 cv2 rfl rfl V2 (hb1.below hVB2) (hbw.below hVB2)
            have HBV2 : Hid (Below w.heap.size w V2) := HBy.out.trans (hVB2.mono HBy.out.size)
            clear hK hO2 hbw hnF hb1w hb1 hLy hV2 hVB2 hLV2 HT2 HBb HBV1 HVL1 HO1 HN1 HF HFB HBy
            go_wp2_with (rw [HV2.out])
            refine HSM.mono ?_
            rintro e wz ⟨rfl, hBz⟩
            have HBz : Hid (Below w.heap.size w wz) := HBV2.out.trans (hBz.mono HBV2.out.size)
            clear hBz HSM HV2 x0 x1 x2 x3 x4 y0 y1 y2 y3 y4
            go_wp2_with fail
            go_ret
            exact ⟨rfl, HBz.out⟩

theorem own : ownKnob Try.prog.godebug = none := by kernel_rfl
theorem laidOut : laidOutB Try.prog = true := by kernel_rfl
set_option maxRecDepth 100000 in
theorem contract (H : Type) (enc : TypeId × Value → H) (W : World) (base : Nat) (args : Array Value) (ds gs : List (DataW H)) (before : List MemPlace)
    (hval : ∀ (j : Nat) t v, Try.f3.params[j]? = some t → args[j]? = some v → Value.okWide Try.prog W .any base t v)
    (hW : DataW.Whole enc Try.prog Try.f3.params.toList Rows.framerWaitsSpec.vars false W args.toList ds gs before)
    (hsz : (DataW.weightsEach Try.prog (Try.f3.params.toList ++ Rows.framerWaitsSpec.plain.varTypes Try.prog) (ds ++ gs)).all (· ≤ reachBytes) = true)
    :
    Calls Try.prog 3 args W fun e W' => ∃ v, e = .returned v ∧ Rows.framerWaitsSpec.post enc Try.prog Try.f3 false true false false W args v W' := by
  have hW' := hW
  obtain ⟨p, q, hA0, hV, rfl, hfz, hnd⟩ := hW
  have hA : DataW.TrodAll enc Try.prog W 0 (fun _ => true) true Try.f3.params.toList args.toList ds p := hA0
  rw [Try.params3] at hA hval hsz
  obtain ⟨v0, vs0, d0, ds0, p0, q0, hargs, rfl, rfl, h0, r0⟩ := trodAll_cons hA
  obtain ⟨rfl, rfl, rfl⟩ := trodAll_nil r0
  obtain rfl : args = #[v0] := by cases args; simp_all
  obtain ⟨rfl, rfl⟩ := trodVars_none hV
  have k0 := h0
  have lt0 : ∀ x ∈ p0, x.block < W.heap.size := by obtain ⟨m, hm⟩ := k0; exact DataW.trod_lt m _ _ _ hm
  obtain ⟨s0, mo0, n0, rm0, a0, l0, cap0, rfl, bn0, br0, row0, cl0, cm0, nn0, e0⟩ := open_wait (hval 0 24 v0 rfl rfl) h0
  clear hA0
  have z0 := wait_size hsz rfl rfl e0
  refine (walk s0 z0 mo0 n0 rm0 bn0 br0 a0 l0 cap0 row0 cl0 cm0 nn0).mono fun e W' ⟨he, bel⟩ => ?_
  subst he
  exact ⟨_, rfl, _, _, _, [], _, [], hW', trodAll_mk1 (shut_bool Try.underlying4 _), trodAll_cons_mk (Below.trod laidOut (by kernel_rfl) (of_decide_eq_true (by kernel_rfl)) k0 bel lt0) trodAll_mk0, rfl, bel.frame _, fun h => by cases h⟩

set_option maxRecDepth 100000 in
theorem lifted (os : Os) (started : os.Started) (H : Type) (enc : TypeId × Value → H) :
    ReturnsInHanded {} Try.checked os 3 .any (Rows.framerWaitsSpec.pre6 enc Try.prog Try.f3 Rows.framerWaitsRow.domain false) (Rows.framerWaitsSpec.post enc Try.prog Try.f3 false true false false) := by
  refine returnsInHanded_of_change_sized (C := Try.checked) own started (by kernel_rfl) Try.func3
    (ChangeSpec.witness6 (enc := enc) (C := Try.checked) false ⟨#[], #[.agg #[.string ByteArray.empty, .int .i64 0, .int .i64 0, .int .i64 0, .slice none 0 0]], []⟩ 8 (by kernel_rfl) (by kernel_rfl) (by kernel_rfl) (by kernel_rfl)) ?_
  intro W base args ds gs before hval0 hW hcnd hsz0 _
  exact contract H enc W base args ds gs before hval0 hW hsz0

theorem over : Rows.framerWaitsRow.holds Try.pinned (OpenSpec.ofChange Rows.framerWaitsSpec) :=
  OpenClaim.holds_of_wide 3 Try.f3 rfl rfl rfl rfl rfl rfl rfl ⟨rfl, rfl, rfl, rfl, rfl⟩ rfl rfl rfl rfl rfl (by kernel_rfl) Try.func3 (by kernel_rfl)
    (of_decide_eq_true (by kernel_rfl)) (by unfold Func.isWrapper; first | (rw [if_pos (by decide +kernel)]; kernel_rfl) | (rw [if_neg (by decide +kernel)]; exact ⟨rfl, rfl⟩))
    (fun os started H enc _ => lifted os started H enc)
end Go.Proofs.Ythnjbnhmdjpfpab.framerWaits
namespace Go.Proofs.Ythnjbnhmdjpfpab
theorem framerWaits_said : Rows.FramerWaitsSaid := framerWaits.over
#print axioms framerWaits_said
end Go.Proofs.Ythnjbnhmdjpfpab
