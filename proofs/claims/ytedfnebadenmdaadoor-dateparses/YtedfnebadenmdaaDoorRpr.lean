/-
  The contract of the document's Parse: for every text it answers what the plain reading of the text says.
-/
import Derived.Test.YtedfnebadenmdaaDoorRrz
import Derived.Test.YtedfnebadenmdaaDoorRre
import Derived.Test.YtedfnebadenmdaaDoorRchk
import Derived.Test.YtedfnebadenmdaaDoorPrs
import Derived.Deep.DeepCutAuto
namespace Go.Proofs.YtedfnebadenmdaaDoor
open Go.RowKit

/-- What stands while the document reads. -/
structure Pw (w wk : World) (g : Nat) (s : ByteArray) (k : Nat) (e p : Int) : Prop where
  rd : Rd0 64 wk g s k e p
  l1 : Lies wk w.heap.size (dtC ⟨0, 0, 0, 0, 0, 0, 0⟩) 34
  l2 : Lies wk (w.heap.size + 1) #[.int .i64 0, .int .i64 0] 44
  bl : Below w.heap.size w wk
  gg : g = w.heap.size + 1 + 1
theorem Pw.next {w wk w' : World} {g : Nat} {s : ByteArray} {k k' : Nat} {e p e' p' : Int} (h : Pw w wk g s k e p) (hb : But g wk w') (hr : Rd0 64 w' g s k' e' p') : Pw w w' g s k' e' p' :=
  ⟨hr, hb.lies h.l1 (by rw [h.gg]; omega), hb.lies h.l2 (by rw [h.gg]; omega), h.bl.trans (hb.below (by rw [h.gg]; omega) h.bl.size), h.gg⟩
theorem Pw.below {w wk w' : World} {g : Nat} {s : ByteArray} {k : Nat} {e p : Int} (h : Pw w wk g s k e p) (hb : Below wk.heap.size wk w') : Pw w w' g s k e p := h.next (But.of_below hb) (h.rd.below hb)
theorem let_zero {s : ByteArray} {k : Nat} (h : oneOf letS s k = false) : badN 1 (s.data.toList.drop k) = 0 := by
  rw [← rowN_let]
  exact oneOf_no h
theorem let_some {s : ByteArray} {k : Nat} (h : oneOf letS s k = true) : badN 1 (s.data.toList.drop k) ≠ 0 := by
  rw [← rowN_let, oneOf_yes h]
  omega
theorem zero_at (s : ByteArray) : stOf s 0 0 0 = .at s.data.toList := by
  unfold stOf
  rw [if_pos rfl, List.drop_zero]

set_option maxRecDepth 100000 in
set_option maxHeartbeats 16000000 in
theorem rparse_any (s : ByteArray) (w : World) (h2 : 2 < w.heap.size) (hs : s.size ≤ maxLen) :
    Calls Tryd.prog 24 #[.string s] w fun e w' => e = .returned (ansV (parse s.data.toList)) ∧ Below w.heap.size w w' := by
  have HS : Hid (s.size ≤ maxLen) := hs
  have HP0 : Hid (Pw w (((w.alloc (.cells (dtC ⟨0, 0, 0, 0, 0, 0, 0⟩) 34)).alloc (.cells #[.int .i64 0, .int .i64 0] 44)).alloc (.cells (rdC s 0 0 0) 64)) (w.heap.size + 1 + 1) s 0 0 0) := by
    have b : Below w.heap.size w (((w.alloc (.cells (dtC ⟨0, 0, 0, 0, 0, 0, 0⟩) 34)).alloc (.cells #[.int .i64 0, .int .i64 0] 44)).alloc (.cells (rdC s 0 0 0) 64)) := (((Below.refl _ _).alloc (Nat.le_refl _) _).alloc (by simp) _).alloc (by simp; omega) _
    exact ⟨⟨new_two w _ _ _ _, Nat.zero_le _, by omega⟩, ((Lies.new w _ _).alloc _).alloc _, (new_one w _ _ _).alloc _, b, rfl⟩
  clear h2
  unfold dtC rdC at HP0
  unfold maxLen at hs
  go_enter Tryd.func24, Tryd.ntmps24
  go_wp2_with fail
  refine Calls.mono (rfree_any (w.heap.size + 1 + 1) s 0 0 0 _ HP0.out.rd HS.out) ?_
  rintro x w1 ⟨rfl, hr, hb⟩
  have P1 : Hid (Pw w w1 (w.heap.size + 1 + 1) s (0 + blN (s.data.toList.drop 0)) 0 0) := HP0.out.next hb hr
  have HWF : Hid (badN 1 (s.data.toList.drop (0 + blN (s.data.toList.drop 0))) = 0 → pWd (s.data.toList.drop 0) = .ok (-1) (s.data.toList.drop (0 + blN (s.data.toList.drop 0)))) := pWd_free s 0
  have HWN : Hid (badN 1 (s.data.toList.drop (0 + blN (s.data.toList.drop 0))) ≠ 0 → pWd (s.data.toList.drop 0) = pNamed (s.data.toList.drop (0 + blN (s.data.toList.drop 0)))) := pWd_named s 0
  clear hr hb HP0
  generalize 0 + blN (s.data.toList.drop 0) = k0 at P1 HWF HWN
  generalize hg : w.heap.size + 1 + 1 = g at P1 ⊢
  generalize hB2 : w.heap.size + 1 = B2
  generalize hB1 : w.heap.size = B1 at hB2 hg ⊢
  have HG : Hid (B1 + 1 + 1 = g ∧ B1 + 1 = B2 ∧ w.heap.size = B1) := ⟨hg, hB2, hB1⟩
  clear hg hB2 hB1
  have HIL := ris_any g s k0 0 0 letS (by decide) w1 P1.out.rd HS.out
  obtain ⟨il, hil⟩ : ∃ b, b = oneOf letS s k0 := ⟨_, rfl⟩
  rw [← hil] at HIL
  unfold letS at HIL
  have HLT : Hid (il = oneOf letS s k0) := hil
  clear hil
  go_wp2_with fail
  refine Calls.mono HIL ?_
  rintro x w2 ⟨rfl, hb⟩
  have P2 : Hid (Pw w w2 g s k0 0 0) := P1.out.below hb
  clear hb HIL P1
  go_upto_if 29 with fail
  go_cut [5] (fun s5 wx => ∃ (wd : Int) (k1 : Nat) (e1 p1 : Int), s5 = .int .i64 wd ∧ -1 ≤ wd ∧ wd ≤ 11 ∧ Hid (Pw w wx g s k1 e1 p1) ∧ Hid (Step s.size pWd (stOf s 0 0 0) (stOf s k1 e1 p1) wd))
  case first =>
    cases il
    · have HE : Hid (Step s.size pWd (stOf s 0 0 0) (stOf s k0 0 0) (-1)) := Step.go (fun _ => HWF.out (let_zero HLT.out.symm))
      go_wp2_with fail
      go_meet
      exact ⟨-1, k0, 0, 0, rfl, by omega, by omega, P2, HE⟩
    · have HWE : Hid (pWd (s.data.toList.drop 0) = pNamed (s.data.toList.drop k0)) := HWN.out (let_some HLT.out.symm)
      have HN := rname_rd g s k0 0 0 wdU wdL ums_wd w2 P2.out.rd HS.out
      unfold wdU at HN
      go_wp2_with fail
      refine Calls.mono HN ?_
      rintro x w3 ⟨v, k3, e3, p3, rfl, v0, v1, hr, hst, hb⟩
      have P3 : Hid (Pw w w3 g s k3 e3 p3) := P2.out.next hb hr
      have S3 : Hid (Step s.size (pName wdL) (stOf s k0 0 0) (stOf s k3 e3 p3) v) := hst
      clear hr hst hb HN P2
      go_wp2_with fail
      refine Calls.mono (rmark_any g s k3 e3 p3 44 w3 P3.out.rd HS.out) ?_
      rintro x w4 ⟨rfl, k4, e4, p4, hr, hst, hb⟩
      have P4 : Hid (Pw w w4 g s k4 e4 p4) := P3.out.next hb hr
      have S4 : Hid (Step s.size (pMark 44) (stOf s k3 e3 p3) (stOf s k4 e4 p4) ()) := hst
      clear hr hst hb P3
      go_wp2_with fail
      refine Calls.mono (rfree_any g s k4 e4 p4 w4 P4.out.rd HS.out) ?_
      rintro x w5 ⟨rfl, hr, hb⟩
      have P5 : Hid (Pw w w5 g s (k4 + blN (s.data.toList.drop k4)) e4 p4) := P4.out.next hb hr
      have HE : Hid (Step s.size pWd (stOf s 0 0 0) (stOf s (k4 + blN (s.data.toList.drop k4)) e4 p4) v) := Step.skip (f' := pNamed) (fun _ => HWE.out) ((S3.out.both (S4.out.both (Step.go (f := pFree) (fun _ => pFree_go s k4)))).map (fun x : Int × Unit × Unit => x.1))
      clear hr hb P4 S3 S4
      generalize k4 + blN (s.data.toList.drop k4) = k5 at P5 HE
      go_wp2_with fail
      go_meet
      exact ⟨v, k5, e4, p4, rfl, v0, v1, P5, HE⟩
  case rest =>
  obtain ⟨wd, k1, e1, p1, rfl, wd0, wd1, P1, S1⟩ := hcut
  clear HWF HWN HLT P2
  have S2 : Hid (Step s.size pHere (stOf s k1 e1 p1) (stOf s k1 e1 p1) (s.data.toList.drop k1).length) := Step.go (fun _ => rfl)
  have HK1 : Hid ((s.size : Int) - ((s.data.toList.drop k1).length : Int) = (k1 : Int)) := here_at s k1 P1.out.rd.le
  generalize (s.data.toList.drop k1).length = da at S2 HK1
  have c1 := P1.out.rd.cells.2.1
  go_wp2_with fail
  clear c1
  refine Calls.mono (rnumb_rd g s k1 e1 p1 1 2 (by omega) (by omega) wc P1.out.rd HS.out) ?_
  rintro x w2 ⟨day, dn, k2, e2, p2, rfl, d0, _, d1, _, _, hr, hst, _, hb⟩
  have P2 : Hid (Pw w w2 g s k2 e2 p2) := P1.out.next hb hr
  have S3 : Hid (Step s.size (pNum 1 2) (stOf s k1 e1 p1) (stOf s k2 e2 p2) day) := hst
  have d1 := d1 (by omega)
  clear hr hst hb P1
  go_wp2_with fail
  refine Calls.mono (rgap_any g s k2 e2 p2 w2 P2.out.rd HS.out) ?_
  rintro x w3 ⟨rfl, k3, e3, p3, hr, hst, hb⟩
  have P3 : Hid (Pw w w3 g s k3 e3 p3) := P2.out.next hb hr
  have S4 : Hid (Step s.size pGap (stOf s k2 e2 p2) (stOf s k3 e3 p3) ()) := hst
  clear hr hst hb P2
  have HN := rname_rd g s k3 e3 p3 moU moL ums_mo w3 P3.out.rd HS.out
  unfold moU at HN
  go_wp2_with fail
  refine Calls.mono HN ?_
  rintro x w4 ⟨mo, k4, e4, p4, rfl, mo0, mo1, hr, hst, hb⟩
  have P4 : Hid (Pw w w4 g s k4 e4 p4) := P3.out.next hb hr
  have S5 : Hid (Step s.size pMon (stOf s k3 e3 p3) (stOf s k4 e4 p4) (mo + 1)) := hst.map (· + 1)
  clear hr hst hb P3 HN
  go_wp2_with fail
  refine Calls.mono (rgap_any g s k4 e4 p4 w4 P4.out.rd HS.out) ?_
  rintro x w5 ⟨rfl, k5, e5, p5, hr, hst, hb⟩
  have P5 : Hid (Pw w w5 g s k5 e5 p5) := P4.out.next hb hr
  have S6 : Hid (Step s.size pGap (stOf s k4 e4 p4) (stOf s k5 e5 p5) ()) := hst
  clear hr hst hb P4
  go_wp2_with fail
  refine Calls.mono (rnumb_rd g s k5 e5 p5 2 4 (by omega) (by omega) w5 P5.out.rd HS.out) ?_
  rintro x w6 ⟨yv, yn, k6, e6, p6, rfl, y0, y1, _, n0, n1, hr, _, hst, hb⟩
  have P6 : Hid (Pw w w6 g s k6 e6 p6) := P5.out.next hb hr
  have S7 : Hid (Step s.size pYear (stOf s k5 e5 p5) (stOf s k6 e6 p6) (yearI yn yv)) := hst
  clear hr hst hb P5
  have HYB : Hid (0 ≤ yearI yn yv ∧ yearI yn yv ≤ 12000) := by
    show _ ∧ _
    unfold yearI
    split
    · omega
    · split <;> omega
  go_upto_region 14 with fail
  go_cut [61] (fun s61 wx => s61 = .bool (decide (yn = 2 ∧ yv < 50)) ∧ wx = w6)
  case first =>
    by_cases c2 : yn = 2
    · by_cases c5 : yv < 50
      · have HV : Hid (decide (yn = 2 ∧ yv < 50) = true) := decide_eq_true ⟨c2, c5⟩
        have c2' : (yn == 2) = true := by simpa using c2
        clear c2
        go_wp2_with fail
        go_meet
        exact ⟨by rw [HV.out], rfl⟩
      · have HV : Hid (decide (yn = 2 ∧ yv < 50) = false) := decide_eq_false (fun h => c5 h.2)
        have c5d : decide (yv < 50) = false := decide_eq_false c5
        have c2' : (yn == 2) = true := by simpa using c2
        clear c2
        go_wp2_with fail
        go_meet
        exact ⟨by rw [HV.out], rfl⟩
    · have c2' : (yn == 2) = false := by simpa using c2
      have HV : Hid (decide (yn = 2 ∧ yv < 50) = false) := decide_eq_false (fun h => c2 h.1)
      clear c2
      go_wp2_with fail
      go_meet
      exact ⟨by rw [HV.out], rfl⟩
  case rest =>
  obtain ⟨rfl, hwc⟩ := hcut
  subst hwc
  obtain ⟨bb, hbb⟩ : ∃ b, b = decide (yn = 2 ∧ yv < 50) := ⟨_, rfl⟩
  rw [← hbb]
  have HBB : Hid (bb = decide (yn = 2 ∧ yv < 50)) := hbb
  clear hbb
  obtain ⟨wq, hwq⟩ : ∃ v : World, v = wc := ⟨_, rfl⟩
  rw [← hwq] at P6 ⊢
  clear hwq
  go_upto_if 61 with fail
  go_cut [10] (fun s10 wx => s10 = .int .i64 (yearI yn yv) ∧ wx = wq)
  case first =>
    cases bb
    · have hnb : ¬ (yn = 2 ∧ yv < 50) := of_decide_eq_false HBB.out.symm
      by_cases c4 : yn < 4
      · have HV : Hid (yearI yn yv = yv + 1900) := by show _ = _; unfold yearI; rw [if_neg hnb, if_pos c4]
        clear hnb
        go_wp2_with fail
        go_meet
        exact ⟨by rw [HV.out], rfl⟩
      · have HV : Hid (yearI yn yv = yv) := by show _ = _; unfold yearI; rw [if_neg hnb, if_neg c4]
        have c4d : decide (yn < 4) = false := decide_eq_false c4
        clear hnb
        go_wp2_with fail
        go_meet
        exact ⟨by rw [HV.out], rfl⟩
    · have HV : Hid (yearI yn yv = yv + 2000) := if_pos (of_decide_eq_true HBB.out.symm)
      go_wp2_with fail
      go_meet
      exact ⟨by rw [HV.out], rfl⟩
  case rest =>
  obtain ⟨rfl, hwc⟩ := hcut
  subst hwc
  clear HBB
  obtain ⟨yb0, yb1⟩ := HYB.out
  generalize yearI yn yv = y at S7 yb0 yb1 ⊢
  clear HYB n0 n1 y0 y1
  go_wp2_with fail
  refine Calls.mono (rgap_any g s k6 e6 p6 _ P6.out.rd HS.out) ?_
  rintro x w7 ⟨rfl, k7, e7, p7, hr, hst, hb⟩
  have P7 : Hid (Pw w w7 g s k7 e7 p7) := P6.out.next hb hr
  have S8 : Hid (Step s.size pGap (stOf s k6 e6 p6) (stOf s k7 e7 p7) ()) := hst
  clear hr hst hb P6
  go_wp2_with fail
  refine Calls.mono (rnumb_rd g s k7 e7 p7 2 2 (by omega) (by omega) w7 P7.out.rd HS.out) ?_
  rintro x w8 ⟨h, hn, k8, e8, p8, rfl, h0, _, h1, _, _, hr, hst, _, hb⟩
  have P8 : Hid (Pw w w8 g s k8 e8 p8) := P7.out.next hb hr
  have T1 : Hid (Step s.size (pNum 2 2) (stOf s k7 e7 p7) (stOf s k8 e8 p8) h) := hst
  have h1 := h1 (by omega)
  clear hr hst hb P7
  go_wp2_with fail
  refine Calls.mono (rmark_any g s k8 e8 p8 58 w8 P8.out.rd HS.out) ?_
  rintro x w9 ⟨rfl, k9, e9, p9, hr, hst, hb⟩
  have P9 : Hid (Pw w w9 g s k9 e9 p9) := P8.out.next hb hr
  have T2 : Hid (Step s.size (pMark 58) (stOf s k8 e8 p8) (stOf s k9 e9 p9) ()) := hst
  clear hr hst hb P8
  go_wp2_with fail
  refine Calls.mono (rnumb_rd g s k9 e9 p9 2 2 (by omega) (by omega) w9 P9.out.rd HS.out) ?_
  rintro x w10 ⟨mi, mn, k10, e10, p10, rfl, mi0, _, mi1, _, _, hr, hst, _, hb⟩
  have P10 : Hid (Pw w w10 g s k10 e10 p10) := P9.out.next hb hr
  have T3 : Hid (Step s.size (pNum 2 2) (stOf s k9 e9 p9) (stOf s k10 e10 p10) mi) := hst
  have mi1 := mi1 (by omega)
  clear hr hst hb P9
  have HIC := ris_any g s k10 e10 p10 ⟨#[58]⟩ (show (1 : Nat) ≤ 100 by omega) w10 P10.out.rd HS.out
  rw [oneOf_one] at HIC
  obtain ⟨ic, hic⟩ : ∃ b, b = standB s k10 58 := ⟨_, rfl⟩
  rw [← hic] at HIC
  have HCL : Hid (ic = standB s k10 58) := hic
  clear hic
  go_wp2_with fail
  refine Calls.mono HIC ?_
  rintro x w11 ⟨rfl, hb⟩
  have P11 : Hid (Pw w w11 g s k10 e10 p10) := P10.out.below hb
  clear hb HIC P10
  go_upto_if 83 with fail
  go_cut [16] (fun s16 wx => ∃ (sc : Int) (k1 : Nat) (e1 p1 : Int), s16 = .int .i64 sc ∧ 0 ≤ sc ∧ sc ≤ 99 ∧ Hid (Pw w wx g s k1 e1 p1) ∧ Hid (Step s.size pSec (stOf s k10 e10 p10) (stOf s k1 e1 p1) sc))
  case first =>
    cases ic
    · have HE : Hid (Step s.size pSec (stOf s k10 e10 p10) (stOf s k10 e10 p10) 0) := Step.go (fun _ => pSec_no s k10 HCL.out.symm)
      go_wp2_with fail
      go_meet
      exact ⟨0, k10, e10, p10, rfl, by omega, by omega, P11, HE⟩
    · have hlt := standB_lt s k10 58 HCL.out.symm
      obtain ⟨c0, c1, c2, c3⟩ := P11.out.rd.cells
      obtain ⟨f1, f2, f3⟩ := P11.out.rd.frozen
      have Q11 : Hid (Pw w (w11.setCell ⟨g, 1, none⟩ (.int .i64 ((k10 : Int) + 1))) g s (k10 + 1) e10 p10) := P11.out.next ((But.refl g w11).set 1 _) (P11.out.rd.move (k10 + 1) hlt)
      go_wp2_with fail
      clear c0 c1 c2 c3 f1 f2 f3
      refine Calls.mono (rnumb_rd g s (k10 + 1) e10 p10 2 2 (by omega) (by omega) _ Q11.out.rd HS.out) ?_
      rintro x w12 ⟨sc, sn, k12, e12, p12, rfl, s0, _, s1, _, _, hr, hst, _, hb⟩
      have P12 : Hid (Pw w w12 g s k12 e12 p12) := Q11.out.next hb hr
      have HE : Hid (Step s.size pSec (stOf s k10 e10 p10) (stOf s k12 e12 p12) sc) := Step.skip (f := pSec) (fun _ => pSec_yes s k10 HCL.out.symm) hst
      have s1 := s1 (by omega)
      clear hr hst hb Q11 P11
      go_wp2_with fail
      go_meet
      exact ⟨sc, k12, e12, p12, rfl, s0, s1, P12, HE⟩
  case rest =>
  obtain ⟨sc, k12, e12, p12, rfl, sc0, sc1, P12, T4⟩ := hcut
  have S9 : Hid (Step s.size pTime (stOf s k7 e7 p7) (stOf s k12 e12 p12) (h, mi, sc)) := (T1.out.both (T2.out.both (T3.out.both T4.out))).map (fun x : Int × Unit × Int × Int => (x.1, x.2.2.1, x.2.2.2))
  clear T1 T2 T3 T4 HCL P11
  go_wp2_with fail
  refine Calls.mono (rgap_any g s k12 e12 p12 _ P12.out.rd HS.out) ?_
  rintro x w13 ⟨rfl, k13, e13, p13, hr, hst, hb⟩
  have P13 : Hid (Pw w w13 g s k13 e13 p13) := P12.out.next hb hr
  have S10 : Hid (Step s.size pGap (stOf s k12 e12 p12) (stOf s k13 e13 p13) ()) := hst
  have S11 : Hid (Step s.size pHere (stOf s k13 e13 p13) (stOf s k13 e13 p13) (s.data.toList.drop k13).length) := Step.go (fun _ => rfl)
  have HK9 : Hid ((s.size : Int) - ((s.data.toList.drop k13).length : Int) = (k13 : Int)) := here_at s k13 hr.le
  clear hr hst hb P12
  generalize (s.data.toList.drop k13).length = za at S11 HK9
  have c1 := P13.out.rd.cells.2.1
  go_wp2_with fail
  clear c1
  refine Calls.mono (rzone_rd g s k13 e13 p13 w13 P13.out.rd HS.out) ?_
  rintro x w14 ⟨z, k14, e14, p14, rfl, z0, z1, hr, hst, hb⟩
  have P14 : Hid (Pw w w14 g s k14 e14 p14) := P13.out.next hb hr
  have S12 : Hid (Step s.size pZone (stOf s k13 e13 p13) (stOf s k14 e14 p14) z) := hst
  clear hr hst hb P13
  go_wp2_with fail
  refine Calls.mono (rfree_any g s k14 e14 p14 w14 P14.out.rd HS.out) ?_
  rintro x w15 ⟨rfl, hr, hb⟩
  have P15 : Hid (Pw w w15 g s (k14 + blN (s.data.toList.drop k14)) e14 p14) := P14.out.next hb hr
  have U1 : Hid (Step s.size pFree (stOf s k14 e14 p14) (stOf s (k14 + blN (s.data.toList.drop k14)) e14 p14) ()) := Step.go (fun _ => pFree_go s k14)
  clear hr hb P14
  generalize k14 + blN (s.data.toList.drop k14) = k15 at P15 U1
  go_wp2_with fail
  refine Calls.mono (rrem_any g s k15 e14 p14 w15 P15.out.rd HS.out) ?_
  rintro x w16 ⟨rfl, k16, e16, p16, hr, hst, hb⟩
  have P16 : Hid (Pw w w16 g s k16 e16 p16) := P15.out.next hb hr
  have U2 : Hid (Step s.size pRem (stOf s k15 e14 p14) (stOf s k16 e16 p16) ()) := hst
  clear hr hst hb P15
  go_wp2_with fail
  refine Calls.mono (rfree_any g s k16 e16 p16 w16 P16.out.rd HS.out) ?_
  rintro x w17 ⟨rfl, hr, hb⟩
  have P17 : Hid (Pw w w17 g s (k16 + blN (s.data.toList.drop k16)) e16 p16) := P16.out.next hb hr
  have U3 : Hid (Step s.size pFree (stOf s k16 e16 p16) (stOf s (k16 + blN (s.data.toList.drop k16)) e16 p16) ()) := Step.go (fun _ => pFree_go s k16)
  clear hr hb P16
  generalize k16 + blN (s.data.toList.drop k16) = k17 at P17 U3
  have hk17 := P17.out.rd.le
  have c1 := P17.out.rd.cells.2.1
  go_upto_if 116 with fail
  go_cut [] (fun wx => ∃ (e1 p1 : Int), Hid (Pw w wx g s k17 e1 p1) ∧ Hid (Step s.size pFin (stOf s k17 e16 p16) (stOf s k17 e1 p1) ()))
  case first =>
    by_cases hlt : k17 < s.size
    · have hlti : (k17 : Int) < (s.size : Int) := by omega
      go_wp2_with fail
      refine Calls.mono (rfail_any g s k17 e16 p16 60 (k17 : Int) w17 P17.out.rd) ?_
      rintro x w18 ⟨rfl, hr, hb⟩
      have P18 : Hid (Pw w w18 g s k17 (if e16 = 0 then 60 else e16) (if e16 = 0 then (k17 : Int) else p16)) := P17.out.next hb hr
      have HE : Hid (Step s.size pFin (stOf s k17 e16 p16) (stOf s k17 (if e16 = 0 then 60 else e16) (if e16 = 0 then (k17 : Int) else p16)) ()) := Step.fail () hk17 (by decide) (fun _ => pFin_no s k17 hlt)
      clear hr hb P17 c1
      go_wp2_with fail
      go_meet
      exact ⟨_, _, P18, HE⟩
    · have hlti : ¬ (k17 : Int) < (s.size : Int) := by omega
      have HE : Hid (Step s.size pFin (stOf s k17 e16 p16) (stOf s k17 e16 p16) ()) := Step.go (fun _ => pFin_yes s k17 hlt)
      go_wp2_with fail
      go_meet
      exact ⟨_, _, P17, HE⟩
  case rest =>
  obtain ⟨e11, p11, P11, U4⟩ := hcut
  clear c1 P17
  have SA : Hid (Step s.size pAll (stOf s 0 0 0) (stOf s k17 e11 p11) (wd, da, day, (), mo + 1, (), y, (), (h, mi, sc), (), za, z, ())) :=
    S1.out.both (S2.out.both (S3.out.both (S4.out.both (S5.out.both (S6.out.both (S7.out.both (S8.out.both (S9.out.both (S10.out.both (S11.out.both (S12.out.both ((U1.out.both (U2.out.both (U3.out.both U4.out))).map (fun _ => ())))))))))))))
  clear S1 S2 S3 S4 S5 S6 S7 S8 S9 S10 S11 S12 U1 U2 U3 U4
  obtain ⟨r0, r1, r2, r3⟩ := P11.out.rd.cells
  obtain ⟨hg, hB2, hB1⟩ := HG.out
  have L1 : Hid (Lies wc B1 (dtC ⟨0, 0, 0, 0, 0, 0, 0⟩) 34) := by have h := P11.out.l1; rw [hB1] at h; exact h
  have L2 : Hid (Lies wc B2 #[.int .i64 0, .int .i64 0] 44) := by have h := P11.out.l2; rw [hB1, hB2] at h; exact h
  have HN : Hid (B1 ≠ B2 ∧ w.heap.size ≤ B1 ∧ w.heap.size ≤ B2) := ⟨by omega, by omega, by omega⟩
  have hne : B1 ≠ B2 := HN.out.1
  have hne' : B2 ≠ B1 := Ne.symm HN.out.1
  have hgn : B1 ≠ g := by omega
  have hgn' : B2 ≠ g := by omega
  clear hg hB2 hB1
  by_cases he : e11 = 0
  · subst he
    have HA : Hid (parse s.data.toList = judge ⟨y, mo + 1, day, h, mi, sc, z⟩ wd (k1 : Int) (k13 : Int)) := by
      have h := parse_ok SA.out
      rw [HK1.out, HK9.out] at h
      exact h
    have HBW : Hid (Below w.heap.size w wc) := P11.out.bl
    clear SA HK1 HK9 P11
    have HX : Hid (Dt.In ⟨y, mo + 1, day, h, mi, sc, z⟩) := ⟨by simp only []; omega, by simp only []; omega, by simp only []; omega, by simp only []; omega, by simp only []; omega, by simp only []; omega, by simp only []; omega, by simp only []; omega, by simp only []; omega, by simp only []; omega, by simp only []; omega, by simp only []; omega, by simp only []; omega, by simp only []; omega⟩
    have HD0 : Hid (Below wc.heap.size wc (wc.alloc (.cells (dtC ⟨y, mo + 1, day, h, mi, sc, z⟩) 34))) := (Below.refl _ _).alloc (Nat.le_refl _) _
    have HLD : Hid (Lies (wc.alloc (.cells (dtC ⟨y, mo + 1, day, h, mi, sc, z⟩) 34)) wc.heap.size (dtC ⟨y, mo + 1, day, h, mi, sc, z⟩) 34) := Lies.new wc _ _
    have HLA : Hid (Lies (wc.alloc (.cells (dtC ⟨y, mo + 1, day, h, mi, sc, z⟩) 34)) B1 (dtC ⟨0, 0, 0, 0, 0, 0, 0⟩) 34) := L1.out.alloc _
    have HLB : Hid (Lies (wc.alloc (.cells (dtC ⟨y, mo + 1, day, h, mi, sc, z⟩) 34)) B2 #[.int .i64 0, .int .i64 0] 44) := L2.out.alloc _
    have HDN : Hid (wc.heap.size ≠ B1 ∧ wc.heap.size ≠ B2) := ⟨Nat.ne_of_gt L1.out.lt, Nat.ne_of_gt L2.out.lt⟩
    have HCK := rcheck_any ⟨y, mo + 1, day, h, mi, sc, z⟩ (wc.alloc (.cells (dtC ⟨y, mo + 1, day, h, mi, sc, z⟩) 34)) HX.out
    have HBX : Hid (Below w.heap.size w (wc.alloc (.cells (dtC ⟨y, mo + 1, day, h, mi, sc, z⟩) 34))) := HBW.out.alloc HBW.out.size _
    have HDY : Hid (∀ w, Calls Tryd.prog 9 #[.int .i16 y, .int .i8 (mo + 1), .int .i8 day] w fun e w' => e = .returned (.tuple #[.int .i64 (if IsDay y (mo + 1) day then numD y (mo + 1) day else 0), .int .i64 (if IsDay y (mo + 1) day then 0 else 60)]) ∧ w' = w) := fun w => rdays_any y (mo + 1) day w (by omega) (by omega) (by omega) (by omega) (by omega) (by omega)
    generalize hif : (if IsDay y (mo + 1) day then (0 : Int) else 60) = ED at HDY
    generalize hin : (if IsDay y (mo + 1) day then numD y (mo + 1) day else 0) = ND at HDY
    have HIN : Hid ((if IsDay y (mo + 1) day then numD y (mo + 1) day else 0) = ND) := hin
    clear hif hin L1 L2 HBW HD0
    unfold dtV dtC at HCK
    go_wp2_with fail
    refine Calls.mono HCK ?_
    generalize hD : wc.heap.size = D at HLD HDN
    rintro e w12 ⟨rfl, hb⟩
    have M0 : Hid (Lies w12 D (dtC ⟨y, mo + 1, day, h, mi, sc, z⟩) 34) := HLD.out.below hb HLD.out.lt
    have M1 : Hid (Lies w12 B1 (dtC ⟨0, 0, 0, 0, 0, 0, 0⟩) 34) := HLA.out.below hb HLA.out.lt
    have M2 : Hid (Lies w12 B2 #[.int .i64 0, .int .i64 0] 44) := HLB.out.below hb HLB.out.lt
    have HB : Hid (Below w.heap.size w w12) := HBX.out.trans (hb.mono HBX.out.size)
    have hd1 : D ≠ B1 := HDN.out.1
    have hd2 : D ≠ B2 := HDN.out.2
    have hd3 : B1 ≠ D := Ne.symm HDN.out.1
    have hd4 : B2 ≠ D := Ne.symm HDN.out.2
    clear hb HCK HLD HLA HLB HBX r0 r1 r2 r3 hD
    have x0 := M0.out.cell 0
    have x1 := M0.out.cell 1
    have x2 := M0.out.cell 2
    have x3 := M0.out.cell 3
    have x4 := M0.out.cell 4
    have x5 := M0.out.cell 5
    have x6 := M0.out.cell 6
    have y0 := M1.out.cell 0
    have y1 := M1.out.cell 1
    have y2 := M1.out.cell 2
    have y3 := M1.out.cell 3
    have y4 := M1.out.cell 4
    have y5 := M1.out.cell 5
    have y6 := M1.out.cell 6
    have f0 := M1.out.frozen 0
    have f1 := M1.out.frozen 1
    have f2 := M1.out.frozen 2
    have f3 := M1.out.frozen 3
    have f4 := M1.out.frozen 4
    have f5 := M1.out.frozen 5
    have f6 := M1.out.frozen 6
    have t0 := M2.out.cell 0
    have t1 := M2.out.cell 1
    have v0 := M2.out.frozen 0
    have v1 := M2.out.frozen 1
    simp only [dtC, List.getElem?_toArray, List.getElem?_cons_zero, List.getElem?_cons_succ] at x0 x1 x2 x3 x4 x5 x6 y0 y1 y2 y3 y4 y5 y6 t0 t1
    have HCC : Hid (chk ⟨y, mo + 1, day, h, mi, sc, z⟩ = chk ⟨y, mo + 1, day, h, mi, sc, z⟩) := rfl
    obtain ⟨ck, hck⟩ : ∃ c, c = chk ⟨y, mo + 1, day, h, mi, sc, z⟩ := ⟨_, rfl⟩
    have CK : Hid (ck = chk ⟨y, mo + 1, day, h, mi, sc, z⟩) := hck
    rw [← hck]
    clear hck HCC
    by_cases c60 : ck = 60
    · have HJ : Hid (judge ⟨y, mo + 1, day, h, mi, sc, z⟩ wd (k1 : Int) (k13 : Int) = ⟨zeroD, 60, (k1 : Int)⟩) := by show _ = _; unfold judge; rw [if_pos (.inl (by rw [← CK.out]; exact c60))]
      subst c60
      go_wp2
      (try simp only [Exit.inBlock, Exit.then])
      obtain ⟨N1, N2, N3⟩ := two_set M1.out M2.out HN.out.1 ⟨0, 0, 0, 0, 0, 0, 0⟩ 60 (k1 : Int)
      have N3 := N3 _ _ HB.out HN.out.2.1 HN.out.2.2
      refine ret_two rfl B1 B2 ⟨0, 0, 0, 0, 0, 0, 0⟩ 60 (k1 : Int) rfl rfl N1 N2 ⟨congrArg (fun a => Ending.returned (ansV a)) (HA.out.trans HJ.out).symm, N3⟩
    have c60' : (ck == 60) = false := by simpa using c60
    have HND : Hid (numD y (mo + 1) day = ND) := by
      have hday := chk_day (x := ⟨y, mo + 1, day, h, mi, sc, z⟩) (by rw [← CK.out]; exact c60)
      have h := HIN.out
      rw [if_pos hday] at h
      exact h
    have HWR : Hid (∀ w, Calls Tryd.prog 15 #[.int .i64 ND] w fun e w' => e = .returned (.int .i8 (wdN ND)) ∧ w' = w) := fun w => rwday_any ND w
    obtain ⟨wn, hwn⟩ : ∃ c, c = wdN ND := ⟨_, rfl⟩
    have WN : Hid (wn = wdN ND) := hwn
    have hwn0 := wdN_in ND
    rw [← hwn] at hwn0 HWR
    obtain ⟨wn0, wn1⟩ := hwn0
    clear hwn
    by_cases cw : 0 ≤ wd ∧ wd ≠ wn
    · have HJ : Hid (judge ⟨y, mo + 1, day, h, mi, sc, z⟩ wd (k1 : Int) (k13 : Int) = ⟨zeroD, 60, (k1 : Int)⟩) := by
        show _ = _
        unfold judge
        rw [if_pos (.inr (by show 0 ≤ wd ∧ wd ≠ wdN (numD y (mo + 1) day); rw [HND.out, ← WN.out]; exact cw))]
      obtain ⟨cw1, cw2⟩ := cw
      have cw2' : (wd != wn) = true := by simpa using cw2
      clear cw2 c60
      go_wp2_with (first | (go_at_call 9; refine (HDY.out _).mono ?_; rintro e w' ⟨rfl, rfl⟩) | (go_at_call 15; refine (HWR.out _).mono ?_; rintro e w' ⟨rfl, rfl⟩))
      (try simp only [Exit.inBlock, Exit.then])
      obtain ⟨N1, N2, N3⟩ := two_set M1.out M2.out HN.out.1 ⟨0, 0, 0, 0, 0, 0, 0⟩ 60 (k1 : Int)
      have N3 := N3 _ _ HB.out HN.out.2.1 HN.out.2.2
      refine ret_two rfl B1 B2 ⟨0, 0, 0, 0, 0, 0, 0⟩ 60 (k1 : Int) rfl rfl N1 N2 ⟨congrArg (fun a => Ending.returned (ansV a)) (HA.out.trans HJ.out).symm, N3⟩
    have hjn : ¬ (chk ⟨y, mo + 1, day, h, mi, sc, z⟩ = 60 ∨ (0 ≤ wd ∧ wd ≠ wdN (numD y (mo + 1) day))) := by rw [HND.out, ← WN.out, ← CK.out]; omega
    have hjn : Hid (¬ (chk ⟨y, mo + 1, day, h, mi, sc, z⟩ = 60 ∨ (0 ≤ wd ∧ wd ≠ wdN (numD y (mo + 1) day)))) := hjn
    by_cases cz : ck = 0
    · have HJ : Hid (judge ⟨y, mo + 1, day, h, mi, sc, z⟩ wd (k1 : Int) (k13 : Int) = ⟨⟨y, mo + 1, day, h, mi, sc, z⟩, 0, 0⟩) := by
        show _ = _
        unfold judge
        rw [if_neg hjn.out, if_neg (by rw [← CK.out]; omega)]
      subst cz
      by_cases c0 : 0 ≤ wd
      · have cw2 : (wd != wn) = false := by
          have : wd = wn := by omega
          simpa using this
        clear cw c60 hjn
        go_wp2_with (first | (go_at_call 9; refine (HDY.out _).mono ?_; rintro e w' ⟨rfl, rfl⟩) | (go_at_call 15; refine (HWR.out _).mono ?_; rintro e w' ⟨rfl, rfl⟩))
        (try simp only [Exit.inBlock, Exit.then])
        obtain ⟨N1, N2, N3⟩ := two_set M1.out M2.out HN.out.1 ⟨y, mo + 1, day, h, mi, sc, z⟩ 0 0
        have N3 := N3 _ _ HB.out HN.out.2.1 HN.out.2.2
        refine ret_two rfl B1 B2 ⟨y, mo + 1, day, h, mi, sc, z⟩ 0 0 rfl rfl N1 N2 ⟨congrArg (fun a => Ending.returned (ansV a)) (HA.out.trans HJ.out).symm, N3⟩
      · clear cw c60 hjn
        go_wp2_with (first | (go_at_call 9; refine (HDY.out _).mono ?_; rintro e w' ⟨rfl, rfl⟩) | (go_at_call 15; refine (HWR.out _).mono ?_; rintro e w' ⟨rfl, rfl⟩))
        (try simp only [Exit.inBlock, Exit.then])
        obtain ⟨N1, N2, N3⟩ := two_set M1.out M2.out HN.out.1 ⟨y, mo + 1, day, h, mi, sc, z⟩ 0 0
        have N3 := N3 _ _ HB.out HN.out.2.1 HN.out.2.2
        refine ret_two rfl B1 B2 ⟨y, mo + 1, day, h, mi, sc, z⟩ 0 0 rfl rfl N1 N2 ⟨congrArg (fun a => Ending.returned (ansV a)) (HA.out.trans HJ.out).symm, N3⟩
    · have HJ : Hid (judge ⟨y, mo + 1, day, h, mi, sc, z⟩ wd (k1 : Int) (k13 : Int) = ⟨zeroD, ck, (k13 : Int)⟩) := by
        show _ = _
        unfold judge
        rw [if_neg hjn.out, if_pos (by rw [← CK.out]; exact cz), ← CK.out]
      have cz' : (ck != 0) = true := by simpa using cz
      by_cases c0 : 0 ≤ wd
      · have cw2 : (wd != wn) = false := by
          have : wd = wn := by omega
          simpa using this
        clear cw c60 cz hjn
        go_wp2_with (first | (go_at_call 9; refine (HDY.out _).mono ?_; rintro e w' ⟨rfl, rfl⟩) | (go_at_call 15; refine (HWR.out _).mono ?_; rintro e w' ⟨rfl, rfl⟩))
        (try simp only [Exit.inBlock, Exit.then])
        obtain ⟨N1, N2, N3⟩ := two_set M1.out M2.out HN.out.1 ⟨0, 0, 0, 0, 0, 0, 0⟩ ck (k13 : Int)
        have N3 := N3 _ _ HB.out HN.out.2.1 HN.out.2.2
        refine ret_two rfl B1 B2 ⟨0, 0, 0, 0, 0, 0, 0⟩ ck (k13 : Int) rfl rfl N1 N2 ⟨congrArg (fun a => Ending.returned (ansV a)) (HA.out.trans HJ.out).symm, N3⟩
      · clear cw c60 cz hjn
        go_wp2_with (first | (go_at_call 9; refine (HDY.out _).mono ?_; rintro e w' ⟨rfl, rfl⟩) | (go_at_call 15; refine (HWR.out _).mono ?_; rintro e w' ⟨rfl, rfl⟩))
        (try simp only [Exit.inBlock, Exit.then])
        obtain ⟨N1, N2, N3⟩ := two_set M1.out M2.out HN.out.1 ⟨0, 0, 0, 0, 0, 0, 0⟩ ck (k13 : Int)
        have N3 := N3 _ _ HB.out HN.out.2.1 HN.out.2.2
        refine ret_two rfl B1 B2 ⟨0, 0, 0, 0, 0, 0, 0⟩ ck (k13 : Int) rfl rfl N1 N2 ⟨congrArg (fun a => Ending.returned (ansV a)) (HA.out.trans HJ.out).symm, N3⟩
  · have he' : (e11 != 0) = true := by simpa using he
    have HA : Hid (parse s.data.toList = ⟨zeroD, e11, p11⟩) := parse_bad he SA.out
    clear he
    have y0 := L1.out.cell 0
    have y1 := L1.out.cell 1
    have y2 := L1.out.cell 2
    have y3 := L1.out.cell 3
    have y4 := L1.out.cell 4
    have y5 := L1.out.cell 5
    have y6 := L1.out.cell 6
    have f0 := L1.out.frozen 0
    have f1 := L1.out.frozen 1
    have f2 := L1.out.frozen 2
    have f3 := L1.out.frozen 3
    have f4 := L1.out.frozen 4
    have f5 := L1.out.frozen 5
    have f6 := L1.out.frozen 6
    have t0 := L2.out.cell 0
    have t1 := L2.out.cell 1
    have v0 := L2.out.frozen 0
    have v1 := L2.out.frozen 1
    simp [dtC] at y0 y1 y2 y3 y4 y5 y6 t0 t1
    obtain ⟨N1, N2, N3⟩ := two_set L1.out L2.out HN.out.1 ⟨0, 0, 0, 0, 0, 0, 0⟩ e11 p11
    have N3 := N3 _ _ P11.out.bl HN.out.2.1 HN.out.2.2
    have HE : Hid (Lies (twoW wc B1 B2 ⟨0, 0, 0, 0, 0, 0, 0⟩ e11 p11).drew B1 (dtC ⟨0, 0, 0, 0, 0, 0, 0⟩) 34 ∧ Lies (twoW wc B1 B2 ⟨0, 0, 0, 0, 0, 0, 0⟩ e11 p11).drew B2 #[.int .i64 e11, .int .i64 p11] 44 ∧ Below w.heap.size w (twoW wc B1 B2 ⟨0, 0, 0, 0, 0, 0, 0⟩ e11 p11).drew) := ⟨N1.drew, N2.drew, N3.drew⟩
    clear N1 N2 N3
    go_wp2
    go_region
    go_wp2
    (try simp only [Exit.inBlock, Exit.then])
    refine ret_two rfl B1 B2 ⟨0, 0, 0, 0, 0, 0, 0⟩ e11 p11 rfl rfl HE.out.1 HE.out.2.1 ⟨congrArg (fun a => Ending.returned (ansV a)) HA.out.symm, HE.out.2.2⟩
end Go.Proofs.YtedfnebadenmdaaDoor
