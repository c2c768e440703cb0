/-
  The document's zone by its name.
-/
import Derived.Test.YtedfnebadenmdaaDoorRzb
namespace Go.Proofs.YtedfnebadenmdaaDoor
open Go.RowKit

set_option maxHeartbeats 8000000 in
theorem rzone_let (g : Nat) (s : ByteArray) (k : Nat) (e p : Int) (w : World) (hr : Rd0 64 w g s k e p) (hs : s.size ≤ maxLen) (h43' : standB s k 43 = false) (h45' : standB s k 45 = false) :
    Calls Tryd.prog 45 #[.pointer (some ⟨g, 0, none⟩)] w fun x w' => ∃ v k' e' p', x = .returned (.int .i64 v) ∧ -6000 ≤ v ∧ v ≤ 6000 ∧ Rd0 64 w' g s k' e' p' ∧ Step s.size pZone (stOf s k e p) (stOf s k' e' p') v ∧ But g w w' := by
  have HS : Hid (s.size ≤ maxLen) := hs
  obtain ⟨c0, c1, c2, c3⟩ := hr.cells
  have hk := hr.le
  have HR : Hid (Rd0 64 w g s k e p) := hr
  have HST := ris_any g s k e p sgS (by decide) w hr hs
  rw [oneOf_sg, h43', h45', Bool.false_or] at HST
  unfold sgS at HST
  clear hr
  unfold maxLen at hs
  go_enter Tryd.func45, Tryd.ntmps45
  go_wp2_with fail
  refine Calls.mono HST ?_
  rintro x w1 ⟨rfl, hb1⟩
  have HR1 : Hid (Rd0 64 w1 g s k e p) := HR.out.below hb1
  have HB1 : Hid (But g w w1) := But.of_below hb1
  clear hb1 HST c0 c1 c2 c3 HR
  have HROW := rrow_rd g s k e p letS (by decide) w1 HR1.out HS.out
  rw [rowN_let] at HROW
  unfold letS at HROW
  have HX : Hid ((s.extract k (k + badN 1 (s.data.toList.drop k))).data.toList = (s.data.toList.drop k).take (badN 1 (s.data.toList.drop k))) := ext_list s k _
  have hxs := ext_size s k _ (bad_in 1 s k hk)
  have HG : Hid (pZone (s.data.toList.drop k) = orBad 61 (s.data.toList.drop k) (zoneL (upL ((s.data.toList.drop k).take (badN 1 (s.data.toList.drop k))))) (s.data.toList.drop (k + badN 1 (s.data.toList.drop k)))) := pZone_name s k h43' h45'
  have hm := bad_in 1 s k hk
  go_wp2_with fail
  refine Calls.mono HROW ?_
  rintro x w6 ⟨rfl, hr6, hb6⟩
  have HR6 : Hid (Rd0 64 w6 g s (k + badN 1 (s.data.toList.drop k)) e p) := hr6
  have HB6 : Hid (But g w w6) := HB1.out.trans hb6
  clear hr6 hb6 HROW HR1 HB1
  generalize (s.data.toList.drop k).take (badN 1 (s.data.toList.drop k)) = L at HX HG
  generalize badN 1 (s.data.toList.drop k) = m at HX HG HR6 hxs hm ⊢
  generalize s.extract k (k + m) = Q at HX hxs ⊢
  go_wp2_with fail
  refine (rcaps_any Q w6 (by unfold maxLen; omega)).mono ?_
  rintro x w7 ⟨rfl, hb7⟩
  have HR7 : Hid (Rd0 64 w7 g s (k + m) e p) := HR6.out.below hb7
  have HB7 : Hid (But g w w7) := HB6.out.trans (But.of_below hb7)
  have HU : Hid ((upS Q).data.toList = upL L) := by show _ = _; rw [upS_list, HX.out]
  have hus := upS_size Q
  clear hb7 HR6 HB6 HX
  generalize upS Q = U at HU hus ⊢
  have HEQ : Hid (∀ (l : List UInt8), (U.toList == l) = decide (upL L = l)) := fun l => by rw [ByteArray.toList_eq, HU.out, Bool.eq_iff_iff]; simp only [beq_iff_eq, decide_eq_true_eq]
  have HUL : Hid ((upL L).length = U.size) := by
    show _ = _
    rw [← HU.out, Array.length_toList]
    rfl
  have hle : U.size ≤ s.size := by omega
  clear h43' h45' hxs hm hus HU
  by_cases e0 : upL L = [85, 84]
  · have HC : Hid (upL L = [85, 84]) := e0
    have HA : Hid (zoneL (upL L) = some (0)) := by
      show _ = _
      rw [HC.out]
      rfl
    have HE : Hid _ := rz_ok HR7.out HB7.out HA.out (by omega) (by omega) HG.out
    have t0 : (U.toList == [85, 84]) = true := by rw [HEQ.out [85, 84], HC.out]; decide
    clear e0 HA HG HC HEQ HUL
    go_wp2
    go_ret
    exact HE.out
  have b0 : (U.toList == [85, 84]) = false := by rw [HEQ.out [85, 84]]; exact decide_eq_false e0
  have E0 : Hid (¬ upL L = [85, 84]) := e0
  clear e0
  by_cases e1 : upL L = [71, 77, 84]
  · have HC : Hid (upL L = [71, 77, 84]) := e1
    have HA : Hid (zoneL (upL L) = some (0)) := by
      show _ = _
      rw [HC.out]
      rfl
    have HE : Hid _ := rz_ok HR7.out HB7.out HA.out (by omega) (by omega) HG.out
    have t0 : (U.toList == [71, 77, 84]) = true := by rw [HEQ.out [71, 77, 84], HC.out]; decide
    clear e1 HA HG HC HEQ HUL
    go_wp2
    go_ret
    exact HE.out
  have b1 : (U.toList == [71, 77, 84]) = false := by rw [HEQ.out [71, 77, 84]]; exact decide_eq_false e1
  have E1 : Hid (¬ upL L = [71, 77, 84]) := e1
  clear e1
  by_cases e2 : upL L = [69, 83, 84]
  · have HC : Hid (upL L = [69, 83, 84]) := e2
    have HA : Hid (zoneL (upL L) = some (-300)) := by
      show _ = _
      rw [HC.out]
      rfl
    have HE : Hid _ := rz_ok HR7.out HB7.out HA.out (by omega) (by omega) HG.out
    have t0 : (U.toList == [69, 83, 84]) = true := by rw [HEQ.out [69, 83, 84], HC.out]; decide
    clear e2 HA HG HC HEQ HUL
    go_wp2
    go_ret
    exact HE.out
  have b2 : (U.toList == [69, 83, 84]) = false := by rw [HEQ.out [69, 83, 84]]; exact decide_eq_false e2
  have E2 : Hid (¬ upL L = [69, 83, 84]) := e2
  clear e2
  by_cases e3 : upL L = [67, 68, 84]
  · have HC : Hid (upL L = [67, 68, 84]) := e3
    have HA : Hid (zoneL (upL L) = some (-300)) := by
      show _ = _
      rw [HC.out]
      rfl
    have HE : Hid _ := rz_ok HR7.out HB7.out HA.out (by omega) (by omega) HG.out
    have t0 : (U.toList == [67, 68, 84]) = true := by rw [HEQ.out [67, 68, 84], HC.out]; decide
    clear e3 HA HG HC HEQ HUL
    go_wp2
    go_ret
    exact HE.out
  have b3 : (U.toList == [67, 68, 84]) = false := by rw [HEQ.out [67, 68, 84]]; exact decide_eq_false e3
  have E3 : Hid (¬ upL L = [67, 68, 84]) := e3
  clear e3
  by_cases e4 : upL L = [69, 68, 84]
  · have HC : Hid (upL L = [69, 68, 84]) := e4
    have HA : Hid (zoneL (upL L) = some (-240)) := by
      show _ = _
      rw [HC.out]
      rfl
    have HE : Hid _ := rz_ok HR7.out HB7.out HA.out (by omega) (by omega) HG.out
    have t0 : (U.toList == [69, 68, 84]) = true := by rw [HEQ.out [69, 68, 84], HC.out]; decide
    clear e4 HA HG HC HEQ HUL
    go_wp2
    go_ret
    exact HE.out
  have b4 : (U.toList == [69, 68, 84]) = false := by rw [HEQ.out [69, 68, 84]]; exact decide_eq_false e4
  have E4 : Hid (¬ upL L = [69, 68, 84]) := e4
  clear e4
  by_cases e5 : upL L = [67, 83, 84]
  · have HC : Hid (upL L = [67, 83, 84]) := e5
    have HA : Hid (zoneL (upL L) = some (-360)) := by
      show _ = _
      rw [HC.out]
      rfl
    have HE : Hid _ := rz_ok HR7.out HB7.out HA.out (by omega) (by omega) HG.out
    have t0 : (U.toList == [67, 83, 84]) = true := by rw [HEQ.out [67, 83, 84], HC.out]; decide
    clear e5 HA HG HC HEQ HUL
    go_wp2
    go_ret
    exact HE.out
  have b5 : (U.toList == [67, 83, 84]) = false := by rw [HEQ.out [67, 83, 84]]; exact decide_eq_false e5
  have E5 : Hid (¬ upL L = [67, 83, 84]) := e5
  clear e5
  by_cases e6 : upL L = [77, 68, 84]
  · have HC : Hid (upL L = [77, 68, 84]) := e6
    have HA : Hid (zoneL (upL L) = some (-360)) := by
      show _ = _
      rw [HC.out]
      rfl
    have HE : Hid _ := rz_ok HR7.out HB7.out HA.out (by omega) (by omega) HG.out
    have t0 : (U.toList == [77, 68, 84]) = true := by rw [HEQ.out [77, 68, 84], HC.out]; decide
    clear e6 HA HG HC HEQ HUL
    go_wp2
    go_ret
    exact HE.out
  have b6 : (U.toList == [77, 68, 84]) = false := by rw [HEQ.out [77, 68, 84]]; exact decide_eq_false e6
  have E6 : Hid (¬ upL L = [77, 68, 84]) := e6
  clear e6
  by_cases e7 : upL L = [77, 83, 84]
  · have HC : Hid (upL L = [77, 83, 84]) := e7
    have HA : Hid (zoneL (upL L) = some (-420)) := by
      show _ = _
      rw [HC.out]
      rfl
    have HE : Hid _ := rz_ok HR7.out HB7.out HA.out (by omega) (by omega) HG.out
    have t0 : (U.toList == [77, 83, 84]) = true := by rw [HEQ.out [77, 83, 84], HC.out]; decide
    clear e7 HA HG HC HEQ HUL
    go_wp2
    go_ret
    exact HE.out
  have b7 : (U.toList == [77, 83, 84]) = false := by rw [HEQ.out [77, 83, 84]]; exact decide_eq_false e7
  have E7 : Hid (¬ upL L = [77, 83, 84]) := e7
  clear e7
  by_cases e8 : upL L = [80, 68, 84]
  · have HC : Hid (upL L = [80, 68, 84]) := e8
    have HA : Hid (zoneL (upL L) = some (-420)) := by
      show _ = _
      rw [HC.out]
      rfl
    have HE : Hid _ := rz_ok HR7.out HB7.out HA.out (by omega) (by omega) HG.out
    have t0 : (U.toList == [80, 68, 84]) = true := by rw [HEQ.out [80, 68, 84], HC.out]; decide
    clear e8 HA HG HC HEQ HUL
    go_wp2
    go_ret
    exact HE.out
  have b8 : (U.toList == [80, 68, 84]) = false := by rw [HEQ.out [80, 68, 84]]; exact decide_eq_false e8
  have E8 : Hid (¬ upL L = [80, 68, 84]) := e8
  clear e8
  by_cases e9 : upL L = [80, 83, 84]
  · have HC : Hid (upL L = [80, 83, 84]) := e9
    have HA : Hid (zoneL (upL L) = some (-480)) := by
      show _ = _
      rw [HC.out]
      rfl
    have HE : Hid _ := rz_ok HR7.out HB7.out HA.out (by omega) (by omega) HG.out
    have t0 : (U.toList == [80, 83, 84]) = true := by rw [HEQ.out [80, 83, 84], HC.out]; decide
    clear e9 HA HG HC HEQ HUL
    go_wp2
    go_ret
    exact HE.out
  have b9 : (U.toList == [80, 83, 84]) = false := by rw [HEQ.out [80, 83, 84]]; exact decide_eq_false e9
  have E9 : Hid (¬ upL L = [80, 83, 84]) := e9
  clear e9
  by_cases h1 : U.size = 1
  · have h1i : ((U.size : Int) != 1) = false := by simp only [bne_eq_false_iff_eq]; omega
    by_cases ej : upL L = [74]
    · have HC : Hid (upL L = [74]) := ej
      have HA : Hid (zoneL (upL L) = none) := by
        show _ = _
        rw [HC.out]
        rfl
      have t0 : (U.toList == [74]) = true := by rw [HEQ.out [74], HC.out]; decide
      clear ej
      go_wp2_with fail
      refine (rfail_any g s _ e p 61 (k : Int) w7 HR7.out).mono ?_
      rintro x w8 ⟨rfl, hr8, hb8⟩
      have HE : Hid _ := rz_no hk hr8 (HB7.out.trans hb8) HA.out HG.out
      clear hr8 hb8 HA HG
      go_wp2
      go_ret
      exact HE.out
    · have t0 : (U.toList == [74]) = false := by rw [HEQ.out [74]]; exact decide_eq_false ej
      have HA : Hid (zoneL (upL L) = some 0) := by
        show _ = _
        unfold zoneL
        rw [if_pos (HUL.out.trans h1), if_neg ej]
      have HE : Hid _ := rz_ok HR7.out HB7.out HA.out (by omega) (by omega) HG.out
      clear HA HG ej
      go_wp2
      go_ret
      exact HE.out
  · have h1i : ((U.size : Int) != 1) = true := by simp only [bne_iff_ne]; omega
    have HA : Hid (zoneL (upL L) = none) := by
      show _ = _
      unfold zoneL
      rw [if_neg (by rw [HUL.out]; exact h1), if_neg E0.out, if_neg E1.out, if_neg E2.out, if_neg E4.out, if_neg E5.out, if_neg E3.out, if_neg E7.out, if_neg E6.out, if_neg E9.out, if_neg E8.out]
    clear h1
    go_wp2_with fail
    refine (rfail_any g s _ e p 61 (k : Int) w7 HR7.out).mono ?_
    rintro x w8 ⟨rfl, hr8, hb8⟩
    have HE : Hid _ := rz_no hk hr8 (HB7.out.trans hb8) HA.out HG.out
    clear hr8 hb8 HA HG
    go_wp2
    go_ret
    exact HE.out
end Go.Proofs.YtedfnebadenmdaaDoor
