/-
  The document's zone of digits.
-/
import Derived.Test.YtedfnebadenmdaaDoorRzb
namespace Go.Proofs.YtedfnebadenmdaaDoor
open Go.RowKit

set_option maxHeartbeats 8000000 in
theorem rzone_neg (g : Nat) (s : ByteArray) (k : Nat) (e p : Int) (w : World) (hr : Rd0 64 w g s k e p) (hs : s.size ≤ maxLen) (hsg : standB s k 45 = true) :
    Calls Tryd.prog 45 #[.pointer (some ⟨g, 0, none⟩)] w fun x w' => ∃ v k' e' p', x = .returned (.int .i64 v) ∧ -6000 ≤ v ∧ v ≤ 6000 ∧ Rd0 64 w' g s k' e' p' ∧ Step s.size pZone (stOf s k e p) (stOf s k' e' p') v ∧ But g w w' := by
  have HS : Hid (s.size ≤ maxLen) := hs
  obtain ⟨c0, c1, c2, c3⟩ := hr.cells
  have hk := hr.le
  have HR : Hid (Rd0 64 w g s k e p) := hr
  have HST := ris_any g s k e p sgS (by decide) w hr hs
  rw [oneOf_sg, hsg, Bool.or_true] at HST
  unfold sgS at HST
  clear hr
  unfold maxLen at hs
  go_enter Tryd.func45, Tryd.ntmps45
  go_wp2_with fail
  refine Calls.mono HST ?_
  rintro x w1 ⟨rfl, hb1⟩
  have HR1 : Hid (Rd0 64 w1 g s k e p) := HR.out.below hb1
  have HB1 : Hid (But g w w1) := But.of_below hb1
  clear hb1 HST c0 c1 c2 c3 HR
  have HST2 := ris_any g s k e p ⟨#[45]⟩ (show (1 : Nat) ≤ 100 by omega) w1 HR1.out HS.out
  have h45 : standB s k 45 = true := by
    exact hsg
  rw [oneOf_one, h45] at HST2
  clear h45
  go_wp2_with fail
  refine Calls.mono HST2 ?_
  rintro x w2 ⟨rfl, hb2⟩
  have HR2 : Hid (Rd0 64 w2 g s k e p) := HR1.out.below hb2
  have HB2 : Hid (But g w w2) := HB1.out.trans (But.of_below hb2)
  clear hb2 HST2 HR1 HB1
  have hlt := standB_lt s k 45 hsg
  obtain ⟨d0, d1, d2, d3⟩ := HR2.out.cells
  obtain ⟨f1, f2, f3⟩ := HR2.out.frozen
  have HR5 : Hid (Rd0 64 (w2.setCell ⟨g, 1, none⟩ (.int .i64 ((k : Int) + 1))) g s (k + 1) e p) := HR2.out.move (k + 1) hlt
  have HB5 : Hid (But g w (w2.setCell ⟨g, 1, none⟩ (.int .i64 ((k : Int) + 1)))) := HB2.out.set 1 _
  have HROW := rrow_rd g s (k + 1) e p figS (by decide) _ HR5.out HS.out
  rw [rowN_fig] at HROW
  unfold figS at HROW
  have HX : Hid ((s.extract (k + 1) (k + 1 + badN 2 (s.data.toList.drop (k + 1)))).data.toList = (s.data.toList.drop (k + 1)).take (badN 2 (s.data.toList.drop (k + 1)))) := ext_list s (k + 1) _
  have HD : Hid (∀ b ∈ (s.data.toList.drop (k + 1)).take (badN 2 (s.data.toList.drop (k + 1))), isB 2 (b.toNat : Int) = true) := badN_take 2 _
  have HG : Hid (pZone (s.data.toList.drop k) = orBad 61 (s.data.toList.drop k) ((zoneD ((s.data.toList.drop (k + 1)).take (badN 2 (s.data.toList.drop (k + 1))))).map (fun z => -z)) (s.data.toList.drop (k + 1 + badN 2 (s.data.toList.drop (k + 1))))) := by
    have := pZone_sign s k 45 hsg (by decide)
    show _ = _
    simpa using this
  go_wp2_with fail
  refine Calls.mono HROW ?_
  rintro x w6 ⟨rfl, hr6, hb6⟩
  have HR6 : Hid (Rd0 64 w6 g s (k + 1 + badN 2 (s.data.toList.drop (k + 1))) e p) := hr6
  have HB6 : Hid (But g w w6) := HB5.out.trans hb6
  clear hr6 hb6 HROW HR5 HB5 d0 d1 d2 d3 f1 f2 f3
  generalize (s.data.toList.drop (k + 1)).take (badN 2 (s.data.toList.drop (k + 1))) = L at HX HD HG
  generalize k + 1 + badN 2 (s.data.toList.drop (k + 1)) = k6 at HX HG HR6 ⊢
  generalize s.extract (k + 1) k6 = Q at HX ⊢
  by_cases h4 : Q.size = 4
  · have HV := four_val (Q := Q) ⟨h4, by rw [HX.out]; exact HD.out⟩ (by omega) (by omega) (by omega) (by omega)
    obtain ⟨q0, q1, q2, q3, hv⟩ := HV
    rw [HX.out] at hv
    have HZ : Hid (zoneD L = if Q[2].toNat ≤ 53 then some (60 * (10 * ((Q[0].toNat : Int) - 48) + ((Q[1].toNat : Int) - 48)) + 10 * ((Q[2].toNat : Int) - 48) + ((Q[3].toNat : Int) - 48)) else none) := hv
    have h4i : (Q.size : Int) = 4 := by omega
    clear hv HX HD
    by_cases h5 : Q[2].toNat ≤ 53
    · have h5i : ¬ (53 : Int) < (Q[2].toNat : Int) := by omega
      have HA : Hid ((zoneD L).map (fun z => -z) = some (-(60 * (10 * ((Q[0].toNat : Int) - 48) + ((Q[1].toNat : Int) - 48)) + 10 * ((Q[2].toNat : Int) - 48) + ((Q[3].toNat : Int) - 48)))) := by
        show _ = _
        rw [HZ.out, if_pos h5]
        rfl
      have HE' : Hid (∀ n, _) := fun n => rz_ok (HR6.out.below (below_drewN w6 n)) (HB6.out.trans (But.of_below (below_drewN w6 n))) HA.out (by omega) (by omega) HG.out
      clear HA HG HZ
      go_wp2_with fail
      go_quiet (fail)
      have HE : Hid _ := HE'.out nq
      clear HE'
      go_wp2
      go_ret
      exact HE.out
    · have h5i : (53 : Int) < (Q[2].toNat : Int) := by omega
      have HA : Hid ((zoneD L).map (fun z => -z) = none) := by
        show _ = _
        rw [HZ.out, if_neg h5]
        rfl
      clear h5 HZ
      go_wp2_with fail
      refine (rfail_any g s _ e p 61 (k : Int) w6 HR6.out).mono ?_
      rintro x w8 ⟨rfl, hr8, hb8⟩
      have HE : Hid _ := rz_no hk hr8 (HB6.out.trans hb8) HA.out HG.out
      clear hr8 hb8 HA HG
      go_wp2
      go_ret
      exact HE.out
  · have h4i : ((Q.size : Int) != 4) = true := by simp only [bne_iff_ne]; omega
    have HA : Hid ((zoneD L).map (fun z => -z) = none) := by
      show _ = _
      unfold zoneD
      rw [if_neg]
      · rfl
      · intro h
        apply h4
        rw [← HX.out] at h
        rw [← h.1, Array.length_toList]
        rfl
    clear HD h4
    go_wp2_with fail
    refine (rfail_any g s _ e p 61 (k : Int) w6 HR6.out).mono ?_
    rintro x w8 ⟨rfl, hr8, hb8⟩
    have HE : Hid _ := rz_no hk hr8 (HB6.out.trans hb8) HA.out HG.out
    clear hr8 hb8 HA HG
    go_wp2
    go_ret
    exact HE.out
end Go.Proofs.YtedfnebadenmdaaDoor
