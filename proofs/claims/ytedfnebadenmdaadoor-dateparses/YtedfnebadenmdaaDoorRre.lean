/-
  The document's reader of dates: remark.
-/
import Derived.Test.YtedfnebadenmdaaDoorRrc
import Derived.Test.YtedfnebadenmdaaDoorRde
namespace Go.Proofs.YtedfnebadenmdaaDoor
open Go.RowKit

def brS : ByteArray := ⟨#[40, 41, 92]⟩
theorem remB_in (b : UInt8) (h0 : 32 ≤ b.toNat) (h1 : b.toNat ≤ 126) : remB b = !inA brS b := by
  have : ∀ b : Fin 256, 32 ≤ b.val → b.val ≤ 126 → remB (UInt8.ofNat b.val) = !inA brS (UInt8.ofNat b.val) := by decide +kernel
  have := this ⟨b.toNat, b.toNat_lt⟩ h0 h1
  simpa using this
theorem remB_out (b : UInt8) (h : b.toNat < 32 ∨ 126 < b.toNat) : remB b = false := by
  unfold remB
  rcases h with h | h
  · rw [decide_eq_false (show ¬ 32 ≤ b.toNat by omega)]
    rfl
  · rw [decide_eq_false (show ¬ b.toNat ≤ 126 by omega)]
    simp
set_option maxHeartbeats 8000000 in
theorem rrem_any (g : Nat) (s : ByteArray) (k : Nat) (e p : Int) (w : World) (hr : Rd0 64 w g s k e p) (hs : s.size ≤ maxLen) :
    Calls Tryd.prog 46 #[.pointer (some ⟨g, 0, none⟩)] w fun x w' => x = .returned (.tuple #[]) ∧ ∃ k' e' p', Rd0 64 w' g s k' e' p' ∧ Step s.size pRem (stOf s k e p) (stOf s k' e' p') () ∧ But g w w' := by
  have hk := hr.le
  have HS : Hid (s.size ≤ maxLen) := hs
  have HR : Hid (Rd0 64 w g s k e p) := hr
  have HST := ris_any g s k e p ⟨#[40]⟩ (show (1 : Nat) ≤ 100 by omega) w hr hs
  rw [oneOf_one] at HST
  unfold maxLen at hs
  clear hr
  go_enter Tryd.func46, Tryd.ntmps46
  go_wp2_with fail
  refine Calls.mono HST ?_
  rintro x w1 ⟨rfl, hb1⟩
  have HR1 : Hid (Rd0 64 w1 g s k e p) := HR.out.below hb1
  have HB1 : Hid (But g w w1) := But.of_below hb1
  clear hb1 HST HR
  by_cases h40 : standB s k 40 = true
  · have hlt := standB_lt s k 40 h40
    obtain ⟨c0, c1, c2, c3⟩ := HR1.out.cells
    obtain ⟨f1, f2, f3⟩ := HR1.out.frozen
    have HR2 : Hid (Rd0 64 (w1.setCell ⟨g, 1, none⟩ (.int .i64 ((k : Int) + 1))) g s (k + 1) e p) := HR1.out.move (k + 1) hlt
    have HB2 : Hid (But g w (w1.setCell ⟨g, 1, none⟩ (.int .i64 ((k : Int) + 1)))) := HB1.out.set 1 _
    have HP : Hid (∀ m, k + 1 + remN (s.data.toList.drop (k + 1)) = m → pRem (s.data.toList.drop k) = if standB s m 41 = true then .ok () (s.data.toList.drop (m + 1)) else .bad 60 (s.data.toList.drop k)) := by
      intro m hm
      unfold pRem
      rw [if_pos ((standB_yes s k 40).1 h40), List.drop_drop, List.drop_drop, List.drop_drop]
      have e1 : k + (1 + remN (s.data.toList.drop (k + 1))) = m := by omega
      have e2 : k + (1 + remN (s.data.toList.drop (k + 1)) + 1) = m + 1 := by omega
      rw [e1, e2]
      simp only [standB_yes]
    go_wp2_with fail
    clear c0 c1 c2 c3 f1 f2 f3 h40
    go_loopg [17] (s.size - (k + 1)) (fun n _ wr => ∃ m : Nat, n = s.size - m ∧ Hid (Rd0 64 wr g s m e p ∧ But g w wr ∧ k + 1 + remN (s.data.toList.drop (k + 1)) = m + remN (s.data.toList.drop m)))
    case atStart => exact ⟨k + 1, rfl, HR2.out, HB2.out, rfl⟩
    case round =>
      obtain ⟨m, hm, HM⟩ := hrel
      have HMR : Hid (Rd0 64 wr g s m e p) := HM.out.1
      have HMB : Hid (But g w wr) := HM.out.2.1
      have HMK : Hid (k + 1 + remN (s.data.toList.drop (k + 1)) = m + remN (s.data.toList.drop m)) := HM.out.2.2
      obtain ⟨d0, d1, d2, d3⟩ := HM.out.1.cells
      obtain ⟨r1, r2, r3⟩ := HM.out.1.frozen
      clear HM HR2 HB2 HR1 HB1
      have HIN : Hid (∀ n, Calls Tryd.prog 41 #[.pointer (some ⟨g, 0, none⟩), .string ⟨#[40, 41, 92]⟩] (wr.drewN n) fun x w' => x = .returned (.bool (oneOf brS s m)) ∧ ∃ j, w' = (wr.drewN n).drewN j) := fun n => ris_q g s m e p brS (by decide) _ (HMR.out.below (below_drewN _ _)) HS.out
      have HEND : Hid (∀ nq, k + 1 + remN (s.data.toList.drop (k + 1)) = m → Rd0 64 (wr.drewN nq) g s m e p ∧ But g w (wr.drewN nq)) := fun nq _ => ⟨HMR.out.below (below_drewN wr nq), HMB.out.trans (But.of_below (below_drewN wr nq))⟩
      by_cases hml : m < s.size
      · have hmi : (m : Int) < (s.size : Int) := by omega
        have hON : oneOf brS s m = inA brS s[m] := oneOf_at brS s m hml
        by_cases hb : remB s[m] = true
        · have HN : Hid (k + 1 + remN (s.data.toList.drop (k + 1)) = (m + 1) + remN (s.data.toList.drop (m + 1))) := by
            show _ = _
            rw [HMK.out, remN_yes s m hml hb]
            omega
          have t0 : ¬ (s[m].toNat < 32 ∨ 126 < s[m].toNat) := fun h => by rw [remB_out _ h] at hb; cases hb
          have t1 : (32 : Int) ≤ (s[m].toNat : Int) := by omega
          have t2 : (s[m].toNat : Int) ≤ 126 := by omega
          have hf : oneOf brS s m = false := by
            rw [hON]
            rw [remB_in _ (by omega) (by omega)] at hb
            simpa using hb
          clear hb t0 hON
          rw [hf] at HIN
          go_wp2_with fail
          go_quiet (first | (go_at_call 41; refine Calls.quiet_of (HIN.out _)))
          have HR2 : Hid (Rd0 64 ((wr.drewN nq).setCell ⟨g, 1, none⟩ (.int .i64 ((m : Int) + 1))) g s (m + 1) e p) := (HMR.out.below (below_drewN wr nq)).move (m + 1) hml
          have HB2 : Hid (But g w ((wr.drewN nq).setCell ⟨g, 1, none⟩ (.int .i64 ((m : Int) + 1)))) := (HMB.out.trans (But.of_below (below_drewN wr nq))).set 1 _
          go_wp2
          go_roundg (s.size - (m + 1))
          case measure => omega
          case rel => exact ⟨m + 1, rfl, HR2.out, HB2.out, HN.out⟩
        · have hb' : remB s[m] = false := by simpa using hb
          clear hb
          have HN : Hid (k + 1 + remN (s.data.toList.drop (k + 1)) = m) := by
            show _ = _
            rw [HMK.out, remN_no s m hml hb']
            rfl
          by_cases t0 : s[m].toNat < 32
          · have t1 : decide ((32 : Int) ≤ (s[m].toNat : Int)) = false := decide_eq_false (by omega)
            clear hb' hON t0
            go_wp2_with fail
            go_quiet (fail)
            have HR2 : Hid (Rd0 64 (wr.drewN nq) g s m e p) := (HEND.out nq HN.out).1
            have HB2 : Hid (But g w (wr.drewN nq)) := (HEND.out nq HN.out).2
            clear HMR HMB HIN HEND d0 d1 d2 d3 r1 r2 r3
            generalize wr.drewN nq = w2 at HR2 HB2 ⊢
            have HST := ris_any g s m e p ⟨#[41]⟩ (show (1 : Nat) ≤ 100 by omega) w2 HR2.out HS.out
            rw [oneOf_one] at HST
            go_wp2_with fail
            refine Calls.mono HST ?_
            rintro x w3 ⟨rfl, hb3⟩
            have HR3 : Hid (Rd0 64 w3 g s m e p) := HR2.out.below hb3
            have HB3 : Hid (But g w w3) := HB2.out.trans (But.of_below hb3)
            obtain ⟨d0, d1, d2, d3⟩ := HR3.out.cells
            obtain ⟨r1, r2, r3⟩ := HR3.out.frozen
            clear hb3 HST HR2 HB2
            by_cases h41 : standB s m 41 = true
            · have hml2 := standB_lt s m 41 h41
              have HG : Hid (pRem (s.data.toList.drop k) = .ok () (s.data.toList.drop (m + 1))) := by
                have h := HP.out m HN.out
                rw [if_pos h41] at h
                exact h
              have HE : Hid (∃ k' e' p', Rd0 64 (w3.setCell ⟨g, 1, none⟩ (.int .i64 ((m : Int) + 1))) g s k' e' p' ∧ Step s.size pRem (stOf s k e p) (stOf s k' e' p') () ∧ But g w (w3.setCell ⟨g, 1, none⟩ (.int .i64 ((m : Int) + 1)))) := ⟨m + 1, e, p, HR3.out.move (m + 1) hml2, Step.go (fun _ => HG.out), HB3.out.set 1 _⟩
              go_wp2
              go_end0
              exact ⟨rfl, HE.out⟩
            · have h41' : standB s m 41 = false := by simpa using h41
              have HG : Hid (pRem (s.data.toList.drop k) = .bad 60 (s.data.toList.drop k)) := by
                have h := HP.out m HN.out
                rw [if_neg h41] at h
                exact h
              clear h41
              go_wp2_with fail
              refine (rfail_any g s _ e p 60 (k : Int) w3 HR3.out).mono ?_
              rintro x w4 ⟨rfl, hr4, hb4⟩
              have HE : Hid (∃ k' e' p', Rd0 64 w4 g s k' e' p' ∧ Step s.size pRem (stOf s k e p) (stOf s k' e' p') () ∧ But g w w4) := ⟨_, _, _, hr4, Step.fail () hk (by decide) (fun _ => HG.out), HB3.out.trans hb4⟩
              clear hr4 hb4
              go_wp2
              (try simp only [Exit.inBlock, Exit.then])
              refine bodyPost_ret (results_none rfl _ _ _) rfl ?_
              exact ⟨rfl, HE.out⟩
          by_cases t9 : 126 < s[m].toNat
          · have t1 : (32 : Int) ≤ (s[m].toNat : Int) := by omega
            have t2 : decide ((s[m].toNat : Int) ≤ 126) = false := decide_eq_false (by omega)
            clear hb' hON t9 t0
            go_wp2_with fail
            go_quiet (fail)
            have HR2 : Hid (Rd0 64 (wr.drewN nq) g s m e p) := (HEND.out nq HN.out).1
            have HB2 : Hid (But g w (wr.drewN nq)) := (HEND.out nq HN.out).2
            clear HMR HMB HIN HEND d0 d1 d2 d3 r1 r2 r3
            generalize wr.drewN nq = w2 at HR2 HB2 ⊢
            have HST := ris_any g s m e p ⟨#[41]⟩ (show (1 : Nat) ≤ 100 by omega) w2 HR2.out HS.out
            rw [oneOf_one] at HST
            go_wp2_with fail
            refine Calls.mono HST ?_
            rintro x w3 ⟨rfl, hb3⟩
            have HR3 : Hid (Rd0 64 w3 g s m e p) := HR2.out.below hb3
            have HB3 : Hid (But g w w3) := HB2.out.trans (But.of_below hb3)
            obtain ⟨d0, d1, d2, d3⟩ := HR3.out.cells
            obtain ⟨r1, r2, r3⟩ := HR3.out.frozen
            clear hb3 HST HR2 HB2
            by_cases h41 : standB s m 41 = true
            · have hml2 := standB_lt s m 41 h41
              have HG : Hid (pRem (s.data.toList.drop k) = .ok () (s.data.toList.drop (m + 1))) := by
                have h := HP.out m HN.out
                rw [if_pos h41] at h
                exact h
              have HE : Hid (∃ k' e' p', Rd0 64 (w3.setCell ⟨g, 1, none⟩ (.int .i64 ((m : Int) + 1))) g s k' e' p' ∧ Step s.size pRem (stOf s k e p) (stOf s k' e' p') () ∧ But g w (w3.setCell ⟨g, 1, none⟩ (.int .i64 ((m : Int) + 1)))) := ⟨m + 1, e, p, HR3.out.move (m + 1) hml2, Step.go (fun _ => HG.out), HB3.out.set 1 _⟩
              go_wp2
              go_end0
              exact ⟨rfl, HE.out⟩
            · have h41' : standB s m 41 = false := by simpa using h41
              have HG : Hid (pRem (s.data.toList.drop k) = .bad 60 (s.data.toList.drop k)) := by
                have h := HP.out m HN.out
                rw [if_neg h41] at h
                exact h
              clear h41
              go_wp2_with fail
              refine (rfail_any g s _ e p 60 (k : Int) w3 HR3.out).mono ?_
              rintro x w4 ⟨rfl, hr4, hb4⟩
              have HE : Hid (∃ k' e' p', Rd0 64 w4 g s k' e' p' ∧ Step s.size pRem (stOf s k e p) (stOf s k' e' p') () ∧ But g w w4) := ⟨_, _, _, hr4, Step.fail () hk (by decide) (fun _ => HG.out), HB3.out.trans hb4⟩
              clear hr4 hb4
              go_wp2
              (try simp only [Exit.inBlock, Exit.then])
              refine bodyPost_ret (results_none rfl _ _ _) rfl ?_
              exact ⟨rfl, HE.out⟩
          have t1 : (32 : Int) ≤ (s[m].toNat : Int) := by omega
          have t2 : (s[m].toNat : Int) ≤ 126 := by omega
          have hf : oneOf brS s m = true := by
            rw [hON]
            rw [remB_in _ (by omega) (by omega)] at hb'
            simpa using hb'
          clear hb' hON t9 t0
          rw [hf] at HIN
          go_wp2_with fail
          go_quiet (first | (go_at_call 41; refine Calls.quiet_of (HIN.out _)))
          have HR2 : Hid (Rd0 64 (wr.drewN nq) g s m e p) := (HEND.out nq HN.out).1
          have HB2 : Hid (But g w (wr.drewN nq)) := (HEND.out nq HN.out).2
          clear HMR HMB HIN HEND d0 d1 d2 d3 r1 r2 r3
          generalize wr.drewN nq = w2 at HR2 HB2 ⊢
          have HST := ris_any g s m e p ⟨#[41]⟩ (show (1 : Nat) ≤ 100 by omega) w2 HR2.out HS.out
          rw [oneOf_one] at HST
          go_wp2_with fail
          refine Calls.mono HST ?_
          rintro x w3 ⟨rfl, hb3⟩
          have HR3 : Hid (Rd0 64 w3 g s m e p) := HR2.out.below hb3
          have HB3 : Hid (But g w w3) := HB2.out.trans (But.of_below hb3)
          obtain ⟨d0, d1, d2, d3⟩ := HR3.out.cells
          obtain ⟨r1, r2, r3⟩ := HR3.out.frozen
          clear hb3 HST HR2 HB2
          by_cases h41 : standB s m 41 = true
          · have hml2 := standB_lt s m 41 h41
            have HG : Hid (pRem (s.data.toList.drop k) = .ok () (s.data.toList.drop (m + 1))) := by
              have h := HP.out m HN.out
              rw [if_pos h41] at h
              exact h
            have HE : Hid (∃ k' e' p', Rd0 64 (w3.setCell ⟨g, 1, none⟩ (.int .i64 ((m : Int) + 1))) g s k' e' p' ∧ Step s.size pRem (stOf s k e p) (stOf s k' e' p') () ∧ But g w (w3.setCell ⟨g, 1, none⟩ (.int .i64 ((m : Int) + 1)))) := ⟨m + 1, e, p, HR3.out.move (m + 1) hml2, Step.go (fun _ => HG.out), HB3.out.set 1 _⟩
            go_wp2
            go_end0
            exact ⟨rfl, HE.out⟩
          · have h41' : standB s m 41 = false := by simpa using h41
            have HG : Hid (pRem (s.data.toList.drop k) = .bad 60 (s.data.toList.drop k)) := by
              have h := HP.out m HN.out
              rw [if_neg h41] at h
              exact h
            clear h41
            go_wp2_with fail
            refine (rfail_any g s _ e p 60 (k : Int) w3 HR3.out).mono ?_
            rintro x w4 ⟨rfl, hr4, hb4⟩
            have HE : Hid (∃ k' e' p', Rd0 64 w4 g s k' e' p' ∧ Step s.size pRem (stOf s k e p) (stOf s k' e' p') () ∧ But g w w4) := ⟨_, _, _, hr4, Step.fail () hk (by decide) (fun _ => HG.out), HB3.out.trans hb4⟩
            clear hr4 hb4
            go_wp2
            (try simp only [Exit.inBlock, Exit.then])
            refine bodyPost_ret (results_none rfl _ _ _) rfl ?_
            exact ⟨rfl, HE.out⟩
      · have HN : Hid (k + 1 + remN (s.data.toList.drop (k + 1)) = m) := by
          show _ = _
          rw [HMK.out, remN_end s m hml]
          rfl
        have hmi : decide ((m : Int) < (s.size : Int)) = false := decide_eq_false (by omega)
        have hmn : decide (m < s.size) = false := decide_eq_false hml
        clear hml
        go_wp2_with fail
        go_quiet (fail)
        have HR2 : Hid (Rd0 64 (wr.drewN nq) g s m e p) := (HEND.out nq HN.out).1
        have HB2 : Hid (But g w (wr.drewN nq)) := (HEND.out nq HN.out).2
        clear HMR HMB HIN HEND d0 d1 d2 d3 r1 r2 r3
        generalize wr.drewN nq = w2 at HR2 HB2 ⊢
        have HST := ris_any g s m e p ⟨#[41]⟩ (show (1 : Nat) ≤ 100 by omega) w2 HR2.out HS.out
        rw [oneOf_one] at HST
        go_wp2_with fail
        refine Calls.mono HST ?_
        rintro x w3 ⟨rfl, hb3⟩
        have HR3 : Hid (Rd0 64 w3 g s m e p) := HR2.out.below hb3
        have HB3 : Hid (But g w w3) := HB2.out.trans (But.of_below hb3)
        obtain ⟨d0, d1, d2, d3⟩ := HR3.out.cells
        obtain ⟨r1, r2, r3⟩ := HR3.out.frozen
        clear hb3 HST HR2 HB2
        by_cases h41 : standB s m 41 = true
        · have hml2 := standB_lt s m 41 h41
          have HG : Hid (pRem (s.data.toList.drop k) = .ok () (s.data.toList.drop (m + 1))) := by
            have h := HP.out m HN.out
            rw [if_pos h41] at h
            exact h
          have HE : Hid (∃ k' e' p', Rd0 64 (w3.setCell ⟨g, 1, none⟩ (.int .i64 ((m : Int) + 1))) g s k' e' p' ∧ Step s.size pRem (stOf s k e p) (stOf s k' e' p') () ∧ But g w (w3.setCell ⟨g, 1, none⟩ (.int .i64 ((m : Int) + 1)))) := ⟨m + 1, e, p, HR3.out.move (m + 1) hml2, Step.go (fun _ => HG.out), HB3.out.set 1 _⟩
          go_wp2
          go_end0
          exact ⟨rfl, HE.out⟩
        · have h41' : standB s m 41 = false := by simpa using h41
          have HG : Hid (pRem (s.data.toList.drop k) = .bad 60 (s.data.toList.drop k)) := by
            have h := HP.out m HN.out
            rw [if_neg h41] at h
            exact h
          clear h41
          go_wp2_with fail
          refine (rfail_any g s _ e p 60 (k : Int) w3 HR3.out).mono ?_
          rintro x w4 ⟨rfl, hr4, hb4⟩
          have HE : Hid (∃ k' e' p', Rd0 64 w4 g s k' e' p' ∧ Step s.size pRem (stOf s k e p) (stOf s k' e' p') () ∧ But g w w4) := ⟨_, _, _, hr4, Step.fail () hk (by decide) (fun _ => HG.out), HB3.out.trans hb4⟩
          clear hr4 hb4
          go_wp2
          (try simp only [Exit.inBlock, Exit.then])
          refine bodyPost_ret (results_none rfl _ _ _) rfl ?_
          exact ⟨rfl, HE.out⟩
  · have h40' : standB s k 40 = false := by simpa using h40
    have HE : Hid (∃ k' e' p', Rd0 64 w1 g s k' e' p' ∧ Step s.size pRem (stOf s k e p) (stOf s k' e' p') () ∧ But g w w1) := ⟨k, e, p, HR1.out, Step.go (fun _ => pRem_no s k h40'), HB1.out⟩
    clear h40
    go_wp2
    (try simp only [Exit.inBlock, Exit.then])
    refine bodyPost_ret (results_none rfl _ _ _) rfl ?_
    exact ⟨rfl, HE.out⟩
end Go.Proofs.YtedfnebadenmdaaDoor
