/-
  The program's reader of dates: remarks, and the end.
-/
import Derived.Test.YtedfnebadenmdabDoorRdz
namespace Go.Proofs.YtedfnebadenmdabDoor
open Go.RowKit

theorem remB_fin : ∀ b : Fin 256, remB (UInt8.ofNat b.val) = (decide (b.val ≠ 40) && decide (b.val ≠ 41) && decide (b.val ≠ 92) && decide (b.val ≠ 9) && isB 12 (b.val : Int)) := by decide +kernel
theorem remB_eq (b : UInt8) : remB b = (decide (b.toNat ≠ 40) && decide (b.toNat ≠ 41) && decide (b.toNat ≠ 92) && decide (b.toNat ≠ 9) && isB 12 (b.toNat : Int)) := by
  have := remB_fin ⟨b.toNat, b.toNat_lt⟩
  simpa using this
set_option maxHeartbeats 1000000 in
theorem inrem_any (b : UInt8) (w : World) (ht : Table w) :
    Calls Tryd.prog 55 #[.int .u8 (b.toNat : Int)] w fun x w' => x = .returned (.bool (remB b)) ∧ w' = w := by
  have HT : Hid (Table w) := ht
  have HE : Hid (remB b = (decide (b.toNat ≠ 40) && decide (b.toNat ≠ 41) && decide (b.toNat ≠ 92) && decide (b.toNat ≠ 9) && isB 12 (b.toNat : Int))) := remB_eq b
  clear ht
  generalize b.toNat = n at HE ⊢
  by_cases h1 : n = 40
  · have HF : Hid (remB b = false) := by show _ = _; rw [HE.out]; simp [h1]
    subst h1
    go_enter Tryd.func55, Tryd.ntmps55
    go_wp2
    go_ret
    exact ⟨ret_b HF.out.symm, rfl⟩
  have g1 : ((n : Int) != 40) = true := by simp only [bne_iff_ne]; omega
  by_cases h2 : n = 41
  · have HF : Hid (remB b = false) := by show _ = _; rw [HE.out]; simp [h2]
    subst h2
    go_enter Tryd.func55, Tryd.ntmps55
    go_wp2
    go_ret
    exact ⟨ret_b HF.out.symm, rfl⟩
  have g2 : ((n : Int) != 41) = true := by simp only [bne_iff_ne]; omega
  by_cases h3 : n = 92
  · have HF : Hid (remB b = false) := by show _ = _; rw [HE.out]; simp [h3]
    subst h3
    go_enter Tryd.func55, Tryd.ntmps55
    go_wp2
    go_ret
    exact ⟨ret_b HF.out.symm, rfl⟩
  have g3 : ((n : Int) != 92) = true := by simp only [bne_iff_ne]; omega
  by_cases h4 : n = 9
  · have HF : Hid (remB b = false) := by show _ = _; rw [HE.out]; simp [h4]
    subst h4
    go_enter Tryd.func55, Tryd.ntmps55
    go_wp2
    go_ret
    exact ⟨ret_b HF.out.symm, rfl⟩
  have g4 : ((n : Int) != 9) = true := by simp only [bne_iff_ne]; omega
  have HF : Hid (remB b = isB 12 (n : Int)) := by show _ = _; rw [HE.out]; simp [h1, h2, h3, h4]
  clear h1 h2 h3 h4
  go_enter Tryd.func55, Tryd.ntmps55
  go_wp2_with fail
  refine (is_any 12 (n : Int) _ HT.out).mono ?_
  rintro e w' ⟨rfl, rfl⟩
  go_wp2
  go_ret
  exact ⟨ret_b HF.out.symm, rfl⟩
theorem remN_yes (s : ByteArray) (k : Nat) (h : k < s.size) (hb : remB s[k] = true) : remN (s.data.toList.drop k) = remN (s.data.toList.drop (k + 1)) + 1 := by
  have hk' : k < s.data.toList.length := by rw [Array.length_toList]; exact h
  have e : s.data.toList[k] = s[k] := by simp; rfl
  rw [List.drop_eq_getElem_cons hk', remN, e, if_pos hb]
theorem remN_no (s : ByteArray) (k : Nat) (h : k < s.size) (hb : remB s[k] = false) : remN (s.data.toList.drop k) = 0 := by
  have hk' : k < s.data.toList.length := by rw [Array.length_toList]; exact h
  have e : s.data.toList[k] = s[k] := by simp; rfl
  rw [List.drop_eq_getElem_cons hk', remN, e, if_neg (by rw [hb]; decide)]
theorem remN_end (s : ByteArray) (k : Nat) (h : ¬ k < s.size) : remN (s.data.toList.drop k) = 0 := by
  rw [List.drop_eq_nil_of_le (by rw [Array.length_toList]; have e : s.data.size = s.size := rfl; omega)]
  rfl
set_option maxHeartbeats 4000000 in
theorem remark_any (g : Nat) (s : ByteArray) (k : Nat) (e p : Int) (w : World) (ht : Tbl w) (hr : Rd0 63 w g s k e p) (hs : s.size ≤ maxLen) (h40 : standB s k 40 = true) :
    Calls Tryd.prog 49 #[.pointer (some ⟨g, 0, none⟩)] w fun x w' => x = .returned (.tuple #[]) ∧ ∃ k' e' p', Rd0 63 w' g s k' e' p' ∧ Step s.size pRem (stOf s k e p) (stOf s k' e' p') () ∧ But g w w' := by
  have HFAR : Hid (2 < g) := hr.far
  have HT : Hid (Tbl w) := ht
  obtain ⟨c0, c1, c2, c3⟩ := hr.cells
  obtain ⟨f1, f2, f3⟩ := hr.frozen
  have hk := hr.le
  have hlt := standB_lt s k 40 h40
  have HR1 : Hid (Rd0 63 (w.setCell ⟨g, 1, none⟩ (.int .i64 ((k : Int) + 1))) g s (k + 1) e p) := hr.move (k + 1) hlt
  have HB1 : Hid (But g w (w.setCell ⟨g, 1, none⟩ (.int .i64 ((k : Int) + 1)))) := (But.refl g w).set 1 _
  have HP : Hid (∀ m, k + 1 + remN (s.data.toList.drop (k + 1)) = m → pRem (s.data.toList.drop k) = if standB s m 41 = true then .ok () (s.data.toList.drop (m + 1)) else .bad 60 (s.data.toList.drop k)) := by
    intro m hm
    unfold pRem
    rw [if_pos ((standB_yes s k 40).1 h40), List.drop_drop, List.drop_drop, List.drop_drop]
    have e1 : k + (1 + remN (s.data.toList.drop (k + 1))) = m := by omega
    have e2 : k + (1 + remN (s.data.toList.drop (k + 1)) + 1) = m + 1 := by omega
    rw [e1, e2]
    simp only [standB_yes]
  unfold maxLen at hs
  clear hr ht h40
  go_enter Tryd.func49, Tryd.ntmps49
  go_wp2_with fail
  go_loopg [14] (s.size - (k + 1)) (fun n _ wr => ∃ m : Nat, n = s.size - m ∧ Hid (Rd0 63 wr g s m e p ∧ But g w wr ∧ k + 1 + remN (s.data.toList.drop (k + 1)) = m + remN (s.data.toList.drop m)))
  case atStart => exact ⟨k + 1, rfl, HR1.out, HB1.out, rfl⟩
  case round =>
    obtain ⟨m, hm, HM⟩ := hrel
    have HMR : Hid (Rd0 63 wr g s m e p) := HM.out.1
    have HMB : Hid (But g w wr) := HM.out.2.1
    have HMK : Hid (k + 1 + remN (s.data.toList.drop (k + 1)) = m + remN (s.data.toList.drop m)) := HM.out.2.2
    obtain ⟨d0, d1, d2, d3⟩ := HM.out.1.cells
    obtain ⟨r1, r2, r3⟩ := HM.out.1.frozen
    have HTW : Hid (Tbl wr) := HT.out.but HFAR.out HMB.out
    clear HM
    clear c0 c1 c2 c3 f1 f2 f3
    by_cases hml : m < s.size
    · have hmi : (m : Int) < (s.size : Int) := by omega
      have HIN : Hid (∀ n, Calls Tryd.prog 55 #[.int .u8 (s[m].toNat : Int)] (wr.drewN n) fun x w' => x = .returned (.bool (remB s[m])) ∧ w' = wr.drewN n) := fun n => inrem_any s[m] _ (HTW.out.below (below_drewN _ _)).cl
      by_cases hb : remB s[m] = true
      · have HN : Hid (k + 1 + remN (s.data.toList.drop (k + 1)) = (m + 1) + remN (s.data.toList.drop (m + 1))) := by
          show _ = _
          rw [HMK.out, remN_yes s m hml hb]
          omega
        go_wp2_with fail
        go_quiet (first | (go_at_call 55; refine Calls.quiet_of_same (HIN.out _)))
        have HR2 : Hid (Rd0 63 ((wr.drewN nq).setCell ⟨g, 1, none⟩ (.int .i64 ((m : Int) + 1))) g s (m + 1) e p) := (HMR.out.below (below_drewN wr nq)).move (m + 1) hml
        have HB2 : Hid (But g w ((wr.drewN nq).setCell ⟨g, 1, none⟩ (.int .i64 ((m : Int) + 1)))) := (HMB.out.trans (But.of_below (below_drewN wr nq))).set 1 _
        go_wp2
        go_roundg (s.size - (m + 1))
        case measure => omega
        case rel => exact ⟨m + 1, rfl, HR2.out, HB2.out, HN.out⟩
      · have hb' : remB s[m] = false := by simpa using hb
        clear hb
        have HN : Hid (k + 1 + remN (s.data.toList.drop (k + 1)) = m) := by
          show _ = _
          rw [HMK.out, remN_no s m hml hb']
          rfl
        go_wp2_with fail
        go_quiet (first | (go_at_call 55; refine Calls.quiet_of_same (HIN.out _)))
        clear HIN hb'
        have HR2 : Hid (Rd0 63 (wr.drewN nq) g s m e p) := HMR.out.below (below_drewN wr nq)
        have HB2 : Hid (But g w (wr.drewN nq)) := HMB.out.trans (But.of_below (below_drewN wr nq))
        clear HMR HMB HTW d0 d1 d2 d3 r1 r2 r3 HR1 HB1
        generalize wr.drewN nq = w2 at HR2 HB2 ⊢
        have HST := stands_any g s m e p 41 41 rfl w2 HR2.out
        go_wp2_with fail
        refine Calls.mono HST ?_
        rintro x w3 ⟨rfl, hb3⟩
        have HR3 : Hid (Rd0 63 w3 g s m e p) := HR2.out.below hb3
        have HB3 : Hid (But g w w3) := HB2.out.trans (But.of_below hb3)
        obtain ⟨d0, d1, d2, d3⟩ := HR3.out.cells
        obtain ⟨r1, r2, r3⟩ := HR3.out.frozen
        clear hb3 HST HR2 HB2
        by_cases h41 : standB s m 41 = true
        · have hml2 := standB_lt s m 41 h41
          have HG : Hid (pRem (s.data.toList.drop k) = .ok () (s.data.toList.drop (m + 1))) := by
            have h := HP.out m HN.out
            rw [if_pos h41] at h
            exact h
          have HE : Hid (∃ k' e' p', Rd0 63 (w3.setCell ⟨g, 1, none⟩ (.int .i64 ((m : Int) + 1))) g s k' e' p' ∧ Step s.size pRem (stOf s k e p) (stOf s k' e' p') () ∧ But g w (w3.setCell ⟨g, 1, none⟩ (.int .i64 ((m : Int) + 1)))) := ⟨m + 1, e, p, HR3.out.move (m + 1) hml2, Step.go (fun _ => HG.out), HB3.out.set 1 _⟩
          go_wp2
          go_end0
          exact ⟨rfl, HE.out⟩
        · have h41' : standB s m 41 = false := by simpa using h41
          have HG : Hid (pRem (s.data.toList.drop k) = .bad 60 (s.data.toList.drop k)) := by
            have h := HP.out m HN.out
            rw [if_neg h41] at h
            exact h
          clear h41
          go_wp2_with fail
          refine (fail_any g s _ e p 60 (k : Int) w3 HR3.out).mono ?_
          rintro x w4 ⟨rfl, hr4, hb4⟩
          have HE : Hid (∃ k' e' p', Rd0 63 w4 g s k' e' p' ∧ Step s.size pRem (stOf s k e p) (stOf s k' e' p') () ∧ But g w w4) := ⟨_, _, _, hr4, Step.fail () hk (by decide) (fun _ => HG.out), HB3.out.trans hb4⟩
          clear hr4 hb4
          go_wp2
          (try simp only [Exit.inBlock, Exit.then])
          refine bodyPost_ret (results_none rfl _ _ _) rfl ?_
          exact ⟨rfl, HE.out⟩
    · have HN : Hid (k + 1 + remN (s.data.toList.drop (k + 1)) = m) := by
        show _ = _
        rw [HMK.out, remN_end s m hml]
        rfl
      have hmi : decide (m < s.size) = false := decide_eq_false hml
      clear hml
      go_wp2_with fail
      go_quiet (fail)
      have HR2 : Hid (Rd0 63 (wr.drewN nq) g s m e p) := HMR.out.below (below_drewN wr nq)
      have HB2 : Hid (But g w (wr.drewN nq)) := HMB.out.trans (But.of_below (below_drewN wr nq))
      clear HMR HMB HTW d0 d1 d2 d3 r1 r2 r3 HR1 HB1
      generalize wr.drewN nq = w2 at HR2 HB2 ⊢
      have HST := stands_any g s m e p 41 41 rfl w2 HR2.out
      go_wp2_with fail
      refine Calls.mono HST ?_
      rintro x w3 ⟨rfl, hb3⟩
      have HR3 : Hid (Rd0 63 w3 g s m e p) := HR2.out.below hb3
      have HB3 : Hid (But g w w3) := HB2.out.trans (But.of_below hb3)
      obtain ⟨d0, d1, d2, d3⟩ := HR3.out.cells
      obtain ⟨r1, r2, r3⟩ := HR3.out.frozen
      clear hb3 HST HR2 HB2
      by_cases h41 : standB s m 41 = true
      · have hml2 := standB_lt s m 41 h41
        have HG : Hid (pRem (s.data.toList.drop k) = .ok () (s.data.toList.drop (m + 1))) := by
          have h := HP.out m HN.out
          rw [if_pos h41] at h
          exact h
        have HE : Hid (∃ k' e' p', Rd0 63 (w3.setCell ⟨g, 1, none⟩ (.int .i64 ((m : Int) + 1))) g s k' e' p' ∧ Step s.size pRem (stOf s k e p) (stOf s k' e' p') () ∧ But g w (w3.setCell ⟨g, 1, none⟩ (.int .i64 ((m : Int) + 1)))) := ⟨m + 1, e, p, HR3.out.move (m + 1) hml2, Step.go (fun _ => HG.out), HB3.out.set 1 _⟩
        go_wp2
        go_end0
        exact ⟨rfl, HE.out⟩
      · have h41' : standB s m 41 = false := by simpa using h41
        have HG : Hid (pRem (s.data.toList.drop k) = .bad 60 (s.data.toList.drop k)) := by
          have h := HP.out m HN.out
          rw [if_neg h41] at h
          exact h
        clear h41
        go_wp2_with fail
        refine (fail_any g s _ e p 60 (k : Int) w3 HR3.out).mono ?_
        rintro x w4 ⟨rfl, hr4, hb4⟩
        have HE : Hid (∃ k' e' p', Rd0 63 w4 g s k' e' p' ∧ Step s.size pRem (stOf s k e p) (stOf s k' e' p') () ∧ But g w w4) := ⟨_, _, _, hr4, Step.fail () hk (by decide) (fun _ => HG.out), HB3.out.trans hb4⟩
        clear hr4 hb4
        go_wp2
        (try simp only [Exit.inBlock, Exit.then])
        refine bodyPost_ret (results_none rfl _ _ _) rfl ?_
        exact ⟨rfl, HE.out⟩

theorem blN_drop : ∀ l : List UInt8, blN (l.drop (blN l)) = 0
  | [] => rfl
  | b :: r => by
    by_cases h : isBl b = true
    · rw [show blN (b :: r) = blN r + 1 from by rw [blN, if_pos h], List.drop_succ_cons]
      exact blN_drop r
    · rw [show blN (b :: r) = 0 from by rw [blN, if_neg h], List.drop_zero, blN, if_neg h]
theorem pRem_no (s : ByteArray) (k : Nat) (h : standB s k 40 = false) : pRem (s.data.toList.drop k) = .ok () (s.data.toList.drop k) := by
  unfold pRem
  rw [if_neg]
  intro h'
  rw [(standB_yes s k 40).2 h'] at h
  cases h
theorem pFin_yes (s : ByteArray) (k : Nat) (h : ¬ k < s.size) : pFin (s.data.toList.drop k) = .ok () (s.data.toList.drop k) := by
  have e : s.data.toList.drop k = [] := List.drop_eq_nil_of_le (by rw [Array.length_toList]; have e : s.data.size = s.size := rfl; omega)
  rw [e]
  rfl
theorem pFin_no (s : ByteArray) (k : Nat) (h : k < s.size) : pFin (s.data.toList.drop k) = .bad 60 (s.data.toList.drop k) := by
  have hk' : k < s.data.toList.length := by rw [Array.length_toList]; exact h
  unfold pFin
  rw [if_neg]
  rw [List.drop_eq_getElem_cons hk']
  simp
set_option maxHeartbeats 2000000 in
theorem end_any (g : Nat) (s : ByteArray) (k : Nat) (e p : Int) (w : World) (ht : Tbl w) (hr : Rd0 63 w g s k e p) (hs : s.size ≤ maxLen) :
    Calls Tryd.prog 33 #[.pointer (some ⟨g, 0, none⟩)] w fun x w' => x = .returned (.tuple #[]) ∧ ∃ k' e' p', Rd0 63 w' g s k' e' p' ∧ Step s.size pEnd (stOf s k e p) (stOf s k' e' p') () ∧ But g w w' := by
  have HFAR : Hid (2 < g) := hr.far
  have HT : Hid (Tbl w) := ht
  have HS : Hid (s.size ≤ maxLen) := hs
  have HF := free_any g s k e p w hr hs
  have HS1 : Hid (Step s.size pFree (stOf s k e p) (stOf s (k + blN (s.data.toList.drop k)) e p) ()) := Step.go (fun _ => pFree_go s k)
  clear hr ht
  unfold maxLen at hs
  have HBL : Hid (blN (s.data.toList.drop (k + blN (s.data.toList.drop k))) = 0) := by show _ = _; rw [← List.drop_drop]; exact blN_drop _
  generalize k + blN (s.data.toList.drop k) = k1 at HF HS1 HBL
  go_enter Tryd.func33, Tryd.ntmps33
  go_wp2_with fail
  refine Calls.mono HF ?_
  rintro x w1 ⟨rfl, hr1, hb1⟩
  have HR1 : Hid (Rd0 63 w1 g s k1 e p) := hr1
  have HB1 : Hid (But g w w1) := hb1
  have HST := stands_any g s k1 e p 40 40 rfl w1 hr1
  clear hr1 hb1 HF
  go_wp2_with fail
  refine Calls.mono HST ?_
  rintro x w2 ⟨rfl, hb2⟩
  have HR2 : Hid (Rd0 63 w2 g s k1 e p) := HR1.out.below hb2
  have HB2 : Hid (But g w w2) := HB1.out.trans (But.of_below hb2)
  clear hb2 HST HR1 HB1
  by_cases h40 : standB s k1 40 = true
  · have HRM := remark_any g s k1 e p w2 (HT.out.but HFAR.out HB2.out) HR2.out HS.out h40
    go_wp2_with fail
    refine Calls.mono HRM ?_
    rintro x w3 ⟨rfl, k3, e3, p3, hr3, hst3, hb3⟩
    have HF3 := free_any g s k3 e3 p3 w3 hr3 HS.out
    have HB3 : Hid (But g w w3) := HB2.out.trans hb3
    have HS3 : Hid (Step s.size pRem (stOf s k1 e p) (stOf s k3 e3 p3) ()) := hst3
    have HS4 : Hid (Step s.size pFree (stOf s k3 e3 p3) (stOf s (k3 + blN (s.data.toList.drop k3)) e3 p3) ()) := Step.go (fun _ => pFree_go s k3)
    generalize k3 + blN (s.data.toList.drop k3) = k4 at HF3 HS4
    clear hr3 hst3 hb3 HRM h40
    go_wp2_with fail
    refine Calls.mono HF3 ?_
    rintro x w4 ⟨rfl, hr4, hb4⟩
    obtain ⟨d0, d1, d2, d3⟩ := hr4.cells
    have HR4 : Hid (Rd0 63 w4 g s k4 e3 p3) := hr4
    have HB4 : Hid (But g w w4) := HB3.out.trans hb4
    have hk4 := hr4.le
    clear hr4 hb4 HF3
    by_cases hml : k4 < s.size
    · have hmi : (k4 : Int) < (s.size : Int) := by omega
      have HS5 : Hid (∀ w6, Rd0 63 w6 g s s.size (if e3 = 0 then 60 else e3) (if e3 = 0 then (k4 : Int) else p3) → But g w w6 → ∃ k' e' p', Rd0 63 w6 g s k' e' p' ∧ Step s.size pEnd (stOf s k e p) (stOf s k' e' p') () ∧ But g w w6) := fun w6 h6 hb6 =>
        ⟨_, _, _, h6, (HS1.out.both (HS3.out.both (HS4.out.both (Step.fail (f := pFin) () hk4 (by decide) (fun _ => pFin_no s k4 hml))))).map (fun _ : Unit × Unit × Unit × Unit => ()), hb6⟩
      go_wp2_with fail
      go_quiet (fail)
      have HR5 : Hid (Rd0 63 (w4.drewN nq) g s k4 e3 p3) := HR4.out.below (below_drewN w4 nq)
      have HB5 : Hid (But g w (w4.drewN nq)) := HB4.out.trans (But.of_below (below_drewN w4 nq))
      clear d0 d1 d2 d3
      generalize w4.drewN nq = w5 at HR5 HB5 ⊢
      obtain ⟨d0, d1, d2, d3⟩ := HR5.out.cells
      go_wp2_with fail
      refine (fail_any g s _ e3 p3 60 (k4 : Int) w5 HR5.out).mono ?_
      rintro x w6 ⟨rfl, hr6, hb6⟩
      have HE : Hid _ := HS5.out w6 hr6 (HB5.out.trans hb6)
      clear hr6 hb6 HS5
      go_wp2
      go_end0
      exact ⟨rfl, HE.out⟩
    · have hmi : decide (k4 < s.size) = false := decide_eq_false hml
      have HS5 : Hid (Step s.size pEnd (stOf s k e p) (stOf s k4 e3 p3) ()) := (HS1.out.both (HS3.out.both (HS4.out.both (Step.go (f := pFin) (fun _ => pFin_yes s k4 hml))))).map (fun _ : Unit × Unit × Unit × Unit => ())
      clear hml
      go_wp2_with fail
      go_quiet (fail)
      go_wp2
      go_end0
      exact ⟨rfl, k4, e3, p3, HR4.out.below (below_drewN w4 nq), HS5.out, HB4.out.trans (But.of_below (below_drewN w4 nq))⟩
  · have h40' : standB s k1 40 = false := by simpa using h40
    clear h40
    have HS3 : Hid (Step s.size pRem (stOf s k1 e p) (stOf s k1 e p) ()) := Step.go (fun _ => pRem_no s k1 h40')
    have HS4 : Hid (Step s.size pFree (stOf s k1 e p) (stOf s k1 e p) ()) := Step.go (fun _ => by rw [pFree_go, HBL.out]; rfl)
    obtain ⟨d0, d1, d2, d3⟩ := HR2.out.cells
    have hk2 := HR2.out.le
    by_cases hml : k1 < s.size
    · have hmi : (k1 : Int) < (s.size : Int) := by omega
      have HS5 : Hid (∀ w6, Rd0 63 w6 g s s.size (if e = 0 then 60 else e) (if e = 0 then (k1 : Int) else p) → But g w w6 → ∃ k' e' p', Rd0 63 w6 g s k' e' p' ∧ Step s.size pEnd (stOf s k e p) (stOf s k' e' p') () ∧ But g w w6) := fun w6 h6 hb6 =>
        ⟨_, _, _, h6, (HS1.out.both (HS3.out.both (HS4.out.both (Step.fail (f := pFin) () hk2 (by decide) (fun _ => pFin_no s k1 hml))))).map (fun _ : Unit × Unit × Unit × Unit => ()), hb6⟩
      go_wp2_with fail
      go_quiet (fail)
      have HR5 : Hid (Rd0 63 (w2.drewN nq) g s k1 e p) := HR2.out.below (below_drewN w2 nq)
      have HB5 : Hid (But g w (w2.drewN nq)) := HB2.out.trans (But.of_below (below_drewN w2 nq))
      clear d0 d1 d2 d3
      generalize w2.drewN nq = w5 at HR5 HB5 ⊢
      obtain ⟨d0, d1, d2, d3⟩ := HR5.out.cells
      go_wp2_with fail
      refine (fail_any g s _ e p 60 (k1 : Int) w5 HR5.out).mono ?_
      rintro x w6 ⟨rfl, hr6, hb6⟩
      have HE : Hid _ := HS5.out w6 hr6 (HB5.out.trans hb6)
      clear hr6 hb6 HS5
      go_wp2
      go_end0
      exact ⟨rfl, HE.out⟩
    · have hmi : decide (k1 < s.size) = false := decide_eq_false hml
      have HS5 : Hid (Step s.size pEnd (stOf s k e p) (stOf s k1 e p) ()) := (HS1.out.both (HS3.out.both (HS4.out.both (Step.go (f := pFin) (fun _ => pFin_yes s k1 hml))))).map (fun _ : Unit × Unit × Unit × Unit => ())
      clear hml
      go_wp2_with fail
      go_quiet (fail)
      go_wp2
      go_end0
      exact ⟨rfl, k1, e, p, HR2.out.below (below_drewN w2 nq), HS5.out, HB2.out.trans (But.of_below (below_drewN w2 nq))⟩
end Go.Proofs.YtedfnebadenmdabDoor
