/-
  The program's reader of dates: weekday, year, time.
-/
import Derived.Test.YtedfnebadenmdabDoorRdn
namespace Go.Proofs.YtedfnebadenmdabDoor
open Go.RowKit

/-- A part that begins further on. -/
theorem Step.skip {α : Type} {s : ByteArray} {f f' : List UInt8 → Rs α} {k k2 : Nat} {e p : Int} {b : St} {v : α} (h : e = 0 → f (s.data.toList.drop k) = f' (s.data.toList.drop k2)) (hs : Step s.size f' (stOf s k2 e p) b v) : Step s.size f (stOf s k e p) b v := by
  unfold stOf at hs ⊢
  by_cases c : e = 0
  · rw [if_pos c] at hs ⊢
    rcases hs with ⟨_, _, h1, _⟩ | ⟨l, x, r, h1, h2, h3, h4⟩ | ⟨l, e', r, h1, h2, h3⟩
    · cases h1
    · injection h1 with h1
      subst h1
      exact .inr (.inl ⟨_, x, r, rfl, by rw [h c]; exact h2, h3, h4⟩)
    · injection h1 with h1
      subst h1
      exact .inr (.inr ⟨_, e', r, rfl, by rw [h c]; exact h2, h3⟩)
  · rw [if_neg c] at hs ⊢
    rcases hs with ⟨e', p', h1, h2⟩ | ⟨l, x, r, h1, _⟩ | ⟨l, e', r, h1, _⟩
    · injection h1 with h1 h3
      subst h1 h3
      exact .inl ⟨_, _, rfl, h2⟩
    · cases h1
    · cases h1
theorem drop_inj (s : ByteArray) {i j : Nat} (hi : i ≤ s.size) (hj : j ≤ s.size) (h : s.data.toList.drop i = s.data.toList.drop j) : i = j := by
  have := congrArg List.length h
  rw [List.length_drop, List.length_drop, Array.length_toList] at this
  have e : s.data.size = s.size := rfl
  omega
/-- What a year's digits say. -/
def yearI (dg n : Int) : Int := if dg = 2 ∧ n < 50 then n + 2000 else if dg < 4 then n + 1900 else n
theorem year_step {s : ByteArray} {k k' : Nat} {e p e' p' v : Int} (hk : k ≤ s.size) (hk' : k' ≤ s.size) (h : Step s.size (pNum 2 4) (stOf s k e p) (stOf s k' e' p') v) : Step s.size pYear (stOf s k e p) (stOf s k' e' p') (yearI ((k' : Int) - (k : Int)) v) := by
  rcases h with h | ⟨l, x, r, h1, h2, h3, h4⟩ | ⟨l, x, r, h1, h2, h3⟩
  · exact .inl h
  · refine .inr (.inl ⟨l, _, r, h1, by unfold pYear mapR; rw [h2], h3, ?_⟩)
    subst h4
    unfold stOf at h1 h3
    split at h1
    · split at h3
      · injection h1 with h1
        injection h3 with h3
        unfold pNum at h2
        split at h2
        · cases h2
        · injection h2 with h2 h4
          have hd : s.data.toList.drop k' = s.data.toList.drop (k + badN 2 l) := by rw [h3, ← h4, ← h1, List.drop_drop]
          have hb := bad_in 2 s k hk
          rw [h1] at hb
          have := drop_inj s hk' hb hd
          have e1 : (k' : Int) - (k : Int) = (badN 2 l : Int) := by omega
          unfold yearI yearV
          rw [e1]
          have e2 : ((badN 2 l : Int) = 2) ↔ badN 2 l = 2 := by omega
          have e3 : ((badN 2 l : Int) < 4) ↔ badN 2 l < 4 := by omega
          simp only [e2, e3]
      · cases h3
    · cases h1
  · exact .inr (.inr ⟨l, x, r, h1, by unfold pYear mapR; rw [h2], h3⟩)
set_option maxHeartbeats 1000000 in
theorem year_any (g : Nat) (s : ByteArray) (k : Nat) (e p : Int) (w : World) (ht : Tbl w) (hr : Rd0 63 w g s k e p) (hs : s.size ≤ maxLen) :
    Calls Tryd.prog 30 #[.pointer (some ⟨g, 0, none⟩)] w fun x w' => ∃ v k' e' p', x = .returned (.int .i16 v) ∧ 0 ≤ v ∧ v ≤ 12000 ∧ Rd0 63 w' g s k' e' p' ∧ Step s.size pYear (stOf s k e p) (stOf s k' e' p') v ∧ But g w w' := by
  have HN : Hid _ := number_rd g s k e p 2 4 (by omega) (by omega) w ht hr hs
  obtain ⟨c0, c1, c2, c3⟩ := hr.cells
  have hk := hr.le
  clear hr ht
  unfold maxLen at hs
  go_enter Tryd.func30, Tryd.ntmps30
  go_wp2_with fail
  refine Calls.mono HN.out ?_
  rintro x w1 ⟨v, k', e', p', rfl, v0, v1, _, hr1, hst, hb1⟩
  have hk' := hr1.le
  have HE : Hid (Rd0 63 w1 g s k' e' p' ∧ Step s.size pYear (stOf s k e p) (stOf s k' e' p') (yearI ((k' : Int) - (k : Int)) v) ∧ But g w w1) := ⟨hr1, year_step hk hk' hst, hb1⟩
  obtain ⟨d0, d1, d2, d3⟩ := hr1.cells
  clear hr1 hst hb1 HN
  by_cases h2 : (k' : Int) - (k : Int) = 2
  · by_cases h5 : v < 50
    · have HV : Hid (yearI ((k' : Int) - (k : Int)) v = v + 2000) := if_pos ⟨h2, h5⟩
      go_wp2
      go_ret
      exact ⟨v + 2000, k', e', p', rfl, by omega, by omega, by rw [← HV.out]; exact HE.out⟩
    · have HV : Hid (yearI ((k' : Int) - (k : Int)) v = v + 1900) := by show _ = _; unfold yearI; rw [if_neg (fun h => h5 h.2), if_pos (by omega)]
      go_wp2
      go_ret
      exact ⟨v + 1900, k', e', p', rfl, by omega, by omega, by rw [← HV.out]; exact HE.out⟩
  · have h2' : (((k' : Int) - (k : Int)) == 2) = false := by simpa using h2
    by_cases h4 : (k' : Int) - (k : Int) < 4
    · have HV : Hid (yearI ((k' : Int) - (k : Int)) v = v + 1900) := by show _ = _; unfold yearI; rw [if_neg (fun h => h2 h.1), if_pos h4]
      clear h2
      go_wp2
      go_ret
      exact ⟨v + 1900, k', e', p', rfl, by omega, by omega, by rw [← HV.out]; exact HE.out⟩
    · have HV : Hid (yearI ((k' : Int) - (k : Int)) v = v) := by show _ = _; unfold yearI; rw [if_neg (fun h => h2 h.1), if_neg h4]
      clear h2
      go_wp2
      go_ret
      exact ⟨v, k', e', p', rfl, by omega, by omega, by rw [HV.out] at HE; exact HE.out⟩
theorem pSec_yes (s : ByteArray) (k : Nat) (h : standB s k 58 = true) : pSec (s.data.toList.drop k) = pNum 2 2 (s.data.toList.drop (k + 1)) := by
  unfold pSec
  rw [if_pos ((standB_yes s k 58).1 h), List.drop_drop]
theorem pSec_no (s : ByteArray) (k : Nat) (h : standB s k 58 = false) : pSec (s.data.toList.drop k) = .ok 0 (s.data.toList.drop k) := by
  unfold pSec
  rw [if_neg]
  intro h'
  rw [(standB_yes s k 58).2 h'] at h
  cases h
set_option maxHeartbeats 2000000 in
theorem time_rd (g : Nat) (s : ByteArray) (k : Nat) (e p : Int) (w : World) (ht : Tbl w) (hr : Rd0 63 w g s k e p) (hs : s.size ≤ maxLen) :
    Calls Tryd.prog 31 #[.pointer (some ⟨g, 0, none⟩)] w fun x w' => ∃ a b c k' e' p', x = .returned (.tuple #[.int .i8 a, .int .i8 b, .int .i8 c]) ∧ 0 ≤ a ∧ a ≤ 99 ∧ 0 ≤ b ∧ b ≤ 99 ∧ 0 ≤ c ∧ c ≤ 99 ∧ Rd0 63 w' g s k' e' p' ∧ Step s.size pTime (stOf s k e p) (stOf s k' e' p') (a, b, c) ∧ But g w w' := by
  have HFAR : Hid (2 < g) := hr.far
  have HT : Hid (Tbl w) := ht
  have HS : Hid (s.size ≤ maxLen) := hs
  have HN := number_rd g s k e p 2 2 (by omega) (by omega) w ht hr hs
  clear hr ht
  unfold maxLen at hs
  go_enter Tryd.func31, Tryd.ntmps31
  go_wp2_with fail
  refine Calls.mono HN ?_
  rintro x w1 ⟨a, k1, e1, p1, rfl, a0, _, a1, hr1, hst1, hb1⟩
  have a1 := a1 (by omega)
  have HM := mark_any g s k1 e1 p1 58 58 rfl w1 hr1 HS.out
  have HB1 : Hid (But g w w1) := hb1
  have HS1 : Hid (Step s.size (pNum 2 2) (stOf s k e p) (stOf s k1 e1 p1) a) := hst1
  clear hr1 hst1 hb1 HN
  go_wp2_with fail
  refine Calls.mono HM ?_
  rintro x w2 ⟨rfl, k2, e2, p2, hr2, hst2, hb2⟩
  have HB2 : Hid (But g w w2) := HB1.out.trans hb2
  have HS2 : Hid (Step s.size (pMark 58) (stOf s k1 e1 p1) (stOf s k2 e2 p2) ()) := hst2
  have HN2 := number_rd g s k2 e2 p2 2 2 (by omega) (by omega) w2 (HT.out.but HFAR.out HB2.out) hr2 HS.out
  clear hr2 hst2 hb2 HM
  go_wp2_with fail
  refine Calls.mono HN2 ?_
  rintro x w3 ⟨b, k3, e3, p3, rfl, b0, _, b1, hr3, hst3, hb3⟩
  have b1 := b1 (by omega)
  have HB3 : Hid (But g w w3) := HB2.out.trans hb3
  have HS3 : Hid (Step s.size (pNum 2 2) (stOf s k2 e2 p2) (stOf s k3 e3 p3) b) := hst3
  have HR3 : Hid (Rd0 63 w3 g s k3 e3 p3) := hr3
  have HST := stands_any g s k3 e3 p3 58 58 rfl w3 hr3
  clear hr3 hst3 hb3 HN2
  go_wp2_with fail
  refine Calls.mono HST ?_
  rintro x w4 ⟨rfl, hb4⟩
  have HR4 : Hid (Rd0 63 w4 g s k3 e3 p3) := HR3.out.below hb4
  have HB4 : Hid (But g w w4) := HB3.out.trans (But.of_below hb4)
  clear hb4 HST
  by_cases h : standB s k3 58 = true
  · have hlt := standB_lt s k3 58 h
    obtain ⟨c0, c1, c2, c3⟩ := HR4.out.cells
    obtain ⟨f1, f2, f3⟩ := HR4.out.frozen
    have HR5 : Hid (Rd0 63 (w4.setCell ⟨g, 1, none⟩ (.int .i64 ((k3 : Int) + 1))) g s (k3 + 1) e3 p3) := HR4.out.move (k3 + 1) hlt
    have HB5 : Hid (But g w (w4.setCell ⟨g, 1, none⟩ (.int .i64 ((k3 : Int) + 1)))) := HB4.out.set 1 _
    have HN5 := number_rd g s (k3 + 1) e3 p3 2 2 (by omega) (by omega) _ (HT.out.but HFAR.out HB5.out) HR5.out HS.out
    go_wp2_with fail
    refine Calls.mono HN5 ?_
    rintro x w6 ⟨c, k6, e6, p6, rfl, q0, _, q1, hr6, hst6, hb6⟩
    have q1 := q1 (by omega)
    have HE : Hid (Rd0 63 w6 g s k6 e6 p6 ∧ Step s.size pTime (stOf s k e p) (stOf s k6 e6 p6) (a, b, c) ∧ But g w w6) :=
      ⟨hr6, (HS1.out.both (HS2.out.both (HS3.out.both (Step.skip (f := pSec) (fun _ => pSec_yes s k3 h) hst6)))).map (fun x : Int × Unit × Int × Int => (x.1, x.2.2.1, x.2.2.2)), HB5.out.trans hb6⟩
    clear hr6 hst6 hb6 HN5
    go_wp2
    go_ret3
    exact ⟨a, b, c, k6, e6, p6, rfl, a0, a1, b0, b1, q0, q1, HE.out⟩
  · have h' : standB s k3 58 = false := by simpa using h
    have HE : Hid (Rd0 63 w4 g s k3 e3 p3 ∧ Step s.size pTime (stOf s k e p) (stOf s k3 e3 p3) (a, b, 0) ∧ But g w w4) :=
      ⟨HR4.out, (HS1.out.both (HS2.out.both (HS3.out.both (Step.go (f := pSec) (fun _ => pSec_no s k3 h'))))).map (fun x : Int × Unit × Int × Int => (x.1, x.2.2.1, x.2.2.2)), HB4.out⟩
    clear h
    go_wp2
    go_ret3
    exact ⟨a, b, 0, k3, e3, p3, rfl, a0, a1, b0, b1, by omega, by omega, HE.out⟩
theorem pWd_free (s : ByteArray) (k : Nat) (h : badN 1 (s.data.toList.drop (k + blN (s.data.toList.drop k))) = 0) : pWd (s.data.toList.drop k) = .ok (-1) (s.data.toList.drop (k + blN (s.data.toList.drop k))) := by
  unfold pWd
  rw [List.drop_drop, if_pos h]
theorem pWd_named (s : ByteArray) (k : Nat) (h : badN 1 (s.data.toList.drop (k + blN (s.data.toList.drop k))) ≠ 0) : pWd (s.data.toList.drop k) = pNamed (s.data.toList.drop (k + blN (s.data.toList.drop k))) := by
  unfold pWd
  rw [List.drop_drop, if_neg h]
theorem pFree_go (s : ByteArray) (k : Nat) : pFree (s.data.toList.drop k) = .ok () (s.data.toList.drop (k + blN (s.data.toList.drop k))) := by
  unfold pFree
  rw [List.drop_drop]
set_option maxHeartbeats 2000000 in
theorem weekd_any (g : Nat) (s : ByteArray) (k : Nat) (e p : Int) (w : World) (ht : Tbl w) (hr : Rd0 63 w g s k e p) (hs : s.size ≤ maxLen) :
    Calls Tryd.prog 26 #[.pointer (some ⟨g, 0, none⟩)] w fun x w' => ∃ v k' e' p', x = .returned (.int .i8 v) ∧ -1 ≤ v ∧ v ≤ 11 ∧ Rd0 63 w' g s k' e' p' ∧ Step s.size pWd (stOf s k e p) (stOf s k' e' p') v ∧ But g w w' := by
  have HFAR : Hid (2 < g) := hr.far
  have HT : Hid (Tbl w) := ht
  have HS : Hid (s.size ≤ maxLen) := hs
  have HF := free_any g s k e p w hr hs
  have HY : Hid (badN 1 (s.data.toList.drop (k + blN (s.data.toList.drop k))) = 0 → pWd (s.data.toList.drop k) = .ok (-1) (s.data.toList.drop (k + blN (s.data.toList.drop k)))) := pWd_free s k
  have HZ : Hid (badN 1 (s.data.toList.drop (k + blN (s.data.toList.drop k))) ≠ 0 → pWd (s.data.toList.drop k) = pNamed (s.data.toList.drop (k + blN (s.data.toList.drop k)))) := pWd_named s k
  clear hr ht
  unfold maxLen at hs
  generalize k + blN (s.data.toList.drop k) = k1 at HF HY HZ
  go_enter Tryd.func26, Tryd.ntmps26
  go_wp2_with fail
  refine Calls.mono HF ?_
  rintro x w1 ⟨rfl, hr1, hb1⟩
  have hk1 := hr1.le
  obtain ⟨c0, c1, c2, c3⟩ := hr1.cells
  have HR1 : Hid (Rd0 63 w1 g s k1 e p) := hr1
  have HB1 : Hid (But g w w1) := hb1
  have HT1 : Hid (Tbl w1) := HT.out.but HFAR.out hb1
  have HSP : Hid (∀ n, Calls Tryd.prog 40 #[.int .i64 1, .string s, .int .i64 (k1 : Int)] (w1.drewN n) fun x w' => x = .returned (.int .i64 ((k1 : Int) + ((badN 1 (s.data.toList.drop k1) : Nat) : Int))) ∧ w' = w1.drewN n) := fun n => span_inT 1 k1 s _ (HT1.out.below (below_drewN _ _)).cl HS.out hk1
  clear hr1 hb1 HF
  by_cases h0 : badN 1 (s.data.toList.drop k1) = 0
  · have HE := HY.out h0
    rw [h0] at HSP
    have HG : Hid (pWd (s.data.toList.drop k) = .ok (-1) (s.data.toList.drop k1)) := HE
    clear HE HY HZ h0
    go_wp2_with fail
    go_quiet (first | (go_at_call 40; refine Calls.quiet_of_same (HSP.out _)))
    go_wp2
    go_ret
    exact ⟨-1, k1, e, p, rfl, by omega, by omega, HR1.out.below (below_drewN _ _), Step.go (fun _ => HG.out), HB1.out.trans (But.of_below (below_drewN _ _))⟩
  · have HG : Hid (pWd (s.data.toList.drop k) = pNamed (s.data.toList.drop k1)) := HZ.out h0
    clear HY HZ
    generalize badN 1 (s.data.toList.drop k1) = m at HSP h0
    have hne : (((k1 : Int) + (m : Int)) == (k1 : Int)) = false := by
      simp only [beq_eq_false_iff_ne]
      omega
    go_wp2_with fail
    go_quiet (first | (go_at_call 40; refine Calls.quiet_of_same (HSP.out _)))
    clear HSP hne
    have HR2 : Hid (Rd0 63 (w1.drewN nq) g s k1 e p) := HR1.out.below (below_drewN _ _)
    have HB2 : Hid (But g w (w1.drewN nq)) := HB1.out.trans (But.of_below (below_drewN _ _))
    clear HR1 HB1 c0 c1 c2 c3 HT1
    generalize w1.drewN nq = w2 at HR2 HB2 ⊢
    have HN := named_any g s k1 e p wdS wdL nms_wd w2 (HT.out.but HFAR.out HB2.out) HR2.out HS.out
    unfold wdS at HN
    go_wp2_with fail
    refine Calls.mono HN ?_
    rintro x w3 ⟨v, k3, e3, p3, rfl, v0, v1, hr3, hst3, hb3⟩
    have HM := mark_any g s k3 e3 p3 44 44 rfl w3 hr3 HS.out
    have HB3 : Hid (But g w w3) := HB2.out.trans hb3
    have HS3 : Hid (Step s.size (pName wdL) (stOf s k1 e p) (stOf s k3 e3 p3) v) := hst3
    clear hr3 hst3 hb3 HN
    go_wp2_with fail
    refine Calls.mono HM ?_
    rintro x w4 ⟨rfl, k4, e4, p4, hr4, hst4, hb4⟩
    have HF4 := free_any g s k4 e4 p4 w4 hr4 HS.out
    have HB4 : Hid (But g w w4) := HB3.out.trans hb4
    have HS4 : Hid (Step s.size (pMark 44) (stOf s k3 e3 p3) (stOf s k4 e4 p4) ()) := hst4
    clear hr4 hst4 hb4 HM
    go_wp2_with fail
    refine Calls.mono HF4 ?_
    rintro x w5 ⟨rfl, hr5, hb5⟩
    have HE : Hid (Rd0 63 w5 g s (k4 + blN (s.data.toList.drop k4)) e4 p4 ∧ Step s.size pWd (stOf s k e p) (stOf s (k4 + blN (s.data.toList.drop k4)) e4 p4) v ∧ But g w w5) :=
      ⟨hr5, Step.skip (f' := pNamed) (fun _ => HG.out) ((HS3.out.both (HS4.out.both (Step.go (f := pFree) (fun _ => pFree_go s k4)))).map (fun x : Int × Unit × Unit => x.1)), HB4.out.trans hb5⟩
    clear hr5 hb5 HF4
    generalize k4 + blN (s.data.toList.drop k4) = k5 at HE
    go_wp2
    go_ret
    exact ⟨v, k5, e4, p4, rfl, by omega, by omega, HE.out⟩
end Go.Proofs.YtedfnebadenmdabDoor
