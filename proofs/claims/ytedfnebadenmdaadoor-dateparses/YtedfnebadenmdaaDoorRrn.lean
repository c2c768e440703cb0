/-
  The document's reader of dates: gap, mark, number, capitals, name.
-/
import Derived.Test.YtedfnebadenmdaaDoorRrd
namespace Go.Proofs.YtedfnebadenmdaaDoor
open Go.RowKit

set_option maxHeartbeats 1000000 in
theorem rfree_any (g : Nat) (s : ByteArray) (k : Nat) (e p : Int) (w : World) (hr : Rd0 64 w g s k e p) (hs : s.size ≤ maxLen) :
    Calls Tryd.prog 40 #[.pointer (some ⟨g, 0, none⟩), .bool true] w fun x w' => x = .returned (.tuple #[]) ∧ Rd0 64 w' g s (k + blN (s.data.toList.drop k)) e p ∧ But g w w' := by
  obtain ⟨c0, c1, c2, c3⟩ := hr.cells
  have hk := hr.le
  have hin := row_in blS s k hk
  have hrow := rrow_rd g s k e p blS (by decide) w hr hs
  rw [rowN_bl] at hrow hin
  unfold blS at hrow
  clear hr
  unfold maxLen at hs
  generalize blN (s.data.toList.drop k) = m at hrow hin ⊢
  by_cases h0 : m = 0
  · subst h0
    rw [empty_ext] at hrow
    go_enter Tryd.func40, Tryd.ntmps40
    go_wp2_with fail
    refine hrow.mono ?_
    rintro x w1 ⟨rfl, hr1, hb1⟩
    have HE : Hid (Rd0 64 w1 g s (k + 0) e p ∧ But g w w1) := ⟨hr1, hb1⟩
    clear hr1 hb1 hrow
    go_wp2
    go_end0
    exact ⟨rfl, HE.out⟩
  · have hne := ext_ne s k m hin h0
    generalize s.extract k (k + m) = q at hrow hne
    go_enter Tryd.func40, Tryd.ntmps40
    go_wp2_with fail
    refine hrow.mono ?_
    rintro x w1 ⟨rfl, hr1, hb1⟩
    have HE : Hid (Rd0 64 w1 g s (k + m) e p ∧ But g w w1) := ⟨hr1, hb1⟩
    clear hr1 hb1 hrow
    go_wp2
    go_end0
    exact ⟨rfl, HE.out⟩
set_option maxHeartbeats 1000000 in
theorem rgap_any (g : Nat) (s : ByteArray) (k : Nat) (e p : Int) (w : World) (hr : Rd0 64 w g s k e p) (hs : s.size ≤ maxLen) :
    Calls Tryd.prog 40 #[.pointer (some ⟨g, 0, none⟩), .bool false] w fun x w' => x = .returned (.tuple #[]) ∧ ∃ k' e' p', Rd0 64 w' g s k' e' p' ∧ Step s.size pGap (stOf s k e p) (stOf s k' e' p') () ∧ But g w w' := by
  obtain ⟨c0, c1, c2, c3⟩ := hr.cells
  have hk := hr.le
  have hin := row_in blS s k hk
  have hrow := rrow_rd g s k e p blS (by decide) w hr hs
  rw [rowN_bl] at hrow hin
  unfold blS at hrow
  clear hr
  unfold maxLen at hs
  have HP : Hid (∀ m, m = blN (s.data.toList.drop k) → (m = 0 → pGap (s.data.toList.drop k) = .bad 60 (s.data.toList.drop k)) ∧ (m ≠ 0 → pGap (s.data.toList.drop k) = .ok () (s.data.toList.drop (k + m)))) := by
    intro m hm
    subst hm
    refine ⟨fun h => ?_, fun h => ?_⟩
    · unfold pGap; rw [if_pos h]
    · unfold pGap; rw [if_neg h, List.drop_drop]
  have HP := HP.out _ rfl
  generalize blN (s.data.toList.drop k) = m at hrow hin HP
  by_cases h0 : m = 0
  · have HG : Hid (pGap (s.data.toList.drop k) = .bad 60 (s.data.toList.drop k)) := HP.1 h0
    clear HP
    subst h0
    rw [empty_ext] at hrow
    go_enter Tryd.func40, Tryd.ntmps40
    go_wp2_with fail
    refine hrow.mono ?_
    rintro x w1 ⟨rfl, hr1, hb1⟩
    have HR1 : Hid (Rd0 64 w1 g s (k + 0) e p) := hr1
    have HB1 : Hid (But g w w1) := hb1
    clear hr1 hb1 hrow
    go_wp2_with fail
    refine (rfail_any g s _ e p 60 (k : Int) w1 HR1.out).mono ?_
    rintro x w2 ⟨rfl, hr2, hb2⟩
    have HE : Hid (∃ k' e' p', Rd0 64 w2 g s k' e' p' ∧ Step s.size pGap (stOf s k e p) (stOf s k' e' p') () ∧ But g w w2) := ⟨_, _, _, hr2, Step.fail () hk (by decide) (fun _ => HG.out), HB1.out.trans hb2⟩
    clear hr2 hb2
    go_wp2
    go_end0
    exact ⟨rfl, HE.out⟩
  · have HG : Hid (pGap (s.data.toList.drop k) = .ok () (s.data.toList.drop (k + m))) := HP.2 h0
    clear HP
    have hne := ext_ne s k m hin h0
    generalize s.extract k (k + m) = q at hrow hne
    go_enter Tryd.func40, Tryd.ntmps40
    go_wp2_with fail
    refine hrow.mono ?_
    rintro x w1 ⟨rfl, hr1, hb1⟩
    have HE : Hid (∃ k' e' p', Rd0 64 w1 g s k' e' p' ∧ Step s.size pGap (stOf s k e p) (stOf s k' e' p') () ∧ But g w w1) := ⟨_, _, _, hr1, Step.go (fun _ => HG.out), hb1⟩
    clear hr1 hb1 hrow
    go_wp2
    go_end0
    exact ⟨rfl, HE.out⟩
set_option maxHeartbeats 1000000 in
theorem rmark_any (g : Nat) (s : ByteArray) (k : Nat) (e p : Int) (b : UInt8) (w : World) (hr : Rd0 64 w g s k e p) (hs : s.size ≤ maxLen) :
    Calls Tryd.prog 43 #[.pointer (some ⟨g, 0, none⟩), .string ⟨#[b]⟩] w fun x w' => x = .returned (.tuple #[]) ∧ ∃ k' e' p', Rd0 64 w' g s k' e' p' ∧ Step s.size (pMark b) (stOf s k e p) (stOf s k' e' p') () ∧ But g w w' := by
  have HR : Hid (Rd0 64 w g s k e p) := hr
  have hk := hr.le
  have HST := ris_any g s k e p ⟨#[b]⟩ (show (1 : Nat) ≤ 100 by omega) w hr hs
  rw [oneOf_one] at HST
  unfold maxLen at hs
  clear hr
  go_enter Tryd.func43, Tryd.ntmps43
  go_wp2_with fail
  refine HST.mono ?_
  rintro x w1 ⟨rfl, hb1⟩
  have HR1 : Hid (Rd0 64 w1 g s k e p) := HR.out.below hb1
  have HB1 : Hid (But g w w1) := But.of_below hb1
  obtain ⟨d0, d1, d2, d3⟩ := HR1.out.cells
  obtain ⟨f1, f2, f3⟩ := HR1.out.frozen
  clear hb1 HST
  by_cases h1 : standB s k b = true
  · have hlt := standB_lt s k b h1
    have HR2 : Hid (Rd0 64 (w1.setCell ⟨g, 1, none⟩ (.int .i64 ((k : Int) + 1))) g s (k + 1) e p) := HR1.out.move (k + 1) hlt
    have HE : Hid (∃ k' e' p', Rd0 64 (w1.setCell ⟨g, 1, none⟩ (.int .i64 ((k : Int) + 1))) g s k' e' p' ∧ Step s.size (pMark b) (stOf s k e p) (stOf s k' e' p') () ∧ But g w (w1.setCell ⟨g, 1, none⟩ (.int .i64 ((k : Int) + 1)))) := ⟨_, _, _, HR2.out, Step.go (fun _ => pMark_yes s k b h1), HB1.out.set 1 _⟩
    go_wp2
    go_end0
    exact ⟨rfl, HE.out⟩
  · have h1' : standB s k b = false := by simpa using h1
    clear h1
    go_wp2_with fail
    refine (rfail_any g s _ e p 60 (k : Int) w1 HR1.out).mono ?_
    rintro x w2 ⟨rfl, hr2, hb2⟩
    have HE : Hid (∃ k' e' p', Rd0 64 w2 g s k' e' p' ∧ Step s.size (pMark b) (stOf s k e p) (stOf s k' e' p') () ∧ But g w w2) := ⟨_, _, _, hr2, Step.fail () hk (by decide) (fun _ => pMark_no s k b h1'), HB1.out.trans hb2⟩
    clear hr2 hb2
    go_wp2
    refine bodyPost_ret (v := .tuple #[]) (by simp [results, Tryd.results43, go_sem]) rfl ⟨rfl, HE.out⟩
/-- A year's digits of any number. -/
def pYr (a z : Nat) (l : List UInt8) : Rs Int := mapR (yearV (badN 2 l)) (pNum a z) l
theorem yearI_of (n : Nat) (v : Int) : yearI (n : Int) v = yearV n v := by
  unfold yearI yearV
  have e2 : ((n : Int) = 2) ↔ n = 2 := by omega
  have e3 : ((n : Int) < 4) ↔ n < 4 := by omega
  simp only [e2, e3]
set_option maxHeartbeats 2000000 in
theorem rnumb_rd (g : Nat) (s : ByteArray) (k : Nat) (e p : Int) (a z : Nat) (ha : 1 ≤ a) (hz : z ≤ 4) (w : World) (hr : Rd0 64 w g s k e p) (hs : s.size ≤ maxLen) :
    Calls Tryd.prog 44 #[.pointer (some ⟨g, 0, none⟩), .int .i64 (a : Int), .int .i64 (z : Int)] w fun x w' => ∃ v n k' e' p', x = .returned (.tuple #[.int .i64 v, .int .i64 n]) ∧ 0 ≤ v ∧ v ≤ 9999 ∧ (z ≤ 2 → v ≤ 99) ∧ 0 ≤ n ∧ n ≤ 4 ∧ Rd0 64 w' g s k' e' p' ∧ Step s.size (pNum a z) (stOf s k e p) (stOf s k' e' p') v ∧ Step s.size (pYr a z) (stOf s k e p) (stOf s k' e' p') (yearI n v) ∧ But g w w' := by
  obtain ⟨c0, c1, c2, c3⟩ := hr.cells
  have hk := hr.le
  have hm := bad_in 2 s k hk
  have hrow := rrow_rd g s k e p figS (by decide) w hr hs
  rw [rowN_fig] at hrow
  unfold figS at hrow
  have HX : Hid ((s.extract k (k + badN 2 (s.data.toList.drop k))).data.toList = (s.data.toList.drop k).take (badN 2 (s.data.toList.drop k))) := ext_list s k _
  have hxs := ext_size s k _ hm
  clear hr
  unfold maxLen at hs
  obtain ⟨m, em⟩ : ∃ m, m = badN 2 (s.data.toList.drop k) := ⟨_, rfl⟩
  obtain ⟨q, eq⟩ : ∃ q, q = s.extract k (k + badN 2 (s.data.toList.drop k)) := ⟨_, rfl⟩
  rw [← em] at hm HX hxs eq
  rw [← em, ← eq] at hrow
  rw [← eq] at HX hxs
  have EM : Hid (m = badN 2 (s.data.toList.drop k)) := em
  clear em eq
  go_enter Tryd.func44, Tryd.ntmps44
  go_wp2_with fail
  refine hrow.mono ?_
  rintro x w1 ⟨rfl, hr1, hb1⟩
  have HR1 : Hid (Rd0 64 w1 g s (k + m) e p) := hr1
  have HB1 : Hid (But g w w1) := hb1
  clear hr1 hb1 hrow c0 c1 c2 c3
  by_cases h : m < a ∨ z < m
  · have HG : Hid (pNum a z (s.data.toList.drop k) = .bad 60 (s.data.toList.drop k)) := by show _ = _; unfold pNum; rw [← EM.out, if_pos h]
    have HG2 : Hid (pYr a z (s.data.toList.drop k) = .bad 60 (s.data.toList.drop k)) := by show _ = _; unfold pYr mapR; rw [HG.out]
    have key : ∀ w2, (Rd0 64 w2 g s (k + m) (if e = 0 then 60 else e) (if e = 0 then (k : Int) else p)) → But g w1 w2 → Hid (∃ v n k' e' p', Ending.returned (.tuple #[.int .i64 0, .int .i64 0]) = .returned (.tuple #[.int .i64 v, .int .i64 n]) ∧ 0 ≤ v ∧ v ≤ 9999 ∧ (z ≤ 2 → v ≤ 99) ∧ 0 ≤ n ∧ n ≤ 4 ∧ Rd0 64 w2 g s k' e' p' ∧ Step s.size (pNum a z) (stOf s k e p) (stOf s k' e' p') v ∧ Step s.size (pYr a z) (stOf s k e p) (stOf s k' e' p') (yearI n v) ∧ But g w w2) := fun w2 h1 h2 =>
      ⟨0, 0, _, _, _, rfl, by omega, by omega, fun _ => by omega, by omega, by omega, h1, Step.fail 0 hk (by decide) (fun _ => HG.out), Step.fail _ hk (by decide) (fun _ => HG2.out), HB1.out.trans h2⟩
    by_cases h1 : m < a
    · have h1i : (m : Int) < (a : Int) := by omega
      go_wp2_with fail
      refine (rfail_any g s _ e p 60 (k : Int) w1 HR1.out).mono ?_
      rintro x w2 ⟨rfl, hr2, hb2⟩
      have HE := key w2 hr2 hb2
      clear hr2 hb2 key h
      go_wp2
      go_ret2
      exact HE.out
    · have h2 : z < m := by omega
      have h1i : (a : Int) ≤ (m : Int) := by omega
      have h2i : (z : Int) < (m : Int) := by omega
      clear h
      go_wp2_with fail
      refine (rfail_any g s _ e p 60 (k : Int) w1 HR1.out).mono ?_
      rintro x w2 ⟨rfl, hr2, hb2⟩
      have HE := key w2 hr2 hb2
      clear hr2 hb2 key
      go_wp2
      go_ret2
      exact HE.out
  · have h1i : (a : Int) ≤ (m : Int) := by omega
    have h2i : (m : Int) ≤ (z : Int) := by omega
    have hall := badN_take 2 (s.data.toList.drop k)
    rw [← EM.out, ← HX.out] at hall
    have hlen : q.data.toList.length = m := by rw [Array.length_toList]; exact hxs
    have hm4 : m ≤ 4 := by omega
    have hv2 : z ≤ 2 → numV q.data.toList ≤ 99 := fun hz2 => numV_le2 _ hall (by omega)
    have HVT : Hid (∀ j, numV (q.data.toList.take j) ≤ 9999) := fun j => numV_le _ (fun b hb => hall b (List.mem_of_mem_take hb)) (by rw [List.length_take]; omega)
    have HST : Hid (∀ j, (hj : j < q.size) → numV (q.data.toList.take (j + 1)) = numV (q.data.toList.take j) * 10 + (q[j].toNat - 48) ∧ 48 ≤ q[j].toNat ∧ q[j].toNat ≤ 57) := by
      intro j hj
      have hj' : j < q.data.toList.length := by omega
      refine ⟨numV_snoc _ j hj', ?_⟩
      have := digit_iff q[j] (hall q[j] (Array.mem_toList_iff.2 (Array.getElem_mem hj)))
      omega
    have HG : Hid (pNum a z (s.data.toList.drop k) = .ok (numV q.data.toList : Int) (s.data.toList.drop (k + m))) := by show _ = _; unfold pNum; rw [← EM.out, if_neg h, List.drop_drop, HX.out]
    have HG2 : Hid (pYr a z (s.data.toList.drop k) = .ok (yearI (m : Int) (numV q.data.toList : Int)) (s.data.toList.drop (k + m))) := by show _ = _; unfold pYr mapR; rw [HG.out, yearI_of, EM.out]
    have HE : Hid (∃ v n k' e' p', Ending.returned (.tuple #[.int .i64 (numV q.data.toList : Int), .int .i64 (m : Int)]) = .returned (.tuple #[.int .i64 v, .int .i64 n]) ∧ 0 ≤ v ∧ v ≤ 9999 ∧ (z ≤ 2 → v ≤ 99) ∧ 0 ≤ n ∧ n ≤ 4 ∧ Rd0 64 w1 g s k' e' p' ∧ Step s.size (pNum a z) (stOf s k e p) (stOf s k' e' p') v ∧ Step s.size (pYr a z) (stOf s k e p) (stOf s k' e' p') (yearI n v) ∧ But g w w1) :=
      ⟨_, _, _, _, _, rfl, by omega, by have := HVT.out m; rw [List.take_of_length_le (by omega)] at this; omega, fun hz2 => by have := hv2 hz2; omega, by omega, by omega, HR1.out, Step.go (fun _ => HG.out), Step.go (fun _ => HG2.out), HB1.out⟩
    have HFULL : Hid (q.data.toList.take m = q.data.toList) := List.take_of_length_le (by omega)
    clear hall hv2 h hlen HX EM HG HG2 hm
    go_wp2
    go_loop [10, 11] (fun nv i => ∃ j : Nat, j ≤ m ∧ i = .int .i64 (j : Int) ∧ nv = .int .i64 (numV (q.data.toList.take j) : Int)) (fun _ i => m - (intOf i).toNat)
    case atStart => exact ⟨0, Nat.zero_le _, rfl, rfl⟩
    case round =>
      obtain ⟨j, hj, rfl, rfl⟩ := hrel
      by_cases hlt : j < m
      · obtain ⟨st, s0, s1⟩ := HST.out j (by omega)
        have hb := HVT.out j
        have HN : Hid (numV (q.data.toList.take (j + 1)) = numV (q.data.toList.take j) * 10 + (q[j].toNat - 48)) := st
        clear st
        generalize numV (q.data.toList.take j) = N at HN hb ⊢
        go_wp2
        go_round
        case rel => exact ⟨j + 1, by omega, by go_num, by rw [HN.out]; go_num⟩
        case measure => simp [intOf]; omega
      · obtain rfl : j = m := by omega
        rw [HFULL.out]
        generalize numV q.data.toList = N at HE ⊢
        go_wp2
        go_ret2
        obtain ⟨v, n, k', e', p', hv, g1, g2, g3, g4, g5, g6⟩ := HE.out
        refine ⟨v, n, ?_, g1, g2, g3, g4, g5, k', e', p', g6⟩
        rw [← hv]
        rfl
end Go.Proofs.YtedfnebadenmdaaDoor
