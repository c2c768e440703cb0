/-
  The program's reader of dates: row, free, gap, mark, number.
-/
import Derived.Test.YtedfnebadenmdabDoorRdr6
import Derived.Deep.LoopGhost
namespace Go.Proofs.YtedfnebadenmdabDoor
open Go.RowKit

theorem ext_list (s : ByteArray) (k m : Nat) : (s.extract k (k + m)).data.toList = (s.data.toList.drop k).take m := by
  rw [ByteArray.data_extract, Array.toList_extract, List.extract_eq_take_drop]
  congr 1
  omega
theorem ext_size (s : ByteArray) (k m : Nat) (h : k + m ≤ s.size) : (s.extract k (k + m)).size = m := by
  rw [ByteArray.size_extract]
  omega
theorem bad_in (c : Int) (s : ByteArray) (k : Nat) (h : k ≤ s.size) : k + badN c (s.data.toList.drop k) ≤ s.size := by
  have := badN_le c (s.data.toList.drop k)
  rw [List.length_drop, Array.length_toList] at this
  have e : s.data.size = s.size := rfl
  omega

set_option maxHeartbeats 1000000 in
theorem row_any (g : Nat) (s : ByteArray) (k : Nat) (e p c : Int) (w : World) (ht : Tbl w) (hr : Rd0 63 w g s k e p) (hs : s.size ≤ maxLen) :
    Calls Tryd.prog 43 #[.pointer (some ⟨g, 0, none⟩), .int .i64 c] w fun x w' => x = .returned (.string (s.extract k (k + badN c (s.data.toList.drop k)))) ∧ Rd0 63 w' g s (k + badN c (s.data.toList.drop k)) e p ∧ But g w w' := by
  obtain ⟨c0, c1, c2, c3⟩ := hr.cells
  obtain ⟨f1, f2, f3⟩ := hr.frozen
  have hk := hr.le
  have hm := bad_in c s k hk
  have HR : Hid (Rd0 63 w g s k e p) := hr
  have HSP : Hid (Calls Tryd.prog 40 #[.int .i64 c, .string s, .int .i64 (k : Int)] w fun x w' => x = .returned (.int .i64 ((k : Int) + ((badN c (s.data.toList.drop k) : Nat) : Int))) ∧ w' = w) := span_inT c k s w ht.cl hs hk
  unfold maxLen at hs
  generalize badN c (s.data.toList.drop k) = m at hm HSP ⊢
  clear hr ht
  have hi2 : (k : Int) ≤ (k : Int) + (m : Int) := by omega
  have hi3 : (k : Int) + (m : Int) ≤ (s.size : Int) := by omega
  go_enter Tryd.func43, Tryd.ntmps43
  go_wp2_with fail
  refine HSP.out.mono ?_
  rintro e w' ⟨rfl, rfl⟩
  have HR2 : Hid (Rd0 63 (w'.setCell ⟨g, 1, none⟩ (.int .i64 ((k : Int) + (m : Int)))) g s (k + m) e p) := by
    have := HR.out.move (k + m) hm
    rw [Int.natCast_add] at this
    exact this
  go_wp2_with fail
  go_quiet (fail)
  go_wp2
  go_ret
  refine ⟨rfl, HR2.out.below (below_drewN _ _), ?_⟩
  have h := (But.refl g w').set 1 (.int .i64 ((k : Int) + (m : Int)))
  exact ⟨h.os, h.tape, h.output, h.size, h.block⟩

theorem standB_yes (s : ByteArray) (k : Nat) (b : UInt8) : standB s k b = true ↔ (s.data.toList.drop k).head? = some b := by simp [standB]
theorem blN_yes (s : ByteArray) (k : Nat) (h : standB s k 32 = true ∨ standB s k 9 = true) : k < s.size ∧ blN (s.data.toList.drop k) = blN (s.data.toList.drop (k + 1)) + 1 := by
  have hh : ∃ b, (s.data.toList.drop k).head? = some b ∧ isBl b = true := by
    rcases h with h | h
    · exact ⟨32, (standB_yes s k 32).1 h, by decide⟩
    · exact ⟨9, (standB_yes s k 9).1 h, by decide⟩
  obtain ⟨b, h1, h2⟩ := hh
  have hk : k < s.size := by
    rcases Nat.lt_or_ge k s.size with h | h
    · exact h
    · rw [head_end s k (by omega)] at h1; cases h1
  refine ⟨hk, ?_⟩
  have e : s.data.toList.drop k = b :: s.data.toList.drop (k + 1) := by
    have hk' : k < s.data.toList.length := by rw [Array.length_toList]; exact hk
    rw [List.drop_eq_getElem_cons hk'] at h1 ⊢
    simp at h1
    rw [← h1]
    simp
  rw [e, blN, if_pos h2]
theorem blN_no (s : ByteArray) (k : Nat) (h1 : standB s k 32 = false) (h2 : standB s k 9 = false) : blN (s.data.toList.drop k) = 0 := by
  cases hd : s.data.toList.drop k with
  | nil => rfl
  | cons b r =>
    rw [blN, if_neg]
    intro h
    unfold isBl at h
    simp only [Bool.or_eq_true, beq_iff_eq] at h
    unfold standB at h1 h2
    rw [hd] at h1 h2
    rcases h with h | h <;> subst h
    · simp at h1
    · simp at h2
theorem blN_le : ∀ l : List UInt8, blN l ≤ l.length
  | [] => Nat.le_refl _
  | b :: r => by
    have := blN_le r
    unfold blN
    split <;> simp <;> omega

set_option maxHeartbeats 1000000 in
theorem free_any (g : Nat) (s : ByteArray) (k : Nat) (e p : Int) (w : World) (hr : Rd0 63 w g s k e p) (hs : s.size ≤ maxLen) :
    Calls Tryd.prog 39 #[.pointer (some ⟨g, 0, none⟩)] w fun x w' => x = .returned (.tuple #[]) ∧ Rd0 63 w' g s (k + blN (s.data.toList.drop k)) e p ∧ But g w w' := by
  have HR : Hid (Rd0 63 w g s k e p) := hr
  have HS : Hid (s.size ≤ maxLen) := hs
  unfold maxLen at hs
  clear hr
  go_enter Tryd.func39, Tryd.ntmps39
  go_wp2_with fail
  go_loopg [2] (s.size - k) (fun n _ wr => ∃ m : Nat, n = s.size - m ∧ Hid (Rd0 63 wr g s m e p ∧ But g w wr ∧ k + blN (s.data.toList.drop k) = m + blN (s.data.toList.drop m)))
  case atStart => exact ⟨k, rfl, HR.out, But.refl g w, rfl⟩
  case round =>
    obtain ⟨m, hm, HM⟩ := hrel
    have HMR : Hid (Rd0 63 wr g s m e p) := HM.out.1
    have h32 := stands_any g s m e p 32 32 rfl wr HM.out.1
    have HB : Hid (But g w wr) := HM.out.2.1
    have HK : Hid (k + blN (s.data.toList.drop k) = m + blN (s.data.toList.drop m)) := HM.out.2.2
    clear HM
    have key : ∀ b : Bool, (standB s m 32 = true ∨ standB s m 9 = true) ∨ (standB s m 32 = false ∧ standB s m 9 = false) := fun _ => by
      cases standB s m 32 <;> cases standB s m 9 <;> simp
    rcases key true with hy | ⟨h1, h2⟩
    · obtain ⟨hlt, hbl⟩ := blN_yes s m hy
      have HN : Hid (k + blN (s.data.toList.drop k) = (m + 1) + blN (s.data.toList.drop (m + 1))) := by
        show _ = _
        rw [HK.out, hbl]
        omega
      clear hbl key
      by_cases h1 : standB s m 32 = true
      · clear hy
        go_wp2_with fail
        refine h32.mono ?_
        rintro x w1 ⟨rfl, hb1⟩
        have HR1 : Hid (Rd0 63 w1 g s m e p) := HMR.out.below hb1
        have HB1 : Hid (But g w w1) := HB.out.trans (But.of_below hb1)
        obtain ⟨c0, c1, c2, c3⟩ := HR1.out.cells
        obtain ⟨f1, f2, f3⟩ := HR1.out.frozen
        have HR2 : Hid (Rd0 63 (w1.setCell ⟨g, 1, none⟩ (.int .i64 ((m : Int) + 1))) g s (m + 1) e p) := HR1.out.move (m + 1) hlt
        go_wp2
        go_roundg (s.size - (m + 1))
        case measure => omega
        case rel => exact ⟨m + 1, rfl, HR2.out, HB1.out.set 1 _, HN.out⟩
      · have h1' : standB s m 32 = false := by simpa using h1
        have h9 : standB s m 9 = true := by rcases hy with h | h; exact absurd h h1; exact h
        clear hy h1
        go_wp2_with fail
        refine h32.mono ?_
        rintro x w1 ⟨rfl, hb1⟩
        have HR0 : Hid (Rd0 63 w1 g s m e p) := HMR.out.below hb1
        have HB0 : Hid (But g w w1) := HB.out.trans (But.of_below hb1)
        clear hb1
        go_wp2_with fail
        refine (stands_any g s m e p 9 9 rfl w1 HR0.out).mono ?_
        rintro x w2 ⟨rfl, hb2⟩
        have HR1 : Hid (Rd0 63 w2 g s m e p) := HR0.out.below hb2
        have HB1 : Hid (But g w w2) := HB0.out.trans (But.of_below hb2)
        obtain ⟨c0, c1, c2, c3⟩ := HR1.out.cells
        obtain ⟨f1, f2, f3⟩ := HR1.out.frozen
        have HR2 : Hid (Rd0 63 (w2.setCell ⟨g, 1, none⟩ (.int .i64 ((m : Int) + 1))) g s (m + 1) e p) := HR1.out.move (m + 1) hlt
        go_wp2
        go_roundg (s.size - (m + 1))
        case measure => omega
        case rel => exact ⟨m + 1, rfl, HR2.out, HB1.out.set 1 _, HN.out⟩
    · have HN : Hid (k + blN (s.data.toList.drop k) = m) := by
        show _ = _
        rw [HK.out, blN_no s m h1 h2]
        rfl
      clear key
      go_wp2_with fail
      refine h32.mono ?_
      rintro x w1 ⟨rfl, hb1⟩
      have HR0 : Hid (Rd0 63 w1 g s m e p) := HMR.out.below hb1
      have HB0 : Hid (But g w w1) := HB.out.trans (But.of_below hb1)
      clear hb1
      go_wp2_with fail
      refine (stands_any g s m e p 9 9 rfl w1 HR0.out).mono ?_
      rintro x w2 ⟨rfl, hb2⟩
      have HR2 : Hid (Rd0 63 w2 g s m e p) := HR0.out.below hb2
      have HB2 : Hid (But g w w2) := HB0.out.trans (But.of_below hb2)
      clear hb2
      go_wp2
      go_end0
      exact ⟨rfl, by rw [HN.out]; exact HR2.out, HB2.out⟩

set_option maxHeartbeats 1000000 in
theorem gap_any (g : Nat) (s : ByteArray) (k : Nat) (e p : Int) (w : World) (hr : Rd0 63 w g s k e p) (hs : s.size ≤ maxLen) :
    Calls Tryd.prog 28 #[.pointer (some ⟨g, 0, none⟩)] w fun x w' => x = .returned (.tuple #[]) ∧ ∃ k' e' p', Rd0 63 w' g s k' e' p' ∧ Step s.size pGap (stOf s k e p) (stOf s k' e' p') () ∧ But g w w' := by
  obtain ⟨c0, c1, c2, c3⟩ := hr.cells
  have HR : Hid (Rd0 63 w g s k e p) := hr
  have HS : Hid (s.size ≤ maxLen) := hs
  unfold maxLen at hs
  have hk := hr.le
  clear hr
  have HF : Hid (Calls Tryd.prog 39 #[.pointer (some ⟨g, 0, none⟩)] w fun x w' => x = .returned (.tuple #[]) ∧ Rd0 63 w' g s (k + blN (s.data.toList.drop k)) e p ∧ But g w w') := free_any g s k e p w HR.out HS.out
  go_enter Tryd.func28, Tryd.ntmps28
  go_wp2_with fail
  refine HF.out.mono ?_
  rintro x w1 ⟨rfl, hr1, hb1⟩
  clear HF
  obtain ⟨d0, d1, d2, d3⟩ := hr1.cells
  have HR1 : Hid (Rd0 63 w1 g s (k + blN (s.data.toList.drop k)) e p) := hr1
  have HB1 : Hid (But g w w1) := hb1
  clear hr1 hb1
  by_cases h0 : blN (s.data.toList.drop k) = 0
  · have HG : Hid (pGap (s.data.toList.drop k) = .bad 60 (s.data.toList.drop k)) := by show _ = _; unfold pGap; rw [if_pos h0]
    rw [h0] at d1 HR1
    clear h0
    go_wp2_with fail
    refine (fail_any g s _ e p 60 (k : Int) w1 HR1.out).mono ?_
    rintro x w2 ⟨rfl, hr2, hb2⟩
    have HE : Hid (∃ k' e' p', Rd0 63 w2 g s k' e' p' ∧ Step s.size pGap (stOf s k e p) (stOf s k' e' p') () ∧ But g w w2) := ⟨_, _, _, hr2, Step.fail () hk (by decide) (fun _ => HG.out), HB1.out.trans hb2⟩
    clear hr2 hb2
    go_wp2
    go_end0
    exact ⟨rfl, HE.out⟩
  · have HG : Hid (pGap (s.data.toList.drop k) = .ok () (s.data.toList.drop (k + blN (s.data.toList.drop k)))) := by show _ = _; unfold pGap; rw [if_neg h0, List.drop_drop]
    have HE : Hid (∃ k' e' p', Rd0 63 w1 g s k' e' p' ∧ Step s.size pGap (stOf s k e p) (stOf s k' e' p') () ∧ But g w w1) := ⟨_, _, _, HR1.out, Step.go (fun _ => HG.out), HB1.out⟩
    have hne : (((k + blN (s.data.toList.drop k) : Nat) : Int) == (k : Int)) = false := by
      simp only [beq_eq_false_iff_ne]
      omega
    generalize k + blN (s.data.toList.drop k) = j at d1 hne HR1
    clear h0
    go_wp2
    go_end0
    exact ⟨rfl, HE.out⟩
theorem pMark_no (s : ByteArray) (k : Nat) (b : UInt8) (h : standB s k b = false) : pMark b (s.data.toList.drop k) = .bad 60 (s.data.toList.drop k) := by
  unfold pMark
  rw [if_neg]
  intro h'
  rw [(standB_yes s k b).2 h'] at h
  cases h
theorem standB_lt (s : ByteArray) (k : Nat) (b : UInt8) (h : standB s k b = true) : k < s.size := by
  rcases Nat.lt_or_ge k s.size with h' | h'
  · exact h'
  · have := (standB_yes s k b).1 h
    rw [head_end s k (by omega)] at this
    cases this
theorem pMark_yes (s : ByteArray) (k : Nat) (b : UInt8) (h : standB s k b = true) : pMark b (s.data.toList.drop k) = .ok () (s.data.toList.drop (k + 1)) := by
  unfold pMark
  rw [if_pos ((standB_yes s k b).1 h), List.drop_drop]
set_option maxHeartbeats 1000000 in
theorem mark_any (g : Nat) (s : ByteArray) (k : Nat) (e p : Int) (b : UInt8) (y : Int) (hy : y = (b.toNat : Int)) (w : World) (hr : Rd0 63 w g s k e p) (hs : s.size ≤ maxLen) :
    Calls Tryd.prog 42 #[.pointer (some ⟨g, 0, none⟩), .int .u8 y] w fun x w' => x = .returned (.tuple #[]) ∧ ∃ k' e' p', Rd0 63 w' g s k' e' p' ∧ Step s.size (pMark b) (stOf s k e p) (stOf s k' e' p') () ∧ But g w w' := by
  have HR : Hid (Rd0 63 w g s k e p) := hr
  unfold maxLen at hs
  have hk := hr.le
  have HST := stands_any g s k e p b y hy w hr
  clear hr hy
  go_enter Tryd.func42, Tryd.ntmps42
  go_wp2_with fail
  refine HST.mono ?_
  rintro x w1 ⟨rfl, hb1⟩
  have HR1 : Hid (Rd0 63 w1 g s k e p) := HR.out.below hb1
  have HB1 : Hid (But g w w1) := But.of_below hb1
  obtain ⟨d0, d1, d2, d3⟩ := HR1.out.cells
  obtain ⟨f1, f2, f3⟩ := HR1.out.frozen
  clear hb1 HST
  by_cases h1 : standB s k b = true
  · have hlt := standB_lt s k b h1
    have HR2 : Hid (Rd0 63 (w1.setCell ⟨g, 1, none⟩ (.int .i64 ((k : Int) + 1))) g s (k + 1) e p) := HR1.out.move (k + 1) hlt
    have HE : Hid (∃ k' e' p', Rd0 63 (w1.setCell ⟨g, 1, none⟩ (.int .i64 ((k : Int) + 1))) g s k' e' p' ∧ Step s.size (pMark b) (stOf s k e p) (stOf s k' e' p') () ∧ But g w (w1.setCell ⟨g, 1, none⟩ (.int .i64 ((k : Int) + 1)))) := ⟨_, _, _, HR2.out, Step.go (fun _ => pMark_yes s k b h1), HB1.out.set 1 _⟩
    go_wp2
    go_end0
    exact ⟨rfl, HE.out⟩
  · have h1' : standB s k b = false := by simpa using h1
    clear h1
    go_wp2_with fail
    refine (fail_any g s _ e p 60 (k : Int) w1 HR1.out).mono ?_
    rintro x w2 ⟨rfl, hr2, hb2⟩
    have HE : Hid (∃ k' e' p', Rd0 63 w2 g s k' e' p' ∧ Step s.size (pMark b) (stOf s k e p) (stOf s k' e' p') () ∧ But g w w2) := ⟨_, _, _, hr2, Step.fail () hk (by decide) (fun _ => pMark_no s k b h1'), HB1.out.trans hb2⟩
    clear hr2 hb2
    go_wp2
    refine bodyPost_ret (v := .tuple #[]) (by simp [results, Tryd.results42, go_sem]) rfl ⟨rfl, HE.out⟩
theorem numV_le (l : List UInt8) (h : ∀ b ∈ l, isB 2 (b.toNat : Int) = true) (h4 : l.length ≤ 4) : numV l ≤ 9999 := by
  have step : ∀ n b, isB 2 ((b : UInt8).toNat : Int) = true → n * 10 + (b.toNat - 48) ≤ n * 10 + 9 := by
    intro n b hb
    have := digit_iff b hb
    omega
  unfold numV
  match l, h, h4 with
  | [], _, _ => simp
  | [a], h, _ => have := digit_iff a (h a (by simp)); simp; omega
  | [a, b], h, _ => have := digit_iff a (h a (by simp)); have := digit_iff b (h b (by simp)); simp; omega
  | [a, b, c], h, _ => have := digit_iff a (h a (by simp)); have := digit_iff b (h b (by simp)); have := digit_iff c (h c (by simp)); simp; omega
  | [a, b, c, d], h, _ => have := digit_iff a (h a (by simp)); have := digit_iff b (h b (by simp)); have := digit_iff c (h c (by simp)); have := digit_iff d (h d (by simp)); simp; omega
  | _ :: _ :: _ :: _ :: _ :: _, _, h4 => simp at h4
theorem numV_le2 (l : List UInt8) (h : ∀ b ∈ l, isB 2 (b.toNat : Int) = true) (h4 : l.length ≤ 2) : numV l ≤ 99 := by
  unfold numV
  match l, h, h4 with
  | [], _, _ => simp
  | [a], h, _ => have := digit_iff a (h a (by simp)); simp; omega
  | [a, b], h, _ => have := digit_iff a (h a (by simp)); have := digit_iff b (h b (by simp)); simp; omega
  | _ :: _ :: _ :: _, _, h4 => simp at h4
theorem badN_take (c : Int) : ∀ l : List UInt8, ∀ b ∈ l.take (badN c l), isB c (b.toNat : Int) = true
  | [], b, h => by simp [badN] at h
  | a :: r, b, h => by
    unfold badN at h
    by_cases ha : isB c (a.toNat : Int) = true
    · rw [if_pos ha, List.take_succ_cons] at h
      rcases List.mem_cons.1 h with h | h
      · rw [h]; exact ha
      · exact badN_take c r b h
    · rw [if_neg ha] at h
      simp at h
theorem badN_of (c : Int) : ∀ l : List UInt8, (∀ b ∈ l, isB c (b.toNat : Int) = true) → badN c l = l.length
  | [], _ => rfl
  | b :: r, h => by
    rw [badN, if_pos (h b (by simp)), badN_of c r (fun x hx => h x (by simp [hx]))]
    rfl
set_option maxHeartbeats 1000000 in
theorem number_rd (g : Nat) (s : ByteArray) (k : Nat) (e p : Int) (a z : Nat) (ha : 1 ≤ a) (hz : z ≤ 4) (w : World) (ht : Tbl w) (hr : Rd0 63 w g s k e p) (hs : s.size ≤ maxLen) :
    Calls Tryd.prog 27 #[.pointer (some ⟨g, 0, none⟩), .int .i64 (a : Int), .int .i64 (z : Int)] w fun x w' => ∃ v k' e' p', x = .returned (.int .i16 v) ∧ 0 ≤ v ∧ v ≤ 9999 ∧ (z ≤ 2 → v ≤ 99) ∧ Rd0 63 w' g s k' e' p' ∧ Step s.size (pNum a z) (stOf s k e p) (stOf s k' e' p') v ∧ But g w w' := by
  obtain ⟨c0, c1, c2, c3⟩ := hr.cells
  have hk := hr.le
  have hm := bad_in 2 s k hk
  have hrow := row_any g s k e p 2 w ht hr hs
  have HT : Hid (Tbl w) := ht
  have HS : Hid (s.size ≤ maxLen) := hs
  have HX : Hid ((s.extract k (k + badN 2 (s.data.toList.drop k))).data.toList = (s.data.toList.drop k).take (badN 2 (s.data.toList.drop k))) := ext_list s k _
  have hxs := ext_size s k _ hm
  have HFAR : Hid (2 < g) := hr.far
  clear hr ht
  unfold maxLen at hs
  obtain ⟨m, em⟩ : ∃ m, m = badN 2 (s.data.toList.drop k) := ⟨_, rfl⟩
  obtain ⟨q, eq⟩ : ∃ q, q = s.extract k (k + badN 2 (s.data.toList.drop k)) := ⟨_, rfl⟩
  rw [← em] at hm HX hxs eq
  rw [← em, ← eq] at hrow
  rw [← eq] at HX hxs
  have EM : Hid (m = badN 2 (s.data.toList.drop k)) := em
  clear em eq
  go_enter Tryd.func27, Tryd.ntmps27
  go_wp2_with fail
  refine hrow.mono ?_
  rintro x w1 ⟨rfl, hr1, hb1⟩
  have HR1 : Hid (Rd0 63 w1 g s (k + m) e p) := hr1
  have HB1 : Hid (But g w w1) := hb1
  have HT1 : Hid (Tbl w1) := HT.out.but HFAR.out hb1
  clear hr1 hb1 hrow
  by_cases h : m < a ∨ z < m
  · have HG : Hid (pNum a z (s.data.toList.drop k) = .bad 60 (s.data.toList.drop k)) := by show _ = _; unfold pNum; rw [← EM.out, if_pos h]
    have key : ∀ w2, (Rd0 63 w2 g s s.size (if e = 0 then 60 else e) (if e = 0 then (k : Int) else p)) → But g w1 w2 → Hid (∃ v k' e' p', Ending.returned (.int .i16 0) = .returned (.int .i16 v) ∧ 0 ≤ v ∧ v ≤ 9999 ∧ (z ≤ 2 → v ≤ 99) ∧ Rd0 63 w2 g s k' e' p' ∧ Step s.size (pNum a z) (stOf s k e p) (stOf s k' e' p') v ∧ But g w w2) := fun w2 h1 h2 =>
      ⟨0, _, _, _, rfl, by omega, by omega, fun _ => by omega, h1, Step.fail 0 hk (by decide) (fun _ => HG.out), HB1.out.trans h2⟩
    by_cases h1 : m < a
    · have h1i : (m : Int) < (a : Int) := by omega
      go_wp2_with fail
      refine (fail_any g s _ e p 60 (k : Int) w1 HR1.out).mono ?_
      rintro x w2 ⟨rfl, hr2, hb2⟩
      have HE := key w2 hr2 hb2
      clear hr2 hb2 key h
      go_wp2
      go_ret
      exact HE.out
    · have h2 : z < m := by omega
      have h1i : (a : Int) ≤ (m : Int) := by omega
      have h2i : (z : Int) < (m : Int) := by omega
      clear h
      go_wp2_with fail
      refine (fail_any g s _ e p 60 (k : Int) w1 HR1.out).mono ?_
      rintro x w2 ⟨rfl, hr2, hb2⟩
      have HE := key w2 hr2 hb2
      clear hr2 hb2 key
      go_wp2
      go_ret
      exact HE.out
  · have h1i : (a : Int) ≤ (m : Int) := by omega
    have h2i : (m : Int) ≤ (z : Int) := by omega
    have hall := badN_take 2 (s.data.toList.drop k)
    rw [← EM.out] at hall
    have hlen : ((s.data.toList.drop k).take m).length = m := by rw [← HX.out, Array.length_toList]; exact hxs
    have hok : numOk ((s.data.toList.drop k).take m) := ⟨by omega, by omega, badN_of 2 _ hall⟩
    have hv := numV_le _ hall (by omega)
    have hv2 : z ≤ 2 → numV ((s.data.toList.drop k).take m) ≤ 99 := fun hz2 => numV_le2 _ hall (by omega)
    have HN : Hid (∀ w, Table w → Calls Tryd.prog 45 #[.string q, .int .u64 9999] w fun e w' => e = .returned (.tuple #[.int .u64 (numV ((s.data.toList.drop k).take m) : Int), .int .i64 0]) ∧ w' = w) := by
      intro w ht
      have hh := number_any q 9999 w ht (by unfold maxLen; omega) (by omega) (by omega)
      rw [HX.out, (num_in _ 9999 hok (by omega)).1, (num_in _ 9999 hok (by omega)).2] at hh
      exact hh
    have HG : Hid (pNum a z (s.data.toList.drop k) = .ok (numV ((s.data.toList.drop k).take m) : Int) (s.data.toList.drop (k + m))) := by show _ = _; unfold pNum; rw [← EM.out, if_neg h, List.drop_drop]
    have HE : Hid (∃ v k' e' p', Ending.returned (.int .i16 (numV ((s.data.toList.drop k).take m) : Int)) = .returned (.int .i16 v) ∧ 0 ≤ v ∧ v ≤ 9999 ∧ (z ≤ 2 → v ≤ 99) ∧ Rd0 63 w1 g s k' e' p' ∧ Step s.size (pNum a z) (stOf s k e p) (stOf s k' e' p') v ∧ But g w w1) :=
      ⟨_, _, _, _, rfl, by omega, by omega, fun hz2 => by have := hv2 hz2; omega, HR1.out, Step.go (fun _ => HG.out), HB1.out⟩
    clear hall hlen hok hv2 h
    generalize numV ((s.data.toList.drop k).take m) = V at HN HE hv HG
    go_wp2_with fail
    refine (HN.out _ HT1.out.cl).mono ?_
    rintro x w2 ⟨rfl, rfl⟩
    go_wp2
    go_ret
    exact HE.out
end Go.Proofs.YtedfnebadenmdabDoor
