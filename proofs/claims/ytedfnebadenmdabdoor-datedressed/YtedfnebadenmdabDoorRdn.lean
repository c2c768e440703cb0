/-
  The program's reader of dates: names; weekday, month, year, time.
-/
import Derived.Test.YtedfnebadenmdabDoorRdg
namespace Go.Proofs.YtedfnebadenmdabDoor
open Go.RowKit

/-- The name at a place of a row of names. -/
def nmS (ns : ByteArray) (i : Nat) : ByteArray := ns.extract (3 * i) (3 * i + 3)
theorem nmS_size (ns : ByteArray) (i : Nat) (h : 3 * i + 3 ≤ ns.size) : (nmS ns i).size = 3 := by
  unfold nmS
  rw [ByteArray.size_extract]
  omega
set_option maxHeartbeats 1000000 in
theorem name_any (ns : ByteArray) (i : Nat) (w : World) (h : 3 * i + 3 ≤ ns.size) (hn : ns.size ≤ 100) :
    Calls Tryd.prog 24 #[.string ns, .int .i8 (i : Int)] w fun x w' => x = .returned (.string (nmS ns i)) ∧ w' = w := by
  have h1 : (3 : Int) * (i : Int) ≤ 3 * (i : Int) + 3 := by omega
  have h2 : (3 : Int) * (i : Int) + 3 ≤ (ns.size : Int) := by omega
  have HE : Hid (ns.extract (3 * (i : Int)).toNat (3 * (i : Int) + 3).toNat = nmS ns i) := by
    show _ = _
    unfold nmS
    congr 1
  go_enter Tryd.func24, Tryd.ntmps24
  go_wp2
  go_ret
  exact ⟨congrArg (fun x => Ending.returned (Value.string x)) HE.out, rfl⟩

theorem nameAt_none : ∀ (ns : List (List UInt8)) (w : List UInt8), (∀ i, (h : i < ns.length) → ns[i] ≠ w) → nameAt ns w = none
  | [], _, _ => rfl
  | n :: r, w, h => by
    have h00 : ¬ n = w := h 0 (by simp)
    rw [nameAt, if_neg h00, nameAt_none r w (fun i hi => by have := h (i + 1) (by simpa using hi); simpa using this)]
    rfl
theorem nameAt_some : ∀ (ns : List (List UInt8)) (w : List UInt8) (j : Nat) (hj : j < ns.length), ns[j] = w → (∀ i, (h : i < j) → ns[i] ≠ w) → nameAt ns w = some j
  | [], _, _, hj, _, _ => by simp at hj
  | n :: r, w, 0, _, h0, _ => by rw [nameAt, if_pos (by simpa using h0)]
  | n :: r, w, j + 1, hj, h0, h => by
    have h00 : ¬ n = w := h 0 (by omega)
    rw [nameAt, if_neg h00, nameAt_some r w j (by simpa using hj) (by simpa using h0) (fun i hi => by have := h (i + 1) (by omega); simpa using this)]
    rfl
theorem sameB_eq (a b : ByteArray) : sameB a b = (upL a.data.toList == upL b.data.toList) := by
  unfold sameB
  rw [ByteArray.toList_eq, ByteArray.toList_eq]
  rfl
/-- A row of names and what they are in capitals. -/
structure Nms (b : ByteArray) (ns : List (List UInt8)) : Prop where
  size : b.size = 3 * ns.length
  few : ns.length ≤ 12
  up : ∀ i, (h : i < ns.length) → upL (nmS b i).data.toList = ns[i]
  three : ∀ i, (h : i < ns.length) → ns[i].length = 3
set_option maxHeartbeats 2000000 in
theorem named_any (g : Nat) (s : ByteArray) (k : Nat) (e p : Int) (b : ByteArray) (ns : List (List UInt8)) (hb : Nms b ns) (w : World) (ht : Tbl w) (hr : Rd0 63 w g s k e p) (hs : s.size ≤ maxLen) :
    Calls Tryd.prog 41 #[.pointer (some ⟨g, 0, none⟩), .string b] w fun x w' => ∃ v k' e' p', x = .returned (.int .i8 v) ∧ 0 ≤ v ∧ v ≤ 11 ∧ Rd0 63 w' g s k' e' p' ∧ Step s.size (pName ns) (stOf s k e p) (stOf s k' e' p') v ∧ But g w w' := by
  obtain ⟨c0, c1, c2, c3⟩ := hr.cells
  have hk := hr.le
  have hm := bad_in 1 s k hk
  have hrow := row_any g s k e p 1 w ht hr hs
  have HX : Hid ((s.extract k (k + badN 1 (s.data.toList.drop k))).data.toList = (s.data.toList.drop k).take (badN 1 (s.data.toList.drop k))) := ext_list s k _
  have hxs := ext_size s k _ hm
  have HFAR : Hid (2 < g) := hr.far
  clear hr ht
  have HS : Hid (s.size ≤ maxLen) := hs
  unfold maxLen at hs
  obtain ⟨m, em⟩ : ∃ m, m = badN 1 (s.data.toList.drop k) := ⟨_, rfl⟩
  obtain ⟨q, eq⟩ : ∃ q, q = s.extract k (k + badN 1 (s.data.toList.drop k)) := ⟨_, rfl⟩
  rw [← em] at hm HX hxs eq
  rw [← em, ← eq] at hrow
  rw [← eq] at HX hxs
  have EM : Hid (m = badN 1 (s.data.toList.drop k)) := em
  have HNS : Hid (Nms b ns) := hb
  have hbs := hb.size
  have hbf := hb.few
  clear em eq hb
  have hb3 : (b.size : Int) / 3 = (ns.length : Int) := by omega
  go_enter Tryd.func41, Tryd.ntmps41
  go_wp2_with fail
  refine hrow.mono ?_
  rintro x w1 ⟨rfl, hr1, hb1⟩
  have HR1 : Hid (Rd0 63 w1 g s (k + m) e p) := hr1
  have HB1 : Hid (But g w w1) := hb1
  clear hr1 hb1 hrow
  go_wp2
  go_loopw [18] (fun i wr => ∃ j : Nat, j ≤ ns.length ∧ i = .int .i8 (j : Int) ∧ Hid (Below w1.heap.size w1 wr ∧ ∀ i, (h : i < j) → (h2 : i < ns.length) → ns[i] ≠ upL ((s.data.toList.drop k).take m))) (fun i _ => ns.length - (intOf i).toNat)
  case atStart => exact ⟨0, Nat.zero_le _, rfl, Below.refl _ _, fun i h => by omega⟩
  case round =>
    obtain ⟨j, hj, rfl, HJ⟩ := hrel
    by_cases hlt : j < ns.length
    · have HNA : Hid (Calls Tryd.prog 24 #[.string b, .int .i8 (j : Int)] wr fun x w' => x = .returned (.string (nmS b j)) ∧ w' = wr) := name_any b j wr (by omega) (by omega)
      by_cases h3 : m = 3
      · have h3i : (m : Int) = 3 := by omega
        have HSA : Hid (Calls Tryd.prog 53 #[.string q, .string (nmS b j)] wr fun e w' => e = .returned (.bool (sameB q (nmS b j))) ∧ Below wr.heap.size wr w') := same_any q (nmS b j) wr (by unfold maxLen; omega) (by rw [nmS_size b j (by omega)]; decide)
        have ES : Hid (sameB q (nmS b j) = (upL ((s.data.toList.drop k).take m) == ns[j])) := by
          show _ = _
          rw [sameB_eq, HX.out, HNS.out.up j hlt]
        by_cases hq : sameB q (nmS b j) = true
        · have hq2 : ns[j] = upL ((s.data.toList.drop k).take m) := by
            rw [ES.out] at hq
            exact (eq_of_beq hq).symm
          have HG : Hid (pName ns (s.data.toList.drop k) = .ok (j : Int) (s.data.toList.drop (k + m))) := by
            show _ = _
            unfold pName
            rw [← EM.out, nameAt_some ns _ j hlt hq2 (fun i hi => HJ.out.2 i hi (by omega)), List.drop_drop]
          have HRJ : Hid (Rd0 63 wr g s (k + m) e p ∧ But g w wr) := ⟨HR1.out.below HJ.out.1, HB1.out.trans (But.of_below HJ.out.1)⟩
          clear hq2
          go_wp2_with (first | (go_at_call 24; refine HNA.out.mono ?_; rintro x w' ⟨rfl, rfl⟩) | (go_at_call 53; refine HSA.out.mono ?_; rintro x w2 ⟨rfl, hb2⟩))
          go_ret
          exact ⟨(j : Int), k + m, e, p, rfl, by omega, by omega, HRJ.out.1.below hb2, Step.go (fun _ => HG.out), HRJ.out.2.trans (But.of_below hb2)⟩
        · have hq' : sameB q (nmS b j) = false := by simpa using hq
          have HN : Hid (∀ i, (h : i < j + 1) → (h2 : i < ns.length) → ns[i] ≠ upL ((s.data.toList.drop k).take m)) := by
            intro i hi h2
            by_cases e : i = j
            · subst e
              intro h
              rw [ES.out, h] at hq'
              simp at hq'
            · exact HJ.out.2 i (by omega) h2
          have HBJ : Hid (Below w1.heap.size w1 wr) := HJ.out.1
          clear hq
          go_wp2_with (first | (go_at_call 24; refine HNA.out.mono ?_; rintro x w' ⟨rfl, rfl⟩) | (go_at_call 53; refine HSA.out.mono ?_; rintro x w2 ⟨rfl, hb2⟩))
          go_roundw
          case rel => exact ⟨j + 1, by omega, by go_num, HBJ.out.trans (hb2.mono HBJ.out.size), HN.out⟩
          case measure => simp [intOf]; omega
      · have h3i : ((m : Int) == 3) = false := by simp only [beq_eq_false_iff_ne]; omega
        have HN : Hid (∀ i, (h : i < j + 1) → (h2 : i < ns.length) → ns[i] ≠ upL ((s.data.toList.drop k).take m)) := by
          intro i hi h2 he
          have h5 := HNS.out.three i h2
          rw [he, upL, List.length_map, ← HX.out, Array.length_toList] at h5
          exact h3 (hxs.symm.trans h5)
        have HBJ : Hid (Below w1.heap.size w1 wr) := HJ.out.1
        clear h3
        go_wp2
        go_roundw
        case rel => exact ⟨j + 1, by omega, by go_num, HBJ.out, HN.out⟩
        case measure => simp [intOf]; omega
    · have hje : j = ns.length := by omega
      have HG : Hid (pName ns (s.data.toList.drop k) = .bad 60 (s.data.toList.drop k)) := by
        show _ = _
        unfold pName
        rw [← EM.out, nameAt_none ns _ (fun i hi => HJ.out.2 i (by omega) hi)]
      have HRJ : Hid (Rd0 63 wr g s (k + m) e p ∧ But g w wr) := ⟨HR1.out.below HJ.out.1, HB1.out.trans (But.of_below HJ.out.1)⟩
      go_wp2_with fail
      refine (fail_any g s _ e p 60 (k : Int) wr HRJ.out.1).mono ?_
      rintro x w2 ⟨rfl, hr2, hb2⟩
      have HE : Hid (Rd0 63 w2 g s s.size (if e = 0 then 60 else e) (if e = 0 then (k : Int) else p) ∧ But g w w2) := ⟨hr2, HRJ.out.2.trans hb2⟩
      clear hr2 hb2
      go_wp2
      go_ret
      exact ⟨0, _, _, _, rfl, by omega, by omega, HE.out.1, Step.fail 0 hk (by decide) (fun _ => HG.out), HE.out.2⟩

/-- The rows of names. -/
def wdS : ByteArray := ⟨#[83, 117, 110, 77, 111, 110, 84, 117, 101, 87, 101, 100, 84, 104, 117, 70, 114, 105, 83, 97, 116]⟩
def moS : ByteArray := ⟨#[74, 97, 110, 70, 101, 98, 77, 97, 114, 65, 112, 114, 77, 97, 121, 74, 117, 110, 74, 117, 108, 65, 117, 103, 83, 101, 112, 79, 99, 116, 78, 111, 118, 68, 101, 99]⟩
theorem nms_wd : Nms wdS wdL := ⟨by decide, by decide, by decide +kernel, by decide +kernel⟩
theorem nms_mo : Nms moS moL := ⟨by decide, by decide, by decide +kernel, by decide +kernel⟩
set_option maxHeartbeats 1000000 in
theorem month_any (g : Nat) (s : ByteArray) (k : Nat) (e p : Int) (w : World) (ht : Tbl w) (hr : Rd0 63 w g s k e p) (hs : s.size ≤ maxLen) :
    Calls Tryd.prog 29 #[.pointer (some ⟨g, 0, none⟩)] w fun x w' => ∃ v k' e' p', x = .returned (.int .i8 v) ∧ 0 ≤ v ∧ v ≤ 12 ∧ Rd0 63 w' g s k' e' p' ∧ Step s.size pMon (stOf s k e p) (stOf s k' e' p') v ∧ But g w w' := by
  have HN : Hid _ := named_any g s k e p moS moL nms_mo w ht hr hs
  clear hr ht hs
  unfold moS at HN
  go_enter Tryd.func29, Tryd.ntmps29
  go_wp2_with fail
  refine Calls.mono HN.out ?_
  rintro x w1 ⟨v, k', e', p', rfl, v0, v1, hr1, hst, hb1⟩
  have HE : Hid (Rd0 63 w1 g s k' e' p' ∧ Step s.size pMon (stOf s k e p) (stOf s k' e' p') (v + 1) ∧ But g w w1) := ⟨hr1, hst.map (· + 1), hb1⟩
  clear hr1 hst hb1 HN
  go_wp2
  go_ret
  exact ⟨v + 1, k', e', p', rfl, by omega, by omega, HE.out⟩
end Go.Proofs.YtedfnebadenmdabDoor
