/-
  Statuses: the one that a word writes; the one with which texts begin.
-/
import Derived.Test.YtbfgefgadplcjaaDoorSt12
namespace Go.Proofs.YtbfgefgadplcjaaDoor
open Go.RowKit

theorem cut_any (s : ByteArray) (c : UInt8) (hs : s.size ≤ 1000000) (w : World) (ht : Tb w) :
    Calls Tryd.prog 53 #[.string s, .string ⟨#[c]⟩] w fun e w' => (∃ b, e = .returned (.tuple #[.string (tx (cutF s.data.toList c)), .string (tx (cutB s.data.toList c)), .bool b])) ∧ ∃ n, w' = w.drewN n := by
  obtain ⟨m, hm⟩ := ht.mx
  refine (Tryd.strings_Cut s ⟨#[c]⟩ m w (by omega) hm).mono ?_
  rintro e w' ⟨rfl, hw⟩
  exact ⟨⟨_, rfl⟩, hw⟩
theorem cut_len (l : List UInt8) (c : UInt8) : (cutF l c).length ≤ l.length ∧ (cutB l c).length ≤ l.length := by
  unfold cutF cutB Lib.cut
  split <;> simp <;> omega
theorem str_eq (X s : ByteArray) : (X.toList == s.toList) = decide (X = s) := by
  rw [Bool.eq_iff_iff, beq_iff_eq, decide_eq_true_eq]
  constructor
  · intro h
    rw [ByteArray.toList_eq, ByteArray.toList_eq] at h
    apply ByteArray.ext
    exact Array.toList_inj.1 h
  · rintro rfl; rfl
theorem isSt_rd (l : List UInt8) : stOf l = if isSt (rdSt l) = true ∧ wrSt (rdSt l) = l then rdSt l else (0, 0, 0) := by
  unfold stOf
  simp only [Bool.and_eq_true, decide_eq_true_eq]
set_option maxHeartbeats 2000000 in
set_option maxRecDepth 20000 in
theorem stof_any (s : ByteArray) (hs : s.size ≤ 1000000) (w : World) (ht : Tb w) : Calls Tryd.prog 54 #[.string s] w fun e w' => e = .returned (stV (stOf s.data.toList)) ∧ Below w.heap.size w w' := by
  have HT : Hid (Tb w) := ht
  have HC1 : Hid (∀ w', Below w.heap.size w w' → Calls Tryd.prog 53 #[.string s, .string ⟨#[46]⟩] w' fun e w2 => (∃ b, e = .returned (.tuple #[.string (tx (cutF s.data.toList 46)), .string (tx (cutB s.data.toList 46)), .bool b])) ∧ ∃ n, w2 = w'.drewN n) := fun w' hb => cut_any s 46 hs w' (ht.on hb)
  have hl := cut_len s.data.toList 46
  have hl2 := cut_len (cutB s.data.toList 46) 46
  rw [len_list] at hl
  have HC2 : Hid (∀ w', Below w.heap.size w w' → Calls Tryd.prog 53 #[.string (tx (cutB s.data.toList 46)), .string ⟨#[46]⟩] w' fun e w2 => (∃ b, e = .returned (.tuple #[.string (tx (cutF (cutB s.data.toList 46) 46)), .string (tx (cutB (cutB s.data.toList 46) 46)), .bool b])) ∧ ∃ n, w2 = w'.drewN n) := fun w' hb => by
    have := cut_any (tx (cutB s.data.toList 46)) 46 (by rw [tx_size]; omega) w' (ht.on hb)
    rwa [tx_list] at this
  have HP : Hid (∀ l : List UInt8, l.length ≤ 1000000 → ∀ w', Below w.heap.size w w' → Calls Tryd.prog 73 #[.string (tx l)] w' fun e w2 => e = .returned (.int .i64 (prt l)) ∧ w2 = w') := fun l hl w' hb => by
    have := part_any (tx l) w' (ht.on hb).cls (by rw [tx_size]; omega)
    rwa [tx_list] at this
  have q1 : (cutF s.data.toList 46).length ≤ 1000000 := by omega
  have q2 : (cutF (cutB s.data.toList 46) 46).length ≤ 1000000 := by omega
  have q3 : (cutB (cutB s.data.toList 46) 46).length ≤ 1000000 := by omega
  have HP1 : Hid (∀ w', Below w.heap.size w w' → Calls Tryd.prog 73 #[.string (tx (cutF s.data.toList 46))] w' fun e w2 => e = .returned (.int .i64 (rdSt s.data.toList).1) ∧ w2 = w') := HP.out _ q1
  have HP2 : Hid (∀ w', Below w.heap.size w w' → Calls Tryd.prog 73 #[.string (tx (cutF (cutB s.data.toList 46) 46))] w' fun e w2 => e = .returned (.int .i64 (rdSt s.data.toList).2.1) ∧ w2 = w') := HP.out _ q2
  have HP3 : Hid (∀ w', Below w.heap.size w w' → Calls Tryd.prog 73 #[.string (tx (cutB (cutB s.data.toList 46) 46))] w' fun e w2 => e = .returned (.int .i64 (rdSt s.data.toList).2.2) ∧ w2 = w') := HP.out _ q3
  have HIS : Hid (∀ t w', Calls Tryd.prog 50 #[stV t] w' fun e w2 => e = .returned (.bool (isSt t)) ∧ Below w'.heap.size w' w2) := fun t w' => isst_any t w'
  have HWR : Hid (∀ t, isSt t = true → ∀ w', Below w.heap.size w w' → Calls Tryd.prog 55 #[stV t] w' fun e w2 => e = .returned (.string (tx (wrSt t))) ∧ Below w'.heap.size w' w2) := fun t h w' hb => writ_any t h w' (ht.on hb)
  have HX := isSt_rd s.data.toList
  clear HP q1 q2 q3 hl hl2 ht hs HT
  generalize rdSt s.data.toList = S at *
  generalize tx (cutF s.data.toList 46) = A1 at *
  generalize tx (cutF (cutB s.data.toList 46) 46) = A2 at *
  generalize tx (cutB (cutB s.data.toList 46) 46) = A3 at *
  generalize tx (cutB s.data.toList 46) = A4 at *
  obtain ⟨W, hW⟩ : ∃ W, W = w.alloc (.cells #[.int .i64 0, .int .i64 0, .int .i64 0] 48) := ⟨_, rfl⟩
  have HB0 : Hid (Below w.heap.size w W) := by subst hW; exact (Below.refl _ _).alloc (Nat.le_refl _) _
  have HL0 : Hid (Lies W w.heap.size #[.int .i64 0, .int .i64 0, .int .i64 0] 48) := by subst hW; exact Lies.new w _ _
  have HWW : Hid (w.alloc (.cells #[.int .i64 0, .int .i64 0, .int .i64 0] 48) = W) := hW.symm
  clear hW
  go_enter Tryd.func54, Tryd.ntmps54
  go_wp2_with fail
  rw [HWW.out]
  refine (HC1.out _ HB0.out).mono ?_
  rintro e w1 ⟨⟨b1, rfl⟩, n1, rfl⟩
  go_wp2_with fail
  refine (HC2.out (W.drewN n1) (below_dN HB0.out n1)).mono ?_
  rintro e w1 ⟨⟨b2, rfl⟩, n2, rfl⟩
  have HB2 : Hid (Below w.heap.size w (W.drewN (n1 + n2))) := below_dN HB0.out _
  have HL2 : Hid (Lies (W.drewN (n1 + n2)) w.heap.size #[.int .i64 0, .int .i64 0, .int .i64 0] 48) := HL0.out.drewN _
  clear HB0 HL0 HC1 HC2 HWW
  go_wp2_with fail
  generalize W.drewN (n1 + n2) = V at HB2 HL2 ⊢
  refine (HP1.out _ HB2.out).mono ?_
  rintro e w1 ⟨rfl, rfl⟩
  go_wp2_with fail
  refine (HP2.out _ HB2.out).mono ?_
  rintro e w1 ⟨rfl, rfl⟩
  go_wp2_with fail
  refine (HP3.out _ HB2.out).mono ?_
  rintro e w1 ⟨rfl, rfl⟩
  clear HP1 HP2 HP3
  go_wp2_with fail
  have HBV : Hid (Below w.heap.size w (w1.alloc (.cells #[.int .i64 S.1, .int .i64 S.2.1, .int .i64 S.2.2] 48))) := HB2.out.alloc HB2.out.size _
  have HLV : Hid (Lies (w1.alloc (.cells #[.int .i64 S.1, .int .i64 S.2.1, .int .i64 S.2.2] 48)) w.heap.size #[.int .i64 0, .int .i64 0, .int .i64 0] 48) := HL2.out.alloc _
  have HLS : Hid (Lies (w1.alloc (.cells #[.int .i64 S.1, .int .i64 S.2.1, .int .i64 S.2.2] 48)) w1.heap.size #[.int .i64 S.1, .int .i64 S.2.1, .int .i64 S.2.2] 48) := Lies.new w1 _ _
  have HNE : Hid (w.heap.size ≠ w1.heap.size) := by have := HL2.out.lt; show _ ≠ _; omega
  generalize w1.alloc (.cells #[.int .i64 S.1, .int .i64 S.2.1, .int .i64 S.2.2] 48) = V at HBV HLV HLS ⊢
  clear HB2 HL2
  generalize w1.heap.size = Q at HLS HNE ⊢
  have HFIN : Hid (∀ (w' : World) (T : Stt), Lies w' w.heap.size #[.int .i64 0, .int .i64 0, .int .i64 0] 48 → Below w.heap.size w w' → Lies (((w'.setCell ⟨w.heap.size, 0, none⟩ (.int .i64 T.1)).setCell ⟨w.heap.size, 1, none⟩ (.int .i64 T.2.1)).setCell ⟨w.heap.size, 2, none⟩ (.int .i64 T.2.2)) w.heap.size #[.int .i64 T.1, .int .i64 T.2.1, .int .i64 T.2.2] 48 ∧ Below w.heap.size w (((w'.setCell ⟨w.heap.size, 0, none⟩ (.int .i64 T.1)).setCell ⟨w.heap.size, 1, none⟩ (.int .i64 T.2.1)).setCell ⟨w.heap.size, 2, none⟩ (.int .i64 T.2.2))) := fun w' T h1 h2 =>
    ⟨((h1.set 0 _).set 1 _).set 2 _, ((h2.setCell (p := ⟨w.heap.size, 0, none⟩) (Nat.le_refl _) _).setCell (p := ⟨w.heap.size, 1, none⟩) (Nat.le_refl _) _).setCell (p := ⟨w.heap.size, 2, none⟩) (Nat.le_refl _) _⟩
  have HCE : Hid (∀ w', Lies w' w.heap.size #[.int .i64 0, .int .i64 0, .int .i64 0] 48 → (w'.cell? ⟨w.heap.size, 0, none⟩ = some (.int .i64 0) ∧ w'.cell? ⟨w.heap.size, 1, none⟩ = some (.int .i64 0) ∧ w'.cell? ⟨w.heap.size, 2, none⟩ = some (.int .i64 0) ∧ w'.frozen? ⟨w.heap.size, 0, none⟩ = false ∧ w'.frozen? ⟨w.heap.size, 1, none⟩ = false ∧ w'.frozen? ⟨w.heap.size, 2, none⟩ = false)) := fun w' h => ⟨h.cell 0, h.cell 1, h.cell 2, h.frozen 0, h.frozen 1, h.frozen 2⟩
  refine (HIS.out S V).mono ?_
  rintro e w2 ⟨rfl, HB3⟩
  have HB4 : Hid (Below w.heap.size w w2) := HBV.out.trans (HB3.mono HBV.out.size)
  have HL4 : Hid (Lies w2 w.heap.size #[.int .i64 0, .int .i64 0, .int .i64 0] 48) := HLV.out.below HB3 HLV.out.lt
  have HS4 : Hid (Lies w2 Q #[.int .i64 S.1, .int .i64 S.2.1, .int .i64 S.2.2] 48) := HLS.out.below HB3 HLS.out.lt
  clear HB3 HBV HLV HLS HIS
  by_cases hi : isSt S = true
  · have HWS := HWR.out S hi w2 HB4.out
    rw [hi]
    have r0 := HS4.out.cell 0
    have r1 := HS4.out.cell 1
    have r2 := HS4.out.cell 2
    simp only [List.getElem?_toArray, List.getElem?_cons_zero, List.getElem?_cons_succ] at r0 r1 r2
    go_wp2_with fail
    refine HWS.mono ?_
    clear r0 r1 r2
    rintro e w3 ⟨rfl, HB5⟩
    have HB6 : Hid (Below w.heap.size w w3) := HB4.out.trans (HB5.mono HB4.out.size)
    have HL6 : Hid (Lies w3 w.heap.size #[.int .i64 0, .int .i64 0, .int .i64 0] 48) := HL4.out.below HB5 HL4.out.lt
    have HS6 : Lies w3 Q #[.int .i64 S.1, .int .i64 S.2.1, .int .i64 S.2.2] 48 := HS4.out.below HB5 HS4.out.lt
    have s0 := HS6.cell 0
    have s1 := HS6.cell 1
    have s2 := HS6.cell 2
    simp only [List.getElem?_toArray, List.getElem?_cons_zero, List.getElem?_cons_succ] at s0 s1 s2
    clear HB5 HS6 HB4 HL4 HS4 HWS
    have hne := HNE.out
    have hne2 : Q ≠ w.heap.size := Ne.symm hne
    by_cases hw : wrSt S = s.data.toList
    · have HXX : Hid (stOf s.data.toList = S) := by rw [if_pos ⟨hi, hw⟩] at HX; exact HX
      have hq : tx (wrSt S) = s := by rw [hw, tx_back]
      rw [hq]
      obtain ⟨c0, c1, c2, f0, f1, f2⟩ := HCE.out _ HL6.out
      clear HX hw hq
      go_wp2
      exact ret_row rfl w.heap.size 48 #[.int .i64 S.1, .int .i64 S.2.1, .int .i64 S.2.2] _ rfl (HFIN.out _ S HL6.out HB6.out).1 Tryd.underlying48 rfl infoST ⟨by rw [HXX.out]; rfl, (HFIN.out _ S HL6.out HB6.out).2⟩
    · have HXX : Hid (stOf s.data.toList = (0, 0, 0)) := by rw [if_neg (fun h => hw h.2)] at HX; exact HX
      have hq : ((tx (wrSt S)).toList == s.toList) = false := by rw [str_eq]; exact decide_eq_false (fun e => hw (by rw [← e, tx_list]))
      generalize tx (wrSt S) = X at *
      clear HX hw
      go_wp2_with fail
      refine (none_any w3).mono ?_
      rintro e w4 ⟨rfl, HB7⟩
      have HB8 : Hid (Below w.heap.size w w4) := HB6.out.trans (HB7.mono HB6.out.size)
      have HL8 : Hid (Lies w4 w.heap.size #[.int .i64 0, .int .i64 0, .int .i64 0] 48) := HL6.out.below HB7 HL6.out.lt
      obtain ⟨c0, c1, c2, f0, f1, f2⟩ := HCE.out _ HL8.out
      unfold stV
      clear HB7 s0 s1 s2
      go_wp2
      exact ret_row rfl w.heap.size 48 #[.int .i64 0, .int .i64 0, .int .i64 0] _ rfl (HFIN.out _ (0, 0, 0) HL8.out HB8.out).1 Tryd.underlying48 rfl infoST ⟨by rw [HXX.out]; rfl, (HFIN.out _ (0, 0, 0) HL8.out HB8.out).2⟩
  · have HXX : Hid (stOf s.data.toList = (0, 0, 0)) := by rw [if_neg (fun h => hi h.1)] at HX; exact HX
    have hi' : isSt S = false := by simpa using hi
    rw [hi']
    go_wp2_with fail
    refine (none_any w2).mono ?_
    rintro e w3 ⟨rfl, HB5⟩
    have HB6 : Hid (Below w.heap.size w w3) := HB4.out.trans (HB5.mono HB4.out.size)
    have HL6 : Hid (Lies w3 w.heap.size #[.int .i64 0, .int .i64 0, .int .i64 0] 48) := HL4.out.below HB5 HL4.out.lt
    obtain ⟨c0, c1, c2, f0, f1, f2⟩ := HCE.out _ HL6.out
    unfold stV
    clear HB5
    go_wp2
    exact ret_row rfl w.heap.size 48 #[.int .i64 0, .int .i64 0, .int .i64 0] _ rfl (HFIN.out _ (0, 0, 0) HL6.out HB6.out).1 Tryd.underlying48 rfl infoST ⟨by rw [HXX.out]; rfl, (HFIN.out _ (0, 0, 0) HL6.out HB6.out).2⟩
end Go.Proofs.YtbfgefgadplcjaaDoor
