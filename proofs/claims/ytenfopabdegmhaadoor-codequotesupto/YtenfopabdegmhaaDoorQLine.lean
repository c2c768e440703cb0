/-
  The program's quoteLine.
-/
import Derived.Test.YtenfopabdegmhaaDoorQt
namespace Go.Proofs.YtenfopabdegmhaaDoor
open Go.RowKit

set_option maxHeartbeats 4000000 in
set_option maxRecDepth 100000 in
theorem qline_any (B : Nat) (v : Value) (X : List UInt8) (a : Option Addr) (l : List UInt8) (cap n : Nat) (w : World) (ht : Table w) (ho : w.ownsRow B 5 1 v X.length (cellsB X)) (hB : B ≤ w.heap.size) (hn : n = l.length) (hb : Bts a l w) (hcap : n ≤ cap) (hcap2 : cap ≤ 9223372036854775807)
    (hab : l ≠ [] → ∀ ad, a = some ad → ad.block < B) (hx : X.length + 6 * l.length ≤ 140737488355000) (hgcl : 1 < B) :
    Calls Tryd.prog 17 #[v, .slice a n cap] w fun e w' => ∃ v', e = .returned v' ∧ w'.ownsRow B 5 1 v' (X ++ qrow 0 l).length (cellsB (X ++ qrow 0 l)) ∧ Below B w w' := by
  obtain ⟨i0, hi, hz0, hz1, hz2⟩ := info_parts info5
  have HT : Hid (Table w) := ht
  have HBT : Hid (Bts a l w) := hb
  have HN : Hid (n = l.length) := hn
  have HO0 : Hid (w.ownsRow B 5 1 v X.length (cellsB X)) := ho
  have HAB : Hid (l ≠ [] → ∀ ad, a = some ad → ad.block < B) := hab
  have hql := qrow_len l 0
  rw [← hn] at hx hql
  clear ht hb hn ho hab
  go_enter Tryd.func17, Tryd.ntmps17
  go_wp2_with fail
  go_loopw [0, 5, 12] (fun t rm i wr => ∃ (k r : Nat) (D : List UInt8), k ≤ n ∧ i = .int .i64 k ∧ r ≤ 76 ∧ rm = .int .i64 (76 - (r : Int)) ∧ Hid (D ++ qrow r (l.drop k) = qrow 0 l) ∧ Hid (wr.ownsRow B 5 1 t (X ++ D).length (cellsB (X ++ D))) ∧ Hid (Below B w wr)) (fun _ _ i _ => n - (intOf i).toNat)
  case atStart =>
    refine ⟨0, 0, [], by omega, rfl, by omega, rfl, rfl, ?_, Below.refl _ _⟩
    show World.ownsRow _ _ _ _ _ _ _
    rw [List.append_nil]
    exact HO0.out
  case round =>
    clear HO0
    obtain ⟨k, r, D, hk, rfl, hr, rfl, HD, HO, HBe⟩ := hrel
    have hsz := HBe.out.size
    by_cases hlt : k < n
    · have hkl : k < l.length := by rw [← HN.out]; exact hlt
      obtain ⟨g, o, rfl, hg, hc⟩ := HBT.out.cell k hkl
      have hgB : g < B := HAB.out (fun e => by rw [e] at hkl; simp at hkl) _ rfl
      have HTr : Hid (Table wr) := by
        intro c hcc
        rw [HBe.out.cell (p := ⟨1, c, none⟩) hgcl]
        exact HT.out c hcc
      have hdl : D.length ≤ 6 * n := by
        have := congrArg List.length HD.out
        rw [List.length_append] at this
        omega
      obtain ⟨c, hce⟩ : ∃ c, c = l[k] := ⟨_, rfl⟩
      have hq := qrow_at l k r hkl
      rw [← hce, ← HN.out] at hq
      have hs := sign_len c (decide (k + 1 = n))
      have HSG : Hid (∀ (kk : Nat) (b : Bool), b = decide (k + 1 = n) → Calls Tryd.prog 28 #[.slice (some ⟨g, o + k, none⟩) 1 kk, .bool b] wr fun e w' => e = .returned (.string ⟨(signQ c (decide (k + 1 = n))).toArray⟩) ∧ Below wr.heap.size wr w') := fun kk b hbb => by
        subst hbb
        refine sign_any c _ g (o + k) kk wr HTr.out (.inr ⟨g, o + k, rfl, Nat.lt_of_lt_of_le hg HBe.out.size, fun j hj => ?_⟩)
        obtain rfl : j = 0 := by simpa using hj
        simp only [Nat.add_zero, List.getElem_cons_zero]
        rw [HBe.out.cell (p := ⟨g, o + k, none⟩) hgB, hc, hce]
      have HQ : Hid (D ++ qrow r (l.drop k) = qrow 0 l) := HD.out
      rw [hq] at HQ
      have HQQ := HQ
      clear hq HD HQ
      obtain ⟨S, hS⟩ : ∃ S, S = signQ c (decide (k + 1 = n)) := ⟨_, rfl⟩
      rw [← hS] at HSG hs HQQ
      obtain ⟨T, rfl⟩ : ∃ T : ByteArray, S = T.data.toList := ⟨⟨S.toArray⟩, by simp⟩
      have hTT : (⟨T.data.toList.toArray⟩ : ByteArray) = T := by simp
      rw [hTT] at HSG
      rw [len_list] at hs
      simp only [len_list] at HQQ
      clear hTT hS
      obtain ⟨hs1, hs3⟩ := hs
      have HC : Hid (c = l[k]) := hce
      clear hce hc
      have htl : (X ++ D).length ≤ 140737488355000 := by rw [List.length_append]; omega
      obtain ⟨Y, hYe⟩ : ∃ Y, Y = X ++ D := ⟨_, rfl⟩
      rw [← hYe] at htl HO
      have HY : Hid (Y = X ++ D) := hYe
      obtain ⟨y, hye⟩ : ∃ y, y = Y.length := ⟨_, rfl⟩
      rw [← hye] at htl HO
      have Hy : Hid (y = Y.length) := hye
      clear hYe hye
      by_cases hl : k + 1 = n
      · have hli : ((k : Int) == (n : Int) - 1) = true := by simp; omega
        have HSG1 : Hid (∀ kk, Calls Tryd.prog 28 #[.slice (some ⟨g, o + k, none⟩) 1 kk, .bool true] wr fun e w' => e = .returned (.string T) ∧ Below wr.heap.size wr w') := fun kk => HSG.out kk true (by simp [hl])
        rw [if_pos hl, Nat.add_zero] at HQQ
        clear HSG hl
        by_cases hbr : 76 < r + T.size
        · have HD4 : Hid ((D ++ 61 :: 13 :: 10 :: T.data.toList) ++ qrow T.size (l.drop (k + 1)) = qrow 0 l) := by
            show _ = _
            have := HQQ.out
            rw [if_pos hbr] at this
            rw [← this]
            simp
          have hgt : (76 : Int) - (r : Int) < (T.size : Int) := by omega
          clear HQQ hbr
          go_wp2_with fail
          refine Calls.mono (HSG1.out _) ?_
          rintro e w1 ⟨rfl, hb1⟩
          have HO1 : Hid (w1.ownsRow B 5 1 u0 y (cellsB Y)) := own_below HO.out hb1
          have HB1 : Hid (Below B w w1) := HBe.out.trans (hb1.mono (Nat.le_trans hB hsz))
          have hz1' : B ≤ w1.heap.size := Nat.le_trans hB HB1.out.size
          clear hb1 HO HBe HTr
          go_wp2_with (first
            | (at_builtin; refine wpList_append_byte rfl _ _ rfl B _ _ _ rfl (HO1.out.alloc _) w1 61 _ rfl rfl 1 rfl (by omega) hz1' ?_; intro v2 w2 ho2 hb2; have HO2 : Hid (w2.ownsRow B 5 1 v2 (y + 1) (cellsB (Y ++ [61]))) := ho2; clear ho2; have HB2 : Hid (Below B w w2) := hb2 _ _ HB1.out (Nat.le_refl _); have hz2' : B ≤ w2.heap.size := Nat.le_trans hz1' (hb2 _ _ (Below.refl B w1) (Nat.le_refl _)).size; clear hb2)
            | (at_builtin; refine Lib.wpList_append_own_string _ rfl _ _ 22 9 rfl B 5 i0 Tryd.underlying22 Tryd.underlying9 hi hz0 hz1 hz2 _ _ _ rfl HO2.out ⟨#[13, 10]⟩ rfl (by unfold maxLen; have h2 : (⟨#[13, 10]⟩ : ByteArray).size = 2 := rfl; omega) (by have h2 : (⟨#[13, 10]⟩ : ByteArray).size = 2 := rfl; omega) hz2' ?_; intro v3 w3 ho3 hg3 _; have HO3 : Hid (w3.ownsRow B 5 1 v3 (y + 1 + 2) (cellsB (Y ++ [61]) ++ cellsB [13, 10])) := ho3; clear ho3; have hz3' : B ≤ w3.heap.size := Nat.le_trans hz2' hg3.size; have HB3 : Hid (Below B w w3) := HB2.out.grown hg3 hz2' (fun q hq => (HO2.out.lt q hq).1); clear hg3)
            | (at_builtin; refine Lib.wpList_append_own_string _ rfl _ _ 22 9 rfl B 5 i0 Tryd.underlying22 Tryd.underlying9 hi hz0 hz1 hz2 _ _ _ rfl HO3.out T rfl (by unfold maxLen; omega) (by omega) hz3' ?_; intro v4 w4 ho4 hg4 _; have HO4' : Hid (w4.ownsRow B 5 1 v4 (y + 1 + 2 + T.size) (cellsB (Y ++ [61]) ++ cellsB [13, 10] ++ cellsB T.data.toList)) := ho4; have HB4 : Hid (Below B w w4) := HB3.out.grown hg4 hz3' (fun q hq => (HO3.out.lt q hq).1); clear ho4 hg4))
          have HO4 : Hid (w4.ownsRow B 5 1 v4 (X ++ (D ++ 61 :: 13 :: 10 :: T.data.toList)).length (cellsB (X ++ (D ++ 61 :: 13 :: 10 :: T.data.toList)))) := by
            show World.ownsRow _ _ _ _ _ _ _
            have e : X ++ (D ++ 61 :: 13 :: 10 :: T.data.toList) = (Y ++ [61]) ++ [13, 10] ++ T.data.toList := by rw [HY.out]; simp
            have e2 : ((Y ++ [61]) ++ [13, 10] ++ T.data.toList).length = y + 1 + 2 + T.size := by
              rw [List.length_append, List.length_append, List.length_append, len_list, Hy.out]
              rfl
            rw [e, e2, cellsB_append, cellsB_append]
            exact HO4'.out
          clear HO2 HO3 HB2 HB3 HO1 HB1 HO4'
          go_roundw
          case rel => exact ⟨k + 1, T.size, D ++ 61 :: 13 :: 10 :: T.data.toList, by omega, by go_num, by omega, by go_num, HD4, HO4, HB4⟩
          case measure => simp [intOf]; omega
        · have HD4 : Hid ((D ++ T.data.toList) ++ qrow (r + T.size) (l.drop (k + 1)) = qrow 0 l) := by
            show _ = _
            have := HQQ.out
            rw [if_neg hbr] at this
            rw [← this]
            simp
          have hgt : ¬ (76 : Int) - (r : Int) < (T.size : Int) := by omega
          clear HQQ
          go_wp2_with fail
          refine Calls.mono (HSG1.out _) ?_
          rintro e w1 ⟨rfl, hb1⟩
          have HO1 : Hid (w1.ownsRow B 5 1 u0 y (cellsB Y)) := own_below HO.out hb1
          have HB1 : Hid (Below B w w1) := HBe.out.trans (hb1.mono (Nat.le_trans hB hsz))
          have hz1' : B ≤ w1.heap.size := Nat.le_trans hB HB1.out.size
          clear hb1 HO HBe HTr
          go_wp2_with (at_builtin; refine Lib.wpList_append_own_string _ rfl _ _ 22 9 rfl B 5 i0 Tryd.underlying22 Tryd.underlying9 hi hz0 hz1 hz2 _ _ _ rfl HO1.out T rfl (by unfold maxLen; omega) (by omega) hz1' ?_)
          intro v4 w4 ho4 hg4 _
          have HO4 : Hid (w4.ownsRow B 5 1 v4 (X ++ (D ++ T.data.toList)).length (cellsB (X ++ (D ++ T.data.toList)))) := by
            show World.ownsRow _ _ _ _ _ _ _
            rw [← List.append_assoc, ← HY.out, List.length_append, len_list, ← Hy.out, cellsB_append]
            exact ho4
          have HB4 : Hid (Below B w w4) := HB1.out.grown hg4 hz1' (fun q hq => (HO1.out.lt q hq).1)
          clear ho4 hg4 HO1 HB1
          go_wp2
          go_roundw
          case rel => exact ⟨k + 1, r + T.size, D ++ T.data.toList, by omega, by go_num, by omega, by go_num, HD4, HO4, HB4⟩
          case measure => simp [intOf]; omega
      · have hli : ((k : Int) == (n : Int) - 1) = false := by simp; omega
        have HSG1 : Hid (∀ kk, Calls Tryd.prog 28 #[.slice (some ⟨g, o + k, none⟩) 1 kk, .bool false] wr fun e w' => e = .returned (.string T) ∧ Below wr.heap.size wr w') := fun kk => HSG.out kk false (by simp [hl])
        rw [if_neg hl] at HQQ
        clear HSG
        by_cases hbr : 76 < r + T.size + 1
        · have HD4 : Hid ((D ++ 61 :: 13 :: 10 :: T.data.toList) ++ qrow T.size (l.drop (k + 1)) = qrow 0 l) := by
            show _ = _
            have := HQQ.out
            rw [if_pos hbr] at this
            rw [← this]
            simp
          have hgt : (76 : Int) - (r : Int) < (T.size : Int) + 1 := by omega
          clear HQQ hbr
          go_wp2_with fail
          refine Calls.mono (HSG1.out _) ?_
          rintro e w1 ⟨rfl, hb1⟩
          have HO1 : Hid (w1.ownsRow B 5 1 u0 y (cellsB Y)) := own_below HO.out hb1
          have HB1 : Hid (Below B w w1) := HBe.out.trans (hb1.mono (Nat.le_trans hB hsz))
          have hz1' : B ≤ w1.heap.size := Nat.le_trans hB HB1.out.size
          clear hb1 HO HBe HTr
          go_wp2_with (first
            | (at_builtin; refine wpList_append_byte rfl _ _ rfl B _ _ _ rfl (HO1.out.alloc _) w1 61 _ rfl rfl 1 rfl (by omega) hz1' ?_; intro v2 w2 ho2 hb2; have HO2 : Hid (w2.ownsRow B 5 1 v2 (y + 1) (cellsB (Y ++ [61]))) := ho2; clear ho2; have HB2 : Hid (Below B w w2) := hb2 _ _ HB1.out (Nat.le_refl _); have hz2' : B ≤ w2.heap.size := Nat.le_trans hz1' (hb2 _ _ (Below.refl B w1) (Nat.le_refl _)).size; clear hb2)
            | (at_builtin; refine Lib.wpList_append_own_string _ rfl _ _ 22 9 rfl B 5 i0 Tryd.underlying22 Tryd.underlying9 hi hz0 hz1 hz2 _ _ _ rfl HO2.out ⟨#[13, 10]⟩ rfl (by unfold maxLen; have h2 : (⟨#[13, 10]⟩ : ByteArray).size = 2 := rfl; omega) (by have h2 : (⟨#[13, 10]⟩ : ByteArray).size = 2 := rfl; omega) hz2' ?_; intro v3 w3 ho3 hg3 _; have HO3 : Hid (w3.ownsRow B 5 1 v3 (y + 1 + 2) (cellsB (Y ++ [61]) ++ cellsB [13, 10])) := ho3; clear ho3; have hz3' : B ≤ w3.heap.size := Nat.le_trans hz2' hg3.size; have HB3 : Hid (Below B w w3) := HB2.out.grown hg3 hz2' (fun q hq => (HO2.out.lt q hq).1); clear hg3)
            | (at_builtin; refine Lib.wpList_append_own_string _ rfl _ _ 22 9 rfl B 5 i0 Tryd.underlying22 Tryd.underlying9 hi hz0 hz1 hz2 _ _ _ rfl HO3.out T rfl (by unfold maxLen; omega) (by omega) hz3' ?_; intro v4 w4 ho4 hg4 _; have HO4' : Hid (w4.ownsRow B 5 1 v4 (y + 1 + 2 + T.size) (cellsB (Y ++ [61]) ++ cellsB [13, 10] ++ cellsB T.data.toList)) := ho4; have HB4 : Hid (Below B w w4) := HB3.out.grown hg4 hz3' (fun q hq => (HO3.out.lt q hq).1); clear ho4 hg4))
          have HO4 : Hid (w4.ownsRow B 5 1 v4 (X ++ (D ++ 61 :: 13 :: 10 :: T.data.toList)).length (cellsB (X ++ (D ++ 61 :: 13 :: 10 :: T.data.toList)))) := by
            show World.ownsRow _ _ _ _ _ _ _
            have e : X ++ (D ++ 61 :: 13 :: 10 :: T.data.toList) = (Y ++ [61]) ++ [13, 10] ++ T.data.toList := by rw [HY.out]; simp
            have e2 : ((Y ++ [61]) ++ [13, 10] ++ T.data.toList).length = y + 1 + 2 + T.size := by
              rw [List.length_append, List.length_append, List.length_append, len_list, Hy.out]
              rfl
            rw [e, e2, cellsB_append, cellsB_append]
            exact HO4'.out
          clear HO2 HO3 HB2 HB3 HO1 HB1 HO4'
          go_roundw
          case rel => exact ⟨k + 1, T.size, D ++ 61 :: 13 :: 10 :: T.data.toList, by omega, by go_num, by omega, by go_num, HD4, HO4, HB4⟩
          case measure => simp [intOf]; omega
        · have HD4 : Hid ((D ++ T.data.toList) ++ qrow (r + T.size) (l.drop (k + 1)) = qrow 0 l) := by
            show _ = _
            have := HQQ.out
            rw [if_neg hbr] at this
            rw [← this]
            simp
          have hgt : ¬ (76 : Int) - (r : Int) < (T.size : Int) + 1 := by omega
          clear HQQ
          go_wp2_with fail
          refine Calls.mono (HSG1.out _) ?_
          rintro e w1 ⟨rfl, hb1⟩
          have HO1 : Hid (w1.ownsRow B 5 1 u0 y (cellsB Y)) := own_below HO.out hb1
          have HB1 : Hid (Below B w w1) := HBe.out.trans (hb1.mono (Nat.le_trans hB hsz))
          have hz1' : B ≤ w1.heap.size := Nat.le_trans hB HB1.out.size
          clear hb1 HO HBe HTr
          go_wp2_with (at_builtin; refine Lib.wpList_append_own_string _ rfl _ _ 22 9 rfl B 5 i0 Tryd.underlying22 Tryd.underlying9 hi hz0 hz1 hz2 _ _ _ rfl HO1.out T rfl (by unfold maxLen; omega) (by omega) hz1' ?_)
          intro v4 w4 ho4 hg4 _
          have HO4 : Hid (w4.ownsRow B 5 1 v4 (X ++ (D ++ T.data.toList)).length (cellsB (X ++ (D ++ T.data.toList)))) := by
            show World.ownsRow _ _ _ _ _ _ _
            rw [← List.append_assoc, ← HY.out, List.length_append, len_list, ← Hy.out, cellsB_append]
            exact ho4
          have HB4 : Hid (Below B w w4) := HB1.out.grown hg4 hz1' (fun q hq => (HO1.out.lt q hq).1)
          clear ho4 hg4 HO1 HB1
          go_wp2
          go_roundw
          case rel => exact ⟨k + 1, r + T.size, D ++ T.data.toList, by omega, by go_num, by omega, by go_num, HD4, HO4, HB4⟩
          case measure => simp [intOf]; omega
    · have HE : Hid (D = qrow 0 l) := by
        show _ = _
        have := HD.out
        rw [List.drop_eq_nil_of_le (by rw [← HN.out]; omega)] at this
        simpa [qrow] using this
      go_wp2
      go_ret
      exact ⟨_, rfl, by rw [← HE.out]; exact HO.out, HBe.out⟩
end Go.Proofs.YtenfopabdegmhaaDoor
