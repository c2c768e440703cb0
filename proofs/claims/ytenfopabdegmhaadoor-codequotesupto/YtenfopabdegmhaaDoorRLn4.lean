/-
  The contracts of the document's line and Quote.
-/
import Derived.Test.YtenfopabdegmhaaDoorRQt4
namespace Go.Proofs.YtenfopabdegmhaaDoor
open Go.RowKit

theorem cat_l (s t : ByteArray) : (s ++ t).data.toList = s.data.toList ++ t.data.toList := by simp
theorem cat_n (s t : ByteArray) : (s ++ t).size = s.size + t.size := by rw [← len_list, cat_l, List.length_append, len_list, len_list]
theorem str_eq (s : ByteArray) (l : List UInt8) (h : s.data.toList = l) : s = ⟨l.toArray⟩ := by
  subst h
  apply ByteArray.ext
  simp

set_option maxHeartbeats 4000000 in
set_option maxRecDepth 100000 in
theorem rline_any (s : ByteArray) (w : World) (hs : s.size ≤ 1048576) :
    Calls Tryd.prog 18 #[.string s] w fun e w' => e = .returned (.string ⟨(qrow 0 s.data.toList).toArray⟩) ∧ Below w.heap.size w w' := by
  have HL : Hid (s.data.toList.length = s.size) := len_list s
  have hql := qrow_len s.data.toList 0
  rw [HL.out] at hql
  go_enter Tryd.func18, Tryd.ntmps18
  go_wp2_with fail
  go_loopw [3, 4, 5] (fun o r i wr => ∃ (k : Nat) (X R : ByteArray), k ≤ s.size ∧ i = .int .i64 k ∧ o = .string X ∧ r = .string R ∧ Hid (X.data.toList ++ R.data.toList ++ qrow R.size (s.data.toList.drop k) = qrow 0 s.data.toList) ∧ Hid (Below w.heap.size w wr)) (fun _ _ i _ => s.size - (intOf i).toNat)
  case atStart => exact ⟨0, ⟨#[]⟩, ⟨#[]⟩, by omega, rfl, rfl, rfl, rfl, Below.refl _ _⟩
  case round =>
    obtain ⟨k, X, R, hk, rfl, rfl, rfl, HX, HB⟩ := hrel
    have hxr : X.size + R.size ≤ 6 * s.size := by
      have h := congrArg List.length HX.out
      rw [List.length_append, List.length_append, len_list, len_list] at h
      omega
    by_cases hlt : k < s.size
    · have hll : k < s.data.toList.length := by rw [HL.out]; exact hlt
      have hat := qrow_at s.data.toList k R.size hll
      rw [HL.out] at hat
      have HSG : Hid (∀ b : Bool, b = decide (k + 1 = s.size) → Calls Tryd.prog 29 #[.int .u8 (s[k].toNat : Int), .bool b] wr fun e w' => e = .returned (.string ⟨(signQ s.data.toList[k] (decide (k + 1 = s.size))).toArray⟩) ∧ Below wr.heap.size wr w') := fun b hb => by
        subst hb
        exact rsign_any s[k] _ wr
      have hsl := sign_len s.data.toList[k] (decide (k + 1 = s.size))
      generalize signQ s.data.toList[k] (decide (k + 1 = s.size)) = T at HSG hsl hat
      obtain ⟨TS, hTS⟩ : ∃ TS : ByteArray, TS = ⟨T.toArray⟩ := ⟨_, rfl⟩
      have hTL : TS.data.toList = T := by rw [hTS]
      have hTN : TS.size = T.length := by rw [← len_list, hTL]
      rw [← hTS] at HSG
      rw [← hTN] at hsl hat
      have HXX : Hid _ := HX.out
      rw [hat] at HXX
      have HTL : Hid (TS.data.toList = T) := hTL
      clear hat hTS hTL hTN HX
      have nc1 : ¬ 9223372036854775807 < R.size + TS.size := by omega
      have nc2 : ¬ 9223372036854775807 < X.size + R.size := by omega
      have nc3 : ¬ 9223372036854775807 < X.size + R.size + 3 := by omega
      by_cases hlast : k + 1 = s.size
      · have hlb : ((k : Int) == (s.size : Int) - 1) = true := by simp; omega
        have HS2 := HSG.out true (by simp [hlast])
        have HS3 : Hid _ := HS2
        rw [if_pos hlast, Nat.add_zero] at HXX
        clear HS2 HSG
        by_cases hbr : 76 < R.size + TS.size
        · have HN : Hid ((X ++ R ++ (⟨#[61, 13, 10]⟩ : ByteArray)).data.toList ++ TS.data.toList ++ qrow TS.size (s.data.toList.drop (k + 1)) = qrow 0 s.data.toList) := by
            show _ = _
            have := HXX.out
            rw [if_pos hbr] at this
            rw [← this, cat_l, cat_l, HTL.out]
            simp
          clear HXX
          have g75 : ¬ (R.size : Int) + (TS.size : Int) ≤ 75 := by omega
          have g76 : ¬ (R.size : Int) + (TS.size : Int) ≤ 76 := by omega
          clear hbr hlast
          go_wp2_with fail
          refine Calls.mono HS3.out ?_
          rintro e w1 ⟨rfl, hb1⟩
          have HB1 : Hid (Below w.heap.size w w1) := HB.out.trans (hb1.mono HB.out.size)
          clear hb1 HB HS3
          go_wp2
          go_roundw
          case rel => exact ⟨k + 1, X ++ R ++ (⟨#[61, 13, 10]⟩ : ByteArray), TS, by omega, by go_num, rfl, rfl, HN, HB1⟩
          case measure => simp [intOf] <;> omega
        · have HN : Hid (X.data.toList ++ (R ++ TS).data.toList ++ qrow (R ++ TS).size (s.data.toList.drop (k + 1)) = qrow 0 s.data.toList) := by
            show _ = _
            have := HXX.out
            rw [if_neg hbr] at this
            rw [← this, cat_l, cat_n, HTL.out]
            simp
          clear HXX
          have g76 : (R.size : Int) + (TS.size : Int) ≤ 76 := by omega
          clear hlast
          by_cases h75 : (R.size : Int) + (TS.size : Int) ≤ 75
          · clear hbr
            go_wp2_with fail
            refine Calls.mono HS3.out ?_
            rintro e w1 ⟨rfl, hb1⟩
            have HB1 : Hid (Below w.heap.size w w1) := HB.out.trans (hb1.mono HB.out.size)
            clear hb1 HB HS3
            go_wp2
            go_roundw
            case rel => exact ⟨k + 1, X, R ++ TS, by omega, by go_num, rfl, rfl, HN, HB1⟩
            case measure => simp [intOf] <;> omega
          · clear hbr
            go_wp2_with fail
            refine Calls.mono HS3.out ?_
            rintro e w1 ⟨rfl, hb1⟩
            have HB1 : Hid (Below w.heap.size w w1) := HB.out.trans (hb1.mono HB.out.size)
            clear hb1 HB HS3
            go_wp2
            go_roundw
            case rel => exact ⟨k + 1, X, R ++ TS, by omega, by go_num, rfl, rfl, HN, HB1⟩
            case measure => simp [intOf] <;> omega
      · have hlb : ((k : Int) == (s.size : Int) - 1) = false := by simp; omega
        have HS2 := HSG.out false (by simp [hlast])
        have HS3 : Hid _ := HS2
        rw [if_neg hlast] at HXX
        clear HS2 HSG
        by_cases hbr : 76 < R.size + TS.size + 1
        · have HN : Hid ((X ++ R ++ (⟨#[61, 13, 10]⟩ : ByteArray)).data.toList ++ TS.data.toList ++ qrow TS.size (s.data.toList.drop (k + 1)) = qrow 0 s.data.toList) := by
            show _ = _
            have := HXX.out
            rw [if_pos hbr] at this
            rw [← this, cat_l, cat_l, HTL.out]
            simp
          clear HXX
          have g75 : ¬ (R.size : Int) + (TS.size : Int) ≤ 75 := by omega
          clear hbr
          go_wp2_with fail
          refine Calls.mono HS3.out ?_
          rintro e w1 ⟨rfl, hb1⟩
          have HB1 : Hid (Below w.heap.size w w1) := HB.out.trans (hb1.mono HB.out.size)
          clear hb1 HB HS3
          go_wp2
          go_roundw
          case rel => exact ⟨k + 1, X ++ R ++ (⟨#[61, 13, 10]⟩ : ByteArray), TS, by omega, by go_num, rfl, rfl, HN, HB1⟩
          case measure => simp [intOf] <;> omega
        · have HN : Hid (X.data.toList ++ (R ++ TS).data.toList ++ qrow (R ++ TS).size (s.data.toList.drop (k + 1)) = qrow 0 s.data.toList) := by
            show _ = _
            have := HXX.out
            rw [if_neg hbr] at this
            rw [← this, cat_l, cat_n, HTL.out]
            simp
          clear HXX
          have h75 : (R.size : Int) + (TS.size : Int) ≤ 75 := by omega
          clear hbr
          go_wp2_with fail
          refine Calls.mono HS3.out ?_
          rintro e w1 ⟨rfl, hb1⟩
          have HB1 : Hid (Below w.heap.size w w1) := HB.out.trans (hb1.mono HB.out.size)
          clear hb1 HB HS3
          go_wp2
          go_roundw
          case rel => exact ⟨k + 1, X, R ++ TS, by omega, by go_num, rfl, rfl, HN, HB1⟩
          case measure => simp [intOf] <;> omega
    · have HE : Hid (X ++ R = ⟨(qrow 0 s.data.toList).toArray⟩) := by
        refine str_eq _ _ ?_
        have := HX.out
        rw [List.drop_eq_nil_of_le (by rw [HL.out]; omega), qrow, List.append_nil] at this
        rw [cat_l]
        exact this
      have nc2 : ¬ 9223372036854775807 < X.size + R.size := by omega
      go_wp2
      go_ret
      exact ⟨by rw [← HE.out]; rfl, HB.out⟩
set_option maxHeartbeats 4000000 in
set_option maxRecDepth 100000 in
theorem rquote_any (a : Option Addr) (l : List UInt8) (cap n : Nat) (w : World) (hn : n = l.length) (hb : Bts a l w) (hl : l.length ≤ 1048576) :
    Calls Tryd.prog 8 #[.slice a n cap] w fun e w' => e = .returned (.string ⟨(quoteL l).toArray⟩) ∧ Below w.heap.size w w' := by
  have cv := bts_back hb cap
  rw [← hn] at cv
  obtain ⟨s, hS⟩ : ∃ s : ByteArray, s = ⟨l.toArray⟩ := ⟨_, rfl⟩
  have hSL : s.data.toList = l := by rw [hS]
  have hsz : s.size = l.length := by rw [← len_list, hSL]
  rw [← hS] at cv
  have hs : s.size ≤ 1048576 := by omega
  have hql := quote_len l
  rw [← hSL, len_list] at hql
  have HL : Hid (s.data.toList.length = s.size) := len_list s
  rw [← hSL]
  have HLN : Hid (∀ (j k : Nat) (wx : World), Calls Tryd.prog 18 #[.string (s.extract j k)] wx fun e w' => ∃ L : ByteArray, e = .returned (.string L) ∧ L.data.toList = qrow 0 ((s.data.toList.take k).drop j) ∧ L.size ≤ 6291456 ∧ Below wx.heap.size wx w') := fun j k wx => by
    have hez : (s.extract j k).size ≤ 1048576 := by rw [ByteArray.size_extract]; omega
    refine (rline_any (s.extract j k) wx hez).mono ?_
    rintro e w' ⟨rfl, hb⟩
    have he := ext_list s j k
    have hq := qrow_len (s.extract j k).data.toList 0
    rw [len_list] at hq
    refine ⟨_, rfl, ?_, ?_, hb⟩
    · rw [← he]
    · rw [← len_list]
      show (qrow 0 (s.extract j k).data.toList).toArray.toList.length ≤ _
      simp only
      omega
  clear hS hSL hsz hb hl hn
  go_enter Tryd.func8, Tryd.ntmps8
  go_wp2_with fail
  clear cv
  go_loopw [4, 5, 6] (fun o fr i wr => ∃ (k j : Nat) (X : ByteArray), k ≤ s.size ∧ j ≤ s.size ∧ i = .int .i64 k ∧ fr = .int .i64 j ∧ o = .string X ∧ X.size ≤ 8388608 ∧ Hid (Qd s.data.toList k j X.data.toList) ∧ Hid (Below w.heap.size w wr)) (fun _ _ i _ => s.size - (intOf i).toNat)
  case atStart => exact ⟨0, 0, ⟨#[]⟩, by omega, by omega, rfl, rfl, rfl, by show 0 ≤ _; omega, Qd.start _, Below.refl _ _⟩
  case round =>
    obtain ⟨k, j, X, hk, hj, rfl, rfl, rfl, hx, HQ, HB⟩ := hrel
    by_cases hlt : k + 1 < s.size
    · have hk1 : k < s.size := by omega
      have h0 : s.data.toList[k]? = some s[k] := by rw [List.getElem?_eq_getElem (by rw [HL.out]; omega)]; rfl
      have h1 : s.data.toList[k + 1]? = some s[k + 1] := by rw [List.getElem?_eq_getElem (by rw [HL.out]; omega)]; rfl
      by_cases h13 : s[k].toNat = 13
      · by_cases h10 : s[k + 1].toNat = 10
        · obtain ⟨hjk, hq⟩ := HQ.out.hit (by rw [h0, UInt8.toNat_inj.1 (show s[k].toNat = (13 : UInt8).toNat from h13)]) (by rw [h1, UInt8.toNat_inj.1 (show s[k + 1].toNat = (10 : UInt8).toNat from h10)])
          have HQ2 : Hid _ := hq
          have hjI : (j : Int) ≤ (k : Int) := by omega
          clear h0 h1 hq
          go_wp2_with fail
          refine Calls.mono (HLN.out j k wr) ?_
          rintro e w1 ⟨L, rfl, hL, hls, hb1⟩
          have HB1 : Hid (Below w.heap.size w w1) := HB.out.trans (hb1.mono HB.out.size)
          have HQ3 : Hid (Qd s.data.toList (k + 1) (k + 2) (X ++ L ++ (⟨#[13, 10]⟩ : ByteArray)).data.toList) := by
            show Qd _ _ _ _
            rw [cat_l, cat_l, hL]
            exact HQ2.out
          have hx2 : (X ++ L ++ (⟨#[13, 10]⟩ : ByteArray)).size ≤ 8388608 := by
            have h := congrArg List.length HQ3.out.eq
            rw [List.length_append, len_list] at h
            omega
          have nc1 : ¬ 9223372036854775807 < X.size + L.size := by omega
          have nc2 : ¬ 9223372036854775807 < X.size + L.size + 2 := by omega
          clear hb1 HB HQ HQ2 hL
          go_wp2
          go_roundw
          case rel => exact ⟨k + 1, k + 2, X ++ L ++ (⟨#[13, 10]⟩ : ByteArray), by omega, by omega, by go_num, by go_num, rfl, hx2, HQ3, HB1⟩
          case measure => simp [intOf] <;> omega
        · have HQ2 : Hid (Qd s.data.toList (k + 1) j X.data.toList) := HQ.out.next (fun h => h10 (by rw [h1] at h; injection h.2 with h; rw [h]; rfl))
          have n10 : ((s[k + 1].toNat : Int) == 10) = false := by simp; omega
          clear h0 h1 HQ h10
          go_wp2
          go_roundw
          case rel => exact ⟨k + 1, j, X, by omega, hj, by go_num, rfl, rfl, hx, HQ2, HB⟩
          case measure => simp [intOf] <;> omega
      · have HQ2 : Hid (Qd s.data.toList (k + 1) j X.data.toList) := HQ.out.next (fun h => h13 (by rw [h0] at h; injection h.1 with h; rw [h]; rfl))
        have n13 : ((s[k].toNat : Int) == 13) = false := by simp; omega
        clear h0 h1 HQ h13
        go_wp2
        go_roundw
        case rel => exact ⟨k + 1, j, X, by omega, hj, by go_num, rfl, rfl, hx, HQ2, HB⟩
        case measure => simp [intOf] <;> omega
    · have HF : Hid (X.data.toList ++ qrow 0 (s.data.toList.drop j) = quoteL s.data.toList) := HQ.out.fin (by rw [HL.out]; exact hlt)
      have hjI : (j : Int) ≤ (s.size : Int) := by omega
      clear HQ
      go_wp2_with fail
      refine Calls.mono (HLN.out j s.size wr) ?_
      rintro e w1 ⟨L, rfl, hL, hls, hb1⟩
      have HB1 : Hid (Below w.heap.size w w1) := HB.out.trans (hb1.mono HB.out.size)
      have HE : Hid (X ++ L = ⟨(quoteL s.data.toList).toArray⟩) := by
        refine str_eq _ _ ?_
        rw [cat_l, hL, List.take_of_length_le (by rw [HL.out]; exact Nat.le_refl _)]
        exact HF.out
      have nc1 : ¬ 9223372036854775807 < X.size + L.size := by omega
      clear hb1 HB HF hL
      go_wp2
      go_ret
      exact ⟨by rw [← HE.out]; rfl, HB1.out⟩
end Go.Proofs.YtenfopabdegmhaaDoor
