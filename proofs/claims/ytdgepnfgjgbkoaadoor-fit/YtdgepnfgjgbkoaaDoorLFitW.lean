/-
  WordFit's walk.
-/
import Derived.Test.YtdgepnfgjgbkoaaDoorFtP
import Derived.Test.YtdgepnfgjgbkoaaDoorCardW17
namespace Go.Proofs.YtdgepnfgjgbkoaaDoor.wordFit
open Go.ChangeShapes Go.WideShapes Go.ChangeAt Go.RowKit
theorem s_emp (s : ByteArray) : s.toList.isEmpty = decide (s.size = 0) := by
  have hd : s.toList = s.data.toList := ByteArray.toList_eq s
  rw [hd]
  have : s.data.toList.length = s.size := by rw [Array.length_toList]; rfl
  rw [← this]
  cases s.data.toList <;> simp
set_option maxHeartbeats 8000000 in
set_option maxRecDepth 100000 in
theorem walk (s : ByteArray) (hs : s.size ≤ 1048576) (w : World) (tb : Tb w) : Calls Tryd.prog 7 #[.string s] w fun e w' => e = .returned (.bool true) ∧ Below w.heap.size w w' := by
  have HTB : Hid (∀ wx, Below w.heap.size w wx → Tb wx) := fun wx h => tb.below h
  have HEL := wenc_any s false hs w tb
  have HES : Hid (∀ wx, Below w.heap.size w wx → Calls Tryd.prog 11 #[.string s, .bool true] wx fun e w' => e = .returned (.tuple #[.string (bS (encW s.data.toList true)), .int .i64 (encE s.data.toList : Nat)]) ∧ Below wx.heap.size wx w') := fun wx h => wenc_any s true hs wx (HTB.out wx h)
  have WAKE : Hid (∀ wx, Below w.heap.size w wx → Calls Tryd.prog 9 #[] wx fun e w' => e = .returned (.bool true) ∧ Below wx.heap.size wx w') := fun wx h => wakes_any wx (HTB.out wx h)
  have hl : s.data.toList.length = s.size := by rw [Array.length_toList]; rfl
  have hl1 := encW_len s.data.toList false
  have hl2 := encW_len s.data.toList true
  have hsh := enc_short s.data.toList
  have HF1 : Hid (Ft (bS (encW s.data.toList false)).data.toList) := by rw [bS_lit]; exact ft_enc _ _
  have HF2 : Hid (Ft (bS (encW s.data.toList true)).data.toList) := by rw [bS_lit]; exact ft_enc _ _
  have hEm := enc_empty s.data.toList
  have z1 : (bS (encW s.data.toList false)).size = (encW s.data.toList false).length := by show (encW s.data.toList false).toArray.size = _; simp
  have z2 : (bS (encW s.data.toList true)).size = (encW s.data.toList true).length := by show (encW s.data.toList true).toArray.size = _; simp
  have hz1 : (bS (encW s.data.toList false)).size ≤ 4294967000 := by omega
  have hz2 : (bS (encW s.data.toList true)).size ≤ 4294967000 := by omega
  have hzz : ¬ (bS (encW s.data.toList false)).size < (bS (encW s.data.toList true)).size := by omega
  have hzz9 : (bS (encW s.data.toList true)).size ≤ (bS (encW s.data.toList false)).size := by omega
  have HEND : Hid ((bS (encW s.data.toList false)).size = 0 ↔ (encE s.data.toList ≠ 0 ∨ s.size = 0)) := by
    show _ ↔ _
    rw [z1, List.length_eq_zero_iff, hEm, ← List.length_eq_zero_iff, hl]
  clear hzz9 tb hl hl1 hl2 hsh hEm z1 z2
  generalize bS (encW s.data.toList false) = T1 at *
  generalize bS (encW s.data.toList true) = T2 at *
  generalize encE s.data.toList = E at *
  go_enter Tryd.func7, Tryd.ntmps7
  go_wp2_with fail
  refine HEL.mono ?_
  rintro e w1 ⟨rfl, hB1⟩
  have HB1 : Hid (Below w.heap.size w w1) := hB1
  clear HEL hB1
  go_wp2_with fail
  refine (HES.out _ HB1.out).mono ?_
  rintro e w2 ⟨rfl, hb2⟩
  have HB2 : Hid (Below w.heap.size w w2) := HB1.out.trans (hb2.mono HB1.out.size)
  clear hb2 HES HB1
  obtain ⟨W3, hW3⟩ : ∃ W3, W3 = w2.alloc (.cells #[.string T1, .string T2] 9) := ⟨_, rfl⟩
  have HB3 : Hid (Below w.heap.size w W3) := by subst hW3; exact HB2.out.alloc HB2.out.size _
  have HL3 : Hid (Lies W3 w2.heap.size #[.string T1, .string T2] 9) := by subst hW3; exact Lies.new w2 _ _
  have HWW : Hid (w2.alloc (.cells #[.string T1, .string T2] 9) = W3) := hW3.symm
  clear hW3 HB2
  go_wp2_with (rw [HWW.out])
  clear HWW
  go_loopw [36] (fun jv wr => ∃ j : Nat, j ≤ 2 ∧ jv = .int .i64 j ∧ Hid (Below w.heap.size w wr) ∧ Hid (Lies wr w2.heap.size #[.string T1, .string T2] 9)) (fun jv _ => 2 - (intOf jv).toNat)
  case atStart => exact ⟨0, by omega, rfl, HB3.out, HL3.out⟩
  case round =>
    obtain ⟨j, hj, rfl, HB, HL⟩ := hrel
    by_cases hlt : j < 2
    · have hlti : (j : Int) < 2 := by omega
      obtain ⟨T, cT, hFT, hzT⟩ : ∃ T : ByteArray, wr.cell? ⟨w2.heap.size, j, none⟩ = some (.string T) ∧ Ft T.data.toList ∧ T.size ≤ 4294967000 := by
        rcases (by omega : j = 0 ∨ j = 1) with rfl | rfl
        · exact ⟨T1, HL.out.cell 0, HF1.out, hz1⟩
        · exact ⟨T2, HL.out.cell 1, HF2.out, hz2⟩
      have HFT : Hid (Ft T.data.toList) := hFT
      clear hFT
      go_wp2_with fail
      go_loopw [9] (fun iv wx => ∃ i : Nat, i ≤ T.size ∧ iv = .int .i64 i ∧ Hid (wx = wr)) (fun iv _ => T.size - (intOf iv).toNat)
      case atStart => exact ⟨0, by omega, rfl, rfl⟩
      case round =>
        obtain ⟨i, hi, rfl, hw⟩ := hrel
        obtain rfl := hw.out
        clear hw
        by_cases hlt2 : i < T.size
        · have hlt2i : (i : Int) < T.size := by omega
          have hch := HFT.out.chr (T[i]) (by exact Array.mem_toList_iff.2 (Array.getElem_mem hlt2))
          go_wp2_with fail
          go_round
          case rel => exact ⟨i + 1, hlt2, by go_num, trivial⟩
          case measure => simp [intOf]; omega
        · obtain rfl : i = T.size := by omega
          have e1 := s_emp T
          by_cases hz : T.size = 0
          · rw [decide_eq_true hz] at e1
            go_wp2_with fail
            go_round
            case rel => exact ⟨j + 1, hlt, by go_num, HB.out, HL.out⟩
            case measure => simp [intOf]; omega
          · rw [decide_eq_false hz] at e1
            obtain ⟨m, hm⟩ := (HTB.out wr HB.out).ml
            have hSp := Tryd.strings_Split T ⟨#[32]⟩ m wr (by omega) hm (by decide)
            have hne : T.data.toList ≠ [] := fun e => hz (by have : T.data.toList.length = T.size := by rw [Array.length_toList]; rfl
                                                             rw [← this, e]; rfl)
            have HPS : Hid (∀ (k : Nat) (x : ByteArray), (Lib.splitB ⟨#[32]⟩ 0 (Lib.countB T ⟨#[32]⟩) T)[k]? = some x → x.size ≤ 75 ∧ Lib.hasPrefix x.data.toList pfx = true ∧ Lib.hasSuffix x.data.toList [63, 61] = true ∧ needW x.data.toList = true) := fun k x h => ft_piece HFT.out hne k x h
            have hPL := Lib.splitB_all ⟨#[32]⟩ (by decide) 0 _ T rfl
            have hcl := Lib.countB_le ⟨#[32]⟩ (by decide) T.size T (Nat.le_refl _)
            generalize Lib.splitB ⟨#[32]⟩ 0 (Lib.countB T ⟨#[32]⟩) T = PS at *
            obtain ⟨N, hN⟩ : ∃ N, N = Lib.countB T ⟨#[32]⟩ + 1 := ⟨_, rfl⟩
            rw [← hN] at hPL hSp
            have hN1 : N ≤ 4294967001 := by omega
            clear hN hcl hm hne
            go_wp2_with fail
            refine hSp.mono ?_
            rintro e w4 ⟨rfl, hw4⟩
            obtain ⟨hp, hhp⟩ : ∃ hp, hp = wr.heap.size := ⟨_, rfl⟩
            rw [← hhp]
            have HB4 : Hid (Below w.heap.size w w4) := by rw [hw4]; exact HB.out.alloc HB.out.size _
            have HL4 : Hid (Lies w4 w2.heap.size #[.string T1, .string T2] 9) := by rw [hw4]; exact HL.out.alloc _
            have HP4 : Hid (Lies w4 hp (PS.map Value.string).toArray 9) := by rw [hw4, hhp]; exact Lies.new wr _ _
            clear hw4 hSp hhp
            go_wp2_with fail
            go_loopw [61] (fun kv wx => ∃ k : Nat, k ≤ N ∧ kv = .int .i64 k ∧ Hid (Below w.heap.size w wx) ∧ Hid (Below w4.heap.size w4 wx)) (fun kv _ => N - (intOf kv).toNat)
            case atStart => exact ⟨0, by omega, rfl, HB4.out, Below.refl _ _⟩
            case round =>
              obtain ⟨k, hk, rfl, HBk, HBB⟩ := hrel
              by_cases hlt3 : k < N
              · have hlt3i : (k : Int) < N := by omega
                obtain ⟨X, hX⟩ : ∃ X, PS[k]? = some X := ⟨PS[k]'(by omega), List.getElem?_eq_getElem (by omega)⟩
                obtain ⟨x1, x2, x3, x4⟩ := HPS.out k X hX
                have cX : wr.cell? ⟨hp, k, none⟩ = some (.string X) := by
                  rw [HBB.out.cell (p := ⟨hp, k, none⟩) HP4.out.lt, HP4.out.cell k]
                  simp [hX]
                have HPF : Hid (∀ wx, Calls Tryd.prog 18 #[.string X, .string ⟨#[61, 63, 85, 84, 70, 45, 56, 63]⟩] wx fun e w' => e = .returned (.bool true) ∧ w' = wx) := fun wx => by
                  have := Tryd.strings_HasPrefix X ⟨#[61, 63, 85, 84, 70, 45, 56, 63]⟩ wx
                  rw [show Lib.hasPrefix X.data.toList (⟨#[61, 63, 85, 84, 70, 45, 56, 63]⟩ : ByteArray).data.toList = true from x2] at this
                  exact this
                have HSF : Hid (∀ wx, Calls Tryd.prog 19 #[.string X, .string ⟨#[63, 61]⟩] wx fun e w' => e = .returned (.bool true) ∧ w' = wx) := fun wx => by
                  have := Tryd.strings_HasSuffix X ⟨#[63, 61]⟩ wx (by omega)
                  rw [show Lib.hasSuffix X.data.toList (⟨#[63, 61]⟩ : ByteArray).data.toList = true from x3] at this
                  exact this
                have HNF : Hid (∀ wx, Below w.heap.size w wx → Calls Tryd.prog 12 #[.string X] wx fun e w' => e = .returned (.bool true) ∧ Below wx.heap.size wx w') := fun wx h => by
                  have := wneeds_any X (by omega) wx (HTB.out wx h)
                  rw [x4] at this
                  exact this
                clear x2 x3 x4 hX
                go_wp2_with fail
                refine (HPF.out _).mono ?_
                rintro e w5 ⟨rfl, rfl⟩
                go_wp2_with fail
                refine (HSF.out _).mono ?_
                rintro e w6 ⟨rfl, rfl⟩
                go_wp2_with fail
                refine (HNF.out _ HBk.out).mono ?_
                rintro e w7 ⟨rfl, hb7⟩
                have HB7 : Hid (Below w.heap.size w w7 ∧ Below w4.heap.size w4 w7) := ⟨HBk.out.trans (hb7.mono HBk.out.size), HBB.out.trans (hb7.mono HBB.out.size)⟩
                clear hb7 cX
                go_wp2_with fail
                go_round
                case rel => exact ⟨k + 1, hlt3, by go_num, HB7.out.1, HB7.out.2⟩
                case measure => simp [intOf]; omega
              · obtain rfl : k = N := by omega
                go_wp2_with fail
                go_round
                case rel => exact ⟨j + 1, hlt, by go_num, HBk.out, HL4.out.below HBB.out HL4.out.lt⟩
                case measure => simp [intOf]; omega
    · obtain rfl : j = 2 := by omega
      have hend := HEND.out
      have e1 := s_emp s
      have e2 := s_emp T1
      clear HF1 HF2 HTB HL3
      have HLAST : (T1.size = 0 ∧ E ≠ 0) ∨ (T1.size = 0 ∧ E = 0 ∧ s.size = 0) ∨ (T1.size ≠ 0 ∧ E = 0 ∧ s.size ≠ 0) := by omega
      clear HEND hend
      rcases HLAST with ⟨h1, h2⟩ | ⟨h1, rfl, h3⟩ | ⟨h1, rfl, h3⟩
      · have hE : ((E : Int) == 0) = false := by rw [beq_eq_false_iff_ne]; omega
        rw [h1] at e2
        go_wp2_with fail
        refine (WAKE.out _ HB.out).mono ?_
        rintro e w3 ⟨rfl, hb3⟩
        have HB3 : Hid (Below w.heap.size w w3) := HB.out.trans (hb3.mono HB.out.size)
        go_wp2
        go_ret
        exact ⟨rfl, HB3.out⟩
      · rw [h1] at e2
        rw [h3] at e1
        go_wp2_with fail
        refine (WAKE.out _ HB.out).mono ?_
        rintro e w3 ⟨rfl, hb3⟩
        have HB3 : Hid (Below w.heap.size w w3) := HB.out.trans (hb3.mono HB.out.size)
        go_wp2
        go_ret
        exact ⟨rfl, HB3.out⟩
      · rw [decide_eq_false h1] at e2
        rw [decide_eq_false h3] at e1
        go_wp2_with fail
        refine (WAKE.out _ HB.out).mono ?_
        rintro e w3 ⟨rfl, hb3⟩
        have HB3 : Hid (Below w.heap.size w w3) := HB.out.trans (hb3.mono HB.out.size)
        go_wp2
        go_ret
        exact ⟨rfl, HB3.out⟩
end Go.Proofs.YtdgepnfgjgbkoaaDoor.wordFit
