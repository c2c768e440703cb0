/-
  FieldFoldBack's walk.
-/
import Derived.Test.YtpepjiocjcjeeabDoorSht
import Derived.Test.YtpepjiocjcjeeabDoorDt16
import Derived.Test.YtpepjiocjcjeeabDoorCardF16
namespace Go.Proofs.YtpepjiocjcjeeabDoor.fieldFoldBack
open Go.ChangeShapes Go.WideShapes Go.ChangeAt Go.RowKit
theorem bulk_string {H : Type} {s : ByteArray} {l : List (DataW H)} (hk : Rows.uptoSmall H l = true) (h : DataW.lit (.string s.data.toList) ∈ l) : s.size ≤ 1048576 := by
  have h1 : Rows.uptoBulkAll l ≤ 1048576 := of_decide_eq_true hk
  have h2 := bulk_mem h
  simp only [Rows.uptoBulk] at h2
  rw [len_list] at h2
  omega

/-- What Fold tells when it folds. -/
theorem fold_ok {nm l : List UInt8} {most : Int} (h : (foldF nm l most).1 = 0) : ∃ (mo : Nat) (T : List UInt8), most = (mo : Int) ∧ mo ≤ 998 ∧ nmB nm = true ∧ (∀ c ∈ l, crB c = false) ∧ foldF nm l most = (0, ⟨nm, T⟩) ∧ FB l mo 0 (nm.length + 1) T := by
  unfold foldF at h ⊢
  by_cases h1 : nmB nm = false ∨ rwE l 0 < l.length
  · rw [if_pos h1] at h; cases h
  · rw [if_neg h1] at h ⊢
    by_cases h2 : most < 1 ∨ 998 < most
    · rw [if_pos h2] at h; cases h
    · rw [if_neg h2] at h ⊢
      obtain ⟨mo, rfl⟩ : ∃ mo : Nat, most = (mo : Int) := ⟨most.toNat, by omega⟩
      have hS : StR (foldE nm (foldR l (cuts l (nm.length + 1) mo) (nm.length + 1) [])) nm l mo 0 (nm.length + 1) [] := str_start rfl
      have hnm : nmB nm = true := by
        cases hb : nmB nm with
        | true => rfl
        | false => exact absurd (.inl hb) h1
      obtain ⟨T, k1, k2⟩ := fb_of (show (foldE nm (foldR l (cuts l (nm.length + 1) mo) (nm.length + 1) [])).1 = 0 from h) _ 0 _ [] rfl hS (Nat.zero_le _) (by omega)
      exact ⟨mo, T, rfl, by omega, hnm, no_of (fun hc => h1 (.inr hc)), Prod.ext h k1, k2⟩
theorem fold_bad {nm l : List UInt8} {most : Int} (h : (foldF nm l most).1 ≠ 0) : (foldF nm l most).2 = ⟨[], []⟩ := by
  unfold foldF at h ⊢
  split
  · rfl
  · split
    · rfl
    · rename_i h1 h2
      rw [if_neg h1, if_neg h2] at h
      cases hr : foldR l (cuts l (nm.length + 1) most.toNat) (nm.length + 1) [] with
      | none => rfl
      | some b => rw [hr] at h; exact absurd rfl h
theorem drop_cut (X : ByteArray) (n : Nat) : (X.extract n X.size).data.toList = X.data.toList.drop n := by
  rw [ext_list, List.take_of_length_le (by rw [len_list]; exact Nat.le_refl _)]
/-- A row of the statement's loop. -/
theorem row_facts {l : List UInt8} {mo b : Nat} {pre T : List UInt8} (hno : ∀ c ∈ l, crB c = false) (hpre : ∀ c ∈ pre, crB c = false) (h : FB l mo b pre.length T) (hb : b ≤ l.length) (hb0 : b < l.length ∨ l.length = 0) (X : ByteArray) (hX : X.data.toList = pre ++ T) :
    ∃ N, N ≤ X.size ∧ (∀ k (h : k < X.size), k < N → X[k] ≠ 13) ∧ (∀ (h : N < X.size), X[N] = 13) ∧
      (mo < N → ∀ j, pre.length ≤ j → j + 1 < N → ∀ (h : j + 1 < X.size), blB X[j + 1] = true → blB (X[j]'(Nat.lt_of_succ_lt h)) = false → moreB (X.extract (j + 1) X.size).data.toList = false) ∧
      (N = X.size ∨ (N + 2 ≤ X.size ∧ ∃ e, b < e ∧ e < l.length ∧ FB l mo e 0 (X.extract (N + 2) X.size).data.toList)) := by
  have hf := fb_rowY hno hpre h hb hb0 X.data.toList hX
  have hZ := len_list X
  have hl := crN_le X.data.toList
  rw [len_list] at hl
  refine ⟨crN X.data.toList, hl, fun k hk h2 => crN_in _ k (by rw [len_list]; exact hk) h2, fun hk => crN_stop _ _ (by rw [len_list]; exact hk) rfl, fun hw j h1 h2 h3 h4 h5 => ?_, ?_⟩
  · rw [drop_cut]
    exact hf.1 hw (j + 1) (by omega) h2 (by rw [hZ]; exact h3) h4 h5
  · rw [drop_cut]
    have := hf.2
    rw [hZ] at this
    exact this
/-- The octets of a text. -/
def szV : Value → Nat
  | .string t => t.size
  | _ => 0
set_option maxRecDepth 100000 in
set_option maxHeartbeats 16000000 in
theorem walk (nm : ByteArray) (hn : nm.size ≤ 1048576) (s : ByteArray) (hs : s.size ≤ 1048576) (most : Int) (_hb : -9223372036854775808 ≤ most ∧ most ≤ 9223372036854775807) (w : World) (hT : Table w) :
    Calls Tryd.prog 5 #[.string nm, .string s, .int .i64 most] w fun e w' => e = .returned (.bool true) ∧ Below w.heap.size w w' := by
  have HT : Hid (Table w) := hT
  have HWK : Hid (∀ wx, Table wx → Calls Tryd.prog 7 #[] wx fun e w' => e = .returned (.bool true) ∧ Below wx.heap.size wx w') := fun wx h => wakes_any wx h
  have HP : Hid (∀ wx, Table wx → Calls Tryd.prog 13 #[.string nm, .string s, .int .i64 most] wx fun e w' =>
    e = .returned (.tuple #[.agg #[.string (tx (foldF nm.data.toList s.data.toList most).2.name), .string (tx (foldF nm.data.toList s.data.toList most).2.body)], .int .i64 ((foldF nm.data.toList s.data.toList most).1 : Int)]) ∧ Below wx.heap.size wx w') := fun wx h => ffold_any nm s most (by omega) (by omega) wx h
  have HD : Hid (∀ wx, Calls Tryd.prog 14 #[.string nm, .string s, .int .i64 most] wx fun e w' =>
    e = .returned (.tuple #[.agg #[.string (tx (foldF nm.data.toList s.data.toList most).2.name), .string (tx (foldF nm.data.toList s.data.toList most).2.body)], .int .i64 ((foldF nm.data.toList s.data.toList most).1 : Int)]) ∧ Below wx.heap.size wx w') := fun wx => ufold_any nm s most (by omega) (by omega) wx
  by_cases hE : (foldF nm.data.toList s.data.toList most).1 = 0
  · obtain ⟨mo, T, rfl, hmo, hnm, hno, hR, hFB⟩ := fold_ok hE
    rw [hR] at HP HD
    rw [len_list] at hFB
    have HFB : Hid (FB s.data.toList mo 0 (nm.size + 1) T) := hFB
    have HNO : Hid (∀ c ∈ s.data.toList, crB c = false) := hno
    have hTl := fb_len hFB (Nat.zero_le _)
    rw [len_list] at hTl
    have HCK : Hid (∀ wx, Table wx → Calls Tryd.prog 10 #[.agg #[.string nm, .string (tx T)]] wx fun e w' => e = .returned (.int .i64 0) ∧ Below wx.heap.size wx w') := fun wx h => by
      have := fcheck_any nm (tx T) (by omega) (by rw [tx_size]; omega) wx h
      have e : chkF nm.data.toList (tx T).data.toList = 0 := by
        rw [tx_list]
        unfold chkF
        rw [hnm, if_pos rfl, len_list]
        exact fb_chk hno _ 0 _ [] T 0 rfl hFB (Nat.zero_le _) (by rw [len_list]; omega) (.inl ⟨rfl, rfl, rfl⟩)
      rw [e] at this
      exact this
    have HUN : Hid (∀ wx, Calls Tryd.prog 15 #[.string (tx T)] wx fun e w' => e = .returned (.string s) ∧ Below wx.heap.size wx w') := fun wx => by
      have := unfold_any (tx T) (by rw [tx_size]; omega) wx
      have e : tx (unf (tx T).data.toList) = s := by
        rw [tx_list, fb_unf hno hFB, List.drop_zero, tx_back]
      rw [e] at this
      exact this
    have HPR : Hid (∀ c ∈ nm.data.toList ++ [58], crB c = false) := fun c hc => by
      rcases List.mem_append.1 hc with h | h
      · exact nm_cr _ hnm c h
      · rw [List.mem_singleton.1 h]; rfl
    have HNM : Hid (tx nm.data.toList = nm) := tx_back nm
    simp only [tx_back] at HP HD
    have hc1 : nm ++ (⟨#[58]⟩ : ByteArray) = tx (nm.data.toList ++ [58]) := by
      rw [← tx_cat, tx_back]
      exact rfl
    have hc2 : tx (nm.data.toList ++ [58]) ++ tx T = tx (nm.data.toList ++ [58] ++ T) := tx_cat _ _
    have hs1 : (tx (nm.data.toList ++ [58])).size = nm.size + 1 := by rw [tx_size, List.length_append, len_list]; rfl
    have hs2 : (tx T).size = T.length := tx_size _
    have hmoI : (mo : Int) ≤ 998 := by omega
    clear hE hR hFB hnm hno
    go_enter Tryd.func5, Tryd.ntmps5
    go_wp2_with fail
    refine (HWK.out _ HT.out).mono ?_
    rintro e w1 ⟨rfl, hb1⟩
    have HB1 : Hid (Below w.heap.size w w1) := hb1
    clear hb1 HWK
    go_wp2_with fail
    refine (HP.out _ (tab_below HT.out HB1.out)).mono ?_
    rintro e w2 ⟨rfl, hb2⟩
    have HB2 : Hid (Below w.heap.size w w2) := HB1.out.trans (hb2.mono HB1.out.size)
    clear hb2 HP HB1
    obtain ⟨W2, hW2⟩ : ∃ W2, W2 = w2.alloc (.cells #[.string nm, .string (tx T)] 32) := ⟨_, rfl⟩
    have HW2 : Hid (w2.alloc (.cells #[.string nm, .string (tx T)] 32) = W2) := hW2.symm
    have HS2 : Hid (Lies W2 w2.heap.size #[.string nm, .string (tx T)] 32) := by rw [hW2]; exact Lies.new w2 _ _
    have HC2 : Hid (Below w.heap.size w W2) := by rw [hW2]; exact HB2.out.alloc HB2.out.size _
    clear hW2 HB2
    go_wp2_with fail
    rw [HW2.out]
    refine (HD.out _).mono ?_
    rintro e w3 ⟨rfl, hb3⟩
    have HS3 : Hid (Lies w3 w2.heap.size #[.string nm, .string (tx T)] 32) := HS2.out.below hb3 HS2.out.lt
    have HC3 : Hid (Below w.heap.size w w3) := HC2.out.trans (hb3.mono HC2.out.size)
    clear hb3 HD HW2 HS2 HC2
    obtain ⟨W3, hW3⟩ : ∃ W3, W3 = w3.alloc (.cells #[.string nm, .string (tx T)] 32) := ⟨_, rfl⟩
    have HW3 : Hid (w3.alloc (.cells #[.string nm, .string (tx T)] 32) = W3) := hW3.symm
    have HS4 : Hid (Lies W3 w2.heap.size #[.string nm, .string (tx T)] 32) := by rw [hW3]; exact HS3.out.alloc _
    have HC4 : Hid (Below w.heap.size w W3) := by rw [hW3]; exact HC3.out.alloc HC3.out.size _
    clear hW3 HS3 HC3
    have a0 := HS4.out.cell 0
    have a1 := HS4.out.cell 1
    simp only [List.getElem?_toArray, List.getElem?_cons_zero, List.getElem?_cons_succ] at a0 a1
    go_wp2_with (rw [HW3.out])
    refine (HCK.out _ (tab_below HT.out HC4.out)).mono ?_
    rintro e w4 ⟨rfl, hb4⟩
    have HS5 : Hid (Lies w4 w2.heap.size #[.string nm, .string (tx T)] 32) := HS4.out.below hb4 HS4.out.lt
    have HC5 : Hid (Below w.heap.size w w4) := HC4.out.trans (hb4.mono HC4.out.size)
    clear hb4 HCK HW3 HS4 HC4 a0 a1
    have a0 := HS5.out.cell 0
    have a1 := HS5.out.cell 1
    simp only [List.getElem?_toArray, List.getElem?_cons_zero, List.getElem?_cons_succ] at a0 a1
    go_wp2_with fail
    refine (HUN.out _).mono ?_
    rintro e w5 ⟨rfl, hb5⟩
    have HS6 : Hid (Lies w5 w2.heap.size #[.string nm, .string (tx T)] 32) := HS5.out.below hb5 HS5.out.lt
    have HC6 : Hid (Below w.heap.size w w5) := HC5.out.trans (hb5.mono HC5.out.size)
    clear hb5 HUN HS5 HC5 a0 a1
    have a0 := HS6.out.cell 0
    have a1 := HS6.out.cell 1
    simp only [List.getElem?_toArray, List.getElem?_cons_zero, List.getElem?_cons_succ] at a0 a1
    go_wp2_with fail
    go_loopw [11, 12] (fun rv fv wr => ∃ (b fr : Nat) (X : ByteArray), X.size ≤ 8388608 ∧ fr ≤ X.size ∧ rv = .string X ∧ fv = .int .i64 (fr : Int) ∧ wr = w5 ∧ Hid (b ≤ s.size ∧ (b < s.size ∨ s.size = 0)) ∧ Hid (∃ pre T', X.data.toList = pre ++ T' ∧ pre.length = fr ∧ FB s.data.toList mo b pre.length T' ∧ ∀ c ∈ pre, crB c = false)) (fun rv _ _ => szV rv)
    case atStart =>
      have hpl : (nm.data.toList ++ [58]).length = nm.size + 1 := by rw [List.length_append, len_list]; rfl
      have he : nm.data.toList ++ 58 :: T = nm.data.toList ++ [58] ++ T := by simp
      refine ⟨0, nm.size + 1, tx (nm.data.toList ++ 58 :: T), ?_, ?_, rfl, by rw [show ((nm.size + 1 : Nat) : Int) = (nm.size : Int) + 1 by omega], rfl, ⟨Nat.zero_le _, by omega⟩, nm.data.toList ++ [58], T, by rw [tx_list, he], hpl, by rw [hpl]; exact HFB.out, HPR.out⟩
      · rw [he, tx_size, List.length_append, hpl]; omega
      · rw [he, tx_size, List.length_append, hpl]; omega
    case round =>
      obtain ⟨b, fr, X, hXs, hfX, rfl, rfl, rfl, HBB, HX⟩ := hrel
      obtain ⟨pre, T', hX1, hX2, hX3, hX4⟩ := HX.out
      obtain ⟨N, hN, hA, hB, hW, hNX⟩ := row_facts HNO.out hX4 hX3 (by rw [len_list]; exact HBB.out.1) (by rw [len_list]; exact HBB.out.2) X hX1
      rw [hX2] at hW
      have HA : Hid (∀ k (h : k < X.size), k < N → X[k] ≠ 13) := hA
      have HW : Hid (mo < N → ∀ j, fr ≤ j → j + 1 < N → ∀ (h : j + 1 < X.size), blB X[j + 1] = true → blB (X[j]'(Nat.lt_of_succ_lt h)) = false → moreB (X.extract (j + 1) X.size).data.toList = false) := hW
      have e6 : IntKind.i64.wrap ((fr : Int) + 1) = (fr : Int) + 1 := by rw [IntKind.wrap_i64]; omega
      clear hX1 hX2 hX3 hX4 HX hA hW pre T'
      rcases hNX with hNX | ⟨hNX, e9, he1, he2, hFB2⟩
      · have hNI : ¬ (N : Int) < (X.size : Int) := by omega
        have hNE : ((N : Int) == (X.size : Int)) = true := by rw [beq_iff_eq]; omega
        clear hB hNX
        go_wp2_with fail
        go_loopw [13] (fun iv wq => ∃ k : Nat, k ≤ N ∧ iv = .int .i64 (k : Int) ∧ wq = wr) (fun iv _ => N - (intOf iv).toNat)
        case atStart => exact ⟨0, Nat.zero_le _, rfl, rfl⟩
        case round =>
          obtain ⟨k, hk, rfl, rfl⟩ := hrel
          by_cases hkN : k < N
          · have hki : (k : Int) < (X.size : Int) := by omega
            have hkx : k < X.size := by omega
            have k13 := u8nw (m := 13) (HA.out k hkx hkN)
            have e5 : IntKind.i64.wrap ((k : Int) + 1) = (k : Int) + 1 := by rw [IntKind.wrap_i64]; omega
            go_wp2_with fail
            go_roundw
            case rel => exact ⟨k + 1, by omega, by go_num, trivial⟩
            case measure => simp [intOf]; omega
          · obtain rfl : N = k := by omega

            go_wp2_with fail
            go_loopw [14] (fun iv wq => ∃ j : Nat, fr ≤ j ∧ (j + 1 ≤ N ∨ j = fr) ∧ iv = .int .i64 ((j : Int) + 1) ∧ wq = wr) (fun iv _ => N + fr + 1 - (intOf iv).toNat)
            case atStart => exact ⟨fr, Nat.le_refl _, .inr rfl, rfl, rfl⟩
            case round =>
              obtain ⟨j, hj, hj2, rfl, rfl⟩ := hrel
              by_cases hc : j + 1 < N
              · have hcI : (j : Int) + 1 < (N : Int) := by omega
                by_cases hw : mo < N
                · have hwI : (mo : Int) < (N : Int) := by omega
                  have HM : Hid (∀ (h : j + 1 < X.size), blB X[j + 1] = true → blB (X[j]'(Nat.lt_of_succ_lt h)) = false → moreB (X.extract (j + 1) X.size).data.toList = false) := HW.out hw j hj hc
                  have h0 : (j : Int) + 1 < (X.size : Int) := by omega
                  have h1 : j + 1 < X.size := by omega
                  have h1I : (j : Int) < (X.size : Int) := by omega
                  have e1 : IntKind.i64.wrap (j : Int) = (j : Int) := by rw [IntKind.wrap_i64]; omega
                  have e2 : IntKind.i64.wrap ((j : Int) + 1 + 1) = (j : Int) + 1 + 1 := by rw [IntKind.wrap_i64]; omega
                  have e3 : (j : Int) + 1 ≤ (X.size : Int) := by omega
                  have HB1 := lblank_any X[j + 1] wr
                  have HB2 := lblank_any X[j] wr
                  have HM1 := lmore_any (X.extract (j + 1) X.size) (by rw [ByteArray.size_extract]; omega) wr
                  have HM2 : Hid (blB X[j + 1] = true → blB X[j] = false → moreB (X.extract (j + 1) X.size).data.toList = false) := HM.out h1
                  clear HM
                  generalize blB X[j + 1] = b1 at *
                  generalize blB X[j] = b2 at *
                  generalize moreB (X.extract (j + 1) X.size).data.toList = b3 at *
                  cases b1 with
                  | false =>
                    go_wp2_with fail
                    refine HB1.mono ?_
                    rintro e w6 ⟨rfl, rfl⟩
                    go_wp2_with fail
                    exact ⟨⟨j + 1, by omega, by omega, by rw [show ((j + 1 : Nat) : Int) = (j : Int) + 1 by omega], trivial⟩, by simp only [intOf]; omega⟩
                  | true =>
                    cases b2 with
                    | true =>
                      go_wp2_with fail
                      refine HB1.mono ?_
                      rintro e w6 ⟨rfl, rfl⟩
                      go_wp2_with fail
                      refine HB2.mono ?_
                      rintro e w7 ⟨rfl, rfl⟩
                      go_wp2_with fail
                      exact ⟨⟨j + 1, by omega, by omega, by rw [show ((j + 1 : Nat) : Int) = (j : Int) + 1 by omega], trivial⟩, by simp only [intOf]; omega⟩
                    | false =>
                      obtain rfl : b3 = false := HM2.out rfl rfl
                      go_wp2_with fail
                      refine HB1.mono ?_
                      rintro e w6 ⟨rfl, rfl⟩
                      go_wp2_with fail
                      refine HB2.mono ?_
                      rintro e w7 ⟨rfl, rfl⟩
                      go_wp2_with fail
                      refine HM1.mono ?_
                      rintro e w8 ⟨rfl, rfl⟩
                      go_wp2_with fail
                      exact ⟨⟨j + 1, by omega, by omega, by rw [show ((j + 1 : Nat) : Int) = (j : Int) + 1 by omega], trivial⟩, by simp only [intOf]; omega⟩
                · have hwI : ¬ (mo : Int) < (N : Int) := by omega
                  go_wp2_with fail
                  go_ret
                  exact ⟨rfl, HC6.out⟩
              · have hcI : ¬ (j : Int) + 1 < (N : Int) := by omega
                go_wp2_with fail
                go_ret
                exact ⟨rfl, HC6.out⟩
      · have hNI : (N : Int) < (X.size : Int) := by omega
        have hN13 := u8nv (m := 13) (hB (by omega))
        have hNE : ((N : Int) == (X.size : Int)) = false := by rw [beq_eq_false_iff_ne]; omega
        have e8 : IntKind.i64.wrap ((N : Int) + 2) = (N : Int) + 2 := by rw [IntKind.wrap_i64]; omega
        have hmin : min ((N : Int) + 2) (X.size : Int) = (N : Int) + 2 := by omega
        have hN2 : (N : Int) + 2 ≤ (X.size : Int) := by omega
        have HNX : Hid (N + 2 ≤ X.size) := hNX
        have HF2 : Hid (∃ pre T', (X.extract (N + 2) X.size).data.toList = pre ++ T' ∧ pre.length = 0 ∧ FB s.data.toList mo e9 pre.length T' ∧ ∀ c ∈ pre, crB c = false) := ⟨[], _, rfl, rfl, hFB2, fun c hc => by cases hc⟩
        have HE9 : Hid (e9 ≤ s.size ∧ (e9 < s.size ∨ s.size = 0)) := by rw [len_list] at he2; exact ⟨Nat.le_of_lt he2, .inl he2⟩
        clear hFB2 he1 he2
        clear hB
        go_wp2_with fail
        go_loopw [13] (fun iv wq => ∃ k : Nat, k ≤ N ∧ iv = .int .i64 (k : Int) ∧ wq = wr) (fun iv _ => N - (intOf iv).toNat)
        case atStart => exact ⟨0, Nat.zero_le _, rfl, rfl⟩
        case round =>
          obtain ⟨k, hk, rfl, rfl⟩ := hrel
          by_cases hkN : k < N
          · have hki : (k : Int) < (X.size : Int) := by omega
            have hkx : k < X.size := by omega
            have k13 := u8nw (m := 13) (HA.out k hkx hkN)
            have e5 : IntKind.i64.wrap ((k : Int) + 1) = (k : Int) + 1 := by rw [IntKind.wrap_i64]; omega
            go_wp2_with fail
            go_roundw
            case rel => exact ⟨k + 1, by omega, by go_num, trivial⟩
            case measure => simp [intOf]; omega
          · obtain rfl : N = k := by omega

            go_wp2_with fail
            go_loopw [14] (fun iv wq => ∃ j : Nat, fr ≤ j ∧ (j + 1 ≤ N ∨ j = fr) ∧ iv = .int .i64 ((j : Int) + 1) ∧ wq = wr) (fun iv _ => N + fr + 1 - (intOf iv).toNat)
            case atStart => exact ⟨fr, Nat.le_refl _, .inr rfl, rfl, rfl⟩
            case round =>
              obtain ⟨j, hj, hj2, rfl, rfl⟩ := hrel
              by_cases hc : j + 1 < N
              · have hcI : (j : Int) + 1 < (N : Int) := by omega
                by_cases hw : mo < N
                · have hwI : (mo : Int) < (N : Int) := by omega
                  have HM : Hid (∀ (h : j + 1 < X.size), blB X[j + 1] = true → blB (X[j]'(Nat.lt_of_succ_lt h)) = false → moreB (X.extract (j + 1) X.size).data.toList = false) := HW.out hw j hj hc
                  have h0 : (j : Int) + 1 < (X.size : Int) := by omega
                  have h1 : j + 1 < X.size := by omega
                  have h1I : (j : Int) < (X.size : Int) := by omega
                  have e1 : IntKind.i64.wrap (j : Int) = (j : Int) := by rw [IntKind.wrap_i64]; omega
                  have e2 : IntKind.i64.wrap ((j : Int) + 1 + 1) = (j : Int) + 1 + 1 := by rw [IntKind.wrap_i64]; omega
                  have e3 : (j : Int) + 1 ≤ (X.size : Int) := by omega
                  have HB1 := lblank_any X[j + 1] wr
                  have HB2 := lblank_any X[j] wr
                  have HM1 := lmore_any (X.extract (j + 1) X.size) (by rw [ByteArray.size_extract]; omega) wr
                  have HM2 : Hid (blB X[j + 1] = true → blB X[j] = false → moreB (X.extract (j + 1) X.size).data.toList = false) := HM.out h1
                  clear HM
                  generalize blB X[j + 1] = b1 at *
                  generalize blB X[j] = b2 at *
                  generalize moreB (X.extract (j + 1) X.size).data.toList = b3 at *
                  cases b1 with
                  | false =>
                    go_wp2_with fail
                    refine HB1.mono ?_
                    rintro e w6 ⟨rfl, rfl⟩
                    go_wp2_with fail
                    exact ⟨⟨j + 1, by omega, by omega, by rw [show ((j + 1 : Nat) : Int) = (j : Int) + 1 by omega], trivial⟩, by simp only [intOf]; omega⟩
                  | true =>
                    cases b2 with
                    | true =>
                      go_wp2_with fail
                      refine HB1.mono ?_
                      rintro e w6 ⟨rfl, rfl⟩
                      go_wp2_with fail
                      refine HB2.mono ?_
                      rintro e w7 ⟨rfl, rfl⟩
                      go_wp2_with fail
                      exact ⟨⟨j + 1, by omega, by omega, by rw [show ((j + 1 : Nat) : Int) = (j : Int) + 1 by omega], trivial⟩, by simp only [intOf]; omega⟩
                    | false =>
                      obtain rfl : b3 = false := HM2.out rfl rfl
                      go_wp2_with fail
                      refine HB1.mono ?_
                      rintro e w6 ⟨rfl, rfl⟩
                      go_wp2_with fail
                      refine HB2.mono ?_
                      rintro e w7 ⟨rfl, rfl⟩
                      go_wp2_with fail
                      refine HM1.mono ?_
                      rintro e w8 ⟨rfl, rfl⟩
                      go_wp2_with fail
                      exact ⟨⟨j + 1, by omega, by omega, by rw [show ((j + 1 : Nat) : Int) = (j : Int) + 1 by omega], trivial⟩, by simp only [intOf]; omega⟩
                · have hwI : ¬ (mo : Int) < (N : Int) := by omega
                  go_wp2_with fail
                  exact ⟨⟨e9, 0, X.extract (N + 2) X.size, by rw [ByteArray.size_extract]; omega, Nat.zero_le _, rfl, rfl, trivial, HE9.out, HF2.out⟩, by
                    show (X.extract (N + 2) X.size).size < X.size
                    have := HNX.out
                    rw [ByteArray.size_extract]
                    omega⟩
              · have hcI : ¬ (j : Int) + 1 < (N : Int) := by omega
                go_wp2_with fail
                exact ⟨⟨e9, 0, X.extract (N + 2) X.size, by rw [ByteArray.size_extract]; omega, Nat.zero_le _, rfl, rfl, trivial, HE9.out, HF2.out⟩, by
                  show (X.extract (N + 2) X.size).size < X.size
                  have := HNX.out
                  rw [ByteArray.size_extract]
                  omega⟩
  · have hB := fold_bad hE
    rw [hB] at HP HD
    have HP2 : Hid (∀ wx, Table wx → Calls Tryd.prog 13 #[.string nm, .string s, .int .i64 most] wx fun e w' =>
      e = .returned (.tuple #[.agg #[.string ⟨#[]⟩, .string ⟨#[]⟩], .int .i64 ((foldF nm.data.toList s.data.toList most).1 : Int)]) ∧ Below wx.heap.size wx w') := HP
    have HD2 : Hid (∀ wx, Calls Tryd.prog 14 #[.string nm, .string s, .int .i64 most] wx fun e w' =>
      e = .returned (.tuple #[.agg #[.string ⟨#[]⟩, .string ⟨#[]⟩], .int .i64 ((foldF nm.data.toList s.data.toList most).1 : Int)]) ∧ Below wx.heap.size wx w') := HD
    clear HP HD hB
    generalize (foldF nm.data.toList s.data.toList most).1 = E at *
    have hE0 : ¬ (E : Int) = 0 := by omega
    have hE1 : ((E : Int) == 0) = false := by rw [beq_eq_false_iff_ne]; omega
    clear hE
    go_enter Tryd.func5, Tryd.ntmps5
    go_wp2_with fail
    refine (HWK.out _ HT.out).mono ?_
    rintro e w1 ⟨rfl, hb1⟩
    have HB1 : Hid (Below w.heap.size w w1) := hb1
    clear hb1 HWK
    go_wp2_with fail
    refine (HP2.out _ (tab_below HT.out HB1.out)).mono ?_
    rintro e w2 ⟨rfl, hb2⟩
    have HB2 : Hid (Below w.heap.size w w2) := HB1.out.trans (hb2.mono HB1.out.size)
    clear hb2 HP2 HB1
    obtain ⟨W2, hW2⟩ : ∃ W2, W2 = w2.alloc (.cells #[.string ⟨#[]⟩, .string ⟨#[]⟩] 32) := ⟨_, rfl⟩
    have HW2 : Hid (w2.alloc (.cells #[.string ⟨#[]⟩, .string ⟨#[]⟩] 32) = W2) := hW2.symm
    have HS2 : Hid (Lies W2 w2.heap.size #[.string ⟨#[]⟩, .string ⟨#[]⟩] 32) := by rw [hW2]; exact Lies.new w2 _ _
    have HC2 : Hid (Below w.heap.size w W2) := by rw [hW2]; exact HB2.out.alloc HB2.out.size _
    clear hW2 HB2
    go_wp2_with fail
    rw [HW2.out]
    refine (HD2.out _).mono ?_
    rintro e w3 ⟨rfl, hb3⟩
    have HS3 : Hid (Lies w3 w2.heap.size #[.string ⟨#[]⟩, .string ⟨#[]⟩] 32) := HS2.out.below hb3 HS2.out.lt
    have HC3 : Hid (Below w.heap.size w w3) := HC2.out.trans (hb3.mono HC2.out.size)
    clear hb3 HD2 HW2 HS2 HC2
    have HS4 : Hid (Lies (w3.alloc (.cells #[.string ⟨#[]⟩, .string ⟨#[]⟩] 32)) w2.heap.size #[.string ⟨#[]⟩, .string ⟨#[]⟩] 32) := HS3.out.alloc _
    have HC4 : Hid (Below w.heap.size w (w3.alloc (.cells #[.string ⟨#[]⟩, .string ⟨#[]⟩] 32))) := HC3.out.alloc HC3.out.size _
    clear HS3 HC3
    have a0 := HS4.out.cell 0
    have a1 := HS4.out.cell 1
    simp only [List.getElem?_toArray, List.getElem?_cons_zero, List.getElem?_cons_succ] at a0 a1
    go_wp2_with fail
    go_ret
    exact ⟨rfl, HC4.out⟩
end Go.Proofs.YtpepjiocjcjeeabDoor.fieldFoldBack
