/-
  The document's Print.
-/
import Derived.Test.YtjpmfgmoekpcpabGreatDoorYk10
import Derived.Test.YtjpmfgmoekpcpabGreatDoorRUpT
import Derived.Test.YtjpmfgmoekpcpabGreatDoorSm10
import Derived.Test.YtjpmfgmoekpcpabGreatDoorRow
import Derived.Test.YtjpmfgmoekpcpabGreatDoorPz10
namespace Go.Proofs.YtjpmfgmoekpcpabGreatDoor
open Go.RowKit

theorem valI_neg (l : List UInt8) : decide (0 ≤ valI true l) = !(decide (l.length ≠ 0) && decide (badV true l = l.length)) := by
  have hle : badV true l ≤ l.length := by
    unfold badV
    split
    · omega
    · exact badU_le _
  unfold valI
  by_cases h : l.length = 0 ∨ badV true l < l.length
  · rw [if_pos h, decide_eq_true (by omega)]
    rcases h with h | h
    · simp [h]
    · rw [decide_eq_false (show ¬ badV true l = l.length by omega)]
      simp
  · rw [if_neg h]
    have h1 : l.length ≠ 0 := by omega
    have h2 : badV true l = l.length := by omega
    simp [h1, h2]
set_option maxHeartbeats 16000000 in
set_option maxRecDepth 100000 in
theorem yprint_any (a : Option Addr) (cap : Nat) (l : List Pm) (w : World) (ha : Pms a l w) (hl : l.length ≤ 1125899906842624) (hz : (wrA l).length ≤ 100000000) (hm : ∀ p ∈ l, p.name.length ≤ 100000000 ∧ p.val.length ≤ 100000000) :
    Calls Tryz.prog 10 #[.slice a l.length cap] w fun e w' => e = .returned (prV (prt l)) ∧ Below w.heap.size w w' := by
  have HA : Hid (Pms a l w) := ha
  clear ha
  by_cases h16 : 16 < l.length
  · have h16' : (16 : Int) < (l.length : Int) := by omega
    have e : prt l = .error 4 := by unfold prt; rw [if_pos h16]
    rw [e]
    clear e
    go_enter Tryz.func10, Tryz.ntmps10
    go_wp2
    go_ret2
    exact ⟨rfl, Below.refl _ _⟩
  · have h16' : ¬ (16 : Int) < (l.length : Int) := by omega
    have e : prt l = prtL l := by unfold prt; rw [if_neg h16]
    rw [e]
    clear e h16
    obtain ⟨X, hX⟩ : ∃ X, X = prtL l := ⟨_, rfl⟩
    rw [← hX]
    have HX0 : Hid (X = Pz.on (wrA (l.take 0)) (prtL (l.drop 0))) := by show _ = _; rw [hX, List.drop_zero]; exact Pz.on_nil _
    have HM : Hid (∀ p ∈ l, p.name.length ≤ 100000000 ∧ p.val.length ≤ 100000000) := hm
    have HZ : Hid ((wrA l).length ≤ 100000000) := hz
    clear hX hm hz
    go_enter Tryz.func10, Tryz.ntmps10
    go_wp2_with fail
    go_loopw [4, 5] (fun u c wr => ∃ k : Nat, k ≤ l.length ∧ c = .int .i64 k ∧ u = .string (tx (wrA (l.take k))) ∧ Hid (Below w.heap.size w wr) ∧ Hid (X = Pz.on (wrA (l.take k)) (prtL (l.drop k)))) (fun _ c _ => l.length - (intOf c).toNat)
    case atStart => exact ⟨0, Nat.zero_le _, rfl, rfl, Below.refl _ _, HX0⟩
    case round =>
      obtain ⟨k, hk, rfl, rfl, HB, HX⟩ := hrel
      clear HX0
      have HSZ : Hid (w.heap.size ≤ wr.heap.size) := HB.out.size
      by_cases hlt : k < l.length
      · have hat := prtL_at l k hlt
        have hwt := wrA_take l k hlt
        have hwl := wrA_le l (k + 1)
        have hz := HZ.out
        obtain ⟨hpn, hpv⟩ := HM.out l[k] (List.getElem_mem hlt)
        obtain ⟨g, o, hga, c0, c1, c2⟩ := (HA.out.below HB.out).at k hlt
        subst hga
        obtain ⟨P, hP⟩ : ∃ P, P = l[k] := ⟨_, rfl⟩
        rw [← hP] at hat hwt hpn hpv c0 c1 c2
        have HAT : Hid (prtL (l.drop k) = if nmB P.name = true then (if vaB P = true then Pz.on (wr1 P) (prtL (l.drop (k + 1))) else .error 101) else .error 100) := hat
        have hw1 : wr1 P = 32 :: P.name ++ (if P.has then 61 :: P.val else []) := rfl
        have HWT : Hid (wrA (l.take (k + 1)) = wrA (l.take k) ++ wr1 P) := hwt
        have hWL : (wrA (l.take k) ++ wr1 P).length ≤ 100000000 := by rw [← HWT.out]; omega
        clear hat hwt hwl hz hP
        obtain ⟨W, hW⟩ : ∃ W, W = wrA (l.take k) := ⟨_, rfl⟩
        rw [← hW] at HWT HX hWL ⊢
        clear hW
        have HVB := fun wx => yval_any (tx P.val) true (by rw [tx_size]; omega) wx
        have HKB := fun wx => ykw_any (tx P.name) 0 (Nat.zero_le _) (by rw [tx_size]; omega) wx
        have HUB := fun wx => rupper_any (tx P.name) wx (by rw [tx_size]; omega)
        rw [tx_list] at HVB HKB
        rw [List.drop_zero] at HKB
        have hUP : upS (tx P.name) = tx (upL P.name) := by
          show (⟨(upL (tx P.name).data.toList).toArray⟩ : ByteArray) = _
          rw [tx_list]
          rfl
        rw [hUP] at HUB
        have hneq : ((tx (upL P.name)).toList == (tx P.name).toList) = decide (upL P.name = P.name) := by
          rw [ByteArray.toList_eq, ByteArray.toList_eq, tx_list, tx_list, Bool.eq_iff_iff]
          simp
        have hne := s_isEmpty (tx P.name)
        have hve := s_isEmpty (tx P.val)
        rw [tx_list] at hne hve
        have hnm : nmB P.name = ((decide (P.name.length ≠ 0) && decide (kwN P.name = P.name.length)) && decide (upL P.name = P.name)) := rfl
        have hvn := valI_neg P.val
        have hva : vaB P = if P.has then (decide (P.val.length ≠ 0) && decide (badV true P.val = P.val.length)) else decide (P.val.length = 0) := rfl
        have hc1 : tx W ++ (⟨#[32]⟩ : ByteArray) = tx (W ++ [32]) := tx_cat W [32]
        have hc2 : tx (W ++ [32]) ++ tx P.name = tx (W ++ (32 :: P.name)) := by rw [tx_cat]; simp
        have hc3 : tx (W ++ (32 :: P.name)) ++ (⟨#[61]⟩ : ByteArray) = tx (W ++ (32 :: P.name) ++ [61]) := tx_cat _ [61]
        have hc4 : tx (W ++ (32 :: P.name) ++ [61]) ++ tx P.val = tx (W ++ (32 :: P.name ++ 61 :: P.val)) := by rw [tx_cat]; simp
        have hs1 : (tx P.name).size = P.name.length := tx_size _
        have hs2 : (tx P.val).size = P.val.length := tx_size _
        have hs0 : (tx W).size = W.length := tx_size _
        have hs3 : (tx (W ++ [32])).size = W.length + 1 := by rw [tx_size]; simp
        have hs4 : (tx (W ++ (32 :: P.name))).size = W.length + 1 + P.name.length := by rw [tx_size]; simp; omega
        have hs5 : (tx (W ++ (32 :: P.name) ++ [61])).size = W.length + 1 + P.name.length + 1 := by rw [tx_size]; simp; omega
        have hWn : W.length ≤ 100000000 := by rw [List.length_append] at hWL; omega
        have HEN : Hid (P.has = true → tx (W ++ (32 :: P.name ++ 61 :: P.val)) = tx (wrA (l.take (k + 1)))) := fun hh => by rw [HWT.out, hw1, hh]; rfl
        have HEF : Hid (P.has = false → tx (W ++ (32 :: P.name)) = tx (wrA (l.take (k + 1)))) := fun hh => by rw [HWT.out, hw1, hh]; simp
        clear hw1 hWL
        obtain ⟨N, hN⟩ : ∃ N, N = tx P.name := ⟨_, rfl⟩
        obtain ⟨V, hV⟩ : ∃ V, V = tx P.val := ⟨_, rfl⟩
        obtain ⟨U, hU⟩ : ∃ U, U = tx (upL P.name) := ⟨_, rfl⟩
        obtain ⟨S0, hS0⟩ : ∃ S0, S0 = tx W := ⟨_, rfl⟩
        obtain ⟨S1, hS1⟩ : ∃ S1, S1 = tx (W ++ [32]) := ⟨_, rfl⟩
        obtain ⟨S2, hS2⟩ : ∃ S2, S2 = tx (W ++ (32 :: P.name)) := ⟨_, rfl⟩
        obtain ⟨S3, hS3⟩ : ∃ S3, S3 = tx (W ++ (32 :: P.name) ++ [61]) := ⟨_, rfl⟩
        obtain ⟨S4, hS4⟩ : ∃ S4, S4 = tx (W ++ (32 :: P.name ++ 61 :: P.val)) := ⟨_, rfl⟩
        obtain ⟨h, hh⟩ : ∃ h, h = P.has := ⟨_, rfl⟩
        rw [← hN] at c0 HKB HUB hneq hne hc2 hs1
        rw [← hV] at c1 HVB hve hc4 hs2
        rw [← hU] at HUB hneq
        rw [← hh] at c2 hva HEN HEF
        rw [← hS0] at hc1 hs0 ⊢
        rw [← hS1] at hc1 hc2 hs3
        rw [← hS2] at hc2 hc3 hs4 HEF
        rw [← hS3] at hc3 hc4 hs5
        rw [← hS4] at hc4 HEN
        have HV : Hid (∀ wx, Calls Tryz.prog 36 #[.string V, .bool true] wx fun e w' => e = .returned (.int .i64 (valI true P.val)) ∧ Below wx.heap.size wx w') := HVB
        have HK : Hid (∀ wx, Calls Tryz.prog 34 #[.string N, .int .i64 0] wx fun e w' => e = .returned (.int .i64 (kwN P.name : Nat)) ∧ w' = wx) := HKB
        have HU : Hid (∀ wx, Calls Tryz.prog 35 #[.string N] wx fun e w' => e = .returned (.string U) ∧ Below wx.heap.size wx w') := HUB
        have HNM : Hid (nmB P.name = ((decide (P.name.length ≠ 0) && decide (kwN P.name = P.name.length)) && decide (upL P.name = P.name))) := hnm
        have HVN : Hid (decide (0 ≤ valI true P.val) = !(decide (P.val.length ≠ 0) && decide (badV true P.val = P.val.length))) := hvn
        have HVA : Hid (vaB P = if h then (decide (P.val.length ≠ 0) && decide (badV true P.val = P.val.length)) else decide (P.val.length = 0)) := hva
        obtain ⟨kn, hkn0⟩ : ∃ kn, kn = kwN P.name := ⟨_, rfl⟩
        obtain ⟨up, hup⟩ : ∃ up, up = decide (upL P.name = P.name) := ⟨_, rfl⟩
        obtain ⟨vI, hvI⟩ : ∃ vI, vI = valI true P.val := ⟨_, rfl⟩
        obtain ⟨vb, hvb⟩ : ∃ vb, vb = (decide (P.val.length ≠ 0) && decide (badV true P.val = P.val.length)) := ⟨_, rfl⟩
        rw [← hkn0] at HK HNM
        rw [← hup] at HNM hneq
        rw [← hvI] at HV HVN
        rw [← hvb] at HVN HVA
        have HS1 : Hid (N.size = P.name.length) := hs1
        have hNs : N.size ≤ 100000000 := by omega
        have hVs : V.size ≤ 100000000 := by omega
        have hb0 : S0.size ≤ 100000000 := by omega
        have hb1 : S1.size ≤ 100000001 := by omega
        have hb2 : S2.size ≤ 200000001 := by omega
        have hb3 : S3.size ≤ 200000002 := by omega
        clear hs0 hs1 hs2 hs3 hs4 hs5 hkn0 hup hvI hvb
        clear HVB HKB HUB hUP hnm hvn hva hN hV hU hS0 hS1 hS2 hS3 hS4 hh
        go_upto_region 8 with fail
        have M6 : Hid (Lies (wr.alloc (.cells #[.string N, .string V, .bool h] 54)) wr.heap.size #[.string N, .string V, .bool h] 54) := Lies.new wr _ _
        have MB : Hid (Below w.heap.size w (wr.alloc (.cells #[.string N, .string V, .bool h] 54))) := HB.out.alloc HB.out.size _
        clear c0 c1 c2 HB
        generalize wr.alloc (.cells #[.string N, .string V, .bool h] 54) = v1 at M6 MB ⊢
        generalize wr.heap.size = b at M6 ⊢
        have d0 : v1.cell? ⟨b, 0, none⟩ = some (.string N) := M6.out.cell 0
        by_cases hn0 : P.name.length = 0
        · rw [decide_eq_true hn0] at hne
          have HXX : Hid (X = .error 100) := by
            show _ = _
            rw [HX.out, HAT.out, HNM.out]
            simp [hn0]
            rfl
          clear HX HAT HNM HWT HV HU hneq HK HVN HVA
          go_quiet (fail)
          go_wp2
          go_ret2
          exact ⟨by rw [HXX.out, prV]; rfl, below_dN MB.out _⟩
        · rw [decide_eq_false hn0] at hne
          by_cases hkw : kn = P.name.length
          · have HK2 : Hid (∀ wx, Calls Tryz.prog 34 #[.string N, .int .i64 0] wx fun e w' => e = .returned (.int .i64 (N.size : Int)) ∧ w' = wx) := fun wx => by
              have := HK.out wx
              rw [show kn = N.size by rw [HS1.out]; exact hkw] at this
              exact this
            have HNM2 : Hid (nmB P.name = up) := by show _ = _; rw [HNM.out]; simp [hn0, hkw]
            clear HK HNM hkw hn0
            go_region_held3 (fun w' => w'.cell? ⟨b, 0, none⟩ = some (.string N)) (first | assumption | exact d0 | exact (hbu.cell (p := ⟨b, 0, none⟩) M6.out.lt).trans d0)
              (first
                | (go_at_call 34; refine (HK2.out _).mono ?_; rintro e wd ⟨rfl, rfl⟩)
                | (go_at_call 35; refine (HU.out _).mono ?_; rintro e w2 ⟨rfl, hbu⟩))
            all_goals
              have hbv : Below v1.heap.size v1 w2 := ((Below.refl _ v1).drew).trans hbu
              have R6 : Hid (Lies w2 b #[.string N, .string V, .bool h] 54) := M6.out.below hbv M6.out.lt
              have RB : Hid (Below w.heap.size w w2) := MB.out.trans (hbv.mono MB.out.size)
              clear hbv hbu d0 M6 MB HK2 HU
              have d0 : w2.cell? ⟨b, 0, none⟩ = some (.string N) := R6.out.cell 0
              have d1 : w2.cell? ⟨b, 1, none⟩ = some (.string V) := R6.out.cell 1
              have d2 : w2.cell? ⟨b, 2, none⟩ = some (.bool h) := R6.out.cell 2
              cases up with
              | false =>
                have HXX : Hid (X = .error 100) := by
                  show _ = _
                  rw [HX.out, HAT.out, HNM2.out]
                  rfl
                clear HX HAT HNM2 HWT HV HVN HVA
                go_wp2
                go_ret2
                exact ⟨by rw [HXX.out, prV]; rfl, RB.out⟩
              | true =>
                have HGO : Hid (vaB P = true → X = Pz.on (wrA (l.take (k + 1))) (prtL (l.drop (k + 1)))) := fun hv => by
                  rw [HX.out, HAT.out, HNM2.out, HWT.out, ← Pz.on_on]
                  simp [hv]
                have HNO : Hid (vaB P = false → X = .error 101) := fun hv => by
                  rw [HX.out, HAT.out, HNM2.out]
                  simp [hv]
                  rfl
                clear HX HAT HNM2 HWT
                cases h with
                | true =>
                  have HF : Hid (Calls Tryz.prog 36 #[.string V, .bool true] w2 fun e w' => e = .returned (.int .i64 vI) ∧ Lies w' b #[.string N, .string V, .bool true] 54 ∧ Below w.heap.size w w') := by
                    show Calls _ _ _ _ _
                    refine (HV.out w2).mono ?_
                    rintro e w' ⟨rfl, hb⟩
                    exact ⟨rfl, R6.out.below hb R6.out.lt, RB.out.trans (hb.mono RB.out.size)⟩
                  cases vb with
                  | true =>
                    have hvI : ¬ (0 : Int) ≤ vI := by have := HVN.out; simpa using this
                    have HXX : Hid (X = Pz.on (wrA (l.take (k + 1))) (prtL (l.drop (k + 1)))) := HGO.out HVA.out
                    have HSE : Hid (S4 = tx (wrA (l.take (k + 1)))) := HEN.out rfl
                    clear HGO HNO HVN HVA HV HEN HEF R6 RB
                    go_wp2_with fail
                    refine HF.out.mono ?_
                    rintro e w3 ⟨rfl, l6, lB⟩
                    have e0 := l6.cell 0
                    have e1 := l6.cell 1
                    have e2 := l6.cell 2
                    have NB : Hid (Below w.heap.size w w3) := lB
                    clear lB HF
                    go_wp2
                    go_roundw
                    case rel => exact ⟨k + 1, by omega, by go_num, by rw [HSE.out], NB, HXX⟩
                    case measure => simp [intOf]; omega
                  | false =>
                    have hvI : (0 : Int) ≤ vI := by have := HVN.out; simpa using this
                    have HXX : Hid (X = .error 101) := HNO.out HVA.out
                    clear HGO HNO HVN HVA HV HEN HEF R6 RB
                    go_wp2_with fail
                    refine HF.out.mono ?_
                    rintro e w3 ⟨rfl, l6, lB⟩
                    go_wp2
                    go_ret2
                    exact ⟨by rw [HXX.out, prV]; rfl, lB⟩
                | false =>
                  by_cases hv0 : P.val.length = 0
                  · rw [decide_eq_true hv0] at hve
                    have HXX : Hid (X = Pz.on (wrA (l.take (k + 1))) (prtL (l.drop (k + 1)))) := HGO.out (by rw [HVA.out]; simp [hv0])
                    have HSE : Hid (S2 = tx (wrA (l.take (k + 1)))) := HEF.out rfl
                    clear HGO HNO HVN HVA HV HEN HEF R6 hv0
                    go_wp2
                    go_roundw
                    case rel => exact ⟨k + 1, by omega, by go_num, by rw [HSE.out], RB, HXX⟩
                    case measure => simp [intOf]; omega
                  · rw [decide_eq_false hv0] at hve
                    have HXX : Hid (X = .error 101) := HNO.out (by rw [HVA.out]; simp [hv0])
                    clear HGO HNO HVN HVA HV HEN HEF R6 hv0
                    go_wp2
                    go_ret2
                    exact ⟨by rw [HXX.out, prV]; rfl, RB.out⟩
          · have hkn : ((kn : Int) == (N.size : Int)) = false := by rw [beq_eq_false_iff_ne, HS1.out]; omega
            have hkb : ((kn : Int) != (N.size : Int)) = true := by rw [bne, hkn]; rfl
            have HXX : Hid (X = .error 100) := by
              show _ = _
              rw [HX.out, HAT.out, HNM.out]
              simp [hkw]
              rfl
            clear HX HAT HNM HWT HV HU hneq HVN HVA hkw hn0
            go_quiet ((go_at_call 34; exact Calls.quiet_of_same (HK.out _)))
            go_wp2
            go_ret2
            exact ⟨by rw [HXX.out, prV]; rfl, below_dN MB.out _⟩
      · have hb2 : ¬ (k : Int) < (l.length : Int) := by omega
        obtain rfl : k = l.length := by omega
        have HXX : Hid (X = .ok (wrA l)) := by
          show _ = _
          rw [HX.out, List.drop_length, List.take_length, prtL, Pz.on, List.append_nil]
        rw [List.take_length]
        clear HX
        go_wp2
        go_ret2
        exact ⟨by rw [HXX.out, prV]; rfl, HB.out⟩
end Go.Proofs.YtjpmfgmoekpcpabGreatDoor
