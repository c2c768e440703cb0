/-
  The program's fits and Print.
-/
import Derived.Test.YtjpmfgmoekpcpabGreatDoorPk10
import Derived.Test.YtjpmfgmoekpcpabGreatDoorRow
import Derived.Test.YtjpmfgmoekpcpabGreatDoorXt10
import Derived.Test.YtjpmfgmoekpcpabGreatDoorPmC10
import Derived.Test.YtjpmfgmoekpcpabGreatDoorPbP
import Derived.Deep.RegionHeld3
namespace Go.Proofs.YtjpmfgmoekpcpabGreatDoor
open Go.RowKit

set_option maxHeartbeats 1000000 in
set_option maxRecDepth 100000 in
theorem fits_v (nm : List UInt8) (has : Bool) (v : ByteArray) (hs : v.size ≤ 1125899906842624) (w : World) (ht : Table w) (hf : Fst w) :
    Calls Tryz.prog 30 #[.bool has, .string v, .func (.func 31) #[] #[]] w fun e w' => e = .returned (.bool (vaB ⟨nm, v.data.toList, has⟩)) ∧ Below w.heap.size w w' := by
  have HV := isv_any v hs w ht hf
  cases has with
  | true =>
    have e : vaB ⟨nm, v.data.toList, true⟩ = (decide (v.data.toList.length ≠ 0) && decide (badV true v.data.toList = v.data.toList.length)) := rfl
    rw [← e] at HV
    have HVV : Hid (Calls Tryz.prog 31 #[.string v] w fun e w' => e = .returned (.bool (vaB ⟨nm, v.data.toList, true⟩)) ∧ Below w.heap.size w w') := HV
    generalize vaB ⟨nm, v.data.toList, true⟩ = x at HVV ⊢
    clear HV e ht hf
    go_enter Tryz.func30, Tryz.ntmps30
    go_wp2_with (go_at_call 31; refine HVV.out.mono ?_; rintro e w2 ⟨rfl, hb2⟩)
    go_ret
    exact ⟨rfl, hb2⟩
  | false =>
    have e : vaB ⟨nm, v.data.toList, false⟩ = v.toList.isEmpty := by rw [s_isEmpty]; rfl
    rw [e]
    clear HV e ht hf
    go_enter Tryz.func30, Tryz.ntmps30
    go_wp2
    go_ret
    exact ⟨rfl, Below.refl _ _⟩

/-- What Print tells. -/
def prV : Except Nat (List UInt8) → Value
  | .error e => .tuple #[.string ⟨#[]⟩, .int .i64 (e : Nat)]
  | .ok t => .tuple #[.string (tx t), .int .i64 0]
theorem Bl.but10 {B b : Nat} {l : List UInt8} {w : World} (h : Bl B b l w) (o : Obj) : Bl B b l (w.alloc o) := h.below ((Below.refl _ _).alloc (Nat.le_refl _) _)
set_option maxHeartbeats 16000000 in
set_option maxRecDepth 100000 in
theorem pprint_any (a : Option Addr) (cap : Nat) (l : List Pm) (w : World) (ha : Pms a l w) (hl : l.length ≤ 1125899906842624) (hz : (wrA l).length ≤ 100000000) (hm : ∀ p ∈ l, p.name.length ≤ 100000000 ∧ p.val.length ≤ 100000000) (ht : Table w) (hf : Fst w) :
    Calls Tryz.prog 9 #[.slice a l.length cap] w fun e w' => e = .returned (prV (prt l)) ∧ Below w.heap.size w w' := by
  have HT : Hid (∀ wx, Below w.heap.size w wx → Table wx ∧ Fst wx) := fun wx hx => ⟨ht.keep hx, hf.below hx hf.lt⟩
  have HA : Hid (Pms a l w) := ha
  clear ht hf ha
  by_cases h16 : 16 < l.length
  · have h16' : (16 : Int) < (l.length : Int) := by omega
    have e : prt l = .error 4 := by unfold prt; rw [if_pos h16]
    rw [e]
    clear e
    go_enter Tryz.func9, Tryz.ntmps9
    go_wp2
    go_ret2
    exact ⟨rfl, Below.refl _ _⟩
  · have h16' : ¬ (16 : Int) < (l.length : Int) := by omega
    have e : prt l = prtL l := by unfold prt; rw [if_neg h16]
    rw [e]
    clear e h16
    obtain ⟨X, hX⟩ : ∃ X, X = prtL l := ⟨_, rfl⟩
    rw [← hX]
    have HX0 : Hid (X = Pz.on (wrA (l.take 0)) (prtL (l.drop 0))) := by show _ = _; rw [hX, List.drop_zero]; exact Pz.on_nil _
    have HB0 : Hid (Bl w.heap.size w.heap.size [] (w.alloc (.cells #[.pointer none, .slice none 0 0] 59))) := Bl.fresh w
    have HK0 : Hid (Below w.heap.size w (w.alloc (.cells #[.pointer none, .slice none 0 0] 59))) := (Below.refl _ _).alloc (Nat.le_refl _) _
    have HM : Hid (∀ p ∈ l, p.name.length ≤ 100000000 ∧ p.val.length ≤ 100000000) := hm
    have HZ : Hid ((wrA l).length ≤ 100000000) := hz
    clear hX hm hz
    go_enter Tryz.func9, Tryz.ntmps9
    go_upto_region 4 with fail
    generalize w.alloc (.cells #[.pointer none, .slice none 0 0] 59) = v0 at HB0 HK0 ⊢
    go_wp2_with fail
    go_loopw [12] (fun c wr => ∃ k : Nat, k ≤ l.length ∧ c = .int .i64 k ∧ Hid (Bl w.heap.size w.heap.size (wrA (l.take k)) wr) ∧ Hid (Below w.heap.size w wr) ∧ Hid (X = Pz.on (wrA (l.take k)) (prtL (l.drop k)))) (fun c _ => l.length - (intOf c).toNat)
    case atStart => exact ⟨0, Nat.zero_le _, rfl, HB0, HK0, HX0⟩
    case round =>
      obtain ⟨k, hk, rfl, HL, HB, HX⟩ := hrel
      clear HB0 HK0 HX0
      have HSZ : Hid (w.heap.size ≤ wr.heap.size) := HB.out.size
      by_cases hlt : k < l.length
      · have hat := prtL_at l k hlt
        have hwt := wrA_take l k hlt
        have hwl := wrA_le l (k + 1)
        have hz := HZ.out
        obtain ⟨hpn, hpv⟩ := HM.out l[k] (List.getElem_mem hlt)
        obtain ⟨g, o, hga, c0, c1, c2⟩ := (HA.out.below HB.out).at k hlt
        subst hga
        obtain ⟨P, hP⟩ : ∃ P, P = l[k] := ⟨_, rfl⟩
        rw [← hP] at hat hwt hpn hpv c0 c1 c2
        have HAT : Hid (prtL (l.drop k) = if nmB P.name = true then (if vaB P = true then Pz.on (wr1 P) (prtL (l.drop (k + 1))) else .error 101) else .error 100) := hat
        have HWT : Hid (wrA (l.take (k + 1)) = wrA (l.take k) ++ wr1 P) := hwt
        have HWL : Hid ((wrA (l.take k) ++ wr1 P).length ≤ 100000000) := by show _ ≤ _; rw [← HWT.out]; omega
        clear hat hwt hwl hz hP
        have HVB := fun wx (hx : Below w.heap.size w wx) => fits_v P.name P.has (tx P.val) (by rw [tx_size]; omega) wx (HT.out wx hx).1 (HT.out wx hx).2
        have HKB := fun wx (hx : Below w.heap.size w wx) => isk_any (tx P.name) (by rw [tx_size]; omega) wx (HT.out wx hx).1
        have HUB := fun wx => upper_any (tx P.name) wx (by rw [tx_size]; unfold maxLen; omega)
        rw [tx_list] at HVB HKB
        have hPP : (⟨P.name, P.val, P.has⟩ : Pm) = P := rfl
        rw [hPP] at HVB
        have hUP : upS (tx P.name) = tx (upL P.name) := by
          show (⟨(upL (tx P.name).data.toList).toArray⟩ : ByteArray) = _
          rw [tx_list]
          rfl
        rw [hUP] at HUB
        have hneq : ((tx (upL P.name)).toList == (tx P.name).toList) = decide (upL P.name = P.name) := by
          rw [ByteArray.toList_eq, ByteArray.toList_eq, tx_list, tx_list, Bool.eq_iff_iff]
          simp
        have hnm : nmB P.name = ((decide (P.name.length ≠ 0) && decide (kwN P.name = P.name.length)) && decide (upL P.name = P.name)) := rfl
        have hw1 : wr1 P = 32 :: P.name ++ (if P.has then 61 :: P.val else []) := rfl
        have hc1 : (⟨#[32]⟩ : ByteArray) ++ tx P.name = tx (32 :: P.name) := tx_cat [32] _
        have hc2 : (⟨#[61]⟩ : ByteArray) ++ tx P.val = tx (61 :: P.val) := tx_cat [61] _
        have hs1 : (tx P.name).size = P.name.length := tx_size _
        have hs2 : (tx P.val).size = P.val.length := tx_size _
        obtain ⟨N, hN⟩ : ∃ N, N = tx P.name := ⟨_, rfl⟩
        obtain ⟨V, hV⟩ : ∃ V, V = tx P.val := ⟨_, rfl⟩
        obtain ⟨U, hU⟩ : ∃ U, U = tx (upL P.name) := ⟨_, rfl⟩
        obtain ⟨C1, hC1⟩ : ∃ C1, C1 = tx (32 :: P.name) := ⟨_, rfl⟩
        obtain ⟨C2, hC2⟩ : ∃ C2, C2 = tx (61 :: P.val) := ⟨_, rfl⟩
        obtain ⟨h, hh⟩ : ∃ h, h = P.has := ⟨_, rfl⟩
        obtain ⟨kw, hkw⟩ : ∃ kw, kw = (decide (P.name.length ≠ 0) && decide (kwN P.name = P.name.length)) := ⟨_, rfl⟩
        obtain ⟨up, hup⟩ : ∃ up, up = decide (upL P.name = P.name) := ⟨_, rfl⟩
        obtain ⟨va, hva⟩ : ∃ va, va = vaB P := ⟨_, rfl⟩
        rw [← hN] at c0 HKB HUB hneq hc1 hs1
        rw [← hV, ← hh] at HVB
        rw [← hV] at c1 hc2 hs2
        rw [← hh] at c2 hw1
        rw [← hU] at HUB hneq
        rw [← hC1] at hc1
        rw [← hC2] at hc2
        rw [← hkw] at HKB hnm
        rw [← hup] at hneq hnm
        rw [← hva] at HVB HAT
        have HC1 : Hid (C1.data.toList = 32 :: P.name) := by show _ = _; rw [hC1, tx_list]
        have HC2 : Hid (C2.data.toList = 61 :: P.val) := by show _ = _; rw [hC2, tx_list]
        have HNM : Hid (nmB P.name = (kw && up)) := hnm
        have HW1 : Hid (wr1 P = 32 :: P.name ++ (if h then 61 :: P.val else [])) := hw1
        have HV : Hid (∀ wx, Below w.heap.size w wx → Calls Tryz.prog 30 #[.bool h, .string V, .func (.func 31) #[] #[]] wx fun e w' => e = .returned (.bool va) ∧ Below wx.heap.size wx w') := HVB
        have HK : Hid (∀ wx, Below w.heap.size w wx → Calls Tryz.prog 29 #[.string N] wx fun e w' => e = .returned (.bool kw) ∧ w' = wx) := HKB
        have HU : Hid (∀ wx, Calls Tryz.prog 26 #[.string N] wx fun e w' => e = .returned (.string U) ∧ Below wx.heap.size wx w') := HUB
        have hNs : N.size ≤ 100000000 := by omega
        have hVs : V.size ≤ 100000000 := by omega
        clear HVB HKB HUB hPP hUP hnm hw1 hN hV hU hC1 hC2 hh hkw hup hva hs1 hs2
        go_upto_region 7 with fail
        have M6 : Hid (Lies (wr.alloc (.cells #[.string N, .string V, .bool h] 54)) wr.heap.size #[.string N, .string V, .bool h] 54) := Lies.new wr _ _
        have ML : Hid (Bl w.heap.size w.heap.size (wrA (l.take k)) (wr.alloc (.cells #[.string N, .string V, .bool h] 54))) := HL.out.but10 _
        have MB : Hid (Below w.heap.size w (wr.alloc (.cells #[.string N, .string V, .bool h] 54))) := HB.out.alloc HB.out.size _
        have HBL : Hid (w.heap.size < wr.heap.size) := HL.out.lt
        clear c0 c1 c2 HL HB
        have HBN : Hid (wr.heap.size ≠ w.heap.size) := Nat.ne_of_gt HBL.out
        generalize wr.alloc (.cells #[.string N, .string V, .bool h] 54) = v1 at M6 ML MB ⊢
        generalize wr.heap.size = b at M6 HBN ⊢
        have d0 : v1.cell? ⟨b, 0, none⟩ = some (.string N) := M6.out.cell 0
        cases kw with
        | false =>
          have HXX : Hid (X = .error 100) := by
            show _ = _
            rw [HX.out, HAT.out, HNM.out]
            rfl
          clear HX HAT HNM HW1 HWT HV HU hneq
          go_quiet ((go_at_call 29; exact Calls.quiet_of_same (HK.out _ (below_dN MB.out _))))
          go_wp2
          go_ret2
          exact ⟨by rw [HXX.out, prV]; rfl, below_dN MB.out _⟩
        | true =>
          go_region_held3 (fun w' => w'.cell? ⟨b, 0, none⟩ = some (.string N)) (first | assumption | exact d0 | exact (hbu.cell (p := ⟨b, 0, none⟩) M6.out.lt).trans d0)
            (first
              | (go_at_call 29; refine (HK.out _ (by first | exact MB.out | exact MB.out.drew)).mono ?_; rintro e wd ⟨rfl, rfl⟩)
              | (go_at_call 26; refine (HU.out _).mono ?_; rintro e w2 ⟨rfl, hbu⟩))
          all_goals
            have hbv : Below v1.heap.size v1 w2 := ((Below.refl _ v1).drew).trans hbu
            have R6 : Hid (Lies w2 b #[.string N, .string V, .bool h] 54) := M6.out.below hbv M6.out.lt
            have RL : Hid (Bl w.heap.size w.heap.size (wrA (l.take k)) w2) := ML.out.below hbv
            have RB : Hid (Below w.heap.size w w2) := MB.out.trans (hbv.mono MB.out.size)
            clear hbv hbu d0 M6 ML MB HK HU
            have d0 : w2.cell? ⟨b, 0, none⟩ = some (.string N) := R6.out.cell 0
            have d1 : w2.cell? ⟨b, 1, none⟩ = some (.string V) := R6.out.cell 1
            have d2 : w2.cell? ⟨b, 2, none⟩ = some (.bool h) := R6.out.cell 2
            cases up with
            | false =>
              have HXX : Hid (X = .error 100) := by
                show _ = _
                rw [HX.out, HAT.out, HNM.out]
                rfl
              clear HX HAT HNM HW1 HWT HV
              go_wp2
              go_ret2
              exact ⟨by rw [HXX.out, prV]; rfl, RB.out⟩
            | true =>
              have HF : Hid (Calls Tryz.prog 30 #[.bool h, .string V, .func (.func 31) #[] #[]] w2 fun e w' => e = .returned (.bool va) ∧ Lies w' b #[.string N, .string V, .bool h] 54 ∧ Bl w.heap.size w.heap.size (wrA (l.take k)) w' ∧ Below w.heap.size w w') := by
                show Calls _ _ _ _ _
                refine (HV.out _ RB.out).mono ?_
                rintro e w' ⟨rfl, hb⟩
                exact ⟨rfl, R6.out.below hb R6.out.lt, RL.out.below hb, RB.out.trans (hb.mono RB.out.size)⟩
              clear R6 RL RB HV
              cases va with
              | false =>
                have HXX : Hid (X = .error 101) := by
                  show _ = _
                  rw [HX.out, HAT.out, HNM.out]
                  rfl
                clear HX HAT HNM HW1 HWT
                go_wp2_with (go_at_call 30; refine HF.out.mono ?_; rintro e w3 ⟨rfl, l6, lL, lB⟩)
                go_ret2
                exact ⟨by rw [HXX.out, prV]; rfl, lB⟩
              | true =>
                have HXX : Hid (X = Pz.on (wrA (l.take (k + 1))) (prtL (l.drop (k + 1)))) := by
                  show _ = _
                  rw [HX.out, HAT.out, HNM.out, HWT.out, ← Pz.on_on]
                  rfl
                clear HX HAT HNM
                have hw1 := HW1.out
                have hwl := HWL.out
                rw [hw1] at hwl
                simp only [List.length_append, List.length_cons] at hwl
                have hC1s : C1.size = P.name.length + 1 := by rw [← len_list, HC1.out]; rfl
                have hC2s : C2.size = P.val.length + 1 := by rw [← len_list, HC2.out]; rfl
                have HS1 : Hid (∀ w3, Lies w3 b #[.string N, .string V, .bool h] 54 → Bl w.heap.size w.heap.size (wrA (l.take k)) w3 → Below w.heap.size w w3 → Calls Tryz.prog 32 #[.pointer (some ⟨w.heap.size, 0, none⟩), .string C1] w3 fun e w' => e = .returned (.tuple #[.int .i64 C1.size, .nilIface]) ∧ Lies w' b #[.string N, .string V, .bool h] 54 ∧ Bl w.heap.size w.heap.size (wrA (l.take k) ++ (32 :: P.name)) w' ∧ Below w.heap.size w w') := fun w3 h6 h3 hb3 => by
                  refine (wstrB_any w.heap.size w.heap.size _ C1 w3 h3 (by omega) hb3.size).mono ?_
                  rintro e w' ⟨rfl, h1, h2⟩
                  rw [HC1.out] at h1
                  exact ⟨rfl, h2.lies h6 HBN.out (by decide), h1, hb3.trans h2.below⟩
                have HS2 : Hid (h = true → ∀ w3, Bl w.heap.size w.heap.size (wrA (l.take k) ++ (32 :: P.name)) w3 → Below w.heap.size w w3 → Calls Tryz.prog 32 #[.pointer (some ⟨w.heap.size, 0, none⟩), .string C2] w3 fun e w' => e = .returned (.tuple #[.int .i64 C2.size, .nilIface]) ∧ Bl w.heap.size w.heap.size (wrA (l.take (k + 1))) w' ∧ Below w.heap.size w w') := fun hh w3 h3 hb3 => by
                  subst hh
                  refine (wstrB_any w.heap.size w.heap.size _ C2 w3 h3 (by simp only [if_true, List.length_cons] at hwl; simp only [List.length_append, List.length_cons]; omega) hb3.size).mono ?_
                  rintro e w' ⟨rfl, h1, h2⟩
                  rw [HC2.out] at h1
                  refine ⟨rfl, ?_, hb3.trans h2.below⟩
                  rw [HWT.out, HW1.out]
                  simp only [if_true]
                  rw [← List.append_assoc]
                  exact h1
                have HS3 : Hid (h = false → ∀ w3, Bl w.heap.size w.heap.size (wrA (l.take k) ++ (32 :: P.name)) w3 → Bl w.heap.size w.heap.size (wrA (l.take (k + 1))) w3) := fun hh w3 h3 => by
                  subst hh
                  rw [HWT.out, HW1.out]
                  simpa using h3
                clear HW1 HWT HWL hwl hw1 hpn hpv
                cases h with
                | true =>
                  go_wp2_with (first
                    | (go_at_call 30; refine HF.out.mono ?_; rintro e w3 ⟨rfl, l6, lL, lB⟩; have e0 := l6.cell 0))
                  refine (HS1.out _ l6 lL lB).mono ?_
                  rintro e w4 ⟨rfl, m6, mL, mB⟩
                  have e1 := m6.cell 1
                  have e2 := m6.cell 2
                  go_wp2_with fail
                  refine (HS2.out (by simp) _ mL mB).mono ?_
                  rintro e w5 ⟨rfl, nL, nB⟩
                  have NL : Hid (Bl w.heap.size w.heap.size (wrA (l.take (k + 1))) w5) := nL
                  have NB : Hid (Below w.heap.size w w5) := nB
                  clear nL nB mL mB m6 l6 lL lB e0 e1 e2
                  go_wp2
                  go_roundw
                  case rel => exact ⟨k + 1, by omega, by go_num, NL, NB, HXX⟩
                  case measure => simp [intOf]; omega
                | false =>
                  go_wp2_with (first
                    | (go_at_call 30; refine HF.out.mono ?_; rintro e w3 ⟨rfl, l6, lL, lB⟩; have e0 := l6.cell 0))
                  refine (HS1.out _ l6 lL lB).mono ?_
                  rintro e w4 ⟨rfl, m6, mL, mB⟩
                  have e2 := m6.cell 2
                  have NL : Hid (Bl w.heap.size w.heap.size (wrA (l.take (k + 1))) w4) := HS3.out (by simp) _ mL
                  have NB : Hid (Below w.heap.size w w4) := mB
                  clear mL mB l6 lL lB e0
                  go_wp2
                  go_roundw
                  case rel => exact ⟨k + 1, by omega, by go_num, NL, NB, HXX⟩
                  case measure => simp [intOf]; omega
      · have hb2 : ¬ (k : Int) < (l.length : Int) := by omega
        obtain rfl : k = l.length := by omega
        have HXX : Hid (X = .ok (wrA l)) := by
          show _ = _
          rw [HX.out, List.drop_length, List.take_length, prtL, Pz.on, List.append_nil]
        rw [List.take_length] at HL
        have HST : Hid (Calls Tryz.prog 33 #[.pointer (some ⟨w.heap.size, 0, none⟩)] wr fun e w' => e = .returned (.string (tx (wrA l))) ∧ Below w.heap.size w w') := by
          show Calls _ _ _ _ _
          refine (bstr_any w.heap.size w.heap.size _ wr HL.out HSZ.out).mono ?_
          rintro e w' ⟨rfl, hb⟩
          exact ⟨rfl, HB.out.trans hb⟩
        clear HX HL HB
        go_wp2_with (go_at_call 33; refine HST.out.mono ?_; rintro e w2 ⟨rfl, hb2'⟩)
        go_ret2
        exact ⟨by rw [HXX.out, prV]; rfl, hb2'⟩
end Go.Proofs.YtjpmfgmoekpcpabGreatDoor
