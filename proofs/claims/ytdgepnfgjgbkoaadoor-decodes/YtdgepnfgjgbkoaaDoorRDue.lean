/-
  The document's hex: what two digits say.
-/
import Derived.Test.YtdgepnfgjgbkoaaDoorVa17
import Derived.Test.YtdgepnfgjgbkoaaDoorREnc
import Derived.Test.YtdgepnfgjgbkoaaDoorIx17
import Derived.Test.YtdgepnfgjgbkoaaDoorLay
namespace Go.Proofs.YtdgepnfgjgbkoaaDoor
open Go.RowKit

def dgS : ByteArray := ⟨#[48, 49, 50, 51, 52, 53, 54, 55, 56, 57, 97, 98, 99, 100, 101, 102]⟩
theorem hidx_any (c : UInt8) (w : World) : Calls Tryd.prog 78 #[.string dgS, .int .u8 ((smB c).toNat : Int)] w fun e w' => e = .returned (.int .i64 (hxI c)) ∧ w' = w := by
  refine (Tryd.strings_IndexByte dgS ((smB c).toNat : Int) w).mono ?_
  rintro e w' ⟨rfl, rfl⟩
  refine ⟨?_, rfl⟩
  simp [hxI, dgS]
set_option maxRecDepth 100000 in
set_option maxHeartbeats 1000000 in
theorem vhex_any (s : ByteArray) (hs : s.size ≤ 4294967000) (w : World) :
    Calls Tryd.prog 56 #[.string s] w fun e w' => e = .returned (.int .i64 (vH s.data.toList)) ∧ Below w.heap.size w w' := by
  have hl : s.data.toList.length = s.size := by rw [Array.length_toList]; rfl
  have HSM : Hid (∀ wx, Calls Tryd.prog 54 #[.string s] wx fun e w' => e = .returned (.string (smS s)) ∧ Below wx.heap.size wx w') := fun wx => vsmall_any s wx (by unfold maxLen; omega)
  by_cases h2 : s.size < 2
  · have HV : Hid (vH s.data.toList = -1) := by
      show vH _ = _
      match h : s.data.toList with
      | [] => rfl
      | [_] => rfl
      | _ :: _ :: _ => rw [h] at hl; simp at hl; omega
    have h2i : (s.size : Int) < 2 := by omega
    clear HSM
    go_enter Tryd.func56, Tryd.ntmps56
    go_wp2_with fail
    go_ret
    exact ⟨by rw [HV.out]; rfl, Below.refl _ _⟩
  · obtain ⟨a, b, t, hab⟩ : ∃ a b t, s.data.toList = a :: b :: t := by
      match h : s.data.toList with
      | [] => rw [h] at hl; simp at hl; omega
      | [_] => rw [h] at hl; simp at hl; omega
      | a :: b :: t => exact ⟨a, b, t, rfl⟩
    have h2i : ¬ (s.size : Int) < 2 := by omega
    have hz : (smS s).size = s.size := by
      show (sml s.data.toList).toArray.size = _
      rw [List.size_toArray, sml, List.length_map, hl]
    have hz0 : 0 < (smS s).size := by omega
    have hz1 : 1 < (smS s).size := by omega
    have e0 : (smS s).data[0]'hz0 = smB a := by simp [smS, hab, sml]
    have e1 : (smS s).data[1]'hz1 = smB b := by simp [smS, hab, sml]
    have HIA : Hid (∀ wx, Calls Tryd.prog 78 #[.string dgS, .int .u8 (((smS s).data[0]'hz0).toNat : Int)] wx fun e w' => e = .returned (.int .i64 (hxI a)) ∧ w' = wx) := fun wx => by rw [e0]; exact hidx_any a wx
    have HIB : Hid (∀ wx, Calls Tryd.prog 78 #[.string dgS, .int .u8 (((smS s).data[1]'hz1).toNat : Int)] wx fun e w' => e = .returned (.int .i64 (hxI b)) ∧ w' = wx) := fun wx => by rw [e1]; exact hidx_any b wx
    have HV : Hid (vH s.data.toList = if 0 ≤ hxI a ∧ 0 ≤ hxI b then 16 * hxI a + hxI b else -1) := by
      show vH _ = _
      rw [hab]
      rfl
    have ha := hx_is a
    have hb := hx_is b
    have ha1 := ha.2.1
    have ha2 := ha.2.2
    have hb1 := hb.2.1
    have hb2 := hb.2.2
    clear ha hb e0 e1 hab hz hl
    generalize hxI a = x at *
    generalize hxI b = y at *
    go_enter Tryd.func56, Tryd.ntmps56
    go_wp2_with fail
    refine (HSM.out _).mono ?_
    rintro e w1 ⟨rfl, hb1'⟩
    have HB1 : Hid (Below w.heap.size w w1) := hb1'
    clear hb1'
    go_wp2_with fail
    refine (HIA.out _).mono ?_
    rintro e w2 ⟨rfl, rfl⟩
    go_wp2_with fail
    refine (HSM.out _).mono ?_
    rintro e w3 ⟨rfl, hb3⟩
    have HB3 : Hid (Below w.heap.size w w3) := HB1.out.trans (hb3.mono HB1.out.size)
    clear hb3 HSM
    go_wp2_with fail
    refine (HIB.out _).mono ?_
    rintro e w4 ⟨rfl, rfl⟩
    by_cases hx : 0 ≤ x
    · have hx' : ¬ x < 0 := by omega
      by_cases hy : 0 ≤ y
      · have hy' : ¬ y < 0 := by omega
        have e9 : IntKind.i64.wrap (IntKind.i64.wrap (16 * x) + y) = 16 * x + y := by
          rw [IntKind.wrap_i64, IntKind.wrap_i64]; omega
        have HR : Hid (vH s.data.toList = 16 * x + y) := by
          show vH _ = _
          rw [HV.out, if_pos ⟨hx, hy⟩]
        go_wp2_with fail
        go_ret
        exact ⟨by rw [HR.out]; rfl, HB3.out⟩
      · have hy' : y < 0 := by omega
        have HR : Hid (vH s.data.toList = -1) := by
          show vH _ = _
          rw [HV.out, if_neg (fun h => hy h.2)]
        go_wp2_with fail
        go_ret
        exact ⟨by rw [HR.out]; rfl, HB3.out⟩
    · have hx' : x < 0 := by omega
      have HR : Hid (vH s.data.toList = -1) := by
        show vH _ = _
        rw [HV.out, if_neg (fun h => hx h.1)]
      go_wp2_with fail
      go_ret
      exact ⟨by rw [HR.out]; rfl, HB3.out⟩
end Go.Proofs.YtdgepnfgjgbkoaaDoor
/-
  The document's number, low and why.
-/
namespace Go.Proofs.YtdgepnfgjgbkoaaDoor
open Go.RowKit

/-! The document's. -/
theorem number_any (c : UInt8) (w : World) : Calls Tryd.prog 94 #[.int .u8 (c.toNat : Int)] w fun e w' => e = .returned (.int .i64 (numI c)) ∧ w' = w := by
  have HN : Hid (∀ k : Nat, (h : k < 64) → (((letS[k]'h).toNat : Int) = (c.toNat : Int) → numI c = (k : Int))) := fun k h e => by
    have h1 := let_at ⟨k, h⟩
    simp only at h1
    have h2 : c = ltr k := by rw [← h1]; exact (UInt8.toNat_inj.1 (by omega)).symm
    rw [h2, ltr_ok k h]
  have HA : Hid (∀ k : Nat, (h : k < 64) → numI c = (k : Int) → ((letS[k]'h).toNat : Int) = (c.toNat : Int)) := fun k h e => by
    have h1 := let_at ⟨k, h⟩
    simp only at h1
    rw [h1]
    have := ltr_num c (by omega)
    rw [e] at this
    rw [← this]
    simp
  have hb := numI_lt c
  go_enter Tryd.func94, Tryd.ntmps94
  go_wp2_with fail
  go_loop [3] (fun i => ∃ k : Nat, k ≤ 64 ∧ i = .int .i64 k ∧ Hid (∀ j : Nat, j < k → numI c ≠ (j : Int))) (fun i => 64 - (intOf i).toNat)
  case atStart => exact ⟨0, by omega, rfl, fun j hj => by omega⟩
  case round =>
    obtain ⟨k, hk, rfl, HJ⟩ := hrel
    by_cases hlt : k < 64
    · by_cases he : ((letS[k]'hlt).toNat : Int) = (c.toNat : Int)
      · have HR : Hid (numI c = (k : Int)) := HN.out k hlt he
        have he' : (((letS[k]'hlt).toNat : Int) == (c.toNat : Int)) = true := by simpa using he
        unfold letS at he'
        dsimp only at he'
        clear he
        go_wp2
        go_ret
        exact ⟨ret_i64 HR.out.symm, rfl⟩
      · have hne : ∀ j : Nat, j < k + 1 → numI c ≠ (j : Int) := fun j hj e => by
          by_cases h : j < k
          · exact HJ.out j h e
          · obtain rfl : j = k := by omega
            exact he (HA.out j hlt e)
        have HNE : Hid (∀ j : Nat, j < k + 1 → numI c ≠ (j : Int)) := hne
        have he' : (((letS[k]'hlt).toNat : Int) == (c.toNat : Int)) = false := by simpa using he
        unfold letS at he'
        dsimp only at he'
        clear hne he
        go_wp2
        go_round
        case rel => exact ⟨k + 1, by omega, by go_num, HNE⟩
        case measure => simp [intOf]; omega
    · have HM : Hid (numI c = -1) := by
        show _ = _
        by_cases h : 0 ≤ numI c
        · exact absurd (Int.toNat_of_nonneg h).symm (HJ.out (numI c).toNat (by omega))
        · omega
      go_wp2
      go_ret
      exact ⟨ret_i64 HM.out.symm, rfl⟩

theorem why_any (c : UInt8) (w : World) : Calls Tryd.prog 76 #[.int .u8 (c.toNat : Int)] w fun e w' => e = .returned (.int .i64 (errC c : Nat)) ∧ w' = w := by
  have HI : Hid (Calls Tryd.prog 94 #[.int .u8 (c.toNat : Int)] w fun e w' => e = .returned (.int .i64 (numI c)) ∧ w' = w) := number_any c w
  by_cases h0 : numI c < 0
  · by_cases hc : c = 61
    · subst hc
      have e : errC 61 = 41 := by decide
      rw [e]
      generalize numI 61 = n at HI h0
      go_enter Tryd.func76, Tryd.ntmps76
      go_wp2_with fail
      refine Calls.mono HI.out ?_
      rintro e w1 ⟨rfl, rfl⟩
      go_wp2
      go_ret
      exact ⟨rfl, rfl⟩
    · have e : errC c = 40 := by simp [errC, h0, hc]
      rw [e]
      have hne : ((c.toNat : Int) != 61) = true := by
        simp
        intro h
        exact hc (UInt8.toNat_inj.1 (by simpa using (by omega : c.toNat = 61)))
      generalize numI c = n at HI h0
      go_enter Tryd.func76, Tryd.ntmps76
      go_wp2_with fail
      refine Calls.mono HI.out ?_
      rintro e w1 ⟨rfl, rfl⟩
      go_wp2
      go_ret
      exact ⟨rfl, rfl⟩
  · have e : errC c = 41 := by simp [errC, h0]
    rw [e]
    generalize numI c = n at HI h0
    go_enter Tryd.func76, Tryd.ntmps76
    go_wp2_with fail
    refine Calls.mono HI.out ?_
    rintro e w1 ⟨rfl, rfl⟩
    go_wp2
    go_ret
    exact ⟨rfl, rfl⟩

theorem low_any (c : UInt8) (h0 : 0 ≤ numI c) (k : Nat) (hk : k ≤ 4) (w : World) : Calls Tryd.prog 107 #[.int .u8 (c.toNat : Int), .int .i64 k] w fun e w' => e = .returned (.bool (decide (numI c % 2 ^ k = 0))) ∧ w' = w := by
  have HI : Hid (Calls Tryd.prog 94 #[.int .u8 (c.toNat : Int)] w fun e w' => e = .returned (.int .i64 (numI c)) ∧ w' = w) := number_any c w
  have hb := numI_lt c
  obtain ⟨n, hn⟩ := Int.eq_ofNat_of_zero_le h0
  rw [hn] at HI hb ⊢
  have hn64 : n < 64 := by omega
  clear hb hn h0
  have HP : Hid (∀ j : Nat, j ≤ 4 → n % 2 ^ j = 0 → (n / 2 ^ j % 2 = 0 → n % 2 ^ (j + 1) = 0) ∧ (n / 2 ^ j % 2 ≠ 0 → ∀ i, j < i → i ≤ 4 → n % 2 ^ i ≠ 0)) := by
    have : ∀ n : Fin 64, ∀ j : Fin 5, n.val % 2 ^ j.val = 0 → (n.val / 2 ^ j.val % 2 = 0 → n.val % 2 ^ (j.val + 1) = 0) ∧ (n.val / 2 ^ j.val % 2 ≠ 0 → ∀ i : Fin 5, j.val < i.val → n.val % 2 ^ i.val ≠ 0) := by decide +kernel
    intro j hj h
    have := this ⟨n, hn64⟩ ⟨j, by omega⟩ h
    exact ⟨this.1, fun h2 i hi hi4 => this.2 h2 ⟨i, by omega⟩ hi⟩
  go_enter Tryd.func107, Tryd.ntmps107
  go_wp2_with fail
  refine Calls.mono HI.out ?_
  rintro e w1 ⟨rfl, rfl⟩
  go_wp2_with fail
  go_loop [5, 6] (fun x i => ∃ j y : Nat, j ≤ k ∧ i = .int .i64 j ∧ x = .int .i64 y ∧ y < 64 ∧ Hid (y = n / 2 ^ j ∧ n % 2 ^ j = 0)) (fun _ i => k - (intOf i).toNat)
  case atStart => exact ⟨0, n, by omega, rfl, rfl, hn64, by simp, by simp [Nat.mod_one]⟩
  case round =>
    obtain ⟨j, y, hj, rfl, rfl, hy, HY⟩ := hrel
    by_cases hlt : j < k
    · have hp := HP.out j (by omega) HY.out.2
      rw [← HY.out.1] at hp
      by_cases hz : y % 2 = 0
      · have HZ : Hid (y / 2 = n / 2 ^ (j + 1) ∧ n % 2 ^ (j + 1) = 0) := ⟨by rw [HY.out.1, Nat.pow_succ, Nat.div_div_eq_div_mul], hp.1 hz⟩
        have hz' : (y : Int) % 2 = 0 := by omega
        clear hp hz
        go_wp2
        go_round
        case rel => exact ⟨j + 1, y / 2, by omega, by go_num, by go_num, by omega, HZ⟩
        case measure => simp [intOf]; omega
      · have hz' : ((y : Int) % 2 != 0) = true := by simp; omega
        have HF : Hid (n % 2 ^ k ≠ 0) := hp.2 hz k hlt hk
        clear hp hz
        go_wp2
        go_ret
        refine ⟨ret_b ?_, rfl⟩
        have := HF.out
        symm
        rw [decide_eq_false_iff_not]
        intro h
        exact this (by exact_mod_cast h)
    · obtain rfl : j = k := by omega
      have h2 := HY.out.2
      have HF : Hid (n % 2 ^ j = 0) := h2
      clear h2
      go_wp2
      go_ret
      refine ⟨ret_b ?_, rfl⟩
      have := HF.out
      symm
      rw [decide_eq_true_eq]
      exact_mod_cast this
end Go.Proofs.YtdgepnfgjgbkoaaDoor
