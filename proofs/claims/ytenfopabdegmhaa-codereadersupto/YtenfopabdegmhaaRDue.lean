/-
  The document's number, low and why.
-/
import Derived.Test.YtenfopabdegmhaaDue
namespace Go.Proofs.Ytenfopabdegmhaa
open Go.RowKit

/-! The document's. -/
theorem number_any (c : UInt8) (w : World) : Calls Try.prog 32 #[.int .u8 (c.toNat : Int)] w fun e w' => e = .returned (.int .i64 (numI c)) ∧ w' = w := by
  have HN : Hid (∀ k : Nat, (h : k < 64) → (((letS[k]'h).toNat : Int) = (c.toNat : Int) → numI c = (k : Int))) := fun k h e => by
    have h1 := let_at ⟨k, h⟩
    simp only at h1
    have h2 : c = ltr k := by rw [← h1]; exact (UInt8.toNat_inj.1 (by omega)).symm
    rw [h2, ltr_ok k h]
  have HA : Hid (∀ k : Nat, (h : k < 64) → numI c = (k : Int) → ((letS[k]'h).toNat : Int) = (c.toNat : Int)) := fun k h e => by
    have h1 := let_at ⟨k, h⟩
    simp only at h1
    rw [h1]
    have := ltr_num c (by omega)
    rw [e] at this
    rw [← this]
    simp
  have hb := numI_lt c
  go_enter Try.func32, Try.ntmps32
  go_wp2_with fail
  go_loop [3] (fun i => ∃ k : Nat, k ≤ 64 ∧ i = .int .i64 k ∧ Hid (∀ j : Nat, j < k → numI c ≠ (j : Int))) (fun i => 64 - (intOf i).toNat)
  case atStart => exact ⟨0, by omega, rfl, fun j hj => by omega⟩
  case round =>
    obtain ⟨k, hk, rfl, HJ⟩ := hrel
    by_cases hlt : k < 64
    · by_cases he : ((letS[k]'hlt).toNat : Int) = (c.toNat : Int)
      · have HR : Hid (numI c = (k : Int)) := HN.out k hlt he
        have he' : (((letS[k]'hlt).toNat : Int) == (c.toNat : Int)) = true := by simpa using he
        unfold letS at he'
        dsimp only at he'
        clear he
        go_wp2
        go_ret
        exact ⟨ret_i64 HR.out.symm, rfl⟩
      · have hne : ∀ j : Nat, j < k + 1 → numI c ≠ (j : Int) := fun j hj e => by
          by_cases h : j < k
          · exact HJ.out j h e
          · obtain rfl : j = k := by omega
            exact he (HA.out j hlt e)
        have HNE : Hid (∀ j : Nat, j < k + 1 → numI c ≠ (j : Int)) := hne
        have he' : (((letS[k]'hlt).toNat : Int) == (c.toNat : Int)) = false := by simpa using he
        unfold letS at he'
        dsimp only at he'
        clear hne he
        go_wp2
        go_round
        case rel => exact ⟨k + 1, by omega, by go_num, HNE⟩
        case measure => simp [intOf]; omega
    · have HM : Hid (numI c = -1) := by
        show _ = _
        by_cases h : 0 ≤ numI c
        · exact absurd (Int.toNat_of_nonneg h).symm (HJ.out (numI c).toNat (by omega))
        · omega
      go_wp2
      go_ret
      exact ⟨ret_i64 HM.out.symm, rfl⟩

theorem why_any (c : UInt8) (w : World) : Calls Try.prog 22 #[.int .u8 (c.toNat : Int)] w fun e w' => e = .returned (.int .i64 (errC c : Nat)) ∧ w' = w := by
  have HI : Hid (Calls Try.prog 32 #[.int .u8 (c.toNat : Int)] w fun e w' => e = .returned (.int .i64 (numI c)) ∧ w' = w) := number_any c w
  by_cases h0 : numI c < 0
  · by_cases hc : c = 61
    · subst hc
      have e : errC 61 = 41 := by decide
      rw [e]
      generalize numI 61 = n at HI h0
      go_enter Try.func22, Try.ntmps22
      go_wp2_with fail
      refine Calls.mono HI.out ?_
      rintro e w1 ⟨rfl, rfl⟩
      go_wp2
      go_ret
      exact ⟨rfl, rfl⟩
    · have e : errC c = 40 := by simp [errC, h0, hc]
      rw [e]
      have hne : ((c.toNat : Int) != 61) = true := by
        simp
        intro h
        exact hc (UInt8.toNat_inj.1 (by simpa using (by omega : c.toNat = 61)))
      generalize numI c = n at HI h0
      go_enter Try.func22, Try.ntmps22
      go_wp2_with fail
      refine Calls.mono HI.out ?_
      rintro e w1 ⟨rfl, rfl⟩
      go_wp2
      go_ret
      exact ⟨rfl, rfl⟩
  · have e : errC c = 41 := by simp [errC, h0]
    rw [e]
    generalize numI c = n at HI h0
    go_enter Try.func22, Try.ntmps22
    go_wp2_with fail
    refine Calls.mono HI.out ?_
    rintro e w1 ⟨rfl, rfl⟩
    go_wp2
    go_ret
    exact ⟨rfl, rfl⟩

theorem low_any (c : UInt8) (h0 : 0 ≤ numI c) (k : Nat) (hk : k ≤ 4) (w : World) : Calls Try.prog 38 #[.int .u8 (c.toNat : Int), .int .i64 k] w fun e w' => e = .returned (.bool (decide (numI c % 2 ^ k = 0))) ∧ w' = w := by
  have HI : Hid (Calls Try.prog 32 #[.int .u8 (c.toNat : Int)] w fun e w' => e = .returned (.int .i64 (numI c)) ∧ w' = w) := number_any c w
  have hb := numI_lt c
  obtain ⟨n, hn⟩ := Int.eq_ofNat_of_zero_le h0
  rw [hn] at HI hb ⊢
  have hn64 : n < 64 := by omega
  clear hb hn h0
  have HP : Hid (∀ j : Nat, j ≤ 4 → n % 2 ^ j = 0 → (n / 2 ^ j % 2 = 0 → n % 2 ^ (j + 1) = 0) ∧ (n / 2 ^ j % 2 ≠ 0 → ∀ i, j < i → i ≤ 4 → n % 2 ^ i ≠ 0)) := by
    have : ∀ n : Fin 64, ∀ j : Fin 5, n.val % 2 ^ j.val = 0 → (n.val / 2 ^ j.val % 2 = 0 → n.val % 2 ^ (j.val + 1) = 0) ∧ (n.val / 2 ^ j.val % 2 ≠ 0 → ∀ i : Fin 5, j.val < i.val → n.val % 2 ^ i.val ≠ 0) := by decide +kernel
    intro j hj h
    have := this ⟨n, hn64⟩ ⟨j, by omega⟩ h
    exact ⟨this.1, fun h2 i hi hi4 => this.2 h2 ⟨i, by omega⟩ hi⟩
  go_enter Try.func38, Try.ntmps38
  go_wp2_with fail
  refine Calls.mono HI.out ?_
  rintro e w1 ⟨rfl, rfl⟩
  go_wp2_with fail
  go_loop [5, 6] (fun x i => ∃ j y : Nat, j ≤ k ∧ i = .int .i64 j ∧ x = .int .i64 y ∧ y < 64 ∧ Hid (y = n / 2 ^ j ∧ n % 2 ^ j = 0)) (fun _ i => k - (intOf i).toNat)
  case atStart => exact ⟨0, n, by omega, rfl, rfl, hn64, by simp, by simp [Nat.mod_one]⟩
  case round =>
    obtain ⟨j, y, hj, rfl, rfl, hy, HY⟩ := hrel
    by_cases hlt : j < k
    · have hp := HP.out j (by omega) HY.out.2
      rw [← HY.out.1] at hp
      by_cases hz : y % 2 = 0
      · have HZ : Hid (y / 2 = n / 2 ^ (j + 1) ∧ n % 2 ^ (j + 1) = 0) := ⟨by rw [HY.out.1, Nat.pow_succ, Nat.div_div_eq_div_mul], hp.1 hz⟩
        have hz' : (y : Int) % 2 = 0 := by omega
        clear hp hz
        go_wp2
        go_round
        case rel => exact ⟨j + 1, y / 2, by omega, by go_num, by go_num, by omega, HZ⟩
        case measure => simp [intOf]; omega
      · have hz' : ((y : Int) % 2 != 0) = true := by simp; omega
        have HF : Hid (n % 2 ^ k ≠ 0) := hp.2 hz k hlt hk
        clear hp hz
        go_wp2
        go_ret
        refine ⟨ret_b ?_, rfl⟩
        have := HF.out
        symm
        rw [decide_eq_false_iff_not]
        intro h
        exact this (by exact_mod_cast h)
    · obtain rfl : j = k := by omega
      have h2 := HY.out.2
      have HF : Hid (n % 2 ^ j = 0) := h2
      clear h2
      go_wp2
      go_ret
      refine ⟨ret_b ?_, rfl⟩
      have := HF.out
      symm
      rw [decide_eq_true_eq]
      exact_mod_cast this
end Go.Proofs.Ytenfopabdegmhaa
