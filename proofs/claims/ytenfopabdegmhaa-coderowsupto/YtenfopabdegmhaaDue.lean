/-
  What is due behind a byte: the program's walks, and the document's number, low and why.
-/
import Derived.Test.YtenfopabdegmhaaB64b
import Derived.Test.YtenfopabdegmhaaBase
import Derived.Test.YtenfopabdegmhaaShelf
namespace Go.Proofs.Ytenfopabdegmhaa
open Go.RowKit

def letS : ByteArray := ⟨#[65, 66, 67, 68, 69, 70, 71, 72, 73, 74, 75, 76, 77, 78, 79, 80, 81, 82, 83, 84, 85, 86, 87, 88, 89, 90, 97, 98, 99, 100, 101, 102, 103, 104, 105, 106, 107, 108, 109, 110, 111, 112, 113, 114, 115, 116, 117, 118, 119, 120, 121, 122, 48, 49, 50, 51, 52, 53, 54, 55, 56, 57, 43, 47]⟩
theorem idx_num (c : UInt8) : Lib.indexByte letS.data.toList c = numI c := by
  have := u8_all (p := fun c => decide (Lib.indexByte letS.data.toList c = numI c)) (by decide +kernel) c
  simpa using this
theorem let_at : ∀ k : Fin 64, (letS[k.val]'(k.isLt)) = ltr k.val := by decide +kernel
theorem idx_any (c : UInt8) (w : World) : Calls Try.prog 33 #[.string letS, .int .u8 (c.toNat : Int)] w fun e w' => e = .returned (.int .i64 (numI c)) ∧ w' = w := by
  have := Try.strings_IndexByte letS (c.toNat : Int) w
  refine this.mono ?_
  rintro e w' ⟨rfl, rfl⟩
  refine ⟨?_, rfl⟩
  congr 2
  rw [← idx_num c]
  congr 1
  simp

theorem and15 : ∀ n : Fin 64, bits .and .i64 (n.val : Int) 15 = (n.val : Int) % 16 := by decide +kernel
theorem and3 : ∀ n : Fin 64, bits .and .i64 (n.val : Int) 3 = (n.val : Int) % 4 := by decide +kernel

/-- What a step tells: what is due next, or what was, and the error. -/
def behD (d : Nat) (c : UInt8) : Nat := (nextD d c).getD d
def behE (d : Nat) (c : UInt8) : Nat := if (nextD d c).isSome = true then 0 else errC c

theorem bletter_any (d n : Nat) (hd : d < 8) (hn : n < 64) (w : World) :
    Calls Try.prog 34 #[.int .i64 d, .int .i64 n] w fun e w' => e = .returned (.tuple #[.int .i64 (behD d (ltr n) : Nat), .int .i64 (behE d (ltr n) : Nat)]) ∧ w' = w := by
  have h0 := ltr_ok n hn
  have hq : (0 : Int) ≤ (n : Int) := by omega
  have a15 := and15 ⟨n, hn⟩
  have a3 := and3 ⟨n, hn⟩
  simp only at a15 a3
  have he : errC (ltr n) = 41 := by unfold errC; rw [if_neg (by rw [h0]; omega)]
  by_cases d0 : d = 0
  · subst d0
    have e1 : behD 0 (ltr n) = 1 := by simp [behD, nextD, h0, hq]
    have e2 : behE 0 (ltr n) = 0 := by simp [behE, nextD, h0, hq]
    rw [e1, e2]
    clear e1 e2 h0 he
    go_enter Try.func34, Try.ntmps34
    go_wp2
    go_ret2
    exact ⟨rfl, rfl⟩
  by_cases d1 : d = 1
  · subst d1
    by_cases q : (n : Int) % 16 = 0
    · have e1 : behD 1 (ltr n) = 3 := by simp [behD, nextD, h0, hq, q]
      have e2 : behE 1 (ltr n) = 0 := by simp [behE, nextD, h0, hq, q]
      rw [e1, e2]
      rw [q] at a15
      clear e1 e2 h0 he q
      go_enter Try.func34, Try.ntmps34
      go_wp2
      go_ret2
      exact ⟨rfl, rfl⟩
    · have e1 : behD 1 (ltr n) = 2 := by simp [behD, nextD, h0, hq, q]
      have e2 : behE 1 (ltr n) = 0 := by simp [behE, nextD, h0, hq, q]
      rw [e1, e2]
      have q' : (bits .and .i64 (n : Int) 15 == 0) = false := by rw [a15]; simpa using q
      clear e1 e2 h0 he q a15
      go_enter Try.func34, Try.ntmps34
      go_wp2
      go_ret2
      exact ⟨rfl, rfl⟩
  by_cases d2 : d = 2 ∨ d = 3
  · by_cases q : (n : Int) % 4 = 0
    · have e1 : behD d (ltr n) = 5 := by simp [behD, nextD, h0, hq, q, d0, d1, d2]
      have e2 : behE d (ltr n) = 0 := by simp [behE, nextD, h0, hq, q, d0, d1, d2]
      rw [e1, e2]
      rw [q] at a3
      clear e1 e2 h0 he q
      rcases d2 with rfl | rfl
      all_goals
        go_enter Try.func34, Try.ntmps34
        go_wp2
        go_ret2
        exact ⟨rfl, rfl⟩
    · have e1 : behD d (ltr n) = 4 := by simp [behD, nextD, h0, hq, q, d0, d1, d2]
      have e2 : behE d (ltr n) = 0 := by simp [behE, nextD, h0, hq, q, d0, d1, d2]
      rw [e1, e2]
      have q' : (bits .and .i64 (n : Int) 3 == 0) = false := by rw [a3]; simpa using q
      clear e1 e2 h0 he q a3
      rcases d2 with rfl | rfl
      all_goals
        go_enter Try.func34, Try.ntmps34
        go_wp2
        go_ret2
        exact ⟨rfl, rfl⟩
  by_cases d4 : d = 4 ∨ d = 5
  · have e1 : behD d (ltr n) = 0 := by simp [behD, nextD, h0, hq, d0, d1, d2, d4]
    have e2 : behE d (ltr n) = 0 := by simp [behE, nextD, h0, hq, d0, d1, d2, d4]
    rw [e1, e2]
    clear e1 e2 h0 he
    rcases d4 with rfl | rfl
    all_goals
      go_enter Try.func34, Try.ntmps34
      go_wp2
      go_ret2
      exact ⟨rfl, rfl⟩
  · have e1 : behD d (ltr n) = d := by simp [behD, nextD, h0, hq, d0, d1, d2, d4]
    have e2 : behE d (ltr n) = 41 := by simp [behE, nextD, h0, hq, d0, d1, d2, d4, he]
    rw [e1, e2]
    clear e1 e2 h0 he
    have hd' : d = 6 ∨ d = 7 := by omega
    rcases hd' with rfl | rfl
    all_goals
      go_enter Try.func34, Try.ntmps34
      go_wp2
      go_ret2
      exact ⟨rfl, rfl⟩

theorem bpad_any (d : Nat) (hd : d < 8) (w : World) :
    Calls Try.prog 35 #[.int .i64 d] w fun e w' => e = .returned (.tuple #[.int .i64 (behD d 61 : Nat), .int .i64 (behE d 61 : Nat)]) ∧ w' = w := by
  have h : ∀ d : Fin 8, behD d.val 61 = (if d.val = 3 then 6 else if d.val = 5 ∨ d.val = 6 then 7 else d.val) ∧ behE d.val 61 = (if d.val = 3 ∨ d.val = 5 ∨ d.val = 6 then 0 else 41) := by decide +kernel
  obtain ⟨e1, e2⟩ := h ⟨d, hd⟩
  simp only at e1 e2
  rw [e1, e2]
  clear e1 e2 h
  match d, hd with
  | 0, _ | 1, _ | 2, _ | 3, _ | 4, _ | 5, _ | 6, _ | 7, _ =>
    go_enter Try.func35, Try.ntmps35
    go_wp2
    go_ret2
    exact ⟨rfl, rfl⟩

theorem behind_any (d : Nat) (hd : d < 8) (c : UInt8) (w : World) :
    Calls Try.prog 24 #[.int .i64 d, .int .u8 (c.toNat : Int)] w fun e w' => e = .returned (.tuple #[.int .i64 (behD d c : Nat), .int .i64 (behE d c : Nat)]) ∧ w' = w := by
  have hb := numI_lt c
  have HI : Hid (Calls Try.prog 33 #[.string letS, .int .u8 (c.toNat : Int)] w fun e w' => e = .returned (.int .i64 (numI c)) ∧ w' = w) := idx_any c w
  by_cases h0 : 0 ≤ numI c
  · obtain ⟨n, hn⟩ := Int.eq_ofNat_of_zero_le h0
    have hl : ltr n = c := by
      have := ltr_num c h0
      rw [hn] at this
      simpa using this
    have HL : Hid (Calls Try.prog 34 #[.int .i64 d, .int .i64 n] w fun e w' => e = .returned (.tuple #[.int .i64 (behD d c : Nat), .int .i64 (behE d c : Nat)]) ∧ w' = w) := by
      have := bletter_any d n hd (by omega) w
      rw [hl] at this
      exact this
    rw [hn] at HI
    clear hl hn h0 hb
    generalize behD d c = x at HL ⊢
    generalize behE d c = y at HL ⊢
    go_enter Try.func24, Try.ntmps24
    go_wp2_with fail
    refine Calls.mono HI.out ?_
    rintro e w1 ⟨rfl, rfl⟩
    go_wp2_with fail
    refine Calls.mono HL.out ?_
    rintro e w1 ⟨rfl, rfl⟩
    go_wp2
    go_ret2
    exact ⟨rfl, rfl⟩
  · have hm : numI c = -1 := by omega
    rw [hm] at HI
    by_cases hc : c = 61
    · subst hc
      have HP : Hid (Calls Try.prog 35 #[.int .i64 d] w fun e w' => e = .returned (.tuple #[.int .i64 (behD d 61 : Nat), .int .i64 (behE d 61 : Nat)]) ∧ w' = w) := bpad_any d hd w
      clear hb h0 hm
      generalize behD d 61 = x at HP ⊢
      generalize behE d 61 = y at HP ⊢
      go_enter Try.func24, Try.ntmps24
      go_wp2_with fail
      refine Calls.mono HI.out ?_
      rintro e w1 ⟨rfl, rfl⟩
      go_wp2_with fail
      refine Calls.mono HP.out ?_
      rintro e w1 ⟨rfl, rfl⟩
      go_wp2
      go_ret2
      exact ⟨rfl, rfl⟩
    · have e1 : behD d c = d := by simp [behD, nextD, h0, hc]
      have e2 : behE d c = 40 := by simp [behE, nextD, hc, errC, hm]
      rw [e1, e2]
      have hne : ((c.toNat : Int) == 61) = false := by
        simp
        intro h
        exact hc (UInt8.toNat_inj.1 (by simpa using (by omega : c.toNat = 61)))
      clear e1 e2 hb h0 hm
      go_enter Try.func24, Try.ntmps24
      go_wp2_with fail
      refine Calls.mono HI.out ?_
      rintro e w1 ⟨rfl, rfl⟩
      go_wp2
      go_ret2
      exact ⟨rfl, rfl⟩

/-! The document's. -/
theorem number_any (c : UInt8) (w : World) : Calls Try.prog 32 #[.int .u8 (c.toNat : Int)] w fun e w' => e = .returned (.int .i64 (numI c)) ∧ w' = w := by
  have HN : Hid (∀ k : Nat, (h : k < 64) → (((letS[k]'h).toNat : Int) = (c.toNat : Int) → numI c = (k : Int))) := fun k h e => by
    have h1 := let_at ⟨k, h⟩
    simp only at h1
    have h2 : c = ltr k := by rw [← h1]; exact (UInt8.toNat_inj.1 (by omega)).symm
    rw [h2, ltr_ok k h]
  have HA : Hid (∀ k : Nat, (h : k < 64) → numI c = (k : Int) → ((letS[k]'h).toNat : Int) = (c.toNat : Int)) := fun k h e => by
    have h1 := let_at ⟨k, h⟩
    simp only at h1
    rw [h1]
    have := ltr_num c (by omega)
    rw [e] at this
    rw [← this]
    simp
  have hb := numI_lt c
  go_enter Try.func32, Try.ntmps32
  go_wp2_with fail
  go_loop [3] (fun i => ∃ k : Nat, k ≤ 64 ∧ i = .int .i64 k ∧ Hid (∀ j : Nat, j < k → numI c ≠ (j : Int))) (fun i => 64 - (intOf i).toNat)
  case atStart => exact ⟨0, by omega, rfl, fun j hj => by omega⟩
  case round =>
    obtain ⟨k, hk, rfl, HJ⟩ := hrel
    by_cases hlt : k < 64
    · by_cases he : ((letS[k]'hlt).toNat : Int) = (c.toNat : Int)
      · have HR : Hid (numI c = (k : Int)) := HN.out k hlt he
        have he' : (((letS[k]'hlt).toNat : Int) == (c.toNat : Int)) = true := by simpa using he
        unfold letS at he'
        dsimp only at he'
        clear he
        go_wp2
        go_ret
        exact ⟨ret_i64 HR.out.symm, rfl⟩
      · have hne : ∀ j : Nat, j < k + 1 → numI c ≠ (j : Int) := fun j hj e => by
          by_cases h : j < k
          · exact HJ.out j h e
          · obtain rfl : j = k := by omega
            exact he (HA.out j hlt e)
        have HNE : Hid (∀ j : Nat, j < k + 1 → numI c ≠ (j : Int)) := hne
        have he' : (((letS[k]'hlt).toNat : Int) == (c.toNat : Int)) = false := by simpa using he
        unfold letS at he'
        dsimp only at he'
        clear hne he
        go_wp2
        go_round
        case rel => exact ⟨k + 1, by omega, by go_num, HNE⟩
        case measure => simp [intOf]; omega
    · have HM : Hid (numI c = -1) := by
        show _ = _
        by_cases h : 0 ≤ numI c
        · exact absurd (Int.toNat_of_nonneg h).symm (HJ.out (numI c).toNat (by omega))
        · omega
      go_wp2
      go_ret
      exact ⟨ret_i64 HM.out.symm, rfl⟩

theorem why_any (c : UInt8) (w : World) : Calls Try.prog 22 #[.int .u8 (c.toNat : Int)] w fun e w' => e = .returned (.int .i64 (errC c : Nat)) ∧ w' = w := by
  have HI : Hid (Calls Try.prog 32 #[.int .u8 (c.toNat : Int)] w fun e w' => e = .returned (.int .i64 (numI c)) ∧ w' = w) := number_any c w
  by_cases h0 : numI c < 0
  · by_cases hc : c = 61
    · subst hc
      have e : errC 61 = 41 := by decide
      rw [e]
      generalize numI 61 = n at HI h0
      go_enter Try.func22, Try.ntmps22
      go_wp2_with fail
      refine Calls.mono HI.out ?_
      rintro e w1 ⟨rfl, rfl⟩
      go_wp2
      go_ret
      exact ⟨rfl, rfl⟩
    · have e : errC c = 40 := by simp [errC, h0, hc]
      rw [e]
      have hne : ((c.toNat : Int) != 61) = true := by
        simp
        intro h
        exact hc (UInt8.toNat_inj.1 (by simpa using (by omega : c.toNat = 61)))
      generalize numI c = n at HI h0
      go_enter Try.func22, Try.ntmps22
      go_wp2_with fail
      refine Calls.mono HI.out ?_
      rintro e w1 ⟨rfl, rfl⟩
      go_wp2
      go_ret
      exact ⟨rfl, rfl⟩
  · have e : errC c = 41 := by simp [errC, h0]
    rw [e]
    generalize numI c = n at HI h0
    go_enter Try.func22, Try.ntmps22
    go_wp2_with fail
    refine Calls.mono HI.out ?_
    rintro e w1 ⟨rfl, rfl⟩
    go_wp2
    go_ret
    exact ⟨rfl, rfl⟩

theorem low_any (c : UInt8) (h0 : 0 ≤ numI c) (k : Nat) (hk : k ≤ 4) (w : World) : Calls Try.prog 38 #[.int .u8 (c.toNat : Int), .int .i64 k] w fun e w' => e = .returned (.bool (decide (numI c % 2 ^ k = 0))) ∧ w' = w := by
  have HI : Hid (Calls Try.prog 32 #[.int .u8 (c.toNat : Int)] w fun e w' => e = .returned (.int .i64 (numI c)) ∧ w' = w) := number_any c w
  have hb := numI_lt c
  obtain ⟨n, hn⟩ := Int.eq_ofNat_of_zero_le h0
  rw [hn] at HI hb ⊢
  have hn64 : n < 64 := by omega
  clear hb hn h0
  have HP : Hid (∀ j : Nat, j ≤ 4 → n % 2 ^ j = 0 → (n / 2 ^ j % 2 = 0 → n % 2 ^ (j + 1) = 0) ∧ (n / 2 ^ j % 2 ≠ 0 → ∀ i, j < i → i ≤ 4 → n % 2 ^ i ≠ 0)) := by
    have : ∀ n : Fin 64, ∀ j : Fin 5, n.val % 2 ^ j.val = 0 → (n.val / 2 ^ j.val % 2 = 0 → n.val % 2 ^ (j.val + 1) = 0) ∧ (n.val / 2 ^ j.val % 2 ≠ 0 → ∀ i : Fin 5, j.val < i.val → n.val % 2 ^ i.val ≠ 0) := by decide +kernel
    intro j hj h
    have := this ⟨n, hn64⟩ ⟨j, by omega⟩ h
    exact ⟨this.1, fun h2 i hi hi4 => this.2 h2 ⟨i, by omega⟩ hi⟩
  go_enter Try.func38, Try.ntmps38
  go_wp2_with fail
  refine Calls.mono HI.out ?_
  rintro e w1 ⟨rfl, rfl⟩
  go_wp2_with fail
  go_loop [5, 6] (fun x i => ∃ j y : Nat, j ≤ k ∧ i = .int .i64 j ∧ x = .int .i64 y ∧ y < 64 ∧ Hid (y = n / 2 ^ j ∧ n % 2 ^ j = 0)) (fun _ i => k - (intOf i).toNat)
  case atStart => exact ⟨0, n, by omega, rfl, rfl, hn64, by simp, by simp [Nat.mod_one]⟩
  case round =>
    obtain ⟨j, y, hj, rfl, rfl, hy, HY⟩ := hrel
    by_cases hlt : j < k
    · have hp := HP.out j (by omega) HY.out.2
      rw [← HY.out.1] at hp
      by_cases hz : y % 2 = 0
      · have HZ : Hid (y / 2 = n / 2 ^ (j + 1) ∧ n % 2 ^ (j + 1) = 0) := ⟨by rw [HY.out.1, Nat.pow_succ, Nat.div_div_eq_div_mul], hp.1 hz⟩
        have hz' : (y : Int) % 2 = 0 := by omega
        clear hp hz
        go_wp2
        go_round
        case rel => exact ⟨j + 1, y / 2, by omega, by go_num, by go_num, by omega, HZ⟩
        case measure => simp [intOf]; omega
      · have hz' : ((y : Int) % 2 != 0) = true := by simp; omega
        have HF : Hid (n % 2 ^ k ≠ 0) := hp.2 hz k hlt hk
        clear hp hz
        go_wp2
        go_ret
        refine ⟨ret_b ?_, rfl⟩
        have := HF.out
        symm
        rw [decide_eq_false_iff_not]
        intro h
        exact this (by exact_mod_cast h)
    · obtain rfl : j = k := by omega
      have h2 := HY.out.2
      have HF : Hid (n % 2 ^ j = 0) := h2
      clear h2
      go_wp2
      go_ret
      refine ⟨ret_b ?_, rfl⟩
      have := HF.out
      symm
      rw [decide_eq_true_eq]
      exact_mod_cast this
end Go.Proofs.Ytenfopabdegmhaa
