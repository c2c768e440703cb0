/-
  What is due behind a byte: the program's walks, and the document's number, low and why.
-/
import Derived.Test.YtdgepnfgjgbkoaaDoorB64b
import Derived.Test.YtdgepnfgjgbkoaaDoorBase
import Derived.Test.YtdgepnfgjgbkoaaDoorShelf
namespace Go.Proofs.YtdgepnfgjgbkoaaDoor
open Go.RowKit

def letS : ByteArray := ⟨#[65, 66, 67, 68, 69, 70, 71, 72, 73, 74, 75, 76, 77, 78, 79, 80, 81, 82, 83, 84, 85, 86, 87, 88, 89, 90, 97, 98, 99, 100, 101, 102, 103, 104, 105, 106, 107, 108, 109, 110, 111, 112, 113, 114, 115, 116, 117, 118, 119, 120, 121, 122, 48, 49, 50, 51, 52, 53, 54, 55, 56, 57, 43, 47]⟩
theorem idx_num (c : UInt8) : Lib.indexByte letS.data.toList c = numI c := by
  have := u8_all (p := fun c => decide (Lib.indexByte letS.data.toList c = numI c)) (by decide +kernel) c
  simpa using this
theorem let_at : ∀ k : Fin 64, (letS[k.val]'(k.isLt)) = ltr k.val := by decide +kernel
theorem idx_any (c : UInt8) (w : World) : Calls Tryd.prog 78 #[.string letS, .int .u8 (c.toNat : Int)] w fun e w' => e = .returned (.int .i64 (numI c)) ∧ w' = w := by
  have := Tryd.strings_IndexByte letS (c.toNat : Int) w
  refine this.mono ?_
  rintro e w' ⟨rfl, rfl⟩
  refine ⟨?_, rfl⟩
  congr 2
  rw [← idx_num c]
  congr 1
  simp

theorem and15 : ∀ n : Fin 64, bits .and .i64 (n.val : Int) 15 = (n.val : Int) % 16 := by decide +kernel
theorem and3 : ∀ n : Fin 64, bits .and .i64 (n.val : Int) 3 = (n.val : Int) % 4 := by decide +kernel

/-- What a step tells: what is due next, or what was, and the error. -/
def behD (d : Nat) (c : UInt8) : Nat := (nextD d c).getD d
def behE (d : Nat) (c : UInt8) : Nat := if (nextD d c).isSome = true then 0 else errC c

theorem bletter_any (d n : Nat) (hd : d < 8) (hn : n < 64) (w : World) :
    Calls Tryd.prog 100 #[.int .i64 d, .int .i64 n] w fun e w' => e = .returned (.tuple #[.int .i64 (behD d (ltr n) : Nat), .int .i64 (behE d (ltr n) : Nat)]) ∧ w' = w := by
  have h0 := ltr_ok n hn
  have hq : (0 : Int) ≤ (n : Int) := by omega
  have a15 := and15 ⟨n, hn⟩
  have a3 := and3 ⟨n, hn⟩
  simp only at a15 a3
  have he : errC (ltr n) = 41 := by unfold errC; rw [if_neg (by rw [h0]; omega)]
  by_cases d0 : d = 0
  · subst d0
    have e1 : behD 0 (ltr n) = 1 := by simp [behD, nextD, h0, hq]
    have e2 : behE 0 (ltr n) = 0 := by simp [behE, nextD, h0, hq]
    rw [e1, e2]
    clear e1 e2 h0 he
    go_enter Tryd.func100, Tryd.ntmps100
    go_wp2
    go_ret2
    exact ⟨rfl, rfl⟩
  by_cases d1 : d = 1
  · subst d1
    by_cases q : (n : Int) % 16 = 0
    · have e1 : behD 1 (ltr n) = 3 := by simp [behD, nextD, h0, hq, q]
      have e2 : behE 1 (ltr n) = 0 := by simp [behE, nextD, h0, hq, q]
      rw [e1, e2]
      rw [q] at a15
      clear e1 e2 h0 he q
      go_enter Tryd.func100, Tryd.ntmps100
      go_wp2
      go_ret2
      exact ⟨rfl, rfl⟩
    · have e1 : behD 1 (ltr n) = 2 := by simp [behD, nextD, h0, hq, q]
      have e2 : behE 1 (ltr n) = 0 := by simp [behE, nextD, h0, hq, q]
      rw [e1, e2]
      have q' : (bits .and .i64 (n : Int) 15 == 0) = false := by rw [a15]; simpa using q
      clear e1 e2 h0 he q a15
      go_enter Tryd.func100, Tryd.ntmps100
      go_wp2
      go_ret2
      exact ⟨rfl, rfl⟩
  by_cases d2 : d = 2 ∨ d = 3
  · by_cases q : (n : Int) % 4 = 0
    · have e1 : behD d (ltr n) = 5 := by simp [behD, nextD, h0, hq, q, d0, d1, d2]
      have e2 : behE d (ltr n) = 0 := by simp [behE, nextD, h0, hq, q, d0, d1, d2]
      rw [e1, e2]
      rw [q] at a3
      clear e1 e2 h0 he q
      rcases d2 with rfl | rfl
      all_goals
        go_enter Tryd.func100, Tryd.ntmps100
        go_wp2
        go_ret2
        exact ⟨rfl, rfl⟩
    · have e1 : behD d (ltr n) = 4 := by simp [behD, nextD, h0, hq, q, d0, d1, d2]
      have e2 : behE d (ltr n) = 0 := by simp [behE, nextD, h0, hq, q, d0, d1, d2]
      rw [e1, e2]
      have q' : (bits .and .i64 (n : Int) 3 == 0) = false := by rw [a3]; simpa using q
      clear e1 e2 h0 he q a3
      rcases d2 with rfl | rfl
      all_goals
        go_enter Tryd.func100, Tryd.ntmps100
        go_wp2
        go_ret2
        exact ⟨rfl, rfl⟩
  by_cases d4 : d = 4 ∨ d = 5
  · have e1 : behD d (ltr n) = 0 := by simp [behD, nextD, h0, hq, d0, d1, d2, d4]
    have e2 : behE d (ltr n) = 0 := by simp [behE, nextD, h0, hq, d0, d1, d2, d4]
    rw [e1, e2]
    clear e1 e2 h0 he
    rcases d4 with rfl | rfl
    all_goals
      go_enter Tryd.func100, Tryd.ntmps100
      go_wp2
      go_ret2
      exact ⟨rfl, rfl⟩
  · have e1 : behD d (ltr n) = d := by simp [behD, nextD, h0, hq, d0, d1, d2, d4]
    have e2 : behE d (ltr n) = 41 := by simp [behE, nextD, h0, hq, d0, d1, d2, d4, he]
    rw [e1, e2]
    clear e1 e2 h0 he
    have hd' : d = 6 ∨ d = 7 := by omega
    rcases hd' with rfl | rfl
    all_goals
      go_enter Tryd.func100, Tryd.ntmps100
      go_wp2
      go_ret2
      exact ⟨rfl, rfl⟩

theorem bpad_any (d : Nat) (hd : d < 8) (w : World) :
    Calls Tryd.prog 101 #[.int .i64 d] w fun e w' => e = .returned (.tuple #[.int .i64 (behD d 61 : Nat), .int .i64 (behE d 61 : Nat)]) ∧ w' = w := by
  have h : ∀ d : Fin 8, behD d.val 61 = (if d.val = 3 then 6 else if d.val = 5 ∨ d.val = 6 then 7 else d.val) ∧ behE d.val 61 = (if d.val = 3 ∨ d.val = 5 ∨ d.val = 6 then 0 else 41) := by decide +kernel
  obtain ⟨e1, e2⟩ := h ⟨d, hd⟩
  simp only at e1 e2
  rw [e1, e2]
  clear e1 e2 h
  match d, hd with
  | 0, _ | 1, _ | 2, _ | 3, _ | 4, _ | 5, _ | 6, _ | 7, _ =>
    go_enter Tryd.func101, Tryd.ntmps101
    go_wp2
    go_ret2
    exact ⟨rfl, rfl⟩

theorem behind_any (d : Nat) (hd : d < 8) (c : UInt8) (w : World) :
    Calls Tryd.prog 83 #[.int .i64 d, .int .u8 (c.toNat : Int)] w fun e w' => e = .returned (.tuple #[.int .i64 (behD d c : Nat), .int .i64 (behE d c : Nat)]) ∧ w' = w := by
  have hb := numI_lt c
  have HI : Hid (Calls Tryd.prog 78 #[.string letS, .int .u8 (c.toNat : Int)] w fun e w' => e = .returned (.int .i64 (numI c)) ∧ w' = w) := idx_any c w
  by_cases h0 : 0 ≤ numI c
  · obtain ⟨n, hn⟩ := Int.eq_ofNat_of_zero_le h0
    have hl : ltr n = c := by
      have := ltr_num c h0
      rw [hn] at this
      simpa using this
    have HL : Hid (Calls Tryd.prog 100 #[.int .i64 d, .int .i64 n] w fun e w' => e = .returned (.tuple #[.int .i64 (behD d c : Nat), .int .i64 (behE d c : Nat)]) ∧ w' = w) := by
      have := bletter_any d n hd (by omega) w
      rw [hl] at this
      exact this
    rw [hn] at HI
    clear hl hn h0 hb
    generalize behD d c = x at HL ⊢
    generalize behE d c = y at HL ⊢
    go_enter Tryd.func83, Tryd.ntmps83
    go_wp2_with fail
    refine Calls.mono HI.out ?_
    rintro e w1 ⟨rfl, rfl⟩
    go_wp2_with fail
    refine Calls.mono HL.out ?_
    rintro e w1 ⟨rfl, rfl⟩
    go_wp2
    go_ret2
    exact ⟨rfl, rfl⟩
  · have hm : numI c = -1 := by omega
    rw [hm] at HI
    by_cases hc : c = 61
    · subst hc
      have HP : Hid (Calls Tryd.prog 101 #[.int .i64 d] w fun e w' => e = .returned (.tuple #[.int .i64 (behD d 61 : Nat), .int .i64 (behE d 61 : Nat)]) ∧ w' = w) := bpad_any d hd w
      clear hb h0 hm
      generalize behD d 61 = x at HP ⊢
      generalize behE d 61 = y at HP ⊢
      go_enter Tryd.func83, Tryd.ntmps83
      go_wp2_with fail
      refine Calls.mono HI.out ?_
      rintro e w1 ⟨rfl, rfl⟩
      go_wp2_with fail
      refine Calls.mono HP.out ?_
      rintro e w1 ⟨rfl, rfl⟩
      go_wp2
      go_ret2
      exact ⟨rfl, rfl⟩
    · have e1 : behD d c = d := by simp [behD, nextD, h0, hc]
      have e2 : behE d c = 40 := by simp [behE, nextD, hc, errC, hm]
      rw [e1, e2]
      have hne : ((c.toNat : Int) == 61) = false := by
        simp
        intro h
        exact hc (UInt8.toNat_inj.1 (by simpa using (by omega : c.toNat = 61)))
      clear e1 e2 hb h0 hm
      go_enter Tryd.func83, Tryd.ntmps83
      go_wp2_with fail
      refine Calls.mono HI.out ?_
      rintro e w1 ⟨rfl, rfl⟩
      go_wp2
      go_ret2
      exact ⟨rfl, rfl⟩

end Go.Proofs.YtdgepnfgjgbkoaaDoor
