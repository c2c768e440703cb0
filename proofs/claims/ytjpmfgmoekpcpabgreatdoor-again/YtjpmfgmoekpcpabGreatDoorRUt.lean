/-
  The document's Is, Write, lead and made.
-/
import Derived.Test.YtjpmfgmoekpcpabGreatDoorRUtP
import Derived.Test.YtjpmfgmoekpcpabGreatDoorGrown
import Derived.Test.YtjpmfgmoekpcpabGreatDoorRn
namespace Go.Proofs.YtjpmfgmoekpcpabGreatDoor
open Go.RowKit

set_option maxHeartbeats 1000000 in
set_option maxRecDepth 100000 in
theorem dis_any (r : Int) (w : World) : Calls Tryz.prog 150 #[.int .i64 r] w fun e w' => e = .returned (.bool (decide (isR r))) ∧ w' = w := by
  by_cases h1 : 0 ≤ r
  · by_cases h2 : r ≤ 1114111
    · by_cases h3 : r < 55296
      · have HR : Hid (decide (isR r) = true) := decide_eq_true ⟨h1, h2, .inl h3⟩
        go_enter Tryz.func150, Tryz.ntmps150
        go_wp2
        go_ret
        exact ⟨ret_b HR.out.symm, rfl⟩
      · by_cases h4 : 57343 < r
        · have HR : Hid (decide (isR r) = true) := decide_eq_true ⟨h1, h2, .inr h4⟩
          go_enter Tryz.func150, Tryz.ntmps150
          go_wp2
          go_ret
          exact ⟨ret_b HR.out.symm, rfl⟩
        · have HR : Hid (decide (isR r) = false) := decide_eq_false (by unfold isR; omega)
          go_enter Tryz.func150, Tryz.ntmps150
          go_wp2
          go_ret
          exact ⟨ret_b (by rw [HR.out]), rfl⟩
    · have HR : Hid (decide (isR r) = false) := decide_eq_false (by unfold isR; omega)
      go_enter Tryz.func150, Tryz.ntmps150
      go_wp2
      go_ret
      exact ⟨ret_b (by rw [HR.out]), rfl⟩
  · have HR : Hid (decide (isR r) = false) := decide_eq_false (by unfold isR; omega)
    go_enter Tryz.func150, Tryz.ntmps150
    go_wp2
    go_ret
    exact ⟨ret_b (by rw [HR.out]), rfl⟩

theorem u8c (x : Int) (h0 : 0 ≤ x) (h1 : x < 256) : x = ((x.toNat.toUInt8).toNat : Int) := by rw [u8_of x h0 h1]; omega

set_option maxHeartbeats 1000000 in
set_option maxRecDepth 100000 in
theorem dwr_any (r : Int) (h : isR r) (w : World) : Calls Tryz.prog 151 #[.int .i32 r] w fun e w' => e = .returned (.slice (some ⟨w.heap.size, 0, none⟩) (Lib.encodeRune r).length (Lib.encodeRune r).length) ∧ w' = w.alloc (.cells (rowV (Lib.encodeRune r)) 5) := by
  obtain ⟨h0, h1, h2⟩ := h
  unfold Lib.encodeRune
  by_cases c1 : r < 128
  · rw [Lib.encodeRuneZ_one h0 (by omega)]
    have e1 := u8c r h0 (by omega)
    have w1 : IntKind.u8.wrap r = r := by rw [IntKind.wrap_u8]; omega
    have HE : Hid (rowV ([r].map fun x => x.toNat.toUInt8) = #[.int .u8 r]) := by show _ = _; simp [rowV, cellsB]; omega
    have HLN : Hid (([r].map fun x => x.toNat.toUInt8).length = 1) := rfl
    generalize ([r].map fun x => x.toNat.toUInt8) = E at HE HLN ⊢
    clear e1
    go_enter Tryz.func151, Tryz.ntmps151
    go_wp2
    go_ret
    exact ⟨by rw [HLN.out]; rfl, by rw [HE.out]⟩
  by_cases c2 : r < 2048
  · rw [Lib.encodeRuneZ_two (by omega) (by omega)]
    have t1 : r.tdiv 64 = r / 64 := Int.tdiv_eq_ediv_of_nonneg h0
    have t2 : r.tmod 64 = r % 64 := Int.tmod_eq_emod_of_nonneg h0
    have w1 : IntKind.u8.wrap (192 + r / 64) = 192 + r / 64 := by rw [IntKind.wrap_u8]; omega
    have w2 : IntKind.u8.wrap (128 + r % 64) = 128 + r % 64 := by rw [IntKind.wrap_u8]; omega
    have HE : Hid (rowV ([192 + r / 64, 128 + r % 64].map fun x => x.toNat.toUInt8) = #[.int .u8 (192 + r / 64), .int .u8 (128 + r % 64)]) := by show _ = _; simp [rowV, cellsB]; omega
    have HLN : Hid (([192 + r / 64, 128 + r % 64].map fun x => x.toNat.toUInt8).length = 2) := rfl
    generalize ([192 + r / 64, 128 + r % 64].map fun x => x.toNat.toUInt8) = E at HE HLN ⊢
    go_enter Tryz.func151, Tryz.ntmps151
    go_wp2
    go_ret
    exact ⟨by rw [HLN.out]; rfl, by rw [HE.out]⟩
  by_cases c3 : r < 65536
  · rw [Lib.encodeRuneZ_three (by omega)]
    have t1 : r.tdiv 64 = r / 64 := Int.tdiv_eq_ediv_of_nonneg h0
    have t2 : r.tmod 64 = r % 64 := Int.tmod_eq_emod_of_nonneg h0
    have t3 : r.tdiv 4096 = r / 4096 := Int.tdiv_eq_ediv_of_nonneg h0
    have t4 : (r / 64).tmod 64 = r / 64 % 64 := Int.tmod_eq_emod_of_nonneg (by omega)
    have w1 : IntKind.u8.wrap (224 + r / 4096) = 224 + r / 4096 := by rw [IntKind.wrap_u8]; omega
    have w2 : IntKind.u8.wrap (128 + r / 64 % 64) = 128 + r / 64 % 64 := by rw [IntKind.wrap_u8]; omega
    have w3 : IntKind.u8.wrap (128 + r % 64) = 128 + r % 64 := by rw [IntKind.wrap_u8]; omega
    have HE : Hid (rowV ([224 + r / 4096, 128 + r / 64 % 64, 128 + r % 64].map fun x => x.toNat.toUInt8) = #[.int .u8 (224 + r / 4096), .int .u8 (128 + r / 64 % 64), .int .u8 (128 + r % 64)]) := by show _ = _; simp [rowV, cellsB]; omega
    have HLN : Hid (([224 + r / 4096, 128 + r / 64 % 64, 128 + r % 64].map fun x => x.toNat.toUInt8).length = 3) := rfl
    generalize ([224 + r / 4096, 128 + r / 64 % 64, 128 + r % 64].map fun x => x.toNat.toUInt8) = E at HE HLN ⊢
    go_enter Tryz.func151, Tryz.ntmps151
    go_wp2
    go_ret
    exact ⟨by rw [HLN.out]; rfl, by rw [HE.out]⟩
  · rw [Lib.encodeRuneZ_four (by omega) (by omega)]
    have t1 : r.tdiv 64 = r / 64 := Int.tdiv_eq_ediv_of_nonneg h0
    have t2 : r.tmod 64 = r % 64 := Int.tmod_eq_emod_of_nonneg h0
    have t3 : r.tdiv 4096 = r / 4096 := Int.tdiv_eq_ediv_of_nonneg h0
    have t4 : (r / 64).tmod 64 = r / 64 % 64 := Int.tmod_eq_emod_of_nonneg (by omega)
    have t5 : r.tdiv 262144 = r / 262144 := Int.tdiv_eq_ediv_of_nonneg h0
    have t6 : (r / 4096).tmod 64 = r / 4096 % 64 := Int.tmod_eq_emod_of_nonneg (by omega)
    have w1 : IntKind.u8.wrap (240 + r / 262144) = 240 + r / 262144 := by rw [IntKind.wrap_u8]; omega
    have w2 : IntKind.u8.wrap (128 + r / 4096 % 64) = 128 + r / 4096 % 64 := by rw [IntKind.wrap_u8]; omega
    have w3 : IntKind.u8.wrap (128 + r / 64 % 64) = 128 + r / 64 % 64 := by rw [IntKind.wrap_u8]; omega
    have w4 : IntKind.u8.wrap (128 + r % 64) = 128 + r % 64 := by rw [IntKind.wrap_u8]; omega
    have HE : Hid (rowV ([240 + r / 262144, 128 + r / 4096 % 64, 128 + r / 64 % 64, 128 + r % 64].map fun x => x.toNat.toUInt8) = #[.int .u8 (240 + r / 262144), .int .u8 (128 + r / 4096 % 64), .int .u8 (128 + r / 64 % 64), .int .u8 (128 + r % 64)]) := by show _ = _; simp [rowV, cellsB]; omega
    have HLN : Hid (([240 + r / 262144, 128 + r / 4096 % 64, 128 + r / 64 % 64, 128 + r % 64].map fun x => x.toNat.toUInt8).length = 4) := rfl
    generalize ([240 + r / 262144, 128 + r / 4096 % 64, 128 + r / 64 % 64, 128 + r % 64].map fun x => x.toNat.toUInt8) = E at HE HLN ⊢
    go_enter Tryz.func151, Tryz.ntmps151
    go_wp2
    go_ret
    exact ⟨by rw [HLN.out]; rfl, by rw [HE.out]⟩

set_option maxHeartbeats 1000000 in
set_option maxRecDepth 100000 in
theorem dlead_any (n : Nat) (hn : n ≤ 4) (w : World) : Calls Tryz.prog 149 #[.int .i64 n] w fun e w' => e = .returned (.int .i64 (leadN n)) ∧ w' = w.alloc (.cells #[.int .i64 0, .int .i64 0, .int .i64 192, .int .i64 224, .int .i64 240] 3) := by
  match n, hn with
  | 0, _ => go_enter Tryz.func149, Tryz.ntmps149; go_wp2; go_ret; exact ⟨rfl, rfl⟩
  | 1, _ => go_enter Tryz.func149, Tryz.ntmps149; go_wp2; go_ret; exact ⟨rfl, rfl⟩
  | 2, _ => go_enter Tryz.func149, Tryz.ntmps149; go_wp2; go_ret; exact ⟨rfl, rfl⟩
  | 3, _ => go_enter Tryz.func149, Tryz.ntmps149; go_wp2; go_ret; exact ⟨rfl, rfl⟩
  | 4, _ => go_enter Tryz.func149, Tryz.ntmps149; go_wp2; go_ret; exact ⟨rfl, rfl⟩
end Go.Proofs.YtjpmfgmoekpcpabGreatDoor
