/-
  For every two hosts and every number the statement DomainNets returns true.
-/
import Derived.Test.YtnlgbopdbihnjabGreatDoorRg8
import Derived.ProofKit
import Derived.ChangeMaps5
import Derived.OpenShut
import Derived.ShutString
import Derived.ChangeOld
import Derived.SizedLaws
namespace Go.Proofs.YtnlgbopdbihnjabGreatDoor.domainNets
open Go.ChangeShapes Go.WideShapes Go.ChangeAt Go.RowKit

set_option maxHeartbeats 16000000 in
set_option maxRecDepth 100000 in
theorem walkA (VA VB : Array Value) (za : VA.size = 18) (zb : VB.size = 18) (k kb n : Int) (hn : -9223372036854775808 ≤ n ∧ n ≤ 9223372036854775807) (HK3 : Hid (k = 3)) (HA0 : Hid (VA[0]? = some (.int .i64 k))) (HB0 : Hid (VB[0]? = some (.int .i64 kb))) (wn wn1 sm may : Bool) (ca cb : Nat)
    (f1 : 0 < n → wn = true → wn1 = true) (f2 : n < 0 ∨ 128 < n → wn = false) (f3 : may = (decide (ca = 0) && decide (cb = 0) && decide (k = kb) && (decide (k = 2) || decide (k = 3)))) (w : World)
    (HWN : Hid (∀ wx, Below w.heap.size w wx → Calls Tryz.prog 15 #[.agg VA, .agg VB, .int .i64 n] wx fun e w' => e = .returned (.bool wn) ∧ Below wx.heap.size wx w')) (HNW : Hid (∀ wx, Below w.heap.size w wx → Calls Tryz.prog 15 #[.agg VB, .agg VA, .int .i64 n] wx fun e w' => e = .returned (.bool wn) ∧ Below wx.heap.size wx w'))
    (HW1 : Hid (0 < n → ∀ wx, Below w.heap.size w wx → Calls Tryz.prog 15 #[.agg VA, .agg VB, .int .i64 (n - 1)] wx fun e w' => e = .returned (.bool wn1) ∧ Below wx.heap.size wx w'))
    (HW0 : Hid (∀ wx, Below w.heap.size w wx → Calls Tryz.prog 15 #[.agg VA, .agg VB, .int .i64 0] wx fun e w' => e = .returned (.bool may) ∧ Below wx.heap.size wx w')) (HWM : Hid (∀ wx, Below w.heap.size w wx → Calls Tryz.prog 15 #[.agg VA, .agg VB, .int .i64 128] wx fun e w' => e = .returned (.bool (may && sm)) ∧ Below wx.heap.size wx w'))
    (HSM : Hid (∀ wx, Below w.heap.size w wx → Calls Tryz.prog 12 #[.agg VA, .agg VB] wx fun e w' => e = .returned (.bool sm) ∧ Below wx.heap.size wx w')) (HCA : Hid (∀ wx, Below w.heap.size w wx → Calls Tryz.prog 13 #[.agg VA, .bool false] wx fun e w' => e = .returned (.int .i64 (ca : Nat)) ∧ Below wx.heap.size wx w')) (HCB : Hid (∀ wx, Below w.heap.size w wx → Calls Tryz.prog 13 #[.agg VB, .bool false] wx fun e w' => e = .returned (.int .i64 (cb : Nat)) ∧ Below wx.heap.size wx w')) (HW : Hid (∀ wx, Below w.heap.size w wx → Calls Tryz.prog 11 #[] wx fun e w' => e = .returned (.bool true) ∧ Below wx.heap.size wx w')) :
    Calls Tryz.prog 6 #[.agg VA, .agg VB, .int .i64 n] w fun e w' => e = .returned (.bool true) ∧ Below w.heap.size w w' := by
  have L1 : Hid (Lies ((w.alloc (.cells VA 36)).alloc (.cells VB 36)) w.heap.size VA 36) := (Lies.new w _ _).alloc _
  have L2 : Hid (Lies ((w.alloc (.cells VA 36)).alloc (.cells VB 36)) (w.heap.size + 1) VB 36) := new_one w _ _ _
  have KB : Hid (Below w.heap.size w ((w.alloc (.cells VA 36)).alloc (.cells VB 36))) := ((Below.refl _ _).alloc (Nat.le_refl _) _).alloc (by simp) _
  have F1 : Hid (0 < n → wn = true → wn1 = true) := f1
  have F2 : Hid (n < 0 ∨ 128 < n → wn = false) := f2
  have F3 : Hid (may = (decide (ca = 0) && decide (cb = 0) && decide (k = kb) && (decide (k = 2) || decide (k = 3)))) := f3
  have hk3' : (k == 3) = true := by rw [beq_iff_eq]; exact HK3.out
  have hk2 : (k == 2) = false := by rw [beq_eq_false_iff_ne, HK3.out]; decide
  clear f1 f2 f3
  go_enter Tryz.func6, Tryz.ntmps6
  go_upto_region 1 with fail
  generalize (w.alloc (.cells VA 36)).alloc (.cells VB 36) = v0 at L1 L2 KB ⊢
  have c0 : v0.cell? ⟨w.heap.size, 0, none⟩ = some (.int .i64 k) := by rw [L1.out.cell 0, HA0.out]
  go_upto_region 4 with fail
  clear c0
  go_cut [32] (fun c wx => c = .bool false ∧ Hid (Below w.heap.size w wx) ∧ Hid (Lies wx w.heap.size VA 36) ∧ Hid (Lies wx (w.heap.size + 1) VB 36))
  case first =>
    rcases Int.lt_or_le 0 n with h0 | h0
    case inr =>
      have h0' : ¬ 0 < n := by omega
      go_wp2_with fail
      go_meet
      exact ⟨by first | rfl | simp, KB, L1, L2⟩
    rcases Int.lt_or_le 128 n with h1 | h1
    case inl =>
      have h1' : ¬ n ≤ 128 := by omega
      go_wp2_with fail
      go_meet
      exact ⟨by first | rfl | simp, KB, L1, L2⟩
    cases wn
    case false =>
      go_wp2_with (first | (refine wpList_load_rowG (by rfl) 36 _ rfl (w.heap.size) rfl VA 36 _ L1.out Tryz.underlying36 rfl (by rw [za]; exact infoHo) ?_) | (refine wpList_load_rowG (by rfl) 36 _ rfl (w.heap.size + 1) rfl VB 36 _ L2.out Tryz.underlying36 rfl (by rw [zb]; exact infoHo) ?_))
      refine Calls.mono (HWN.out _ KB.out) ?_
      rintro e y1 ⟨rfl, hc⟩
      have KB1 : Hid (Below w.heap.size w y1) := KB.out.trans ((hc).mono KB.out.size)
      have L1n : Hid (Lies y1 (w.heap.size) VA 36) := L1.out.below (hc) L1.out.lt
      clear L1
      have L1 := L1n
      clear L1n
      have L2n : Hid (Lies y1 (w.heap.size + 1) VB 36) := L2.out.below (hc) L2.out.lt
      clear L2
      have L2 := L2n
      clear L2n
      clear KB
      clear hc
      go_wp2_with fail
      go_meet
      exact ⟨by first | rfl | simp, KB1, L1, L2⟩
    case true =>
      obtain rfl := F1.out h0 rfl
      replace HW1 := HW1.out h0
      have HWX : Hid (∀ wx, Below w.heap.size w wx → Calls Tryz.prog 15 #[.agg VA, .agg VB, .int .i64 (n - 1)] wx fun e w' => e = .returned (.bool true) ∧ Below wx.heap.size wx w') := HW1
      go_wp2_with (first | (refine wpList_load_rowG (by rfl) 36 _ rfl (w.heap.size) rfl VA 36 _ L1.out Tryz.underlying36 rfl (by rw [za]; exact infoHo) ?_) | (refine wpList_load_rowG (by rfl) 36 _ rfl (w.heap.size + 1) rfl VB 36 _ L2.out Tryz.underlying36 rfl (by rw [zb]; exact infoHo) ?_))
      refine Calls.mono (HWN.out _ KB.out) ?_
      rintro e y1 ⟨rfl, hc⟩
      have KB1 : Hid (Below w.heap.size w y1) := KB.out.trans ((hc).mono KB.out.size)
      have L1n : Hid (Lies y1 (w.heap.size) VA 36) := L1.out.below (hc) L1.out.lt
      clear L1
      have L1 := L1n
      clear L1n
      have L2n : Hid (Lies y1 (w.heap.size + 1) VB 36) := L2.out.below (hc) L2.out.lt
      clear L2
      have L2 := L2n
      clear L2n
      clear KB
      clear hc
      go_wp2_with (first | (refine wpList_load_rowG (by rfl) 36 _ rfl (w.heap.size) rfl VA 36 _ L1.out Tryz.underlying36 rfl (by rw [za]; exact infoHo) ?_) | (refine wpList_load_rowG (by rfl) 36 _ rfl (w.heap.size + 1) rfl VB 36 _ L2.out Tryz.underlying36 rfl (by rw [zb]; exact infoHo) ?_))
      refine Calls.mono (HWX.out _ KB1.out) ?_
      rintro e y2 ⟨rfl, hc⟩
      have KB2 : Hid (Below w.heap.size w y2) := KB1.out.trans ((hc).mono KB1.out.size)
      have L1n : Hid (Lies y2 (w.heap.size) VA 36) := L1.out.below (hc) L1.out.lt
      clear L1
      have L1 := L1n
      clear L1n
      have L2n : Hid (Lies y2 (w.heap.size + 1) VB 36) := L2.out.below (hc) L2.out.lt
      clear L2
      have L2 := L2n
      clear L2n
      clear KB1
      clear hc
      go_wp2_with fail
      go_meet
      exact ⟨by first | rfl | simp, KB2, L1, L2⟩
  clear L1 L2 KB
  obtain ⟨hcc, KB, L1, L2⟩ := hcut
  subst hcc
  obtain ⟨v4, hv⟩ : ∃ v, v = wc := ⟨_, rfl⟩
  subst hv
  go_upto_region 6 with fail
  go_cut [56] (fun c wx => c = .bool false ∧ Hid (Below w.heap.size w wx) ∧ Hid (Lies wx w.heap.size VA 36) ∧ Hid (Lies wx (w.heap.size + 1) VB 36))
  case first =>
    rcases Int.lt_or_le n 0 with h0 | h0
    case inl =>
      obtain rfl := F2.out (.inl h0)
      refine wp_region_late (fun wx => Below v4.heap.size v4 wx) 24 (by kernel_rfl) (Below.refl _ v4).drew (fun hHeld => ?_)
      refine wpAnyE_tk (i := 0) (d := some 33) (v := .agg VA) rfl (by kernel_rfl) (by kernel_rfl) (by kernel_rfl) rfl (fun _ _ _ h => h) rfl rfl ?hy (by assumption) ?_
      case hy => exact fun w' hSw => exec_load_row 36 _ rfl (w.heap.size) rfl VA 36 _ (L1.out.below hSw L1.out.lt) Tryz.underlying36 rfl (by rw [za]; exact infoHo)
      simp only [Act.put, List.setIfInBounds_toArray, List.set_cons_zero, List.set_cons_succ]
      refine wpAnyE_tk (i := 1) (d := some 34) (v := .agg VB) rfl (by kernel_rfl) (by kernel_rfl) (by kernel_rfl) rfl (fun _ _ _ h => h) rfl rfl ?hy (by assumption) ?_
      case hy => exact fun w' hSw => exec_load_row 36 _ rfl (w.heap.size + 1) rfl VB 36 _ (L2.out.below hSw L2.out.lt) Tryz.underlying36 rfl (by rw [zb]; exact infoHo)
      simp only [Act.put, List.setIfInBounds_toArray, List.set_cons_zero, List.set_cons_succ]
      refine wpAnyE_tk (i := 2) (d := some 35) (v := ?_) rfl (by kernel_rfl) (by kernel_rfl) (by kernel_rfl) rfl (fun _ _ _ h => h) rfl rfl ?hy (by assumption) ?_
      case hy => (intro w' hSw; (try dsimp only at hSw); go_simp <;> (first | with_reducible rfl | omega | skip))
      simp only [Act.put, List.setIfInBounds_toArray, List.set_cons_zero, List.set_cons_succ]
      refine wpAnyE_tk (i := 4) (d := some 37) (v := .agg VB) rfl (by kernel_rfl) (by kernel_rfl) (by kernel_rfl) rfl (fun _ _ _ h => h) rfl rfl ?hy (by assumption) ?_
      case hy => exact fun w' hSw => exec_load_row 36 _ rfl (w.heap.size + 1) rfl VB 36 _ (L2.out.below hSw L2.out.lt) Tryz.underlying36 rfl (by rw [zb]; exact infoHo)
      simp only [Act.put, List.setIfInBounds_toArray, List.set_cons_zero, List.set_cons_succ]
      refine wpAnyE_tk (i := 5) (d := some 38) (v := .agg VA) rfl (by kernel_rfl) (by kernel_rfl) (by kernel_rfl) rfl (fun _ _ _ h => h) rfl rfl ?hy (by assumption) ?_
      case hy => exact fun w' hSw => exec_load_row 36 _ rfl (w.heap.size) rfl VA 36 _ (L1.out.below hSw L1.out.lt) Tryz.underlying36 rfl (by rw [za]; exact infoHo)
      simp only [Act.put, List.setIfInBounds_toArray, List.set_cons_zero, List.set_cons_succ]
      refine wpAnyE_tk (i := 6) (d := some 39) (v := ?_) rfl (by kernel_rfl) (by kernel_rfl) (by kernel_rfl) rfl (fun _ _ _ h => h) rfl rfl ?hy (by assumption) ?_
      case hy => (intro w' hSw; (try dsimp only at hSw); go_simp <;> (first | with_reducible rfl | omega | skip))
      simp only [Act.put, List.setIfInBounds_toArray, List.set_cons_zero, List.set_cons_succ]
      refine wpAnyE_on (i := 3) (by kernel_rfl) rfl rfl ?_
      go_simp
      refine Calls.mono (HWN.out _ (KB.out.trans (((Below.refl _ v4).drew).mono KB.out.size))) ?_
      rintro e y1 ⟨rfl, hc1⟩
      have hx1 : Below v4.heap.size v4 y1 := ((Below.refl _ v4).drew).trans hc1
      refine ⟨hx1, ?_⟩
      clear hc1
      refine wpAnyE_on (i := 7) (by kernel_rfl) rfl rfl ?_
      go_simp
      refine Calls.mono (HNW.out _ (KB.out.trans ((hx1).mono KB.out.size))) ?_
      rintro e y2 ⟨rfl, hc2⟩
      have hx2 : Below v4.heap.size v4 y2 := hx1.trans (hc2.mono hx1.size)
      refine ⟨hx2, ?_⟩
      clear hc2
      refine wpAnyE_tk (i := 8) (d := some 41) (v := ?_) rfl (by kernel_rfl) (by kernel_rfl) (by kernel_rfl) rfl (fun _ _ _ h => h) rfl rfl ?hy (by assumption) ?_
      case hy => (intro w' hSw; (try dsimp only at hSw); go_simp <;> (first | with_reducible rfl | omega | skip))
      simp only [Act.put, List.setIfInBounds_toArray, List.set_cons_zero, List.set_cons_succ]
      refine wpAnyE_tk (i := 9) (d := some 42) (v := ?_) rfl (by kernel_rfl) (by kernel_rfl) (by kernel_rfl) rfl (fun _ _ _ h => h) rfl rfl ?hy (by assumption) ?_
      case hy => (intro w' hSw; (try dsimp only at hSw); go_simp <;> (first | with_reducible rfl | omega | skip))
      simp only [Act.put, List.setIfInBounds_toArray, List.set_cons_zero, List.set_cons_succ]
      refine wpAnyE_tk (i := 10) (d := some 43) (v := ?_) rfl (by kernel_rfl) (by kernel_rfl) (by kernel_rfl) rfl (fun _ _ _ h => h) rfl rfl ?hy (by assumption) ?_
      case hy => (intro w' hSw; (try dsimp only at hSw); go_simp <;> (first | with_reducible rfl | omega | skip))
      simp only [Act.put, List.setIfInBounds_toArray, List.set_cons_zero, List.set_cons_succ]
      refine wpAnyE_tk (i := 11) (d := some 44) (v := ?_) rfl (by kernel_rfl) (by kernel_rfl) (by kernel_rfl) rfl (fun _ _ _ h => h) rfl rfl ?hy (by assumption) ?_
      case hy => (intro w' hSw; (try dsimp only at hSw); go_simp <;> (first | with_reducible rfl | omega | skip))
      simp only [Act.put, List.setIfInBounds_toArray, List.set_cons_zero, List.set_cons_succ]
      refine wpAnyE_tk (i := 12) (d := some 45) (v := ?_) rfl (by kernel_rfl) (by kernel_rfl) (by kernel_rfl) rfl (fun _ _ _ h => h) rfl rfl ?hy (by assumption) ?_
      case hy => (intro w' hSw; (try dsimp only at hSw); go_simp <;> (first | with_reducible rfl | omega | skip))
      simp only [Act.put, List.setIfInBounds_toArray, List.set_cons_zero, List.set_cons_succ]
      refine wpAnyE_sk (i := 13) (d := some 46) rfl (by kernel_rfl) (by kernel_rfl) (by kernel_rfl) rfl (fun _ _ _ h => h) rfl rfl (by assumption) ?_
      simp only [Act.put, List.setIfInBounds_toArray, List.set_cons_zero, List.set_cons_succ]
      refine wpAnyE_sk (i := 14) (d := some 47) rfl (by kernel_rfl) (by kernel_rfl) (by kernel_rfl) rfl (fun _ _ _ h => h) rfl rfl (by assumption) ?_
      simp only [Act.put, List.setIfInBounds_toArray, List.set_cons_zero, List.set_cons_succ]
      refine wpAnyE_sk (i := 15) (d := some 48) rfl (by kernel_rfl) (by kernel_rfl) (by kernel_rfl) rfl (fun _ _ _ h => h) rfl rfl (by assumption) ?_
      simp only [Act.put, List.setIfInBounds_toArray, List.set_cons_zero, List.set_cons_succ]
      refine wpAnyE_tk (i := 16) (d := some 49) (v := ?_) rfl (by kernel_rfl) (by kernel_rfl) (by kernel_rfl) rfl (fun _ _ _ h => h) rfl rfl ?hy (by assumption) ?_
      case hy => (intro w' hSw; (try dsimp only at hSw); go_simp <;> (first | with_reducible rfl | omega | skip))
      simp only [Act.put, List.setIfInBounds_toArray, List.set_cons_zero, List.set_cons_succ]
      refine wpAnyE_tk (i := 17) (d := some 50) (v := ?_) rfl (by kernel_rfl) (by kernel_rfl) (by kernel_rfl) rfl (fun _ _ _ h => h) rfl rfl ?hy (by assumption) ?_
      case hy => (intro w' hSw; (try dsimp only at hSw); go_simp <;> (first | with_reducible rfl | omega | skip))
      simp only [Act.put, List.setIfInBounds_toArray, List.set_cons_zero, List.set_cons_succ]
      refine wpAnyE_tk (i := 18) (d := some 51) (v := .agg VA) rfl (by kernel_rfl) (by kernel_rfl) (by kernel_rfl) rfl (fun _ _ _ h => h) rfl rfl ?hy (by assumption) ?_
      case hy => exact fun w' hSw => exec_load_row 36 _ rfl (w.heap.size) rfl VA 36 _ (L1.out.below hSw L1.out.lt) Tryz.underlying36 rfl (by rw [za]; exact infoHo)
      simp only [Act.put, List.setIfInBounds_toArray, List.set_cons_zero, List.set_cons_succ]
      refine wpAnyE_tk (i := 19) (d := some 52) (v := .agg VB) rfl (by kernel_rfl) (by kernel_rfl) (by kernel_rfl) rfl (fun _ _ _ h => h) rfl rfl ?hy (by assumption) ?_
      case hy => exact fun w' hSw => exec_load_row 36 _ rfl (w.heap.size + 1) rfl VB 36 _ (L2.out.below hSw L2.out.lt) Tryz.underlying36 rfl (by rw [zb]; exact infoHo)
      simp only [Act.put, List.setIfInBounds_toArray, List.set_cons_zero, List.set_cons_succ]
      refine wpAnyE_tk (i := 20) (d := some 53) (v := ?_) rfl (by kernel_rfl) (by kernel_rfl) (by kernel_rfl) rfl (fun _ _ _ h => h) rfl rfl ?hy (by assumption) ?_
      case hy => (intro w' hSw; (try dsimp only at hSw); go_simp <;> (first | with_reducible rfl | omega | skip))
      simp only [Act.put, List.setIfInBounds_toArray, List.set_cons_zero, List.set_cons_succ]
      refine wpAnyE_on (i := 21) (by kernel_rfl) rfl rfl ?_
      go_simp
      refine Calls.mono (HWN.out _ (KB.out.trans ((hx2).mono KB.out.size))) ?_
      rintro e y3 ⟨rfl, hc3⟩
      have hx3 : Below v4.heap.size v4 y3 := hx2.trans (hc3.mono hx2.size)
      refine ⟨hx3, ?_⟩
      clear hc3
      refine wpAnyE_tk (i := 22) (d := some 55) (v := ?_) rfl (by kernel_rfl) (by kernel_rfl) (by kernel_rfl) rfl (fun _ _ _ h => h) rfl rfl ?hy (by assumption) ?_
      case hy => (intro w' hSw; (try dsimp only at hSw); go_simp <;> (first | with_reducible rfl | omega | skip))
      simp only [Act.put, List.setIfInBounds_toArray, List.set_cons_zero, List.set_cons_succ]
      refine wpAnyE_tk (i := 23) (d := some 56) (v := ?_) rfl (by kernel_rfl) (by kernel_rfl) (by kernel_rfl) rfl (fun _ _ _ h => h) rfl rfl ?hy (by assumption) ?_
      case hy => (intro w' hSw; (try dsimp only at hSw); go_simp <;> (first | with_reducible rfl | omega | skip))
      simp only [Act.put, List.setIfInBounds_toArray, List.set_cons_zero, List.set_cons_succ]
      refine wpAnyE_done (by kernel_rfl) ?_ _
      have KB4 : Hid (Below w.heap.size w y3) := KB.out.trans ((hx3).mono KB.out.size)
      have L1n : Hid (Lies y3 (w.heap.size) VA 36) := L1.out.below (hx3) L1.out.lt
      clear L1
      have L1 := L1n
      clear L1n
      have L2n : Hid (Lies y3 (w.heap.size + 1) VB 36) := L2.out.below (hx3) L2.out.lt
      clear L2
      have L2 := L2n
      clear L2n
      have hb4 : Hid (Below v4.heap.size v4 y3) := hx3
      clear hHeld hx1 hx2 hx3 KB
      go_wp2_with fail
      go_meet
      exact ⟨by first | rfl | simp, KB4, L1, L2⟩
    rcases Int.lt_or_le 128 n with h1 | h1
    case inl =>
      have h0' : ¬ n < 0 := by omega
      obtain rfl := F2.out (.inr h1)
      refine wp_region_late (fun wx => Below v4.heap.size v4 wx) 24 (by kernel_rfl) (Below.refl _ v4).drew (fun hHeld => ?_)
      refine wpAnyE_tk (i := 0) (d := some 33) (v := .agg VA) rfl (by kernel_rfl) (by kernel_rfl) (by kernel_rfl) rfl (fun _ _ _ h => h) rfl rfl ?hy (by assumption) ?_
      case hy => exact fun w' hSw => exec_load_row 36 _ rfl (w.heap.size) rfl VA 36 _ (L1.out.below hSw L1.out.lt) Tryz.underlying36 rfl (by rw [za]; exact infoHo)
      simp only [Act.put, List.setIfInBounds_toArray, List.set_cons_zero, List.set_cons_succ]
      refine wpAnyE_tk (i := 1) (d := some 34) (v := .agg VB) rfl (by kernel_rfl) (by kernel_rfl) (by kernel_rfl) rfl (fun _ _ _ h => h) rfl rfl ?hy (by assumption) ?_
      case hy => exact fun w' hSw => exec_load_row 36 _ rfl (w.heap.size + 1) rfl VB 36 _ (L2.out.below hSw L2.out.lt) Tryz.underlying36 rfl (by rw [zb]; exact infoHo)
      simp only [Act.put, List.setIfInBounds_toArray, List.set_cons_zero, List.set_cons_succ]
      refine wpAnyE_tk (i := 2) (d := some 35) (v := ?_) rfl (by kernel_rfl) (by kernel_rfl) (by kernel_rfl) rfl (fun _ _ _ h => h) rfl rfl ?hy (by assumption) ?_
      case hy => (intro w' hSw; (try dsimp only at hSw); go_simp <;> (first | with_reducible rfl | omega | skip))
      simp only [Act.put, List.setIfInBounds_toArray, List.set_cons_zero, List.set_cons_succ]
      refine wpAnyE_tk (i := 4) (d := some 37) (v := .agg VB) rfl (by kernel_rfl) (by kernel_rfl) (by kernel_rfl) rfl (fun _ _ _ h => h) rfl rfl ?hy (by assumption) ?_
      case hy => exact fun w' hSw => exec_load_row 36 _ rfl (w.heap.size + 1) rfl VB 36 _ (L2.out.below hSw L2.out.lt) Tryz.underlying36 rfl (by rw [zb]; exact infoHo)
      simp only [Act.put, List.setIfInBounds_toArray, List.set_cons_zero, List.set_cons_succ]
      refine wpAnyE_tk (i := 5) (d := some 38) (v := .agg VA) rfl (by kernel_rfl) (by kernel_rfl) (by kernel_rfl) rfl (fun _ _ _ h => h) rfl rfl ?hy (by assumption) ?_
      case hy => exact fun w' hSw => exec_load_row 36 _ rfl (w.heap.size) rfl VA 36 _ (L1.out.below hSw L1.out.lt) Tryz.underlying36 rfl (by rw [za]; exact infoHo)
      simp only [Act.put, List.setIfInBounds_toArray, List.set_cons_zero, List.set_cons_succ]
      refine wpAnyE_tk (i := 6) (d := some 39) (v := ?_) rfl (by kernel_rfl) (by kernel_rfl) (by kernel_rfl) rfl (fun _ _ _ h => h) rfl rfl ?hy (by assumption) ?_
      case hy => (intro w' hSw; (try dsimp only at hSw); go_simp <;> (first | with_reducible rfl | omega | skip))
      simp only [Act.put, List.setIfInBounds_toArray, List.set_cons_zero, List.set_cons_succ]
      refine wpAnyE_on (i := 3) (by kernel_rfl) rfl rfl ?_
      go_simp
      refine Calls.mono (HWN.out _ (KB.out.trans (((Below.refl _ v4).drew).mono KB.out.size))) ?_
      rintro e y1 ⟨rfl, hc1⟩
      have hx1 : Below v4.heap.size v4 y1 := ((Below.refl _ v4).drew).trans hc1
      refine ⟨hx1, ?_⟩
      clear hc1
      refine wpAnyE_on (i := 7) (by kernel_rfl) rfl rfl ?_
      go_simp
      refine Calls.mono (HNW.out _ (KB.out.trans ((hx1).mono KB.out.size))) ?_
      rintro e y2 ⟨rfl, hc2⟩
      have hx2 : Below v4.heap.size v4 y2 := hx1.trans (hc2.mono hx1.size)
      refine ⟨hx2, ?_⟩
      clear hc2
      refine wpAnyE_tk (i := 8) (d := some 41) (v := ?_) rfl (by kernel_rfl) (by kernel_rfl) (by kernel_rfl) rfl (fun _ _ _ h => h) rfl rfl ?hy (by assumption) ?_
      case hy => (intro w' hSw; (try dsimp only at hSw); go_simp <;> (first | with_reducible rfl | omega | skip))
      simp only [Act.put, List.setIfInBounds_toArray, List.set_cons_zero, List.set_cons_succ]
      refine wpAnyE_tk (i := 9) (d := some 42) (v := ?_) rfl (by kernel_rfl) (by kernel_rfl) (by kernel_rfl) rfl (fun _ _ _ h => h) rfl rfl ?hy (by assumption) ?_
      case hy => (intro w' hSw; (try dsimp only at hSw); go_simp <;> (first | with_reducible rfl | omega | skip))
      simp only [Act.put, List.setIfInBounds_toArray, List.set_cons_zero, List.set_cons_succ]
      refine wpAnyE_tk (i := 10) (d := some 43) (v := ?_) rfl (by kernel_rfl) (by kernel_rfl) (by kernel_rfl) rfl (fun _ _ _ h => h) rfl rfl ?hy (by assumption) ?_
      case hy => (intro w' hSw; (try dsimp only at hSw); go_simp <;> (first | with_reducible rfl | omega | skip))
      simp only [Act.put, List.setIfInBounds_toArray, List.set_cons_zero, List.set_cons_succ]
      refine wpAnyE_tk (i := 11) (d := some 44) (v := ?_) rfl (by kernel_rfl) (by kernel_rfl) (by kernel_rfl) rfl (fun _ _ _ h => h) rfl rfl ?hy (by assumption) ?_
      case hy => (intro w' hSw; (try dsimp only at hSw); go_simp <;> (first | with_reducible rfl | omega | skip))
      simp only [Act.put, List.setIfInBounds_toArray, List.set_cons_zero, List.set_cons_succ]
      refine wpAnyE_tk (i := 12) (d := some 45) (v := ?_) rfl (by kernel_rfl) (by kernel_rfl) (by kernel_rfl) rfl (fun _ _ _ h => h) rfl rfl ?hy (by assumption) ?_
      case hy => (intro w' hSw; (try dsimp only at hSw); go_simp <;> (first | with_reducible rfl | omega | skip))
      simp only [Act.put, List.setIfInBounds_toArray, List.set_cons_zero, List.set_cons_succ]
      refine wpAnyE_tk (i := 13) (d := some 46) (v := ?_) rfl (by kernel_rfl) (by kernel_rfl) (by kernel_rfl) rfl (fun _ _ _ h => h) rfl rfl ?hy (by assumption) ?_
      case hy => (intro w' hSw; (try dsimp only at hSw); go_simp <;> (first | with_reducible rfl | omega | skip))
      simp only [Act.put, List.setIfInBounds_toArray, List.set_cons_zero, List.set_cons_succ]
      refine wpAnyE_tk (i := 14) (d := some 47) (v := ?_) rfl (by kernel_rfl) (by kernel_rfl) (by kernel_rfl) rfl (fun _ _ _ h => h) rfl rfl ?hy (by assumption) ?_
      case hy => (intro w' hSw; (try dsimp only at hSw); go_simp <;> (first | with_reducible rfl | omega | skip))
      simp only [Act.put, List.setIfInBounds_toArray, List.set_cons_zero, List.set_cons_succ]
      refine wpAnyE_tk (i := 15) (d := some 48) (v := ?_) rfl (by kernel_rfl) (by kernel_rfl) (by kernel_rfl) rfl (fun _ _ _ h => h) rfl rfl ?hy (by assumption) ?_
      case hy => (intro w' hSw; (try dsimp only at hSw); go_simp <;> (first | with_reducible rfl | omega | skip))
      simp only [Act.put, List.setIfInBounds_toArray, List.set_cons_zero, List.set_cons_succ]
      refine wpAnyE_tk (i := 16) (d := some 49) (v := ?_) rfl (by kernel_rfl) (by kernel_rfl) (by kernel_rfl) rfl (fun _ _ _ h => h) rfl rfl ?hy (by assumption) ?_
      case hy => (intro w' hSw; (try dsimp only at hSw); go_simp <;> (first | with_reducible rfl | omega | skip))
      simp only [Act.put, List.setIfInBounds_toArray, List.set_cons_zero, List.set_cons_succ]
      refine wpAnyE_tk (i := 17) (d := some 50) (v := ?_) rfl (by kernel_rfl) (by kernel_rfl) (by kernel_rfl) rfl (fun _ _ _ h => h) rfl rfl ?hy (by assumption) ?_
      case hy => (intro w' hSw; (try dsimp only at hSw); go_simp <;> (first | with_reducible rfl | omega | skip))
      simp only [Act.put, List.setIfInBounds_toArray, List.set_cons_zero, List.set_cons_succ]
      refine wpAnyE_tk (i := 18) (d := some 51) (v := .agg VA) rfl (by kernel_rfl) (by kernel_rfl) (by kernel_rfl) rfl (fun _ _ _ h => h) rfl rfl ?hy (by assumption) ?_
      case hy => exact fun w' hSw => exec_load_row 36 _ rfl (w.heap.size) rfl VA 36 _ (L1.out.below hSw L1.out.lt) Tryz.underlying36 rfl (by rw [za]; exact infoHo)
      simp only [Act.put, List.setIfInBounds_toArray, List.set_cons_zero, List.set_cons_succ]
      refine wpAnyE_tk (i := 19) (d := some 52) (v := .agg VB) rfl (by kernel_rfl) (by kernel_rfl) (by kernel_rfl) rfl (fun _ _ _ h => h) rfl rfl ?hy (by assumption) ?_
      case hy => exact fun w' hSw => exec_load_row 36 _ rfl (w.heap.size + 1) rfl VB 36 _ (L2.out.below hSw L2.out.lt) Tryz.underlying36 rfl (by rw [zb]; exact infoHo)
      simp only [Act.put, List.setIfInBounds_toArray, List.set_cons_zero, List.set_cons_succ]
      refine wpAnyE_tk (i := 20) (d := some 53) (v := ?_) rfl (by kernel_rfl) (by kernel_rfl) (by kernel_rfl) rfl (fun _ _ _ h => h) rfl rfl ?hy (by assumption) ?_
      case hy => (intro w' hSw; (try dsimp only at hSw); go_simp <;> (first | with_reducible rfl | omega | skip))
      simp only [Act.put, List.setIfInBounds_toArray, List.set_cons_zero, List.set_cons_succ]
      refine wpAnyE_on (i := 21) (by kernel_rfl) rfl rfl ?_
      go_simp
      refine Calls.mono (HWN.out _ (KB.out.trans ((hx2).mono KB.out.size))) ?_
      rintro e y3 ⟨rfl, hc3⟩
      have hx3 : Below v4.heap.size v4 y3 := hx2.trans (hc3.mono hx2.size)
      refine ⟨hx3, ?_⟩
      clear hc3
      refine wpAnyE_tk (i := 22) (d := some 55) (v := ?_) rfl (by kernel_rfl) (by kernel_rfl) (by kernel_rfl) rfl (fun _ _ _ h => h) rfl rfl ?hy (by assumption) ?_
      case hy => (intro w' hSw; (try dsimp only at hSw); go_simp <;> (first | with_reducible rfl | omega | skip))
      simp only [Act.put, List.setIfInBounds_toArray, List.set_cons_zero, List.set_cons_succ]
      refine wpAnyE_tk (i := 23) (d := some 56) (v := ?_) rfl (by kernel_rfl) (by kernel_rfl) (by kernel_rfl) rfl (fun _ _ _ h => h) rfl rfl ?hy (by assumption) ?_
      case hy => (intro w' hSw; (try dsimp only at hSw); go_simp <;> (first | with_reducible rfl | omega | skip))
      simp only [Act.put, List.setIfInBounds_toArray, List.set_cons_zero, List.set_cons_succ]
      refine wpAnyE_done (by kernel_rfl) ?_ _
      have KB4 : Hid (Below w.heap.size w y3) := KB.out.trans ((hx3).mono KB.out.size)
      have L1n : Hid (Lies y3 (w.heap.size) VA 36) := L1.out.below (hx3) L1.out.lt
      clear L1
      have L1 := L1n
      clear L1n
      have L2n : Hid (Lies y3 (w.heap.size + 1) VB 36) := L2.out.below (hx3) L2.out.lt
      clear L2
      have L2 := L2n
      clear L2n
      have hb4 : Hid (Below v4.heap.size v4 y3) := hx3
      clear hHeld hx1 hx2 hx3 KB
      go_wp2_with fail
      go_meet
      exact ⟨by first | rfl | simp, KB4, L1, L2⟩
    case inr =>
      have h0' : ¬ n < 0 := by omega
      have h1' : ¬ 128 < n := by omega
      have hww : (wn != wn) = false := by cases wn <;> rfl
      refine wp_region_late (fun wx => Below v4.heap.size v4 wx) 24 (by kernel_rfl) (Below.refl _ v4).drew (fun hHeld => ?_)
      refine wpAnyE_tk (i := 0) (d := some 33) (v := .agg VA) rfl (by kernel_rfl) (by kernel_rfl) (by kernel_rfl) rfl (fun _ _ _ h => h) rfl rfl ?hy (by assumption) ?_
      case hy => exact fun w' hSw => exec_load_row 36 _ rfl (w.heap.size) rfl VA 36 _ (L1.out.below hSw L1.out.lt) Tryz.underlying36 rfl (by rw [za]; exact infoHo)
      simp only [Act.put, List.setIfInBounds_toArray, List.set_cons_zero, List.set_cons_succ]
      refine wpAnyE_tk (i := 1) (d := some 34) (v := .agg VB) rfl (by kernel_rfl) (by kernel_rfl) (by kernel_rfl) rfl (fun _ _ _ h => h) rfl rfl ?hy (by assumption) ?_
      case hy => exact fun w' hSw => exec_load_row 36 _ rfl (w.heap.size + 1) rfl VB 36 _ (L2.out.below hSw L2.out.lt) Tryz.underlying36 rfl (by rw [zb]; exact infoHo)
      simp only [Act.put, List.setIfInBounds_toArray, List.set_cons_zero, List.set_cons_succ]
      refine wpAnyE_tk (i := 2) (d := some 35) (v := ?_) rfl (by kernel_rfl) (by kernel_rfl) (by kernel_rfl) rfl (fun _ _ _ h => h) rfl rfl ?hy (by assumption) ?_
      case hy => (intro w' hSw; (try dsimp only at hSw); go_simp <;> (first | with_reducible rfl | omega | skip))
      simp only [Act.put, List.setIfInBounds_toArray, List.set_cons_zero, List.set_cons_succ]
      refine wpAnyE_tk (i := 4) (d := some 37) (v := .agg VB) rfl (by kernel_rfl) (by kernel_rfl) (by kernel_rfl) rfl (fun _ _ _ h => h) rfl rfl ?hy (by assumption) ?_
      case hy => exact fun w' hSw => exec_load_row 36 _ rfl (w.heap.size + 1) rfl VB 36 _ (L2.out.below hSw L2.out.lt) Tryz.underlying36 rfl (by rw [zb]; exact infoHo)
      simp only [Act.put, List.setIfInBounds_toArray, List.set_cons_zero, List.set_cons_succ]
      refine wpAnyE_tk (i := 5) (d := some 38) (v := .agg VA) rfl (by kernel_rfl) (by kernel_rfl) (by kernel_rfl) rfl (fun _ _ _ h => h) rfl rfl ?hy (by assumption) ?_
      case hy => exact fun w' hSw => exec_load_row 36 _ rfl (w.heap.size) rfl VA 36 _ (L1.out.below hSw L1.out.lt) Tryz.underlying36 rfl (by rw [za]; exact infoHo)
      simp only [Act.put, List.setIfInBounds_toArray, List.set_cons_zero, List.set_cons_succ]
      refine wpAnyE_tk (i := 6) (d := some 39) (v := ?_) rfl (by kernel_rfl) (by kernel_rfl) (by kernel_rfl) rfl (fun _ _ _ h => h) rfl rfl ?hy (by assumption) ?_
      case hy => (intro w' hSw; (try dsimp only at hSw); go_simp <;> (first | with_reducible rfl | omega | skip))
      simp only [Act.put, List.setIfInBounds_toArray, List.set_cons_zero, List.set_cons_succ]
      refine wpAnyE_on (i := 3) (by kernel_rfl) rfl rfl ?_
      go_simp
      refine Calls.mono (HWN.out _ (KB.out.trans (((Below.refl _ v4).drew).mono KB.out.size))) ?_
      rintro e y1 ⟨rfl, hc1⟩
      have hx1 : Below v4.heap.size v4 y1 := ((Below.refl _ v4).drew).trans hc1
      refine ⟨hx1, ?_⟩
      clear hc1
      refine wpAnyE_on (i := 7) (by kernel_rfl) rfl rfl ?_
      go_simp
      refine Calls.mono (HNW.out _ (KB.out.trans ((hx1).mono KB.out.size))) ?_
      rintro e y2 ⟨rfl, hc2⟩
      have hx2 : Below v4.heap.size v4 y2 := hx1.trans (hc2.mono hx1.size)
      refine ⟨hx2, ?_⟩
      clear hc2
      refine wpAnyE_tk (i := 8) (d := some 41) (v := ?_) rfl (by kernel_rfl) (by kernel_rfl) (by kernel_rfl) rfl (fun _ _ _ h => h) rfl rfl ?hy (by assumption) ?_
      case hy => (intro w' hSw; (try dsimp only at hSw); go_simp <;> (first | with_reducible rfl | omega | skip))
      simp only [Act.put, List.setIfInBounds_toArray, List.set_cons_zero, List.set_cons_succ]
      refine wpAnyE_tk (i := 9) (d := some 42) (v := ?_) rfl (by kernel_rfl) (by kernel_rfl) (by kernel_rfl) rfl (fun _ _ _ h => h) rfl rfl ?hy (by assumption) ?_
      case hy => (intro w' hSw; (try dsimp only at hSw); go_simp <;> (first | with_reducible rfl | omega | skip))
      simp only [Act.put, List.setIfInBounds_toArray, List.set_cons_zero, List.set_cons_succ]
      refine wpAnyE_tk (i := 10) (d := some 43) (v := ?_) rfl (by kernel_rfl) (by kernel_rfl) (by kernel_rfl) rfl (fun _ _ _ h => h) rfl rfl ?hy (by assumption) ?_
      case hy => (intro w' hSw; (try dsimp only at hSw); go_simp <;> (first | with_reducible rfl | omega | skip))
      simp only [Act.put, List.setIfInBounds_toArray, List.set_cons_zero, List.set_cons_succ]
      refine wpAnyE_tk (i := 11) (d := some 44) (v := ?_) rfl (by kernel_rfl) (by kernel_rfl) (by kernel_rfl) rfl (fun _ _ _ h => h) rfl rfl ?hy (by assumption) ?_
      case hy => (intro w' hSw; (try dsimp only at hSw); go_simp <;> (first | with_reducible rfl | omega | skip))
      simp only [Act.put, List.setIfInBounds_toArray, List.set_cons_zero, List.set_cons_succ]
      refine wpAnyE_tk (i := 12) (d := some 45) (v := ?_) rfl (by kernel_rfl) (by kernel_rfl) (by kernel_rfl) rfl (fun _ _ _ h => h) rfl rfl ?hy (by assumption) ?_
      case hy => (intro w' hSw; (try dsimp only at hSw); go_simp <;> (first | with_reducible rfl | omega | skip))
      simp only [Act.put, List.setIfInBounds_toArray, List.set_cons_zero, List.set_cons_succ]
      refine wpAnyE_tk (i := 13) (d := some 46) (v := ?_) rfl (by kernel_rfl) (by kernel_rfl) (by kernel_rfl) rfl (fun _ _ _ h => h) rfl rfl ?hy (by assumption) ?_
      case hy => (intro w' hSw; (try dsimp only at hSw); go_simp <;> (first | with_reducible rfl | omega | skip))
      simp only [Act.put, List.setIfInBounds_toArray, List.set_cons_zero, List.set_cons_succ]
      refine wpAnyE_tk (i := 14) (d := some 47) (v := ?_) rfl (by kernel_rfl) (by kernel_rfl) (by kernel_rfl) rfl (fun _ _ _ h => h) rfl rfl ?hy (by assumption) ?_
      case hy => (intro w' hSw; (try dsimp only at hSw); go_simp <;> (first | with_reducible rfl | omega | skip))
      simp only [Act.put, List.setIfInBounds_toArray, List.set_cons_zero, List.set_cons_succ]
      refine wpAnyE_tk (i := 15) (d := some 48) (v := ?_) rfl (by kernel_rfl) (by kernel_rfl) (by kernel_rfl) rfl (fun _ _ _ h => h) rfl rfl ?hy (by assumption) ?_
      case hy => (intro w' hSw; (try dsimp only at hSw); go_simp <;> (first | with_reducible rfl | omega | skip))
      simp only [Act.put, List.setIfInBounds_toArray, List.set_cons_zero, List.set_cons_succ]
      refine wpAnyE_tk (i := 16) (d := some 49) (v := ?_) rfl (by kernel_rfl) (by kernel_rfl) (by kernel_rfl) rfl (fun _ _ _ h => h) rfl rfl ?hy (by assumption) ?_
      case hy => (intro w' hSw; (try dsimp only at hSw); go_simp <;> (first | with_reducible rfl | omega | skip))
      simp only [Act.put, List.setIfInBounds_toArray, List.set_cons_zero, List.set_cons_succ]
      refine wpAnyE_tk (i := 17) (d := some 50) (v := ?_) rfl (by kernel_rfl) (by kernel_rfl) (by kernel_rfl) rfl (fun _ _ _ h => h) rfl rfl ?hy (by assumption) ?_
      case hy => (intro w' hSw; (try dsimp only at hSw); go_simp <;> (first | with_reducible rfl | omega | skip))
      simp only [Act.put, List.setIfInBounds_toArray, List.set_cons_zero, List.set_cons_succ]
      refine wpAnyE_sk (i := 18) (d := some 51) rfl (by kernel_rfl) (by kernel_rfl) (by kernel_rfl) rfl (fun _ _ _ h => h) rfl rfl (by assumption) ?_
      simp only [Act.put, List.setIfInBounds_toArray, List.set_cons_zero, List.set_cons_succ]
      refine wpAnyE_sk (i := 19) (d := some 52) rfl (by kernel_rfl) (by kernel_rfl) (by kernel_rfl) rfl (fun _ _ _ h => h) rfl rfl (by assumption) ?_
      simp only [Act.put, List.setIfInBounds_toArray, List.set_cons_zero, List.set_cons_succ]
      refine wpAnyE_sk (i := 20) (d := some 53) rfl (by kernel_rfl) (by kernel_rfl) (by kernel_rfl) rfl (fun _ _ _ h => h) rfl rfl (by assumption) ?_
      simp only [Act.put, List.setIfInBounds_toArray, List.set_cons_zero, List.set_cons_succ]
      refine wpAnyE_sk (i := 21) (d := some 54) rfl (by kernel_rfl) (by kernel_rfl) (by kernel_rfl) rfl (fun _ _ _ h => h) rfl rfl (by assumption) ?_
      simp only [Act.put, List.setIfInBounds_toArray, List.set_cons_zero, List.set_cons_succ]
      refine wpAnyE_tk (i := 22) (d := some 55) (v := ?_) rfl (by kernel_rfl) (by kernel_rfl) (by kernel_rfl) rfl (fun _ _ _ h => h) rfl rfl ?hy (by assumption) ?_
      case hy => (intro w' hSw; (try dsimp only at hSw); go_simp <;> (first | with_reducible rfl | omega | skip))
      simp only [Act.put, List.setIfInBounds_toArray, List.set_cons_zero, List.set_cons_succ]
      refine wpAnyE_tk (i := 23) (d := some 56) (v := ?_) rfl (by kernel_rfl) (by kernel_rfl) (by kernel_rfl) rfl (fun _ _ _ h => h) rfl rfl ?hy (by assumption) ?_
      case hy => (intro w' hSw; (try dsimp only at hSw); go_simp <;> (first | with_reducible rfl | omega | skip))
      simp only [Act.put, List.setIfInBounds_toArray, List.set_cons_zero, List.set_cons_succ]
      refine wpAnyE_done (by kernel_rfl) ?_ _
      have KB3 : Hid (Below w.heap.size w y2) := KB.out.trans ((hx2).mono KB.out.size)
      have L1n : Hid (Lies y2 (w.heap.size) VA 36) := L1.out.below (hx2) L1.out.lt
      clear L1
      have L1 := L1n
      clear L1n
      have L2n : Hid (Lies y2 (w.heap.size + 1) VB 36) := L2.out.below (hx2) L2.out.lt
      clear L2
      have L2 := L2n
      clear L2n
      have hb3 : Hid (Below v4.heap.size v4 y2) := hx2
      clear hHeld hx1 hx2 KB
      go_wp2_with fail
      go_meet
      exact ⟨by first | rfl | simp, KB3, L1, L2⟩
  clear L1 L2 KB
  obtain ⟨hcc, KB, L1, L2⟩ := hcut
  subst hcc
  obtain ⟨v6, hv⟩ : ∃ v, v = wc := ⟨_, rfl⟩
  subst hv
  go_upto_region 8 with fail
  go_cut [8] (fun c wx => c = .bool may ∧ Hid (Below w.heap.size w wx) ∧ Hid (Lies wx w.heap.size VA 36) ∧ Hid (Lies wx (w.heap.size + 1) VB 36))
  case first =>
    by_cases hca : ca = 0
    case neg =>
      have hm : may = false := by rw [F3.out]; rw [decide_eq_false hca]; rfl
      subst hm
      have qa : ((ca : Int) == 0) = false := by rw [beq_eq_false_iff_ne]; omega
      clear hca
      go_wp2_with (first | (refine wpList_load_rowG (by rfl) 36 _ rfl (w.heap.size) rfl VA 36 _ L1.out Tryz.underlying36 rfl (by rw [za]; exact infoHo) ?_))
      refine Calls.mono (HCA.out _ KB.out) ?_
      rintro e y1 ⟨rfl, hc⟩
      have KB1 : Hid (Below w.heap.size w y1) := KB.out.trans ((hc).mono KB.out.size)
      have L1n : Hid (Lies y1 (w.heap.size) VA 36) := L1.out.below (hc) L1.out.lt
      clear L1
      have L1 := L1n
      clear L1n
      have L2n : Hid (Lies y1 (w.heap.size + 1) VB 36) := L2.out.below (hc) L2.out.lt
      clear L2
      have L2 := L2n
      clear L2n
      clear KB
      clear hc
      go_wp2_with fail
      go_meet
      exact ⟨by first | rfl | simp, KB1, L1, L2⟩
    have qa : ((ca : Int) == 0) = true := by rw [hca]; rfl
    by_cases hcb : cb = 0
    case neg =>
      have hm : may = false := by rw [F3.out]; rw [decide_eq_false hcb]; simp
      subst hm
      have qb : ((cb : Int) == 0) = false := by rw [beq_eq_false_iff_ne]; omega
      clear hca hcb
      go_wp2_with (first | (refine wpList_load_rowG (by rfl) 36 _ rfl (w.heap.size) rfl VA 36 _ L1.out Tryz.underlying36 rfl (by rw [za]; exact infoHo) ?_))
      refine Calls.mono (HCA.out _ KB.out) ?_
      rintro e y1 ⟨rfl, hc⟩
      have KB1 : Hid (Below w.heap.size w y1) := KB.out.trans ((hc).mono KB.out.size)
      have L1n : Hid (Lies y1 (w.heap.size) VA 36) := L1.out.below (hc) L1.out.lt
      clear L1
      have L1 := L1n
      clear L1n
      have L2n : Hid (Lies y1 (w.heap.size + 1) VB 36) := L2.out.below (hc) L2.out.lt
      clear L2
      have L2 := L2n
      clear L2n
      clear KB
      clear hc
      go_wp2_with (first | (refine wpList_load_rowG (by rfl) 36 _ rfl (w.heap.size + 1) rfl VB 36 _ L2.out Tryz.underlying36 rfl (by rw [zb]; exact infoHo) ?_))
      refine Calls.mono (HCB.out _ KB1.out) ?_
      rintro e y2 ⟨rfl, hc⟩
      have KB2 : Hid (Below w.heap.size w y2) := KB1.out.trans ((hc).mono KB1.out.size)
      have L1n : Hid (Lies y2 (w.heap.size) VA 36) := L1.out.below (hc) L1.out.lt
      clear L1
      have L1 := L1n
      clear L1n
      have L2n : Hid (Lies y2 (w.heap.size + 1) VB 36) := L2.out.below (hc) L2.out.lt
      clear L2
      have L2 := L2n
      clear L2n
      clear KB1
      clear hc
      go_wp2_with fail
      go_meet
      exact ⟨by first | rfl | simp, KB2, L1, L2⟩
    have qb : ((cb : Int) == 0) = true := by rw [hcb]; rfl
    cases hkk : (k == kb)
    case false =>
      have hm : may = false := by rw [F3.out]; rw [decide_eq_false (beq_eq_false_iff_ne.1 hkk)]; simp
      subst hm
      clear hca hcb
      go_wp2_with (first | (refine wpList_load_rowG (by rfl) 36 _ rfl (w.heap.size) rfl VA 36 _ L1.out Tryz.underlying36 rfl (by rw [za]; exact infoHo) ?_))
      refine Calls.mono (HCA.out _ KB.out) ?_
      rintro e y1 ⟨rfl, hc⟩
      have KB1 : Hid (Below w.heap.size w y1) := KB.out.trans ((hc).mono KB.out.size)
      have L1n : Hid (Lies y1 (w.heap.size) VA 36) := L1.out.below (hc) L1.out.lt
      clear L1
      have L1 := L1n
      clear L1n
      have L2n : Hid (Lies y1 (w.heap.size + 1) VB 36) := L2.out.below (hc) L2.out.lt
      clear L2
      have L2 := L2n
      clear L2n
      clear KB
      clear hc
      go_wp2_with (first | (refine wpList_load_rowG (by rfl) 36 _ rfl (w.heap.size + 1) rfl VB 36 _ L2.out Tryz.underlying36 rfl (by rw [zb]; exact infoHo) ?_))
      refine Calls.mono (HCB.out _ KB1.out) ?_
      rintro e y2 ⟨rfl, hc⟩
      have KB2 : Hid (Below w.heap.size w y2) := KB1.out.trans ((hc).mono KB1.out.size)
      have L1n : Hid (Lies y2 (w.heap.size) VA 36) := L1.out.below (hc) L1.out.lt
      clear L1
      have L1 := L1n
      clear L1n
      have L2n : Hid (Lies y2 (w.heap.size + 1) VB 36) := L2.out.below (hc) L2.out.lt
      clear L2
      have L2 := L2n
      clear L2n
      clear KB1
      clear hc
      have d0 : y2.cell? ⟨w.heap.size, 0, none⟩ = some (.int .i64 k) := by rw [L1.out.cell 0, HA0.out]
      have d1 : y2.cell? ⟨w.heap.size + 1, 0, none⟩ = some (.int .i64 kb) := by rw [L2.out.cell 0, HB0.out]
      go_wp2_with fail
      go_meet
      exact ⟨by first | rfl | simp, KB2, L1, L2⟩
    case true =>
      have hm : may = true := by rw [F3.out]; simp [hca, hcb, ← beq_iff_eq.1 hkk, HK3.out]
      subst hm
      clear hca hcb
      go_wp2_with (first | (refine wpList_load_rowG (by rfl) 36 _ rfl (w.heap.size) rfl VA 36 _ L1.out Tryz.underlying36 rfl (by rw [za]; exact infoHo) ?_))
      refine Calls.mono (HCA.out _ KB.out) ?_
      rintro e y1 ⟨rfl, hc⟩
      have KB1 : Hid (Below w.heap.size w y1) := KB.out.trans ((hc).mono KB.out.size)
      have L1n : Hid (Lies y1 (w.heap.size) VA 36) := L1.out.below (hc) L1.out.lt
      clear L1
      have L1 := L1n
      clear L1n
      have L2n : Hid (Lies y1 (w.heap.size + 1) VB 36) := L2.out.below (hc) L2.out.lt
      clear L2
      have L2 := L2n
      clear L2n
      clear KB
      clear hc
      go_wp2_with (first | (refine wpList_load_rowG (by rfl) 36 _ rfl (w.heap.size + 1) rfl VB 36 _ L2.out Tryz.underlying36 rfl (by rw [zb]; exact infoHo) ?_))
      refine Calls.mono (HCB.out _ KB1.out) ?_
      rintro e y2 ⟨rfl, hc⟩
      have KB2 : Hid (Below w.heap.size w y2) := KB1.out.trans ((hc).mono KB1.out.size)
      have L1n : Hid (Lies y2 (w.heap.size) VA 36) := L1.out.below (hc) L1.out.lt
      clear L1
      have L1 := L1n
      clear L1n
      have L2n : Hid (Lies y2 (w.heap.size + 1) VB 36) := L2.out.below (hc) L2.out.lt
      clear L2
      have L2 := L2n
      clear L2n
      clear KB1
      clear hc
      have d0 : y2.cell? ⟨w.heap.size, 0, none⟩ = some (.int .i64 k) := by rw [L1.out.cell 0, HA0.out]
      have d1 : y2.cell? ⟨w.heap.size + 1, 0, none⟩ = some (.int .i64 kb) := by rw [L2.out.cell 0, HB0.out]
      go_wp2_with fail
      go_meet
      exact ⟨by first | rfl | simp, KB2, L1, L2⟩
  clear L1 L2 KB
  obtain ⟨hcc, KB, L1, L2⟩ := hcut
  subst hcc
  obtain ⟨v8, hv⟩ : ∃ v, v = wc := ⟨_, rfl⟩
  subst hv
  go_upto_region 9 with fail
  cases may
  case false =>
    go_wp2_with (first | (refine wpList_load_rowG (by rfl) 36 _ rfl (w.heap.size) rfl VA 36 _ L1.out Tryz.underlying36 rfl (by rw [za]; exact infoHo) ?_) | (refine wpList_load_rowG (by rfl) 36 _ rfl (w.heap.size + 1) rfl VB 36 _ L2.out Tryz.underlying36 rfl (by rw [zb]; exact infoHo) ?_))
    refine Calls.mono (HW0.out _ KB.out) ?_
    rintro e y1 ⟨rfl, hc⟩
    have KB1 : Hid (Below w.heap.size w y1) := KB.out.trans ((hc).mono KB.out.size)
    have L1n : Hid (Lies y1 (w.heap.size) VA 36) := L1.out.below (hc) L1.out.lt
    clear L1
    have L1 := L1n
    clear L1n
    have L2n : Hid (Lies y1 (w.heap.size + 1) VB 36) := L2.out.below (hc) L2.out.lt
    clear L2
    have L2 := L2n
    clear L2n
    clear KB
    clear hc
    go_wp2_with (first | (refine wpList_load_rowG (by rfl) 36 _ rfl (w.heap.size) rfl VA 36 _ L1.out Tryz.underlying36 rfl (by rw [za]; exact infoHo) ?_) | (refine wpList_load_rowG (by rfl) 36 _ rfl (w.heap.size + 1) rfl VB 36 _ L2.out Tryz.underlying36 rfl (by rw [zb]; exact infoHo) ?_))
    refine Calls.mono (HWM.out _ KB1.out) ?_
    rintro e y2 ⟨rfl, hc⟩
    have KB2 : Hid (Below w.heap.size w y2) := KB1.out.trans ((hc).mono KB1.out.size)
    have L1n : Hid (Lies y2 (w.heap.size) VA 36) := L1.out.below (hc) L1.out.lt
    clear L1
    have L1 := L1n
    clear L1n
    have L2n : Hid (Lies y2 (w.heap.size + 1) VB 36) := L2.out.below (hc) L2.out.lt
    clear L2
    have L2 := L2n
    clear L2n
    clear KB1
    clear hc
    go_wp2_with fail
    refine Calls.mono (HW.out _ KB2.out) ?_
    rintro e y3 ⟨rfl, hc⟩
    have KB3 : Hid (Below w.heap.size w y3) := KB2.out.trans ((hc).mono KB2.out.size)
    have L1n : Hid (Lies y3 (w.heap.size) VA 36) := L1.out.below (hc) L1.out.lt
    clear L1
    have L1 := L1n
    clear L1n
    have L2n : Hid (Lies y3 (w.heap.size + 1) VB 36) := L2.out.below (hc) L2.out.lt
    clear L2
    have L2 := L2n
    clear L2n
    clear KB2
    clear hc
    go_wp2_with fail
    go_ret
    exact ⟨by first | rfl | simp, KB3.out⟩
  cases sm
  case true.false =>
    go_wp2_with (first | (refine wpList_load_rowG (by rfl) 36 _ rfl (w.heap.size) rfl VA 36 _ L1.out Tryz.underlying36 rfl (by rw [za]; exact infoHo) ?_) | (refine wpList_load_rowG (by rfl) 36 _ rfl (w.heap.size + 1) rfl VB 36 _ L2.out Tryz.underlying36 rfl (by rw [zb]; exact infoHo) ?_))
    refine Calls.mono (HW0.out _ KB.out) ?_
    rintro e y1 ⟨rfl, hc⟩
    have KB1 : Hid (Below w.heap.size w y1) := KB.out.trans ((hc).mono KB.out.size)
    have L1n : Hid (Lies y1 (w.heap.size) VA 36) := L1.out.below (hc) L1.out.lt
    clear L1
    have L1 := L1n
    clear L1n
    have L2n : Hid (Lies y1 (w.heap.size + 1) VB 36) := L2.out.below (hc) L2.out.lt
    clear L2
    have L2 := L2n
    clear L2n
    clear KB
    clear hc
    go_wp2_with (first | (refine wpList_load_rowG (by rfl) 36 _ rfl (w.heap.size) rfl VA 36 _ L1.out Tryz.underlying36 rfl (by rw [za]; exact infoHo) ?_) | (refine wpList_load_rowG (by rfl) 36 _ rfl (w.heap.size + 1) rfl VB 36 _ L2.out Tryz.underlying36 rfl (by rw [zb]; exact infoHo) ?_))
    refine Calls.mono (HWM.out _ KB1.out) ?_
    rintro e y2 ⟨rfl, hc⟩
    have KB2 : Hid (Below w.heap.size w y2) := KB1.out.trans ((hc).mono KB1.out.size)
    have L1n : Hid (Lies y2 (w.heap.size) VA 36) := L1.out.below (hc) L1.out.lt
    clear L1
    have L1 := L1n
    clear L1n
    have L2n : Hid (Lies y2 (w.heap.size + 1) VB 36) := L2.out.below (hc) L2.out.lt
    clear L2
    have L2 := L2n
    clear L2n
    clear KB1
    clear hc
    go_wp2_with (first | (refine wpList_load_rowG (by rfl) 36 _ rfl (w.heap.size) rfl VA 36 _ L1.out Tryz.underlying36 rfl (by rw [za]; exact infoHo) ?_) | (refine wpList_load_rowG (by rfl) 36 _ rfl (w.heap.size + 1) rfl VB 36 _ L2.out Tryz.underlying36 rfl (by rw [zb]; exact infoHo) ?_))
    refine Calls.mono (HSM.out _ KB2.out) ?_
    rintro e y3 ⟨rfl, hc⟩
    have KB3 : Hid (Below w.heap.size w y3) := KB2.out.trans ((hc).mono KB2.out.size)
    have L1n : Hid (Lies y3 (w.heap.size) VA 36) := L1.out.below (hc) L1.out.lt
    clear L1
    have L1 := L1n
    clear L1n
    have L2n : Hid (Lies y3 (w.heap.size + 1) VB 36) := L2.out.below (hc) L2.out.lt
    clear L2
    have L2 := L2n
    clear L2n
    clear KB2
    clear hc
    go_wp2_with fail
    refine Calls.mono (HW.out _ KB3.out) ?_
    rintro e y4 ⟨rfl, hc⟩
    have KB4 : Hid (Below w.heap.size w y4) := KB3.out.trans ((hc).mono KB3.out.size)
    have L1n : Hid (Lies y4 (w.heap.size) VA 36) := L1.out.below (hc) L1.out.lt
    clear L1
    have L1 := L1n
    clear L1n
    have L2n : Hid (Lies y4 (w.heap.size + 1) VB 36) := L2.out.below (hc) L2.out.lt
    clear L2
    have L2 := L2n
    clear L2n
    clear KB3
    clear hc
    go_wp2_with fail
    go_ret
    exact ⟨by first | rfl | simp, KB4.out⟩
  case true.true =>
    go_wp2_with (first | (refine wpList_load_rowG (by rfl) 36 _ rfl (w.heap.size) rfl VA 36 _ L1.out Tryz.underlying36 rfl (by rw [za]; exact infoHo) ?_) | (refine wpList_load_rowG (by rfl) 36 _ rfl (w.heap.size + 1) rfl VB 36 _ L2.out Tryz.underlying36 rfl (by rw [zb]; exact infoHo) ?_))
    refine Calls.mono (HW0.out _ KB.out) ?_
    rintro e y1 ⟨rfl, hc⟩
    have KB1 : Hid (Below w.heap.size w y1) := KB.out.trans ((hc).mono KB.out.size)
    have L1n : Hid (Lies y1 (w.heap.size) VA 36) := L1.out.below (hc) L1.out.lt
    clear L1
    have L1 := L1n
    clear L1n
    have L2n : Hid (Lies y1 (w.heap.size + 1) VB 36) := L2.out.below (hc) L2.out.lt
    clear L2
    have L2 := L2n
    clear L2n
    clear KB
    clear hc
    go_wp2_with (first | (refine wpList_load_rowG (by rfl) 36 _ rfl (w.heap.size) rfl VA 36 _ L1.out Tryz.underlying36 rfl (by rw [za]; exact infoHo) ?_) | (refine wpList_load_rowG (by rfl) 36 _ rfl (w.heap.size + 1) rfl VB 36 _ L2.out Tryz.underlying36 rfl (by rw [zb]; exact infoHo) ?_))
    refine Calls.mono (HWM.out _ KB1.out) ?_
    rintro e y2 ⟨rfl, hc⟩
    have KB2 : Hid (Below w.heap.size w y2) := KB1.out.trans ((hc).mono KB1.out.size)
    have L1n : Hid (Lies y2 (w.heap.size) VA 36) := L1.out.below (hc) L1.out.lt
    clear L1
    have L1 := L1n
    clear L1n
    have L2n : Hid (Lies y2 (w.heap.size + 1) VB 36) := L2.out.below (hc) L2.out.lt
    clear L2
    have L2 := L2n
    clear L2n
    clear KB1
    clear hc
    go_wp2_with (first | (refine wpList_load_rowG (by rfl) 36 _ rfl (w.heap.size) rfl VA 36 _ L1.out Tryz.underlying36 rfl (by rw [za]; exact infoHo) ?_) | (refine wpList_load_rowG (by rfl) 36 _ rfl (w.heap.size + 1) rfl VB 36 _ L2.out Tryz.underlying36 rfl (by rw [zb]; exact infoHo) ?_))
    refine Calls.mono (HSM.out _ KB2.out) ?_
    rintro e y3 ⟨rfl, hc⟩
    have KB3 : Hid (Below w.heap.size w y3) := KB2.out.trans ((hc).mono KB2.out.size)
    have L1n : Hid (Lies y3 (w.heap.size) VA 36) := L1.out.below (hc) L1.out.lt
    clear L1
    have L1 := L1n
    clear L1n
    have L2n : Hid (Lies y3 (w.heap.size + 1) VB 36) := L2.out.below (hc) L2.out.lt
    clear L2
    have L2 := L2n
    clear L2n
    clear KB2
    clear hc
    go_wp2_with fail
    refine Calls.mono (HW.out _ KB3.out) ?_
    rintro e y4 ⟨rfl, hc⟩
    have KB4 : Hid (Below w.heap.size w y4) := KB3.out.trans ((hc).mono KB3.out.size)
    have L1n : Hid (Lies y4 (w.heap.size) VA 36) := L1.out.below (hc) L1.out.lt
    clear L1
    have L1 := L1n
    clear L1n
    have L2n : Hid (Lies y4 (w.heap.size + 1) VB 36) := L2.out.below (hc) L2.out.lt
    clear L2
    have L2 := L2n
    clear L2n
    clear KB3
    clear hc
    go_wp2_with fail
    go_ret
    exact ⟨by first | rfl | simp, KB4.out⟩

set_option maxHeartbeats 16000000 in
set_option maxRecDepth 100000 in
theorem walkB (VA VB : Array Value) (za : VA.size = 18) (zb : VB.size = 18) (k kb n : Int) (hn : -9223372036854775808 ≤ n ∧ n ≤ 9223372036854775807) (HK3 : Hid (¬ k = 3)) (HA0 : Hid (VA[0]? = some (.int .i64 k))) (HB0 : Hid (VB[0]? = some (.int .i64 kb))) (wn wn1 sm may : Bool) (ca cb : Nat)
    (f1 : 0 < n → wn = true → wn1 = true) (f2 : n < 0 ∨ 32 < n → wn = false) (f3 : may = (decide (ca = 0) && decide (cb = 0) && decide (k = kb) && (decide (k = 2) || decide (k = 3)))) (w : World)
    (HWN : Hid (∀ wx, Below w.heap.size w wx → Calls Tryz.prog 15 #[.agg VA, .agg VB, .int .i64 n] wx fun e w' => e = .returned (.bool wn) ∧ Below wx.heap.size wx w')) (HNW : Hid (∀ wx, Below w.heap.size w wx → Calls Tryz.prog 15 #[.agg VB, .agg VA, .int .i64 n] wx fun e w' => e = .returned (.bool wn) ∧ Below wx.heap.size wx w'))
    (HW1 : Hid (0 < n → ∀ wx, Below w.heap.size w wx → Calls Tryz.prog 15 #[.agg VA, .agg VB, .int .i64 (n - 1)] wx fun e w' => e = .returned (.bool wn1) ∧ Below wx.heap.size wx w'))
    (HW0 : Hid (∀ wx, Below w.heap.size w wx → Calls Tryz.prog 15 #[.agg VA, .agg VB, .int .i64 0] wx fun e w' => e = .returned (.bool may) ∧ Below wx.heap.size wx w')) (HWM : Hid (∀ wx, Below w.heap.size w wx → Calls Tryz.prog 15 #[.agg VA, .agg VB, .int .i64 32] wx fun e w' => e = .returned (.bool (may && sm)) ∧ Below wx.heap.size wx w'))
    (HSM : Hid (∀ wx, Below w.heap.size w wx → Calls Tryz.prog 12 #[.agg VA, .agg VB] wx fun e w' => e = .returned (.bool sm) ∧ Below wx.heap.size wx w')) (HCA : Hid (∀ wx, Below w.heap.size w wx → Calls Tryz.prog 13 #[.agg VA, .bool false] wx fun e w' => e = .returned (.int .i64 (ca : Nat)) ∧ Below wx.heap.size wx w')) (HCB : Hid (∀ wx, Below w.heap.size w wx → Calls Tryz.prog 13 #[.agg VB, .bool false] wx fun e w' => e = .returned (.int .i64 (cb : Nat)) ∧ Below wx.heap.size wx w')) (HW : Hid (∀ wx, Below w.heap.size w wx → Calls Tryz.prog 11 #[] wx fun e w' => e = .returned (.bool true) ∧ Below wx.heap.size wx w')) :
    Calls Tryz.prog 6 #[.agg VA, .agg VB, .int .i64 n] w fun e w' => e = .returned (.bool true) ∧ Below w.heap.size w w' := by
  have L1 : Hid (Lies ((w.alloc (.cells VA 36)).alloc (.cells VB 36)) w.heap.size VA 36) := (Lies.new w _ _).alloc _
  have L2 : Hid (Lies ((w.alloc (.cells VA 36)).alloc (.cells VB 36)) (w.heap.size + 1) VB 36) := new_one w _ _ _
  have KB : Hid (Below w.heap.size w ((w.alloc (.cells VA 36)).alloc (.cells VB 36))) := ((Below.refl _ _).alloc (Nat.le_refl _) _).alloc (by simp) _
  have F1 : Hid (0 < n → wn = true → wn1 = true) := f1
  have F2 : Hid (n < 0 ∨ 32 < n → wn = false) := f2
  have F3 : Hid (may = (decide (ca = 0) && decide (cb = 0) && decide (k = kb) && (decide (k = 2) || decide (k = 3)))) := f3
  have hk3' : (k == 3) = false := by rw [beq_eq_false_iff_ne]; exact HK3.out
  have HQ : Hid True := trivial
  clear f1 f2 f3
  go_enter Tryz.func6, Tryz.ntmps6
  go_upto_region 1 with fail
  generalize (w.alloc (.cells VA 36)).alloc (.cells VB 36) = v0 at L1 L2 KB ⊢
  have c0 : v0.cell? ⟨w.heap.size, 0, none⟩ = some (.int .i64 k) := by rw [L1.out.cell 0, HA0.out]
  go_upto_region 4 with fail
  clear c0
  go_cut [32] (fun c wx => c = .bool false ∧ Hid (Below w.heap.size w wx) ∧ Hid (Lies wx w.heap.size VA 36) ∧ Hid (Lies wx (w.heap.size + 1) VB 36))
  case first =>
    rcases Int.lt_or_le 0 n with h0 | h0
    case inr =>
      have h0' : ¬ 0 < n := by omega
      go_wp2_with fail
      go_meet
      exact ⟨by first | rfl | simp, KB, L1, L2⟩
    rcases Int.lt_or_le 32 n with h1 | h1
    case inl =>
      have h1' : ¬ n ≤ 32 := by omega
      go_wp2_with fail
      go_meet
      exact ⟨by first | rfl | simp, KB, L1, L2⟩
    cases wn
    case false =>
      go_wp2_with (first | (refine wpList_load_rowG (by rfl) 36 _ rfl (w.heap.size) rfl VA 36 _ L1.out Tryz.underlying36 rfl (by rw [za]; exact infoHo) ?_) | (refine wpList_load_rowG (by rfl) 36 _ rfl (w.heap.size + 1) rfl VB 36 _ L2.out Tryz.underlying36 rfl (by rw [zb]; exact infoHo) ?_))
      refine Calls.mono (HWN.out _ KB.out) ?_
      rintro e y1 ⟨rfl, hc⟩
      have KB1 : Hid (Below w.heap.size w y1) := KB.out.trans ((hc).mono KB.out.size)
      have L1n : Hid (Lies y1 (w.heap.size) VA 36) := L1.out.below (hc) L1.out.lt
      clear L1
      have L1 := L1n
      clear L1n
      have L2n : Hid (Lies y1 (w.heap.size + 1) VB 36) := L2.out.below (hc) L2.out.lt
      clear L2
      have L2 := L2n
      clear L2n
      clear KB
      clear hc
      go_wp2_with fail
      go_meet
      exact ⟨by first | rfl | simp, KB1, L1, L2⟩
    case true =>
      obtain rfl := F1.out h0 rfl
      replace HW1 := HW1.out h0
      have HWX : Hid (∀ wx, Below w.heap.size w wx → Calls Tryz.prog 15 #[.agg VA, .agg VB, .int .i64 (n - 1)] wx fun e w' => e = .returned (.bool true) ∧ Below wx.heap.size wx w') := HW1
      go_wp2_with (first | (refine wpList_load_rowG (by rfl) 36 _ rfl (w.heap.size) rfl VA 36 _ L1.out Tryz.underlying36 rfl (by rw [za]; exact infoHo) ?_) | (refine wpList_load_rowG (by rfl) 36 _ rfl (w.heap.size + 1) rfl VB 36 _ L2.out Tryz.underlying36 rfl (by rw [zb]; exact infoHo) ?_))
      refine Calls.mono (HWN.out _ KB.out) ?_
      rintro e y1 ⟨rfl, hc⟩
      have KB1 : Hid (Below w.heap.size w y1) := KB.out.trans ((hc).mono KB.out.size)
      have L1n : Hid (Lies y1 (w.heap.size) VA 36) := L1.out.below (hc) L1.out.lt
      clear L1
      have L1 := L1n
      clear L1n
      have L2n : Hid (Lies y1 (w.heap.size + 1) VB 36) := L2.out.below (hc) L2.out.lt
      clear L2
      have L2 := L2n
      clear L2n
      clear KB
      clear hc
      go_wp2_with (first | (refine wpList_load_rowG (by rfl) 36 _ rfl (w.heap.size) rfl VA 36 _ L1.out Tryz.underlying36 rfl (by rw [za]; exact infoHo) ?_) | (refine wpList_load_rowG (by rfl) 36 _ rfl (w.heap.size + 1) rfl VB 36 _ L2.out Tryz.underlying36 rfl (by rw [zb]; exact infoHo) ?_))
      refine Calls.mono (HWX.out _ KB1.out) ?_
      rintro e y2 ⟨rfl, hc⟩
      have KB2 : Hid (Below w.heap.size w y2) := KB1.out.trans ((hc).mono KB1.out.size)
      have L1n : Hid (Lies y2 (w.heap.size) VA 36) := L1.out.below (hc) L1.out.lt
      clear L1
      have L1 := L1n
      clear L1n
      have L2n : Hid (Lies y2 (w.heap.size + 1) VB 36) := L2.out.below (hc) L2.out.lt
      clear L2
      have L2 := L2n
      clear L2n
      clear KB1
      clear hc
      go_wp2_with fail
      go_meet
      exact ⟨by first | rfl | simp, KB2, L1, L2⟩
  clear L1 L2 KB
  obtain ⟨hcc, KB, L1, L2⟩ := hcut
  subst hcc
  obtain ⟨v4, hv⟩ : ∃ v, v = wc := ⟨_, rfl⟩
  subst hv
  go_upto_region 6 with fail
  go_cut [56] (fun c wx => c = .bool false ∧ Hid (Below w.heap.size w wx) ∧ Hid (Lies wx w.heap.size VA 36) ∧ Hid (Lies wx (w.heap.size + 1) VB 36))
  case first =>
    rcases Int.lt_or_le n 0 with h0 | h0
    case inl =>
      obtain rfl := F2.out (.inl h0)
      refine wp_region_late (fun wx => Below v4.heap.size v4 wx) 24 (by kernel_rfl) (Below.refl _ v4).drew (fun hHeld => ?_)
      refine wpAnyE_tk (i := 0) (d := some 33) (v := .agg VA) rfl (by kernel_rfl) (by kernel_rfl) (by kernel_rfl) rfl (fun _ _ _ h => h) rfl rfl ?hy (by assumption) ?_
      case hy => exact fun w' hSw => exec_load_row 36 _ rfl (w.heap.size) rfl VA 36 _ (L1.out.below hSw L1.out.lt) Tryz.underlying36 rfl (by rw [za]; exact infoHo)
      simp only [Act.put, List.setIfInBounds_toArray, List.set_cons_zero, List.set_cons_succ]
      refine wpAnyE_tk (i := 1) (d := some 34) (v := .agg VB) rfl (by kernel_rfl) (by kernel_rfl) (by kernel_rfl) rfl (fun _ _ _ h => h) rfl rfl ?hy (by assumption) ?_
      case hy => exact fun w' hSw => exec_load_row 36 _ rfl (w.heap.size + 1) rfl VB 36 _ (L2.out.below hSw L2.out.lt) Tryz.underlying36 rfl (by rw [zb]; exact infoHo)
      simp only [Act.put, List.setIfInBounds_toArray, List.set_cons_zero, List.set_cons_succ]
      refine wpAnyE_tk (i := 2) (d := some 35) (v := ?_) rfl (by kernel_rfl) (by kernel_rfl) (by kernel_rfl) rfl (fun _ _ _ h => h) rfl rfl ?hy (by assumption) ?_
      case hy => (intro w' hSw; (try dsimp only at hSw); go_simp <;> (first | with_reducible rfl | omega | skip))
      simp only [Act.put, List.setIfInBounds_toArray, List.set_cons_zero, List.set_cons_succ]
      refine wpAnyE_tk (i := 4) (d := some 37) (v := .agg VB) rfl (by kernel_rfl) (by kernel_rfl) (by kernel_rfl) rfl (fun _ _ _ h => h) rfl rfl ?hy (by assumption) ?_
      case hy => exact fun w' hSw => exec_load_row 36 _ rfl (w.heap.size + 1) rfl VB 36 _ (L2.out.below hSw L2.out.lt) Tryz.underlying36 rfl (by rw [zb]; exact infoHo)
      simp only [Act.put, List.setIfInBounds_toArray, List.set_cons_zero, List.set_cons_succ]
      refine wpAnyE_tk (i := 5) (d := some 38) (v := .agg VA) rfl (by kernel_rfl) (by kernel_rfl) (by kernel_rfl) rfl (fun _ _ _ h => h) rfl rfl ?hy (by assumption) ?_
      case hy => exact fun w' hSw => exec_load_row 36 _ rfl (w.heap.size) rfl VA 36 _ (L1.out.below hSw L1.out.lt) Tryz.underlying36 rfl (by rw [za]; exact infoHo)
      simp only [Act.put, List.setIfInBounds_toArray, List.set_cons_zero, List.set_cons_succ]
      refine wpAnyE_tk (i := 6) (d := some 39) (v := ?_) rfl (by kernel_rfl) (by kernel_rfl) (by kernel_rfl) rfl (fun _ _ _ h => h) rfl rfl ?hy (by assumption) ?_
      case hy => (intro w' hSw; (try dsimp only at hSw); go_simp <;> (first | with_reducible rfl | omega | skip))
      simp only [Act.put, List.setIfInBounds_toArray, List.set_cons_zero, List.set_cons_succ]
      refine wpAnyE_on (i := 3) (by kernel_rfl) rfl rfl ?_
      go_simp
      refine Calls.mono (HWN.out _ (KB.out.trans (((Below.refl _ v4).drew).mono KB.out.size))) ?_
      rintro e y1 ⟨rfl, hc1⟩
      have hx1 : Below v4.heap.size v4 y1 := ((Below.refl _ v4).drew).trans hc1
      refine ⟨hx1, ?_⟩
      clear hc1
      refine wpAnyE_on (i := 7) (by kernel_rfl) rfl rfl ?_
      go_simp
      refine Calls.mono (HNW.out _ (KB.out.trans ((hx1).mono KB.out.size))) ?_
      rintro e y2 ⟨rfl, hc2⟩
      have hx2 : Below v4.heap.size v4 y2 := hx1.trans (hc2.mono hx1.size)
      refine ⟨hx2, ?_⟩
      clear hc2
      refine wpAnyE_tk (i := 8) (d := some 41) (v := ?_) rfl (by kernel_rfl) (by kernel_rfl) (by kernel_rfl) rfl (fun _ _ _ h => h) rfl rfl ?hy (by assumption) ?_
      case hy => (intro w' hSw; (try dsimp only at hSw); go_simp <;> (first | with_reducible rfl | omega | skip))
      simp only [Act.put, List.setIfInBounds_toArray, List.set_cons_zero, List.set_cons_succ]
      refine wpAnyE_tk (i := 9) (d := some 42) (v := ?_) rfl (by kernel_rfl) (by kernel_rfl) (by kernel_rfl) rfl (fun _ _ _ h => h) rfl rfl ?hy (by assumption) ?_
      case hy => (intro w' hSw; (try dsimp only at hSw); go_simp <;> (first | with_reducible rfl | omega | skip))
      simp only [Act.put, List.setIfInBounds_toArray, List.set_cons_zero, List.set_cons_succ]
      refine wpAnyE_tk (i := 10) (d := some 43) (v := ?_) rfl (by kernel_rfl) (by kernel_rfl) (by kernel_rfl) rfl (fun _ _ _ h => h) rfl rfl ?hy (by assumption) ?_
      case hy => (intro w' hSw; (try dsimp only at hSw); go_simp <;> (first | with_reducible rfl | omega | skip))
      simp only [Act.put, List.setIfInBounds_toArray, List.set_cons_zero, List.set_cons_succ]
      refine wpAnyE_tk (i := 11) (d := some 44) (v := ?_) rfl (by kernel_rfl) (by kernel_rfl) (by kernel_rfl) rfl (fun _ _ _ h => h) rfl rfl ?hy (by assumption) ?_
      case hy => (intro w' hSw; (try dsimp only at hSw); go_simp <;> (first | with_reducible rfl | omega | skip))
      simp only [Act.put, List.setIfInBounds_toArray, List.set_cons_zero, List.set_cons_succ]
      refine wpAnyE_tk (i := 12) (d := some 45) (v := ?_) rfl (by kernel_rfl) (by kernel_rfl) (by kernel_rfl) rfl (fun _ _ _ h => h) rfl rfl ?hy (by assumption) ?_
      case hy => (intro w' hSw; (try dsimp only at hSw); go_simp <;> (first | with_reducible rfl | omega | skip))
      simp only [Act.put, List.setIfInBounds_toArray, List.set_cons_zero, List.set_cons_succ]
      refine wpAnyE_sk (i := 13) (d := some 46) rfl (by kernel_rfl) (by kernel_rfl) (by kernel_rfl) rfl (fun _ _ _ h => h) rfl rfl (by assumption) ?_
      simp only [Act.put, List.setIfInBounds_toArray, List.set_cons_zero, List.set_cons_succ]
      refine wpAnyE_sk (i := 14) (d := some 47) rfl (by kernel_rfl) (by kernel_rfl) (by kernel_rfl) rfl (fun _ _ _ h => h) rfl rfl (by assumption) ?_
      simp only [Act.put, List.setIfInBounds_toArray, List.set_cons_zero, List.set_cons_succ]
      refine wpAnyE_sk (i := 15) (d := some 48) rfl (by kernel_rfl) (by kernel_rfl) (by kernel_rfl) rfl (fun _ _ _ h => h) rfl rfl (by assumption) ?_
      simp only [Act.put, List.setIfInBounds_toArray, List.set_cons_zero, List.set_cons_succ]
      refine wpAnyE_tk (i := 16) (d := some 49) (v := ?_) rfl (by kernel_rfl) (by kernel_rfl) (by kernel_rfl) rfl (fun _ _ _ h => h) rfl rfl ?hy (by assumption) ?_
      case hy => (intro w' hSw; (try dsimp only at hSw); go_simp <;> (first | with_reducible rfl | omega | skip))
      simp only [Act.put, List.setIfInBounds_toArray, List.set_cons_zero, List.set_cons_succ]
      refine wpAnyE_tk (i := 17) (d := some 50) (v := ?_) rfl (by kernel_rfl) (by kernel_rfl) (by kernel_rfl) rfl (fun _ _ _ h => h) rfl rfl ?hy (by assumption) ?_
      case hy => (intro w' hSw; (try dsimp only at hSw); go_simp <;> (first | with_reducible rfl | omega | skip))
      simp only [Act.put, List.setIfInBounds_toArray, List.set_cons_zero, List.set_cons_succ]
      refine wpAnyE_tk (i := 18) (d := some 51) (v := .agg VA) rfl (by kernel_rfl) (by kernel_rfl) (by kernel_rfl) rfl (fun _ _ _ h => h) rfl rfl ?hy (by assumption) ?_
      case hy => exact fun w' hSw => exec_load_row 36 _ rfl (w.heap.size) rfl VA 36 _ (L1.out.below hSw L1.out.lt) Tryz.underlying36 rfl (by rw [za]; exact infoHo)
      simp only [Act.put, List.setIfInBounds_toArray, List.set_cons_zero, List.set_cons_succ]
      refine wpAnyE_tk (i := 19) (d := some 52) (v := .agg VB) rfl (by kernel_rfl) (by kernel_rfl) (by kernel_rfl) rfl (fun _ _ _ h => h) rfl rfl ?hy (by assumption) ?_
      case hy => exact fun w' hSw => exec_load_row 36 _ rfl (w.heap.size + 1) rfl VB 36 _ (L2.out.below hSw L2.out.lt) Tryz.underlying36 rfl (by rw [zb]; exact infoHo)
      simp only [Act.put, List.setIfInBounds_toArray, List.set_cons_zero, List.set_cons_succ]
      refine wpAnyE_tk (i := 20) (d := some 53) (v := ?_) rfl (by kernel_rfl) (by kernel_rfl) (by kernel_rfl) rfl (fun _ _ _ h => h) rfl rfl ?hy (by assumption) ?_
      case hy => (intro w' hSw; (try dsimp only at hSw); go_simp <;> (first | with_reducible rfl | omega | skip))
      simp only [Act.put, List.setIfInBounds_toArray, List.set_cons_zero, List.set_cons_succ]
      refine wpAnyE_on (i := 21) (by kernel_rfl) rfl rfl ?_
      go_simp
      refine Calls.mono (HWN.out _ (KB.out.trans ((hx2).mono KB.out.size))) ?_
      rintro e y3 ⟨rfl, hc3⟩
      have hx3 : Below v4.heap.size v4 y3 := hx2.trans (hc3.mono hx2.size)
      refine ⟨hx3, ?_⟩
      clear hc3
      refine wpAnyE_tk (i := 22) (d := some 55) (v := ?_) rfl (by kernel_rfl) (by kernel_rfl) (by kernel_rfl) rfl (fun _ _ _ h => h) rfl rfl ?hy (by assumption) ?_
      case hy => (intro w' hSw; (try dsimp only at hSw); go_simp <;> (first | with_reducible rfl | omega | skip))
      simp only [Act.put, List.setIfInBounds_toArray, List.set_cons_zero, List.set_cons_succ]
      refine wpAnyE_tk (i := 23) (d := some 56) (v := ?_) rfl (by kernel_rfl) (by kernel_rfl) (by kernel_rfl) rfl (fun _ _ _ h => h) rfl rfl ?hy (by assumption) ?_
      case hy => (intro w' hSw; (try dsimp only at hSw); go_simp <;> (first | with_reducible rfl | omega | skip))
      simp only [Act.put, List.setIfInBounds_toArray, List.set_cons_zero, List.set_cons_succ]
      refine wpAnyE_done (by kernel_rfl) ?_ _
      have KB4 : Hid (Below w.heap.size w y3) := KB.out.trans ((hx3).mono KB.out.size)
      have L1n : Hid (Lies y3 (w.heap.size) VA 36) := L1.out.below (hx3) L1.out.lt
      clear L1
      have L1 := L1n
      clear L1n
      have L2n : Hid (Lies y3 (w.heap.size + 1) VB 36) := L2.out.below (hx3) L2.out.lt
      clear L2
      have L2 := L2n
      clear L2n
      have hb4 : Hid (Below v4.heap.size v4 y3) := hx3
      clear hHeld hx1 hx2 hx3 KB
      go_wp2_with fail
      go_meet
      exact ⟨by first | rfl | simp, KB4, L1, L2⟩
    rcases Int.lt_or_le 32 n with h1 | h1
    case inl =>
      have h0' : ¬ n < 0 := by omega
      obtain rfl := F2.out (.inr h1)
      refine wp_region_late (fun wx => Below v4.heap.size v4 wx) 24 (by kernel_rfl) (Below.refl _ v4).drew (fun hHeld => ?_)
      refine wpAnyE_tk (i := 0) (d := some 33) (v := .agg VA) rfl (by kernel_rfl) (by kernel_rfl) (by kernel_rfl) rfl (fun _ _ _ h => h) rfl rfl ?hy (by assumption) ?_
      case hy => exact fun w' hSw => exec_load_row 36 _ rfl (w.heap.size) rfl VA 36 _ (L1.out.below hSw L1.out.lt) Tryz.underlying36 rfl (by rw [za]; exact infoHo)
      simp only [Act.put, List.setIfInBounds_toArray, List.set_cons_zero, List.set_cons_succ]
      refine wpAnyE_tk (i := 1) (d := some 34) (v := .agg VB) rfl (by kernel_rfl) (by kernel_rfl) (by kernel_rfl) rfl (fun _ _ _ h => h) rfl rfl ?hy (by assumption) ?_
      case hy => exact fun w' hSw => exec_load_row 36 _ rfl (w.heap.size + 1) rfl VB 36 _ (L2.out.below hSw L2.out.lt) Tryz.underlying36 rfl (by rw [zb]; exact infoHo)
      simp only [Act.put, List.setIfInBounds_toArray, List.set_cons_zero, List.set_cons_succ]
      refine wpAnyE_tk (i := 2) (d := some 35) (v := ?_) rfl (by kernel_rfl) (by kernel_rfl) (by kernel_rfl) rfl (fun _ _ _ h => h) rfl rfl ?hy (by assumption) ?_
      case hy => (intro w' hSw; (try dsimp only at hSw); go_simp <;> (first | with_reducible rfl | omega | skip))
      simp only [Act.put, List.setIfInBounds_toArray, List.set_cons_zero, List.set_cons_succ]
      refine wpAnyE_tk (i := 4) (d := some 37) (v := .agg VB) rfl (by kernel_rfl) (by kernel_rfl) (by kernel_rfl) rfl (fun _ _ _ h => h) rfl rfl ?hy (by assumption) ?_
      case hy => exact fun w' hSw => exec_load_row 36 _ rfl (w.heap.size + 1) rfl VB 36 _ (L2.out.below hSw L2.out.lt) Tryz.underlying36 rfl (by rw [zb]; exact infoHo)
      simp only [Act.put, List.setIfInBounds_toArray, List.set_cons_zero, List.set_cons_succ]
      refine wpAnyE_tk (i := 5) (d := some 38) (v := .agg VA) rfl (by kernel_rfl) (by kernel_rfl) (by kernel_rfl) rfl (fun _ _ _ h => h) rfl rfl ?hy (by assumption) ?_
      case hy => exact fun w' hSw => exec_load_row 36 _ rfl (w.heap.size) rfl VA 36 _ (L1.out.below hSw L1.out.lt) Tryz.underlying36 rfl (by rw [za]; exact infoHo)
      simp only [Act.put, List.setIfInBounds_toArray, List.set_cons_zero, List.set_cons_succ]
      refine wpAnyE_tk (i := 6) (d := some 39) (v := ?_) rfl (by kernel_rfl) (by kernel_rfl) (by kernel_rfl) rfl (fun _ _ _ h => h) rfl rfl ?hy (by assumption) ?_
      case hy => (intro w' hSw; (try dsimp only at hSw); go_simp <;> (first | with_reducible rfl | omega | skip))
      simp only [Act.put, List.setIfInBounds_toArray, List.set_cons_zero, List.set_cons_succ]
      refine wpAnyE_on (i := 3) (by kernel_rfl) rfl rfl ?_
      go_simp
      refine Calls.mono (HWN.out _ (KB.out.trans (((Below.refl _ v4).drew).mono KB.out.size))) ?_
      rintro e y1 ⟨rfl, hc1⟩
      have hx1 : Below v4.heap.size v4 y1 := ((Below.refl _ v4).drew).trans hc1
      refine ⟨hx1, ?_⟩
      clear hc1
      refine wpAnyE_on (i := 7) (by kernel_rfl) rfl rfl ?_
      go_simp
      refine Calls.mono (HNW.out _ (KB.out.trans ((hx1).mono KB.out.size))) ?_
      rintro e y2 ⟨rfl, hc2⟩
      have hx2 : Below v4.heap.size v4 y2 := hx1.trans (hc2.mono hx1.size)
      refine ⟨hx2, ?_⟩
      clear hc2
      refine wpAnyE_tk (i := 8) (d := some 41) (v := ?_) rfl (by kernel_rfl) (by kernel_rfl) (by kernel_rfl) rfl (fun _ _ _ h => h) rfl rfl ?hy (by assumption) ?_
      case hy => (intro w' hSw; (try dsimp only at hSw); go_simp <;> (first | with_reducible rfl | omega | skip))
      simp only [Act.put, List.setIfInBounds_toArray, List.set_cons_zero, List.set_cons_succ]
      refine wpAnyE_tk (i := 9) (d := some 42) (v := ?_) rfl (by kernel_rfl) (by kernel_rfl) (by kernel_rfl) rfl (fun _ _ _ h => h) rfl rfl ?hy (by assumption) ?_
      case hy => (intro w' hSw; (try dsimp only at hSw); go_simp <;> (first | with_reducible rfl | omega | skip))
      simp only [Act.put, List.setIfInBounds_toArray, List.set_cons_zero, List.set_cons_succ]
      refine wpAnyE_tk (i := 10) (d := some 43) (v := ?_) rfl (by kernel_rfl) (by kernel_rfl) (by kernel_rfl) rfl (fun _ _ _ h => h) rfl rfl ?hy (by assumption) ?_
      case hy => (intro w' hSw; (try dsimp only at hSw); go_simp <;> (first | with_reducible rfl | omega | skip))
      simp only [Act.put, List.setIfInBounds_toArray, List.set_cons_zero, List.set_cons_succ]
      refine wpAnyE_tk (i := 11) (d := some 44) (v := ?_) rfl (by kernel_rfl) (by kernel_rfl) (by kernel_rfl) rfl (fun _ _ _ h => h) rfl rfl ?hy (by assumption) ?_
      case hy => (intro w' hSw; (try dsimp only at hSw); go_simp <;> (first | with_reducible rfl | omega | skip))
      simp only [Act.put, List.setIfInBounds_toArray, List.set_cons_zero, List.set_cons_succ]
      refine wpAnyE_tk (i := 12) (d := some 45) (v := ?_) rfl (by kernel_rfl) (by kernel_rfl) (by kernel_rfl) rfl (fun _ _ _ h => h) rfl rfl ?hy (by assumption) ?_
      case hy => (intro w' hSw; (try dsimp only at hSw); go_simp <;> (first | with_reducible rfl | omega | skip))
      simp only [Act.put, List.setIfInBounds_toArray, List.set_cons_zero, List.set_cons_succ]
      refine wpAnyE_tk (i := 13) (d := some 46) (v := ?_) rfl (by kernel_rfl) (by kernel_rfl) (by kernel_rfl) rfl (fun _ _ _ h => h) rfl rfl ?hy (by assumption) ?_
      case hy => (intro w' hSw; (try dsimp only at hSw); go_simp <;> (first | with_reducible rfl | omega | skip))
      simp only [Act.put, List.setIfInBounds_toArray, List.set_cons_zero, List.set_cons_succ]
      refine wpAnyE_tk (i := 14) (d := some 47) (v := ?_) rfl (by kernel_rfl) (by kernel_rfl) (by kernel_rfl) rfl (fun _ _ _ h => h) rfl rfl ?hy (by assumption) ?_
      case hy => (intro w' hSw; (try dsimp only at hSw); go_simp <;> (first | with_reducible rfl | omega | skip))
      simp only [Act.put, List.setIfInBounds_toArray, List.set_cons_zero, List.set_cons_succ]
      refine wpAnyE_tk (i := 15) (d := some 48) (v := ?_) rfl (by kernel_rfl) (by kernel_rfl) (by kernel_rfl) rfl (fun _ _ _ h => h) rfl rfl ?hy (by assumption) ?_
      case hy => (intro w' hSw; (try dsimp only at hSw); go_simp <;> (first | with_reducible rfl | omega | skip))
      simp only [Act.put, List.setIfInBounds_toArray, List.set_cons_zero, List.set_cons_succ]
      refine wpAnyE_tk (i := 16) (d := some 49) (v := ?_) rfl (by kernel_rfl) (by kernel_rfl) (by kernel_rfl) rfl (fun _ _ _ h => h) rfl rfl ?hy (by assumption) ?_
      case hy => (intro w' hSw; (try dsimp only at hSw); go_simp <;> (first | with_reducible rfl | omega | skip))
      simp only [Act.put, List.setIfInBounds_toArray, List.set_cons_zero, List.set_cons_succ]
      refine wpAnyE_tk (i := 17) (d := some 50) (v := ?_) rfl (by kernel_rfl) (by kernel_rfl) (by kernel_rfl) rfl (fun _ _ _ h => h) rfl rfl ?hy (by assumption) ?_
      case hy => (intro w' hSw; (try dsimp only at hSw); go_simp <;> (first | with_reducible rfl | omega | skip))
      simp only [Act.put, List.setIfInBounds_toArray, List.set_cons_zero, List.set_cons_succ]
      refine wpAnyE_tk (i := 18) (d := some 51) (v := .agg VA) rfl (by kernel_rfl) (by kernel_rfl) (by kernel_rfl) rfl (fun _ _ _ h => h) rfl rfl ?hy (by assumption) ?_
      case hy => exact fun w' hSw => exec_load_row 36 _ rfl (w.heap.size) rfl VA 36 _ (L1.out.below hSw L1.out.lt) Tryz.underlying36 rfl (by rw [za]; exact infoHo)
      simp only [Act.put, List.setIfInBounds_toArray, List.set_cons_zero, List.set_cons_succ]
      refine wpAnyE_tk (i := 19) (d := some 52) (v := .agg VB) rfl (by kernel_rfl) (by kernel_rfl) (by kernel_rfl) rfl (fun _ _ _ h => h) rfl rfl ?hy (by assumption) ?_
      case hy => exact fun w' hSw => exec_load_row 36 _ rfl (w.heap.size + 1) rfl VB 36 _ (L2.out.below hSw L2.out.lt) Tryz.underlying36 rfl (by rw [zb]; exact infoHo)
      simp only [Act.put, List.setIfInBounds_toArray, List.set_cons_zero, List.set_cons_succ]
      refine wpAnyE_tk (i := 20) (d := some 53) (v := ?_) rfl (by kernel_rfl) (by kernel_rfl) (by kernel_rfl) rfl (fun _ _ _ h => h) rfl rfl ?hy (by assumption) ?_
      case hy => (intro w' hSw; (try dsimp only at hSw); go_simp <;> (first | with_reducible rfl | omega | skip))
      simp only [Act.put, List.setIfInBounds_toArray, List.set_cons_zero, List.set_cons_succ]
      refine wpAnyE_on (i := 21) (by kernel_rfl) rfl rfl ?_
      go_simp
      refine Calls.mono (HWN.out _ (KB.out.trans ((hx2).mono KB.out.size))) ?_
      rintro e y3 ⟨rfl, hc3⟩
      have hx3 : Below v4.heap.size v4 y3 := hx2.trans (hc3.mono hx2.size)
      refine ⟨hx3, ?_⟩
      clear hc3
      refine wpAnyE_tk (i := 22) (d := some 55) (v := ?_) rfl (by kernel_rfl) (by kernel_rfl) (by kernel_rfl) rfl (fun _ _ _ h => h) rfl rfl ?hy (by assumption) ?_
      case hy => (intro w' hSw; (try dsimp only at hSw); go_simp <;> (first | with_reducible rfl | omega | skip))
      simp only [Act.put, List.setIfInBounds_toArray, List.set_cons_zero, List.set_cons_succ]
      refine wpAnyE_tk (i := 23) (d := some 56) (v := ?_) rfl (by kernel_rfl) (by kernel_rfl) (by kernel_rfl) rfl (fun _ _ _ h => h) rfl rfl ?hy (by assumption) ?_
      case hy => (intro w' hSw; (try dsimp only at hSw); go_simp <;> (first | with_reducible rfl | omega | skip))
      simp only [Act.put, List.setIfInBounds_toArray, List.set_cons_zero, List.set_cons_succ]
      refine wpAnyE_done (by kernel_rfl) ?_ _
      have KB4 : Hid (Below w.heap.size w y3) := KB.out.trans ((hx3).mono KB.out.size)
      have L1n : Hid (Lies y3 (w.heap.size) VA 36) := L1.out.below (hx3) L1.out.lt
      clear L1
      have L1 := L1n
      clear L1n
      have L2n : Hid (Lies y3 (w.heap.size + 1) VB 36) := L2.out.below (hx3) L2.out.lt
      clear L2
      have L2 := L2n
      clear L2n
      have hb4 : Hid (Below v4.heap.size v4 y3) := hx3
      clear hHeld hx1 hx2 hx3 KB
      go_wp2_with fail
      go_meet
      exact ⟨by first | rfl | simp, KB4, L1, L2⟩
    case inr =>
      have h0' : ¬ n < 0 := by omega
      have h1' : ¬ 32 < n := by omega
      have hww : (wn != wn) = false := by cases wn <;> rfl
      refine wp_region_late (fun wx => Below v4.heap.size v4 wx) 24 (by kernel_rfl) (Below.refl _ v4).drew (fun hHeld => ?_)
      refine wpAnyE_tk (i := 0) (d := some 33) (v := .agg VA) rfl (by kernel_rfl) (by kernel_rfl) (by kernel_rfl) rfl (fun _ _ _ h => h) rfl rfl ?hy (by assumption) ?_
      case hy => exact fun w' hSw => exec_load_row 36 _ rfl (w.heap.size) rfl VA 36 _ (L1.out.below hSw L1.out.lt) Tryz.underlying36 rfl (by rw [za]; exact infoHo)
      simp only [Act.put, List.setIfInBounds_toArray, List.set_cons_zero, List.set_cons_succ]
      refine wpAnyE_tk (i := 1) (d := some 34) (v := .agg VB) rfl (by kernel_rfl) (by kernel_rfl) (by kernel_rfl) rfl (fun _ _ _ h => h) rfl rfl ?hy (by assumption) ?_
      case hy => exact fun w' hSw => exec_load_row 36 _ rfl (w.heap.size + 1) rfl VB 36 _ (L2.out.below hSw L2.out.lt) Tryz.underlying36 rfl (by rw [zb]; exact infoHo)
      simp only [Act.put, List.setIfInBounds_toArray, List.set_cons_zero, List.set_cons_succ]
      refine wpAnyE_tk (i := 2) (d := some 35) (v := ?_) rfl (by kernel_rfl) (by kernel_rfl) (by kernel_rfl) rfl (fun _ _ _ h => h) rfl rfl ?hy (by assumption) ?_
      case hy => (intro w' hSw; (try dsimp only at hSw); go_simp <;> (first | with_reducible rfl | omega | skip))
      simp only [Act.put, List.setIfInBounds_toArray, List.set_cons_zero, List.set_cons_succ]
      refine wpAnyE_tk (i := 4) (d := some 37) (v := .agg VB) rfl (by kernel_rfl) (by kernel_rfl) (by kernel_rfl) rfl (fun _ _ _ h => h) rfl rfl ?hy (by assumption) ?_
      case hy => exact fun w' hSw => exec_load_row 36 _ rfl (w.heap.size + 1) rfl VB 36 _ (L2.out.below hSw L2.out.lt) Tryz.underlying36 rfl (by rw [zb]; exact infoHo)
      simp only [Act.put, List.setIfInBounds_toArray, List.set_cons_zero, List.set_cons_succ]
      refine wpAnyE_tk (i := 5) (d := some 38) (v := .agg VA) rfl (by kernel_rfl) (by kernel_rfl) (by kernel_rfl) rfl (fun _ _ _ h => h) rfl rfl ?hy (by assumption) ?_
      case hy => exact fun w' hSw => exec_load_row 36 _ rfl (w.heap.size) rfl VA 36 _ (L1.out.below hSw L1.out.lt) Tryz.underlying36 rfl (by rw [za]; exact infoHo)
      simp only [Act.put, List.setIfInBounds_toArray, List.set_cons_zero, List.set_cons_succ]
      refine wpAnyE_tk (i := 6) (d := some 39) (v := ?_) rfl (by kernel_rfl) (by kernel_rfl) (by kernel_rfl) rfl (fun _ _ _ h => h) rfl rfl ?hy (by assumption) ?_
      case hy => (intro w' hSw; (try dsimp only at hSw); go_simp <;> (first | with_reducible rfl | omega | skip))
      simp only [Act.put, List.setIfInBounds_toArray, List.set_cons_zero, List.set_cons_succ]
      refine wpAnyE_on (i := 3) (by kernel_rfl) rfl rfl ?_
      go_simp
      refine Calls.mono (HWN.out _ (KB.out.trans (((Below.refl _ v4).drew).mono KB.out.size))) ?_
      rintro e y1 ⟨rfl, hc1⟩
      have hx1 : Below v4.heap.size v4 y1 := ((Below.refl _ v4).drew).trans hc1
      refine ⟨hx1, ?_⟩
      clear hc1
      refine wpAnyE_on (i := 7) (by kernel_rfl) rfl rfl ?_
      go_simp
      refine Calls.mono (HNW.out _ (KB.out.trans ((hx1).mono KB.out.size))) ?_
      rintro e y2 ⟨rfl, hc2⟩
      have hx2 : Below v4.heap.size v4 y2 := hx1.trans (hc2.mono hx1.size)
      refine ⟨hx2, ?_⟩
      clear hc2
      refine wpAnyE_tk (i := 8) (d := some 41) (v := ?_) rfl (by kernel_rfl) (by kernel_rfl) (by kernel_rfl) rfl (fun _ _ _ h => h) rfl rfl ?hy (by assumption) ?_
      case hy => (intro w' hSw; (try dsimp only at hSw); go_simp <;> (first | with_reducible rfl | omega | skip))
      simp only [Act.put, List.setIfInBounds_toArray, List.set_cons_zero, List.set_cons_succ]
      refine wpAnyE_tk (i := 9) (d := some 42) (v := ?_) rfl (by kernel_rfl) (by kernel_rfl) (by kernel_rfl) rfl (fun _ _ _ h => h) rfl rfl ?hy (by assumption) ?_
      case hy => (intro w' hSw; (try dsimp only at hSw); go_simp <;> (first | with_reducible rfl | omega | skip))
      simp only [Act.put, List.setIfInBounds_toArray, List.set_cons_zero, List.set_cons_succ]
      refine wpAnyE_tk (i := 10) (d := some 43) (v := ?_) rfl (by kernel_rfl) (by kernel_rfl) (by kernel_rfl) rfl (fun _ _ _ h => h) rfl rfl ?hy (by assumption) ?_
      case hy => (intro w' hSw; (try dsimp only at hSw); go_simp <;> (first | with_reducible rfl | omega | skip))
      simp only [Act.put, List.setIfInBounds_toArray, List.set_cons_zero, List.set_cons_succ]
      refine wpAnyE_tk (i := 11) (d := some 44) (v := ?_) rfl (by kernel_rfl) (by kernel_rfl) (by kernel_rfl) rfl (fun _ _ _ h => h) rfl rfl ?hy (by assumption) ?_
      case hy => (intro w' hSw; (try dsimp only at hSw); go_simp <;> (first | with_reducible rfl | omega | skip))
      simp only [Act.put, List.setIfInBounds_toArray, List.set_cons_zero, List.set_cons_succ]
      refine wpAnyE_tk (i := 12) (d := some 45) (v := ?_) rfl (by kernel_rfl) (by kernel_rfl) (by kernel_rfl) rfl (fun _ _ _ h => h) rfl rfl ?hy (by assumption) ?_
      case hy => (intro w' hSw; (try dsimp only at hSw); go_simp <;> (first | with_reducible rfl | omega | skip))
      simp only [Act.put, List.setIfInBounds_toArray, List.set_cons_zero, List.set_cons_succ]
      refine wpAnyE_tk (i := 13) (d := some 46) (v := ?_) rfl (by kernel_rfl) (by kernel_rfl) (by kernel_rfl) rfl (fun _ _ _ h => h) rfl rfl ?hy (by assumption) ?_
      case hy => (intro w' hSw; (try dsimp only at hSw); go_simp <;> (first | with_reducible rfl | omega | skip))
      simp only [Act.put, List.setIfInBounds_toArray, List.set_cons_zero, List.set_cons_succ]
      refine wpAnyE_tk (i := 14) (d := some 47) (v := ?_) rfl (by kernel_rfl) (by kernel_rfl) (by kernel_rfl) rfl (fun _ _ _ h => h) rfl rfl ?hy (by assumption) ?_
      case hy => (intro w' hSw; (try dsimp only at hSw); go_simp <;> (first | with_reducible rfl | omega | skip))
      simp only [Act.put, List.setIfInBounds_toArray, List.set_cons_zero, List.set_cons_succ]
      refine wpAnyE_tk (i := 15) (d := some 48) (v := ?_) rfl (by kernel_rfl) (by kernel_rfl) (by kernel_rfl) rfl (fun _ _ _ h => h) rfl rfl ?hy (by assumption) ?_
      case hy => (intro w' hSw; (try dsimp only at hSw); go_simp <;> (first | with_reducible rfl | omega | skip))
      simp only [Act.put, List.setIfInBounds_toArray, List.set_cons_zero, List.set_cons_succ]
      refine wpAnyE_tk (i := 16) (d := some 49) (v := ?_) rfl (by kernel_rfl) (by kernel_rfl) (by kernel_rfl) rfl (fun _ _ _ h => h) rfl rfl ?hy (by assumption) ?_
      case hy => (intro w' hSw; (try dsimp only at hSw); go_simp <;> (first | with_reducible rfl | omega | skip))
      simp only [Act.put, List.setIfInBounds_toArray, List.set_cons_zero, List.set_cons_succ]
      refine wpAnyE_tk (i := 17) (d := some 50) (v := ?_) rfl (by kernel_rfl) (by kernel_rfl) (by kernel_rfl) rfl (fun _ _ _ h => h) rfl rfl ?hy (by assumption) ?_
      case hy => (intro w' hSw; (try dsimp only at hSw); go_simp <;> (first | with_reducible rfl | omega | skip))
      simp only [Act.put, List.setIfInBounds_toArray, List.set_cons_zero, List.set_cons_succ]
      refine wpAnyE_sk (i := 18) (d := some 51) rfl (by kernel_rfl) (by kernel_rfl) (by kernel_rfl) rfl (fun _ _ _ h => h) rfl rfl (by assumption) ?_
      simp only [Act.put, List.setIfInBounds_toArray, List.set_cons_zero, List.set_cons_succ]
      refine wpAnyE_sk (i := 19) (d := some 52) rfl (by kernel_rfl) (by kernel_rfl) (by kernel_rfl) rfl (fun _ _ _ h => h) rfl rfl (by assumption) ?_
      simp only [Act.put, List.setIfInBounds_toArray, List.set_cons_zero, List.set_cons_succ]
      refine wpAnyE_sk (i := 20) (d := some 53) rfl (by kernel_rfl) (by kernel_rfl) (by kernel_rfl) rfl (fun _ _ _ h => h) rfl rfl (by assumption) ?_
      simp only [Act.put, List.setIfInBounds_toArray, List.set_cons_zero, List.set_cons_succ]
      refine wpAnyE_sk (i := 21) (d := some 54) rfl (by kernel_rfl) (by kernel_rfl) (by kernel_rfl) rfl (fun _ _ _ h => h) rfl rfl (by assumption) ?_
      simp only [Act.put, List.setIfInBounds_toArray, List.set_cons_zero, List.set_cons_succ]
      refine wpAnyE_tk (i := 22) (d := some 55) (v := ?_) rfl (by kernel_rfl) (by kernel_rfl) (by kernel_rfl) rfl (fun _ _ _ h => h) rfl rfl ?hy (by assumption) ?_
      case hy => (intro w' hSw; (try dsimp only at hSw); go_simp <;> (first | with_reducible rfl | omega | skip))
      simp only [Act.put, List.setIfInBounds_toArray, List.set_cons_zero, List.set_cons_succ]
      refine wpAnyE_tk (i := 23) (d := some 56) (v := ?_) rfl (by kernel_rfl) (by kernel_rfl) (by kernel_rfl) rfl (fun _ _ _ h => h) rfl rfl ?hy (by assumption) ?_
      case hy => (intro w' hSw; (try dsimp only at hSw); go_simp <;> (first | with_reducible rfl | omega | skip))
      simp only [Act.put, List.setIfInBounds_toArray, List.set_cons_zero, List.set_cons_succ]
      refine wpAnyE_done (by kernel_rfl) ?_ _
      have KB3 : Hid (Below w.heap.size w y2) := KB.out.trans ((hx2).mono KB.out.size)
      have L1n : Hid (Lies y2 (w.heap.size) VA 36) := L1.out.below (hx2) L1.out.lt
      clear L1
      have L1 := L1n
      clear L1n
      have L2n : Hid (Lies y2 (w.heap.size + 1) VB 36) := L2.out.below (hx2) L2.out.lt
      clear L2
      have L2 := L2n
      clear L2n
      have hb3 : Hid (Below v4.heap.size v4 y2) := hx2
      clear hHeld hx1 hx2 KB
      go_wp2_with fail
      go_meet
      exact ⟨by first | rfl | simp, KB3, L1, L2⟩
  clear L1 L2 KB
  obtain ⟨hcc, KB, L1, L2⟩ := hcut
  subst hcc
  obtain ⟨v6, hv⟩ : ∃ v, v = wc := ⟨_, rfl⟩
  subst hv
  go_upto_region 8 with fail
  go_cut [8] (fun c wx => c = .bool may ∧ Hid (Below w.heap.size w wx) ∧ Hid (Lies wx w.heap.size VA 36) ∧ Hid (Lies wx (w.heap.size + 1) VB 36))
  case first =>
    by_cases hca : ca = 0
    case neg =>
      have hm : may = false := by rw [F3.out]; rw [decide_eq_false hca]; rfl
      subst hm
      have qa : ((ca : Int) == 0) = false := by rw [beq_eq_false_iff_ne]; omega
      clear hca
      go_wp2_with (first | (refine wpList_load_rowG (by rfl) 36 _ rfl (w.heap.size) rfl VA 36 _ L1.out Tryz.underlying36 rfl (by rw [za]; exact infoHo) ?_))
      refine Calls.mono (HCA.out _ KB.out) ?_
      rintro e y1 ⟨rfl, hc⟩
      have KB1 : Hid (Below w.heap.size w y1) := KB.out.trans ((hc).mono KB.out.size)
      have L1n : Hid (Lies y1 (w.heap.size) VA 36) := L1.out.below (hc) L1.out.lt
      clear L1
      have L1 := L1n
      clear L1n
      have L2n : Hid (Lies y1 (w.heap.size + 1) VB 36) := L2.out.below (hc) L2.out.lt
      clear L2
      have L2 := L2n
      clear L2n
      clear KB
      clear hc
      go_wp2_with fail
      go_meet
      exact ⟨by first | rfl | simp, KB1, L1, L2⟩
    have qa : ((ca : Int) == 0) = true := by rw [hca]; rfl
    by_cases hcb : cb = 0
    case neg =>
      have hm : may = false := by rw [F3.out]; rw [decide_eq_false hcb]; simp
      subst hm
      have qb : ((cb : Int) == 0) = false := by rw [beq_eq_false_iff_ne]; omega
      clear hca hcb
      go_wp2_with (first | (refine wpList_load_rowG (by rfl) 36 _ rfl (w.heap.size) rfl VA 36 _ L1.out Tryz.underlying36 rfl (by rw [za]; exact infoHo) ?_))
      refine Calls.mono (HCA.out _ KB.out) ?_
      rintro e y1 ⟨rfl, hc⟩
      have KB1 : Hid (Below w.heap.size w y1) := KB.out.trans ((hc).mono KB.out.size)
      have L1n : Hid (Lies y1 (w.heap.size) VA 36) := L1.out.below (hc) L1.out.lt
      clear L1
      have L1 := L1n
      clear L1n
      have L2n : Hid (Lies y1 (w.heap.size + 1) VB 36) := L2.out.below (hc) L2.out.lt
      clear L2
      have L2 := L2n
      clear L2n
      clear KB
      clear hc
      go_wp2_with (first | (refine wpList_load_rowG (by rfl) 36 _ rfl (w.heap.size + 1) rfl VB 36 _ L2.out Tryz.underlying36 rfl (by rw [zb]; exact infoHo) ?_))
      refine Calls.mono (HCB.out _ KB1.out) ?_
      rintro e y2 ⟨rfl, hc⟩
      have KB2 : Hid (Below w.heap.size w y2) := KB1.out.trans ((hc).mono KB1.out.size)
      have L1n : Hid (Lies y2 (w.heap.size) VA 36) := L1.out.below (hc) L1.out.lt
      clear L1
      have L1 := L1n
      clear L1n
      have L2n : Hid (Lies y2 (w.heap.size + 1) VB 36) := L2.out.below (hc) L2.out.lt
      clear L2
      have L2 := L2n
      clear L2n
      clear KB1
      clear hc
      go_wp2_with fail
      go_meet
      exact ⟨by first | rfl | simp, KB2, L1, L2⟩
    have qb : ((cb : Int) == 0) = true := by rw [hcb]; rfl
    cases hkk : (k == kb)
    case false =>
      have hm : may = false := by rw [F3.out]; rw [decide_eq_false (beq_eq_false_iff_ne.1 hkk)]; simp
      subst hm
      clear hca hcb
      go_wp2_with (first | (refine wpList_load_rowG (by rfl) 36 _ rfl (w.heap.size) rfl VA 36 _ L1.out Tryz.underlying36 rfl (by rw [za]; exact infoHo) ?_))
      refine Calls.mono (HCA.out _ KB.out) ?_
      rintro e y1 ⟨rfl, hc⟩
      have KB1 : Hid (Below w.heap.size w y1) := KB.out.trans ((hc).mono KB.out.size)
      have L1n : Hid (Lies y1 (w.heap.size) VA 36) := L1.out.below (hc) L1.out.lt
      clear L1
      have L1 := L1n
      clear L1n
      have L2n : Hid (Lies y1 (w.heap.size + 1) VB 36) := L2.out.below (hc) L2.out.lt
      clear L2
      have L2 := L2n
      clear L2n
      clear KB
      clear hc
      go_wp2_with (first | (refine wpList_load_rowG (by rfl) 36 _ rfl (w.heap.size + 1) rfl VB 36 _ L2.out Tryz.underlying36 rfl (by rw [zb]; exact infoHo) ?_))
      refine Calls.mono (HCB.out _ KB1.out) ?_
      rintro e y2 ⟨rfl, hc⟩
      have KB2 : Hid (Below w.heap.size w y2) := KB1.out.trans ((hc).mono KB1.out.size)
      have L1n : Hid (Lies y2 (w.heap.size) VA 36) := L1.out.below (hc) L1.out.lt
      clear L1
      have L1 := L1n
      clear L1n
      have L2n : Hid (Lies y2 (w.heap.size + 1) VB 36) := L2.out.below (hc) L2.out.lt
      clear L2
      have L2 := L2n
      clear L2n
      clear KB1
      clear hc
      have d0 : y2.cell? ⟨w.heap.size, 0, none⟩ = some (.int .i64 k) := by rw [L1.out.cell 0, HA0.out]
      have d1 : y2.cell? ⟨w.heap.size + 1, 0, none⟩ = some (.int .i64 kb) := by rw [L2.out.cell 0, HB0.out]
      go_wp2_with fail
      go_meet
      exact ⟨by first | rfl | simp, KB2, L1, L2⟩
    cases hk2 : (k == 2)
    case true.true =>
      have hm : may = true := by rw [F3.out]; simp [hca, hcb, ← beq_iff_eq.1 hkk, beq_iff_eq.1 hk2]
      subst hm
      clear hca hcb
      go_wp2_with (first | (refine wpList_load_rowG (by rfl) 36 _ rfl (w.heap.size) rfl VA 36 _ L1.out Tryz.underlying36 rfl (by rw [za]; exact infoHo) ?_))
      refine Calls.mono (HCA.out _ KB.out) ?_
      rintro e y1 ⟨rfl, hc⟩
      have KB1 : Hid (Below w.heap.size w y1) := KB.out.trans ((hc).mono KB.out.size)
      have L1n : Hid (Lies y1 (w.heap.size) VA 36) := L1.out.below (hc) L1.out.lt
      clear L1
      have L1 := L1n
      clear L1n
      have L2n : Hid (Lies y1 (w.heap.size + 1) VB 36) := L2.out.below (hc) L2.out.lt
      clear L2
      have L2 := L2n
      clear L2n
      clear KB
      clear hc
      go_wp2_with (first | (refine wpList_load_rowG (by rfl) 36 _ rfl (w.heap.size + 1) rfl VB 36 _ L2.out Tryz.underlying36 rfl (by rw [zb]; exact infoHo) ?_))
      refine Calls.mono (HCB.out _ KB1.out) ?_
      rintro e y2 ⟨rfl, hc⟩
      have KB2 : Hid (Below w.heap.size w y2) := KB1.out.trans ((hc).mono KB1.out.size)
      have L1n : Hid (Lies y2 (w.heap.size) VA 36) := L1.out.below (hc) L1.out.lt
      clear L1
      have L1 := L1n
      clear L1n
      have L2n : Hid (Lies y2 (w.heap.size + 1) VB 36) := L2.out.below (hc) L2.out.lt
      clear L2
      have L2 := L2n
      clear L2n
      clear KB1
      clear hc
      have d0 : y2.cell? ⟨w.heap.size, 0, none⟩ = some (.int .i64 k) := by rw [L1.out.cell 0, HA0.out]
      have d1 : y2.cell? ⟨w.heap.size + 1, 0, none⟩ = some (.int .i64 kb) := by rw [L2.out.cell 0, HB0.out]
      go_wp2_with fail
      go_meet
      exact ⟨by first | rfl | simp, KB2, L1, L2⟩
    case true.false =>
      have hm : may = false := by rw [F3.out]; simp [beq_eq_false_iff_ne.1 hk2, HK3.out]
      subst hm
      clear hca hcb
      go_wp2_with (first | (refine wpList_load_rowG (by rfl) 36 _ rfl (w.heap.size) rfl VA 36 _ L1.out Tryz.underlying36 rfl (by rw [za]; exact infoHo) ?_))
      refine Calls.mono (HCA.out _ KB.out) ?_
      rintro e y1 ⟨rfl, hc⟩
      have KB1 : Hid (Below w.heap.size w y1) := KB.out.trans ((hc).mono KB.out.size)
      have L1n : Hid (Lies y1 (w.heap.size) VA 36) := L1.out.below (hc) L1.out.lt
      clear L1
      have L1 := L1n
      clear L1n
      have L2n : Hid (Lies y1 (w.heap.size + 1) VB 36) := L2.out.below (hc) L2.out.lt
      clear L2
      have L2 := L2n
      clear L2n
      clear KB
      clear hc
      go_wp2_with (first | (refine wpList_load_rowG (by rfl) 36 _ rfl (w.heap.size + 1) rfl VB 36 _ L2.out Tryz.underlying36 rfl (by rw [zb]; exact infoHo) ?_))
      refine Calls.mono (HCB.out _ KB1.out) ?_
      rintro e y2 ⟨rfl, hc⟩
      have KB2 : Hid (Below w.heap.size w y2) := KB1.out.trans ((hc).mono KB1.out.size)
      have L1n : Hid (Lies y2 (w.heap.size) VA 36) := L1.out.below (hc) L1.out.lt
      clear L1
      have L1 := L1n
      clear L1n
      have L2n : Hid (Lies y2 (w.heap.size + 1) VB 36) := L2.out.below (hc) L2.out.lt
      clear L2
      have L2 := L2n
      clear L2n
      clear KB1
      clear hc
      have d0 : y2.cell? ⟨w.heap.size, 0, none⟩ = some (.int .i64 k) := by rw [L1.out.cell 0, HA0.out]
      have d1 : y2.cell? ⟨w.heap.size + 1, 0, none⟩ = some (.int .i64 kb) := by rw [L2.out.cell 0, HB0.out]
      go_wp2_with fail
      go_meet
      exact ⟨by first | rfl | simp, KB2, L1, L2⟩
  clear L1 L2 KB
  obtain ⟨hcc, KB, L1, L2⟩ := hcut
  subst hcc
  obtain ⟨v8, hv⟩ : ∃ v, v = wc := ⟨_, rfl⟩
  subst hv
  go_upto_region 9 with fail
  cases may
  case false =>
    go_wp2_with (first | (refine wpList_load_rowG (by rfl) 36 _ rfl (w.heap.size) rfl VA 36 _ L1.out Tryz.underlying36 rfl (by rw [za]; exact infoHo) ?_) | (refine wpList_load_rowG (by rfl) 36 _ rfl (w.heap.size + 1) rfl VB 36 _ L2.out Tryz.underlying36 rfl (by rw [zb]; exact infoHo) ?_))
    refine Calls.mono (HW0.out _ KB.out) ?_
    rintro e y1 ⟨rfl, hc⟩
    have KB1 : Hid (Below w.heap.size w y1) := KB.out.trans ((hc).mono KB.out.size)
    have L1n : Hid (Lies y1 (w.heap.size) VA 36) := L1.out.below (hc) L1.out.lt
    clear L1
    have L1 := L1n
    clear L1n
    have L2n : Hid (Lies y1 (w.heap.size + 1) VB 36) := L2.out.below (hc) L2.out.lt
    clear L2
    have L2 := L2n
    clear L2n
    clear KB
    clear hc
    go_wp2_with (first | (refine wpList_load_rowG (by rfl) 36 _ rfl (w.heap.size) rfl VA 36 _ L1.out Tryz.underlying36 rfl (by rw [za]; exact infoHo) ?_) | (refine wpList_load_rowG (by rfl) 36 _ rfl (w.heap.size + 1) rfl VB 36 _ L2.out Tryz.underlying36 rfl (by rw [zb]; exact infoHo) ?_))
    refine Calls.mono (HWM.out _ KB1.out) ?_
    rintro e y2 ⟨rfl, hc⟩
    have KB2 : Hid (Below w.heap.size w y2) := KB1.out.trans ((hc).mono KB1.out.size)
    have L1n : Hid (Lies y2 (w.heap.size) VA 36) := L1.out.below (hc) L1.out.lt
    clear L1
    have L1 := L1n
    clear L1n
    have L2n : Hid (Lies y2 (w.heap.size + 1) VB 36) := L2.out.below (hc) L2.out.lt
    clear L2
    have L2 := L2n
    clear L2n
    clear KB1
    clear hc
    go_wp2_with fail
    refine Calls.mono (HW.out _ KB2.out) ?_
    rintro e y3 ⟨rfl, hc⟩
    have KB3 : Hid (Below w.heap.size w y3) := KB2.out.trans ((hc).mono KB2.out.size)
    have L1n : Hid (Lies y3 (w.heap.size) VA 36) := L1.out.below (hc) L1.out.lt
    clear L1
    have L1 := L1n
    clear L1n
    have L2n : Hid (Lies y3 (w.heap.size + 1) VB 36) := L2.out.below (hc) L2.out.lt
    clear L2
    have L2 := L2n
    clear L2n
    clear KB2
    clear hc
    go_wp2_with fail
    go_ret
    exact ⟨by first | rfl | simp, KB3.out⟩
  cases sm
  case true.false =>
    go_wp2_with (first | (refine wpList_load_rowG (by rfl) 36 _ rfl (w.heap.size) rfl VA 36 _ L1.out Tryz.underlying36 rfl (by rw [za]; exact infoHo) ?_) | (refine wpList_load_rowG (by rfl) 36 _ rfl (w.heap.size + 1) rfl VB 36 _ L2.out Tryz.underlying36 rfl (by rw [zb]; exact infoHo) ?_))
    refine Calls.mono (HW0.out _ KB.out) ?_
    rintro e y1 ⟨rfl, hc⟩
    have KB1 : Hid (Below w.heap.size w y1) := KB.out.trans ((hc).mono KB.out.size)
    have L1n : Hid (Lies y1 (w.heap.size) VA 36) := L1.out.below (hc) L1.out.lt
    clear L1
    have L1 := L1n
    clear L1n
    have L2n : Hid (Lies y1 (w.heap.size + 1) VB 36) := L2.out.below (hc) L2.out.lt
    clear L2
    have L2 := L2n
    clear L2n
    clear KB
    clear hc
    go_wp2_with (first | (refine wpList_load_rowG (by rfl) 36 _ rfl (w.heap.size) rfl VA 36 _ L1.out Tryz.underlying36 rfl (by rw [za]; exact infoHo) ?_) | (refine wpList_load_rowG (by rfl) 36 _ rfl (w.heap.size + 1) rfl VB 36 _ L2.out Tryz.underlying36 rfl (by rw [zb]; exact infoHo) ?_))
    refine Calls.mono (HWM.out _ KB1.out) ?_
    rintro e y2 ⟨rfl, hc⟩
    have KB2 : Hid (Below w.heap.size w y2) := KB1.out.trans ((hc).mono KB1.out.size)
    have L1n : Hid (Lies y2 (w.heap.size) VA 36) := L1.out.below (hc) L1.out.lt
    clear L1
    have L1 := L1n
    clear L1n
    have L2n : Hid (Lies y2 (w.heap.size + 1) VB 36) := L2.out.below (hc) L2.out.lt
    clear L2
    have L2 := L2n
    clear L2n
    clear KB1
    clear hc
    go_wp2_with (first | (refine wpList_load_rowG (by rfl) 36 _ rfl (w.heap.size) rfl VA 36 _ L1.out Tryz.underlying36 rfl (by rw [za]; exact infoHo) ?_) | (refine wpList_load_rowG (by rfl) 36 _ rfl (w.heap.size + 1) rfl VB 36 _ L2.out Tryz.underlying36 rfl (by rw [zb]; exact infoHo) ?_))
    refine Calls.mono (HSM.out _ KB2.out) ?_
    rintro e y3 ⟨rfl, hc⟩
    have KB3 : Hid (Below w.heap.size w y3) := KB2.out.trans ((hc).mono KB2.out.size)
    have L1n : Hid (Lies y3 (w.heap.size) VA 36) := L1.out.below (hc) L1.out.lt
    clear L1
    have L1 := L1n
    clear L1n
    have L2n : Hid (Lies y3 (w.heap.size + 1) VB 36) := L2.out.below (hc) L2.out.lt
    clear L2
    have L2 := L2n
    clear L2n
    clear KB2
    clear hc
    go_wp2_with fail
    refine Calls.mono (HW.out _ KB3.out) ?_
    rintro e y4 ⟨rfl, hc⟩
    have KB4 : Hid (Below w.heap.size w y4) := KB3.out.trans ((hc).mono KB3.out.size)
    have L1n : Hid (Lies y4 (w.heap.size) VA 36) := L1.out.below (hc) L1.out.lt
    clear L1
    have L1 := L1n
    clear L1n
    have L2n : Hid (Lies y4 (w.heap.size + 1) VB 36) := L2.out.below (hc) L2.out.lt
    clear L2
    have L2 := L2n
    clear L2n
    clear KB3
    clear hc
    go_wp2_with fail
    go_ret
    exact ⟨by first | rfl | simp, KB4.out⟩
  case true.true =>
    go_wp2_with (first | (refine wpList_load_rowG (by rfl) 36 _ rfl (w.heap.size) rfl VA 36 _ L1.out Tryz.underlying36 rfl (by rw [za]; exact infoHo) ?_) | (refine wpList_load_rowG (by rfl) 36 _ rfl (w.heap.size + 1) rfl VB 36 _ L2.out Tryz.underlying36 rfl (by rw [zb]; exact infoHo) ?_))
    refine Calls.mono (HW0.out _ KB.out) ?_
    rintro e y1 ⟨rfl, hc⟩
    have KB1 : Hid (Below w.heap.size w y1) := KB.out.trans ((hc).mono KB.out.size)
    have L1n : Hid (Lies y1 (w.heap.size) VA 36) := L1.out.below (hc) L1.out.lt
    clear L1
    have L1 := L1n
    clear L1n
    have L2n : Hid (Lies y1 (w.heap.size + 1) VB 36) := L2.out.below (hc) L2.out.lt
    clear L2
    have L2 := L2n
    clear L2n
    clear KB
    clear hc
    go_wp2_with (first | (refine wpList_load_rowG (by rfl) 36 _ rfl (w.heap.size) rfl VA 36 _ L1.out Tryz.underlying36 rfl (by rw [za]; exact infoHo) ?_) | (refine wpList_load_rowG (by rfl) 36 _ rfl (w.heap.size + 1) rfl VB 36 _ L2.out Tryz.underlying36 rfl (by rw [zb]; exact infoHo) ?_))
    refine Calls.mono (HWM.out _ KB1.out) ?_
    rintro e y2 ⟨rfl, hc⟩
    have KB2 : Hid (Below w.heap.size w y2) := KB1.out.trans ((hc).mono KB1.out.size)
    have L1n : Hid (Lies y2 (w.heap.size) VA 36) := L1.out.below (hc) L1.out.lt
    clear L1
    have L1 := L1n
    clear L1n
    have L2n : Hid (Lies y2 (w.heap.size + 1) VB 36) := L2.out.below (hc) L2.out.lt
    clear L2
    have L2 := L2n
    clear L2n
    clear KB1
    clear hc
    go_wp2_with (first | (refine wpList_load_rowG (by rfl) 36 _ rfl (w.heap.size) rfl VA 36 _ L1.out Tryz.underlying36 rfl (by rw [za]; exact infoHo) ?_) | (refine wpList_load_rowG (by rfl) 36 _ rfl (w.heap.size + 1) rfl VB 36 _ L2.out Tryz.underlying36 rfl (by rw [zb]; exact infoHo) ?_))
    refine Calls.mono (HSM.out _ KB2.out) ?_
    rintro e y3 ⟨rfl, hc⟩
    have KB3 : Hid (Below w.heap.size w y3) := KB2.out.trans ((hc).mono KB2.out.size)
    have L1n : Hid (Lies y3 (w.heap.size) VA 36) := L1.out.below (hc) L1.out.lt
    clear L1
    have L1 := L1n
    clear L1n
    have L2n : Hid (Lies y3 (w.heap.size + 1) VB 36) := L2.out.below (hc) L2.out.lt
    clear L2
    have L2 := L2n
    clear L2n
    clear KB2
    clear hc
    go_wp2_with fail
    refine Calls.mono (HW.out _ KB3.out) ?_
    rintro e y4 ⟨rfl, hc⟩
    have KB4 : Hid (Below w.heap.size w y4) := KB3.out.trans ((hc).mono KB3.out.size)
    have L1n : Hid (Lies y4 (w.heap.size) VA 36) := L1.out.below (hc) L1.out.lt
    clear L1
    have L1 := L1n
    clear L1n
    have L2n : Hid (Lies y4 (w.heap.size + 1) VB 36) := L2.out.below (hc) L2.out.lt
    clear L2
    have L2 := L2n
    clear L2n
    clear KB3
    clear hc
    go_wp2_with fail
    go_ret
    exact ⟨by first | rfl | simp, KB4.out⟩

theorem walk (a : Ho) (oka : a.Ok) (_ : -9223372036854775808 ≤ a.k ∧ a.k ≤ 9223372036854775807) (sa : a.n.length ≤ 140737488351232) (b : Ho) (okb : b.Ok) (_ : -9223372036854775808 ≤ b.k ∧ b.k ≤ 9223372036854775807) (sb : b.n.length ≤ 140737488351232) (n : Int) (hn : -9223372036854775808 ≤ n ∧ n ≤ 9223372036854775807) (w : World) (ht : Tc w) :
    Calls Tryz.prog 6 #[hostV a, hostV b, .int .i64 n] w fun e w' => e = .returned (.bool true) ∧ Below w.heap.size w w' := by
  have HT : Hid (∀ wx, Below w.heap.size w wx → Tc wx) := fun wx hb => ht.below hb
  have HWN : Hid (∀ wx, Below w.heap.size w wx → Calls Tryz.prog 15 #[.agg (hostC a), .agg (hostC b), .int .i64 n] wx fun e w' => e = .returned (.bool (within a b n)) ∧ Below wx.heap.size wx w') := fun wx hx => wth_any a b oka okb n hn.1 hn.2 wx (HT.out wx hx) sa sb
  have HNW : Hid (∀ wx, Below w.heap.size w wx → Calls Tryz.prog 15 #[.agg (hostC b), .agg (hostC a), .int .i64 n] wx fun e w' => e = .returned (.bool (within a b n)) ∧ Below wx.heap.size wx w') := fun wx hx => by
    rw [within_comm]
    exact wth_any b a okb oka n hn.1 hn.2 wx (HT.out wx hx) sb sa
  have HW1 : Hid (0 < n → ∀ wx, Below w.heap.size w wx → Calls Tryz.prog 15 #[.agg (hostC a), .agg (hostC b), .int .i64 (n - 1)] wx fun e w' => e = .returned (.bool (within a b (n - 1))) ∧ Below wx.heap.size wx w') := fun h0 wx hx => wth_any a b oka okb (n - 1) (by omega) (by omega) wx (HT.out wx hx) sa sb
  have HW0 : Hid (∀ wx, Below w.heap.size w wx → Calls Tryz.prog 15 #[.agg (hostC a), .agg (hostC b), .int .i64 0] wx fun e w' => e = .returned (.bool (mayN a b)) ∧ Below wx.heap.size wx w') := fun wx hx => by
    rw [← within_zero oka okb]
    exact wth_any a b oka okb 0 (by omega) (by omega) wx (HT.out wx hx) sa sb
  have HWM : ∀ m : Int, m = allN a.k → Hid (∀ wx, Below w.heap.size w wx → Calls Tryz.prog 15 #[.agg (hostC a), .agg (hostC b), .int .i64 m] wx fun e w' => e = .returned (.bool (mayN a b && same asciiL a b)) ∧ Below wx.heap.size wx w') := fun m hm wx hx => by
    rw [← within_all asciiL oka okb, ← hm]
    have hb : m = 128 ∨ m = 32 := by rw [hm]; unfold allN; split <;> omega
    exact wth_any a b oka okb m (by omega) (by omega) wx (HT.out wx hx) sa sb
  have HSM : Hid (∀ wx, Below w.heap.size w wx → Calls Tryz.prog 12 #[.agg (hostC a), .agg (hostC b)] wx fun e w' => e = .returned (.bool (same asciiL a b)) ∧ Below wx.heap.size wx w') := fun wx hx => sme_any a b oka okb wx (HT.out wx hx) sa sb
  have HCA : Hid (∀ wx, Below w.heap.size w wx → Calls Tryz.prog 13 #[.agg (hostC a), .bool false] wx fun e w' => e = .returned (.int .i64 (check a false : Nat)) ∧ Below wx.heap.size wx w') := fun wx hx => chk_any a oka.len false wx (HT.out wx hx).tb sa
  have HCB : Hid (∀ wx, Below w.heap.size w wx → Calls Tryz.prog 13 #[.agg (hostC b), .bool false] wx fun e w' => e = .returned (.int .i64 (check b false : Nat)) ∧ Below wx.heap.size wx w') := fun wx hx => chk_any b okb.len false wx (HT.out wx hx).tb sb
  have HW : Hid (∀ wx, Below w.heap.size w wx → Calls Tryz.prog 11 #[] wx fun e w' => e = .returned (.bool true) ∧ Below wx.heap.size wx w') := fun wx hx => wakes_any wx (HT.out wx hx)
  by_cases hk : a.k = 3
  · have hm : (128 : Int) = allN a.k := by unfold allN; rw [if_pos hk]
    exact walkA _ _ (hostC_size a oka.len) (hostC_size b okb.len) a.k b.k n hn hk rfl rfl _ _ _ _ _ _ (fun h0 h => within_less h0 h) (fun h => within_out (by rw [← hm]; exact h)) rfl w HWN HNW HW1 HW0 (HWM 128 hm) HSM HCA HCB HW
  · have hm : (32 : Int) = allN a.k := by unfold allN; rw [if_neg hk]
    exact walkB _ _ (hostC_size a oka.len) (hostC_size b okb.len) a.k b.k n hn hk rfl rfl _ _ _ _ _ _ (fun h0 h => within_less h0 h) (fun h => within_out (by rw [← hm]; exact h)) rfl w HWN HNW HW1 HW0 (HWM 32 hm) HSM HCA HCB HW

set_option maxRecDepth 100000 in
theorem contract (H : Type) (enc : TypeId × Value → H) (W : World) (base : Nat) (args : Array Value) (ds gs : List (DataW H)) (before : List MemPlace)
    (hval : ∀ (j : Nat) t v, Tryz.f6.params[j]? = some t → args[j]? = some v → Value.okWide Tryz.prog W .any base t v)
    (hW : DataW.Whole enc Tryz.prog Tryz.f6.params.toList Rows.domainNetsSpec.vars false W args.toList ds gs before)
    (hsz : (DataW.weightsEach Tryz.prog (Tryz.f6.params.toList ++ (OpenSpec.ofChange Rows.domainNetsSpec).bare.plain.varTypes Tryz.prog) (ds ++ gs)).all (· ≤ reachBytes) = true)
    (hL : laidMetH Tryz.prog Rows.domainNetsRow.laid W) (hsh : W.ShapedOpen Tryz.prog) :
    Calls Tryz.prog 6 args W fun e W' => ∃ v, e = .returned v ∧ Rows.domainNetsSpec.post enc Tryz.prog Tryz.f6 false true false false W args v W' := by
  have hW' := hW
  obtain ⟨p, q, hA0, hV, rfl, hfz, hnd⟩ := hW
  have hA : DataW.TrodAll enc Tryz.prog W 0 (fun _ => true) true Tryz.f6.params.toList args.toList ds p := hA0
  rw [Tryz.params6] at hA hval hsz
  obtain ⟨v0, vs0, d0, ds0, p0, q0, hargs, rfl, rfl, h0, r0⟩ := trodAll_cons hA
  obtain ⟨v1, vs1, d1, ds1, p1, q1, rfl, rfl, rfl, h1, r1⟩ := trodAll_cons r0
  obtain ⟨v2, vs2, d2, ds2, p2, q2, rfl, rfl, rfl, h2, r2⟩ := trodAll_cons r1
  obtain ⟨rfl, rfl, rfl⟩ := trodAll_nil r2
  obtain rfl : args = #[v0, v1, v2] := by cases args; simp_all
  obtain ⟨rfl, rfl⟩ := trodVars_none hV
  have k0 := h0
  have lt0 : ∀ x ∈ p0, x.block < W.heap.size := by obtain ⟨m, hm⟩ := k0; exact DataW.trod_lt m _ _ _ hm
  obtain ⟨a0, rfl, b0, e0⟩ := open_host (hval 0 36 v0 rfl rfl) h0
  have k1 := h1
  have lt1 : ∀ x ∈ p1, x.block < W.heap.size := by obtain ⟨m, hm⟩ := k1; exact DataW.trod_lt m _ _ _ hm
  obtain ⟨a1, rfl, b1, e1⟩ := open_host (hval 1 36 v1 rfl rfl) h1
  obtain ⟨a2, rfl, rfl, rfl, w2⟩ := open_int Tryz.underlying3 (hval 2 3 v2 rfl rfl) h2
  have b2 := bounds_i64 w2
  clear hA0
  have s0 := host_size (j := 0) hsz rfl rfl e0
  have s1 := host_size (j := 1) hsz rfl rfl e1
  refine (walk a0 b0.1 b0.2 s0 a1 b1.1 b1.2 s1 a2 b2 W (tabs8_of hL hsh)).mono fun e W' ⟨he, bel⟩ => ?_
  subst he
  exact ⟨_, rfl, _, _, _, [], _, [], hW', trodAll_mk1 (shut_bool Tryz.underlying4 _), trodAll_cons_mk (Below.trod laidOut (by kernel_rfl) (of_decide_eq_true (by kernel_rfl)) k0 bel lt0) (trodAll_cons_mk (Below.trod laidOut (by kernel_rfl) (of_decide_eq_true (by kernel_rfl)) k1 bel lt1) (trodAll_cons_mk (shut_int Tryz.underlying3 w2) trodAll_mk0)), rfl, bel.frame _, fun h => by cases h⟩

set_option maxRecDepth 100000 in
theorem laid_met (os : Os) : laidMet Tryz.prog Rows.domainNetsRow.laid ((laidWorld8 os).forCall (fun _ _ => 0) ⟨#[], #[.agg #[.int .i64 0, .string ByteArray.empty, .int .u8 0, .int .u8 0, .int .u8 0, .int .u8 0, .int .u8 0, .int .u8 0, .int .u8 0, .int .u8 0, .int .u8 0, .int .u8 0, .int .u8 0, .int .u8 0, .int .u8 0, .int .u8 0, .int .u8 0, .int .u8 0], .agg #[.int .i64 0, .string ByteArray.empty, .int .u8 0, .int .u8 0, .int .u8 0, .int .u8 0, .int .u8 0, .int .u8 0, .int .u8 0, .int .u8 0, .int .u8 0, .int .u8 0, .int .u8 0, .int .u8 0, .int .u8 0, .int .u8 0, .int .u8 0, .int .u8 0], .int .i64 0], []⟩).memory :=
  laidMet_of_run' 8 (by kernel_rfl) (by kernel_rfl)
set_option maxRecDepth 100000 in
theorem reads (os : Os) {H : Type} (enc : TypeId × Value → H) : ∃ places, DataW.whole enc Tryz.prog ((laidWorld8 os).forCall (fun _ _ => 0) ⟨#[], #[.agg #[.int .i64 0, .string ByteArray.empty, .int .u8 0, .int .u8 0, .int .u8 0, .int .u8 0, .int .u8 0, .int .u8 0, .int .u8 0, .int .u8 0, .int .u8 0, .int .u8 0, .int .u8 0, .int .u8 0, .int .u8 0, .int .u8 0, .int .u8 0, .int .u8 0], .agg #[.int .i64 0, .string ByteArray.empty, .int .u8 0, .int .u8 0, .int .u8 0, .int .u8 0, .int .u8 0, .int .u8 0, .int .u8 0, .int .u8 0, .int .u8 0, .int .u8 0, .int .u8 0, .int .u8 0, .int .u8 0, .int .u8 0, .int .u8 0, .int .u8 0], .int .i64 0], []⟩).memory Tryz.f6.params.toList Rows.domainNetsSpec.vars false #[Value.agg #[.int .i64 0, .string ByteArray.empty, .int .u8 0, .int .u8 0, .int .u8 0, .int .u8 0, .int .u8 0, .int .u8 0, .int .u8 0, .int .u8 0, .int .u8 0, .int .u8 0, .int .u8 0, .int .u8 0, .int .u8 0, .int .u8 0, .int .u8 0, .int .u8 0], Value.agg #[.int .i64 0, .string ByteArray.empty, .int .u8 0, .int .u8 0, .int .u8 0, .int .u8 0, .int .u8 0, .int .u8 0, .int .u8 0, .int .u8 0, .int .u8 0, .int .u8 0, .int .u8 0, .int .u8 0, .int .u8 0, .int .u8 0, .int .u8 0, .int .u8 0], Value.int .i64 0].toList 8 = some ([.agg [.lit (.int .i64 0), .lit (.string []), .agg [.lit (.int .u8 0), .lit (.int .u8 0), .lit (.int .u8 0), .lit (.int .u8 0), .lit (.int .u8 0), .lit (.int .u8 0), .lit (.int .u8 0), .lit (.int .u8 0), .lit (.int .u8 0), .lit (.int .u8 0), .lit (.int .u8 0), .lit (.int .u8 0), .lit (.int .u8 0), .lit (.int .u8 0), .lit (.int .u8 0), .lit (.int .u8 0)]], .agg [.lit (.int .i64 0), .lit (.string []), .agg [.lit (.int .u8 0), .lit (.int .u8 0), .lit (.int .u8 0), .lit (.int .u8 0), .lit (.int .u8 0), .lit (.int .u8 0), .lit (.int .u8 0), .lit (.int .u8 0), .lit (.int .u8 0), .lit (.int .u8 0), .lit (.int .u8 0), .lit (.int .u8 0), .lit (.int .u8 0), .lit (.int .u8 0), .lit (.int .u8 0), .lit (.int .u8 0)]], .lit (.int .i64 0)], [], places) :=
  ⟨[], by kernel_rfl⟩

set_option maxRecDepth 100000 in
theorem lifted (os : Os) (started : os.Started) (H : Type) (enc : TypeId × Value → H) (F : Stop.Interp) :
    ReturnsInHanded {} Tryz.checked os 6 .any ((OpenSpec.ofChange Rows.domainNetsSpec).preRow enc Tryz.prog Tryz.f6 Rows.domainNetsRow.domain false Rows.domainNetsRow.laid) (((OpenSpec.ofChange Rows.domainNetsSpec).at F).post enc Tryz.prog Tryz.f6 false true false false) := by
  obtain ⟨places, hx⟩ := reads os enc
  refine returnsInHanded_of_row (C := Tryz.checked) (s := OpenSpec.ofChange Rows.domainNetsSpec) own started (by kernel_rfl) Tryz.func6
    (witness_row_at (enc := enc) (C := Tryz.checked) false (laidWorld8 os) #[.agg #[.int .i64 0, .string ByteArray.empty, .int .u8 0, .int .u8 0, .int .u8 0, .int .u8 0, .int .u8 0, .int .u8 0, .int .u8 0, .int .u8 0, .int .u8 0, .int .u8 0, .int .u8 0, .int .u8 0, .int .u8 0, .int .u8 0, .int .u8 0, .int .u8 0], .agg #[.int .i64 0, .string ByteArray.empty, .int .u8 0, .int .u8 0, .int .u8 0, .int .u8 0, .int .u8 0, .int .u8 0, .int .u8 0, .int .u8 0, .int .u8 0, .int .u8 0, .int .u8 0, .int .u8 0, .int .u8 0, .int .u8 0, .int .u8 0, .int .u8 0], .int .i64 0] rfl (by kernel_rfl) (by kernel_rfl) (by kernel_rfl)
      (OpenSpec.preRow_of_cond 8 hx (by kernel_rfl) (fun k hk => by cases hk) (by kernel_rfl) (laid_met os))) ?_
  intro W base args ds gs before hval hW _ _ hsz hL hsh _
  exact contract H enc W base args ds gs before hval hW hsz hL hsh

theorem said : Rows.DomainNetsSaid :=
  OpenClaim.holds_of_cond 6 Tryz.f6 rfl rfl rfl rfl rfl rfl rfl ⟨rfl, rfl, rfl, rfl, rfl⟩ rfl rfl rfl rfl rfl (by kernel_rfl) Tryz.func6 (by kernel_rfl)
    (of_decide_eq_true (by kernel_rfl)) (by unfold Func.isWrapper; first | (rw [if_pos (by decide +kernel)]; kernel_rfl) | (rw [if_neg (by decide +kernel)]; exact ⟨rfl, rfl⟩))
    (fun os started H enc _ F => by rw [OpenClaim.pre_eq_preRow]; exact lifted os started H enc F)

/-- No parameter wants a stand-in; the program's own looks are off. -/
theorem plain (f : FuncId) (fn : Func) (hf : Tryz.pinned.checked.prog.funcNamed "posthorn/posthornlaw08.DomainNets" = some f) (hfn : Tryz.pinned.checked.prog.funcs[f]? = some fn) :
    true = Tryz.pinned.checked.prog.looks [] ∧ ∀ (j : Nat) t, fn.params[j]? = some t → Tryz.pinned.checked.prog.wantsStandIn t = false := by
  obtain rfl : f = 6 := Option.some.inj ((show Tryz.prog.funcNamed "posthorn/posthornlaw08.DomainNets" = some 6 by kernel_rfl).symm.trans hf) |>.symm
  obtain rfl : fn = Tryz.f6 := (Option.some.inj (Tryz.func6.symm.trans hfn)).symm
  refine ⟨by kernel_rfl, fun j t ht => ?_⟩
  rw [Tryz.params6] at ht
  have hm : t ∈ [36, 36, 3] := by simpa using Array.mem_of_getElem? ht
  have hall : ([36, 36, 3].all fun u => !Tryz.prog.wantsStandIn u) = true := by kernel_rfl
  exact (show Tryz.prog.wantsStandIn t = false by simpa using List.all_eq_true.1 hall t hm)

/-- The card. -/
theorem card : Rows.DomainNetsCardSaid :=
  Claim7.holds_tied_plain_at .later [] _ _ _ _ said (fun _ h => by cases h) (by kernel_rfl) (fun _ h => by cases h) domainNets_row_tie rfl ⟨rfl, rfl⟩ (by kernel_rfl) rfl plain (by kernel_rfl)
end Go.Proofs.YtnlgbopdbihnjabGreatDoor.domainNets
namespace Go.Proofs.YtnlgbopdbihnjabGreatDoor
theorem domainNets_card : Rows.DomainNetsCardSaid := domainNets.card
#print axioms domainNets_card
end Go.Proofs.YtnlgbopdbihnjabGreatDoor
