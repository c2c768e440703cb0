/-
  For every three hosts the statement DomainOne returns true.
-/
import Derived.Test.YtnlgbopdbihnjabGreatDoorCard8
import Derived.ProofKit
import Derived.ChangeMaps5
import Derived.OpenShut
import Derived.ShutString
import Derived.ChangeOld
import Derived.SizedLaws
namespace Go.Proofs.YtnlgbopdbihnjabGreatDoor.domainOne
open Go.ChangeShapes Go.WideShapes Go.ChangeAt Go.RowKit

set_option maxHeartbeats 8000000 in
set_option maxRecDepth 100000 in
theorem walkA (VA VB VC : Array Value) (za : VA.size = 18) (zb : VB.size = 18) (zc : VC.size = 18) (bc ac : Bool) (cb : Nat) (w : World)
    (HAB : Hid (∀ wx, Below w.heap.size w wx → Calls Tryz.prog 12 #[.agg VA, .agg VB] wx fun e w' => e = .returned (.bool false) ∧ Below wx.heap.size wx w'))
    (HBA : Hid (∀ wx, Below w.heap.size w wx → Calls Tryz.prog 12 #[.agg VB, .agg VA] wx fun e w' => e = .returned (.bool false) ∧ Below wx.heap.size wx w'))
    (HBC : Hid (∀ wx, Below w.heap.size w wx → Calls Tryz.prog 12 #[.agg VB, .agg VC] wx fun e w' => e = .returned (.bool bc) ∧ Below wx.heap.size wx w'))
    (HAC : Hid (∀ wx, Below w.heap.size w wx → Calls Tryz.prog 12 #[.agg VA, .agg VC] wx fun e w' => e = .returned (.bool ac) ∧ Below wx.heap.size wx w'))
    (HAA : Hid (∀ wx, Below w.heap.size w wx → Calls Tryz.prog 12 #[.agg VA, .agg VA] wx fun e w' => e = .returned (.bool true) ∧ Below wx.heap.size wx w'))
    (HCA : Hid (∀ wx, Below w.heap.size w wx → Calls Tryz.prog 13 #[.agg VA, .bool true] wx fun e w' => e = .returned (.int .i64 0) ∧ Below wx.heap.size wx w'))
    (_ : Hid (∀ wx, Below w.heap.size w wx → Calls Tryz.prog 13 #[.agg VB, .bool true] wx fun e w' => e = .returned (.int .i64 (cb : Nat)) ∧ Below wx.heap.size wx w'))
    (HW : Hid (∀ wx, Below w.heap.size w wx → Calls Tryz.prog 11 #[] wx fun e w' => e = .returned (.bool true) ∧ Below wx.heap.size wx w')) :
    Calls Tryz.prog 4 #[.agg VA, .agg VB, .agg VC] w fun e w' => e = .returned (.bool true) ∧ Below w.heap.size w w' := by
  have L1 : Hid (Lies (((w.alloc (.cells VA 36)).alloc (.cells VB 36)).alloc (.cells VC 36)) w.heap.size VA 36) := ((Lies.new w _ _).alloc _).alloc _
  have L2 : Hid (Lies (((w.alloc (.cells VA 36)).alloc (.cells VB 36)).alloc (.cells VC 36)) (w.heap.size + 1) VB 36) := (new_one w _ _ _).alloc _
  have L3 : Hid (Lies (((w.alloc (.cells VA 36)).alloc (.cells VB 36)).alloc (.cells VC 36)) (w.heap.size + 2) VC 36) := new_two w _ _ _ _
  have KB : Hid (Below w.heap.size w (((w.alloc (.cells VA 36)).alloc (.cells VB 36)).alloc (.cells VC 36))) := (((Below.refl _ _).alloc (Nat.le_refl _) _).alloc (by simp) _).alloc (by simp; omega) _
  go_enter Tryz.func4, Tryz.ntmps4
  go_upto_region 1 with fail
  generalize ((w.alloc (.cells VA 36)).alloc (.cells VB 36)).alloc (.cells VC 36) = v0 at L1 L2 L3 KB ⊢
  refine wp_region_late (fun wx => Below v0.heap.size v0 wx) 8 (by kernel_rfl) (Below.refl _ v0).drew (fun hHeld => ?_)
  refine wpAnyE_tk (i := 0) (d := some 11) (v := .agg VA) rfl (by kernel_rfl) (by kernel_rfl) (by kernel_rfl) rfl (fun _ _ _ h => h) rfl rfl ?hy (by assumption) ?_
  case hy => exact fun w' hSw => exec_load_row 36 _ rfl (w.heap.size) rfl VA 36 _ (L1.out.below hSw L1.out.lt) Tryz.underlying36 rfl (by rw [za]; exact infoHo)
  simp only [Act.put, List.setIfInBounds_toArray, List.set_cons_zero, List.set_cons_succ]
  refine wpAnyE_tk (i := 1) (d := some 12) (v := .agg VB) rfl (by kernel_rfl) (by kernel_rfl) (by kernel_rfl) rfl (fun _ _ _ h => h) rfl rfl ?hy (by assumption) ?_
  case hy => exact fun w' hSw => exec_load_row 36 _ rfl (w.heap.size + 1) rfl VB 36 _ (L2.out.below hSw L2.out.lt) Tryz.underlying36 rfl (by rw [zb]; exact infoHo)
  simp only [Act.put, List.setIfInBounds_toArray, List.set_cons_zero, List.set_cons_succ]
  refine wpAnyE_tk (i := 3) (d := some 14) (v := .agg VB) rfl (by kernel_rfl) (by kernel_rfl) (by kernel_rfl) rfl (fun _ _ _ h => h) rfl rfl ?hy (by assumption) ?_
  case hy => exact fun w' hSw => exec_load_row 36 _ rfl (w.heap.size + 1) rfl VB 36 _ (L2.out.below hSw L2.out.lt) Tryz.underlying36 rfl (by rw [zb]; exact infoHo)
  simp only [Act.put, List.setIfInBounds_toArray, List.set_cons_zero, List.set_cons_succ]
  refine wpAnyE_tk (i := 4) (d := some 15) (v := .agg VA) rfl (by kernel_rfl) (by kernel_rfl) (by kernel_rfl) rfl (fun _ _ _ h => h) rfl rfl ?hy (by assumption) ?_
  case hy => exact fun w' hSw => exec_load_row 36 _ rfl (w.heap.size) rfl VA 36 _ (L1.out.below hSw L1.out.lt) Tryz.underlying36 rfl (by rw [za]; exact infoHo)
  simp only [Act.put, List.setIfInBounds_toArray, List.set_cons_zero, List.set_cons_succ]
  refine wpAnyE_on (i := 2) (by kernel_rfl) rfl rfl ?_
  go_simp
  refine Calls.mono (HAB.out _ (KB.out.trans (((Below.refl _ v0).drew).mono KB.out.size))) ?_
  rintro e y1 ⟨rfl, hc1⟩
  have hx1 : Below v0.heap.size v0 y1 := ((Below.refl _ v0).drew).trans hc1
  refine ⟨hx1, ?_⟩
  clear hc1
  refine wpAnyE_on (i := 5) (by kernel_rfl) rfl rfl ?_
  go_simp
  refine Calls.mono (HBA.out _ (KB.out.trans ((hx1).mono KB.out.size))) ?_
  rintro e y2 ⟨rfl, hc2⟩
  have hx2 : Below v0.heap.size v0 y2 := hx1.trans (hc2.mono hx1.size)
  refine ⟨hx2, ?_⟩
  clear hc2
  refine wpAnyE_tk (i := 6) (d := some 7) (v := ?_) rfl (by kernel_rfl) (by kernel_rfl) (by kernel_rfl) rfl (fun _ _ _ h => h) rfl rfl ?hy (by assumption) ?_
  case hy => (intro w' hSw; (try dsimp only at hSw); go_simp <;> (first | with_reducible rfl | omega | skip))
  simp only [Act.put, List.setIfInBounds_toArray, List.set_cons_zero, List.set_cons_succ]
  refine wpAnyE_tk (i := 7) (d := some 8) (v := ?_) rfl (by kernel_rfl) (by kernel_rfl) (by kernel_rfl) rfl (fun _ _ _ h => h) rfl rfl ?hy (by assumption) ?_
  case hy => (intro w' hSw; (try dsimp only at hSw); go_simp <;> (first | with_reducible rfl | omega | skip))
  simp only [Act.put, List.setIfInBounds_toArray, List.set_cons_zero, List.set_cons_succ]
  refine wpAnyE_done (by kernel_rfl) ?_ _
  have KB3 : Hid (Below w.heap.size w y2) := KB.out.trans ((hx2).mono KB.out.size)
  have L1n : Hid (Lies y2 (w.heap.size) VA 36) := L1.out.below (hx2) L1.out.lt
  clear L1
  have L1 := L1n
  clear L1n
  have L2n : Hid (Lies y2 (w.heap.size + 1) VB 36) := L2.out.below (hx2) L2.out.lt
  clear L2
  have L2 := L2n
  clear L2n
  have L3n : Hid (Lies y2 (w.heap.size + 2) VC 36) := L3.out.below (hx2) L3.out.lt
  clear L3
  have L3 := L3n
  clear L3n
  clear hHeld hx1 hx2 KB
  go_upto_region 2 with fail
  refine wp_region_late (fun wx => Below y2.heap.size y2 wx) 8 (by kernel_rfl) (Below.refl _ y2).drew (fun hHeld => ?_)
  refine wpAnyE_tk (i := 0) (d := some 17) (v := .agg VB) rfl (by kernel_rfl) (by kernel_rfl) (by kernel_rfl) rfl (fun _ _ _ h => h) rfl rfl ?hy (by assumption) ?_
  case hy => exact fun w' hSw => exec_load_row 36 _ rfl (w.heap.size + 1) rfl VB 36 _ (L2.out.below hSw L2.out.lt) Tryz.underlying36 rfl (by rw [zb]; exact infoHo)
  simp only [Act.put, List.setIfInBounds_toArray, List.set_cons_zero, List.set_cons_succ]
  refine wpAnyE_tk (i := 1) (d := some 18) (v := .agg VC) rfl (by kernel_rfl) (by kernel_rfl) (by kernel_rfl) rfl (fun _ _ _ h => h) rfl rfl ?hy (by assumption) ?_
  case hy => exact fun w' hSw => exec_load_row 36 _ rfl (w.heap.size + 2) rfl VC 36 _ (L3.out.below hSw L3.out.lt) Tryz.underlying36 rfl (by rw [zc]; exact infoHo)
  simp only [Act.put, List.setIfInBounds_toArray, List.set_cons_zero, List.set_cons_succ]
  refine wpAnyE_tk (i := 3) (d := some 20) (v := .agg VA) rfl (by kernel_rfl) (by kernel_rfl) (by kernel_rfl) rfl (fun _ _ _ h => h) rfl rfl ?hy (by assumption) ?_
  case hy => exact fun w' hSw => exec_load_row 36 _ rfl (w.heap.size) rfl VA 36 _ (L1.out.below hSw L1.out.lt) Tryz.underlying36 rfl (by rw [za]; exact infoHo)
  simp only [Act.put, List.setIfInBounds_toArray, List.set_cons_zero, List.set_cons_succ]
  refine wpAnyE_tk (i := 4) (d := some 21) (v := .agg VC) rfl (by kernel_rfl) (by kernel_rfl) (by kernel_rfl) rfl (fun _ _ _ h => h) rfl rfl ?hy (by assumption) ?_
  case hy => exact fun w' hSw => exec_load_row 36 _ rfl (w.heap.size + 2) rfl VC 36 _ (L3.out.below hSw L3.out.lt) Tryz.underlying36 rfl (by rw [zc]; exact infoHo)
  simp only [Act.put, List.setIfInBounds_toArray, List.set_cons_zero, List.set_cons_succ]
  refine wpAnyE_on (i := 2) (by kernel_rfl) rfl rfl ?_
  go_simp
  refine Calls.mono (HBC.out _ (KB3.out.trans (((Below.refl _ y2).drew).mono KB3.out.size))) ?_
  rintro e y4 ⟨rfl, hc4⟩
  have hx4 : Below y2.heap.size y2 y4 := ((Below.refl _ y2).drew).trans hc4
  refine ⟨hx4, ?_⟩
  clear hc4
  refine wpAnyE_on (i := 5) (by kernel_rfl) rfl rfl ?_
  go_simp
  refine Calls.mono (HAC.out _ (KB3.out.trans ((hx4).mono KB3.out.size))) ?_
  rintro e y5 ⟨rfl, hc5⟩
  have hx5 : Below y2.heap.size y2 y5 := hx4.trans (hc5.mono hx4.size)
  refine ⟨hx5, ?_⟩
  clear hc5
  refine wpAnyE_tk (i := 6) (d := some 9) (v := ?_) rfl (by kernel_rfl) (by kernel_rfl) (by kernel_rfl) rfl (fun _ _ _ h => h) rfl rfl ?hy (by assumption) ?_
  case hy => (intro w' hSw; (try dsimp only at hSw); go_simp <;> (first | with_reducible rfl | omega | skip))
  simp only [Act.put, List.setIfInBounds_toArray, List.set_cons_zero, List.set_cons_succ]
  refine wpAnyE_tk (i := 7) (d := some 10) (v := ?_) rfl (by kernel_rfl) (by kernel_rfl) (by kernel_rfl) rfl (fun _ _ _ h => h) rfl rfl ?hy (by assumption) ?_
  case hy => (intro w' hSw; (try dsimp only at hSw); go_simp <;> (first | with_reducible rfl | omega | skip))
  simp only [Act.put, List.setIfInBounds_toArray, List.set_cons_zero, List.set_cons_succ]
  refine wpAnyE_done (by kernel_rfl) ?_ _
  have KB6 : Hid (Below w.heap.size w y5) := KB3.out.trans ((hx5).mono KB3.out.size)
  have L1n : Hid (Lies y5 (w.heap.size) VA 36) := L1.out.below (hx5) L1.out.lt
  clear L1
  have L1 := L1n
  clear L1n
  have L2n : Hid (Lies y5 (w.heap.size + 1) VB 36) := L2.out.below (hx5) L2.out.lt
  clear L2
  have L2 := L2n
  clear L2n
  have L3n : Hid (Lies y5 (w.heap.size + 2) VC 36) := L3.out.below (hx5) L3.out.lt
  clear L3
  have L3 := L3n
  clear L3n
  clear hHeld hx4 hx5 KB3
  go_upto_region 3 with fail
  go_upto_region 5 with fail
  refine wp_region_late (fun wx => Below y5.heap.size y5 wx) 11 (by kernel_rfl) (Below.refl _ y5).drew (fun hHeld => ?_)
  refine wpAnyE_tk (i := 0) (d := some 59) (v := .agg VA) rfl (by kernel_rfl) (by kernel_rfl) (by kernel_rfl) rfl (fun _ _ _ h => h) rfl rfl ?hy (by assumption) ?_
  case hy => exact fun w' hSw => exec_load_row 36 _ rfl (w.heap.size) rfl VA 36 _ (L1.out.below hSw L1.out.lt) Tryz.underlying36 rfl (by rw [za]; exact infoHo)
  simp only [Act.put, List.setIfInBounds_toArray, List.set_cons_zero, List.set_cons_succ]
  refine wpAnyE_tk (i := 1) (d := some 60) (v := .agg VA) rfl (by kernel_rfl) (by kernel_rfl) (by kernel_rfl) rfl (fun _ _ _ h => h) rfl rfl ?hy (by assumption) ?_
  case hy => exact fun w' hSw => exec_load_row 36 _ rfl (w.heap.size) rfl VA 36 _ (L1.out.below hSw L1.out.lt) Tryz.underlying36 rfl (by rw [za]; exact infoHo)
  simp only [Act.put, List.setIfInBounds_toArray, List.set_cons_zero, List.set_cons_succ]
  refine wpAnyE_tk (i := 3) (d := some 62) (v := .agg VA) rfl (by kernel_rfl) (by kernel_rfl) (by kernel_rfl) rfl (fun _ _ _ h => h) rfl rfl ?hy (by assumption) ?_
  case hy => exact fun w' hSw => exec_load_row 36 _ rfl (w.heap.size) rfl VA 36 _ (L1.out.below hSw L1.out.lt) Tryz.underlying36 rfl (by rw [za]; exact infoHo)
  simp only [Act.put, List.setIfInBounds_toArray, List.set_cons_zero, List.set_cons_succ]
  refine wpAnyE_on (i := 2) (by kernel_rfl) rfl rfl ?_
  go_simp
  refine Calls.mono (HAA.out _ (KB6.out.trans (((Below.refl _ y5).drew).mono KB6.out.size))) ?_
  rintro e y7 ⟨rfl, hc7⟩
  have hx7 : Below y5.heap.size y5 y7 := ((Below.refl _ y5).drew).trans hc7
  refine ⟨hx7, ?_⟩
  clear hc7
  refine wpAnyE_on (i := 4) (by kernel_rfl) rfl rfl ?_
  go_simp
  refine Calls.mono (HCA.out _ (KB6.out.trans ((hx7).mono KB6.out.size))) ?_
  rintro e y8 ⟨rfl, hc8⟩
  have hx8 : Below y5.heap.size y5 y8 := hx7.trans (hc8.mono hx7.size)
  refine ⟨hx8, ?_⟩
  clear hc8
  refine wpAnyE_tk (i := 5) (d := some 64) (v := ?_) rfl (by kernel_rfl) (by kernel_rfl) (by kernel_rfl) rfl (fun _ _ _ h => h) rfl rfl ?hy (by assumption) ?_
  case hy => (intro w' hSw; (try dsimp only at hSw); go_simp <;> (first | with_reducible rfl | omega | skip))
  simp only [Act.put, List.setIfInBounds_toArray, List.set_cons_zero, List.set_cons_succ]
  refine wpAnyE_tk (i := 6) (d := some 65) (v := ?_) rfl (by kernel_rfl) (by kernel_rfl) (by kernel_rfl) rfl (fun _ _ _ h => h) rfl rfl ?hy (by assumption) ?_
  case hy => (intro w' hSw; (try dsimp only at hSw); go_simp <;> (first | with_reducible rfl | omega | skip))
  simp only [Act.put, List.setIfInBounds_toArray, List.set_cons_zero, List.set_cons_succ]
  refine wpAnyE_tk (i := 7) (d := some 66) (v := ?_) rfl (by kernel_rfl) (by kernel_rfl) (by kernel_rfl) rfl (fun _ _ _ h => h) rfl rfl ?hy (by assumption) ?_
  case hy => (intro w' hSw; (try dsimp only at hSw); go_simp <;> (first | with_reducible rfl | omega | skip))
  simp only [Act.put, List.setIfInBounds_toArray, List.set_cons_zero, List.set_cons_succ]
  refine wpAnyE_on (i := 8) (by kernel_rfl) rfl rfl ?_
  go_simp
  refine Calls.mono (HW.out _ (KB6.out.trans ((hx8).mono KB6.out.size))) ?_
  rintro e y9 ⟨rfl, hc9⟩
  have hx9 : Below y5.heap.size y5 y9 := hx8.trans (hc9.mono hx8.size)
  refine ⟨hx9, ?_⟩
  clear hc9
  refine wpAnyE_tk (i := 9) (d := some 68) (v := ?_) rfl (by kernel_rfl) (by kernel_rfl) (by kernel_rfl) rfl (fun _ _ _ h => h) rfl rfl ?hy (by assumption) ?_
  case hy => (intro w' hSw; (try dsimp only at hSw); go_simp <;> (first | with_reducible rfl | omega | skip))
  simp only [Act.put, List.setIfInBounds_toArray, List.set_cons_zero, List.set_cons_succ]
  refine wpAnyE_tk (i := 10) (d := some 6) (v := ?_) rfl (by kernel_rfl) (by kernel_rfl) (by kernel_rfl) rfl (fun _ _ _ h => h) rfl rfl ?hy (by assumption) ?_
  case hy => (intro w' hSw; (try dsimp only at hSw); go_simp <;> (first | with_reducible rfl | omega | skip))
  simp only [Act.put, List.setIfInBounds_toArray, List.set_cons_zero, List.set_cons_succ]
  refine wpAnyE_done (by kernel_rfl) ?_ _
  have KB10 : Hid (Below w.heap.size w y9) := KB6.out.trans ((hx9).mono KB6.out.size)
  have L1n : Hid (Lies y9 (w.heap.size) VA 36) := L1.out.below (hx9) L1.out.lt
  clear L1
  have L1 := L1n
  clear L1n
  have L2n : Hid (Lies y9 (w.heap.size + 1) VB 36) := L2.out.below (hx9) L2.out.lt
  clear L2
  have L2 := L2n
  clear L2n
  have L3n : Hid (Lies y9 (w.heap.size + 2) VC 36) := L3.out.below (hx9) L3.out.lt
  clear L3
  have L3 := L3n
  clear L3n
  clear hHeld hx7 hx8 hx9 KB6
  go_wp2
  go_ret
  exact ⟨rfl, KB10.out⟩

set_option maxHeartbeats 8000000 in
set_option maxRecDepth 100000 in
theorem walkB (VA VB VC : Array Value) (za : VA.size = 18) (zb : VB.size = 18) (zc : VC.size = 18) (bc ac : Bool) (ca : Nat) (hca : ca ≠ 0) (cb : Nat) (w : World)
    (HAB : Hid (∀ wx, Below w.heap.size w wx → Calls Tryz.prog 12 #[.agg VA, .agg VB] wx fun e w' => e = .returned (.bool false) ∧ Below wx.heap.size wx w'))
    (HBA : Hid (∀ wx, Below w.heap.size w wx → Calls Tryz.prog 12 #[.agg VB, .agg VA] wx fun e w' => e = .returned (.bool false) ∧ Below wx.heap.size wx w'))
    (HBC : Hid (∀ wx, Below w.heap.size w wx → Calls Tryz.prog 12 #[.agg VB, .agg VC] wx fun e w' => e = .returned (.bool bc) ∧ Below wx.heap.size wx w'))
    (HAC : Hid (∀ wx, Below w.heap.size w wx → Calls Tryz.prog 12 #[.agg VA, .agg VC] wx fun e w' => e = .returned (.bool ac) ∧ Below wx.heap.size wx w'))
    (HAA : Hid (∀ wx, Below w.heap.size w wx → Calls Tryz.prog 12 #[.agg VA, .agg VA] wx fun e w' => e = .returned (.bool false) ∧ Below wx.heap.size wx w'))
    (HCA : Hid (∀ wx, Below w.heap.size w wx → Calls Tryz.prog 13 #[.agg VA, .bool true] wx fun e w' => e = .returned (.int .i64 (ca : Nat)) ∧ Below wx.heap.size wx w'))
    (_ : Hid (∀ wx, Below w.heap.size w wx → Calls Tryz.prog 13 #[.agg VB, .bool true] wx fun e w' => e = .returned (.int .i64 (cb : Nat)) ∧ Below wx.heap.size wx w'))
    (HW : Hid (∀ wx, Below w.heap.size w wx → Calls Tryz.prog 11 #[] wx fun e w' => e = .returned (.bool true) ∧ Below wx.heap.size wx w')) :
    Calls Tryz.prog 4 #[.agg VA, .agg VB, .agg VC] w fun e w' => e = .returned (.bool true) ∧ Below w.heap.size w w' := by
  have L1 : Hid (Lies (((w.alloc (.cells VA 36)).alloc (.cells VB 36)).alloc (.cells VC 36)) w.heap.size VA 36) := ((Lies.new w _ _).alloc _).alloc _
  have L2 : Hid (Lies (((w.alloc (.cells VA 36)).alloc (.cells VB 36)).alloc (.cells VC 36)) (w.heap.size + 1) VB 36) := (new_one w _ _ _).alloc _
  have L3 : Hid (Lies (((w.alloc (.cells VA 36)).alloc (.cells VB 36)).alloc (.cells VC 36)) (w.heap.size + 2) VC 36) := new_two w _ _ _ _
  have KB : Hid (Below w.heap.size w (((w.alloc (.cells VA 36)).alloc (.cells VB 36)).alloc (.cells VC 36))) := (((Below.refl _ _).alloc (Nat.le_refl _) _).alloc (by simp) _).alloc (by simp; omega) _
  have hca1 : ((ca : Int) == 0) = false := by rw [beq_eq_false_iff_ne]; omega
  clear hca
  go_enter Tryz.func4, Tryz.ntmps4
  go_upto_region 1 with fail
  generalize ((w.alloc (.cells VA 36)).alloc (.cells VB 36)).alloc (.cells VC 36) = v0 at L1 L2 L3 KB ⊢
  refine wp_region_late (fun wx => Below v0.heap.size v0 wx) 8 (by kernel_rfl) (Below.refl _ v0).drew (fun hHeld => ?_)
  refine wpAnyE_tk (i := 0) (d := some 11) (v := .agg VA) rfl (by kernel_rfl) (by kernel_rfl) (by kernel_rfl) rfl (fun _ _ _ h => h) rfl rfl ?hy (by assumption) ?_
  case hy => exact fun w' hSw => exec_load_row 36 _ rfl (w.heap.size) rfl VA 36 _ (L1.out.below hSw L1.out.lt) Tryz.underlying36 rfl (by rw [za]; exact infoHo)
  simp only [Act.put, List.setIfInBounds_toArray, List.set_cons_zero, List.set_cons_succ]
  refine wpAnyE_tk (i := 1) (d := some 12) (v := .agg VB) rfl (by kernel_rfl) (by kernel_rfl) (by kernel_rfl) rfl (fun _ _ _ h => h) rfl rfl ?hy (by assumption) ?_
  case hy => exact fun w' hSw => exec_load_row 36 _ rfl (w.heap.size + 1) rfl VB 36 _ (L2.out.below hSw L2.out.lt) Tryz.underlying36 rfl (by rw [zb]; exact infoHo)
  simp only [Act.put, List.setIfInBounds_toArray, List.set_cons_zero, List.set_cons_succ]
  refine wpAnyE_tk (i := 3) (d := some 14) (v := .agg VB) rfl (by kernel_rfl) (by kernel_rfl) (by kernel_rfl) rfl (fun _ _ _ h => h) rfl rfl ?hy (by assumption) ?_
  case hy => exact fun w' hSw => exec_load_row 36 _ rfl (w.heap.size + 1) rfl VB 36 _ (L2.out.below hSw L2.out.lt) Tryz.underlying36 rfl (by rw [zb]; exact infoHo)
  simp only [Act.put, List.setIfInBounds_toArray, List.set_cons_zero, List.set_cons_succ]
  refine wpAnyE_tk (i := 4) (d := some 15) (v := .agg VA) rfl (by kernel_rfl) (by kernel_rfl) (by kernel_rfl) rfl (fun _ _ _ h => h) rfl rfl ?hy (by assumption) ?_
  case hy => exact fun w' hSw => exec_load_row 36 _ rfl (w.heap.size) rfl VA 36 _ (L1.out.below hSw L1.out.lt) Tryz.underlying36 rfl (by rw [za]; exact infoHo)
  simp only [Act.put, List.setIfInBounds_toArray, List.set_cons_zero, List.set_cons_succ]
  refine wpAnyE_on (i := 2) (by kernel_rfl) rfl rfl ?_
  go_simp
  refine Calls.mono (HAB.out _ (KB.out.trans (((Below.refl _ v0).drew).mono KB.out.size))) ?_
  rintro e y1 ⟨rfl, hc1⟩
  have hx1 : Below v0.heap.size v0 y1 := ((Below.refl _ v0).drew).trans hc1
  refine ⟨hx1, ?_⟩
  clear hc1
  refine wpAnyE_on (i := 5) (by kernel_rfl) rfl rfl ?_
  go_simp
  refine Calls.mono (HBA.out _ (KB.out.trans ((hx1).mono KB.out.size))) ?_
  rintro e y2 ⟨rfl, hc2⟩
  have hx2 : Below v0.heap.size v0 y2 := hx1.trans (hc2.mono hx1.size)
  refine ⟨hx2, ?_⟩
  clear hc2
  refine wpAnyE_tk (i := 6) (d := some 7) (v := ?_) rfl (by kernel_rfl) (by kernel_rfl) (by kernel_rfl) rfl (fun _ _ _ h => h) rfl rfl ?hy (by assumption) ?_
  case hy => (intro w' hSw; (try dsimp only at hSw); go_simp <;> (first | with_reducible rfl | omega | skip))
  simp only [Act.put, List.setIfInBounds_toArray, List.set_cons_zero, List.set_cons_succ]
  refine wpAnyE_tk (i := 7) (d := some 8) (v := ?_) rfl (by kernel_rfl) (by kernel_rfl) (by kernel_rfl) rfl (fun _ _ _ h => h) rfl rfl ?hy (by assumption) ?_
  case hy => (intro w' hSw; (try dsimp only at hSw); go_simp <;> (first | with_reducible rfl | omega | skip))
  simp only [Act.put, List.setIfInBounds_toArray, List.set_cons_zero, List.set_cons_succ]
  refine wpAnyE_done (by kernel_rfl) ?_ _
  have KB3 : Hid (Below w.heap.size w y2) := KB.out.trans ((hx2).mono KB.out.size)
  have L1n : Hid (Lies y2 (w.heap.size) VA 36) := L1.out.below (hx2) L1.out.lt
  clear L1
  have L1 := L1n
  clear L1n
  have L2n : Hid (Lies y2 (w.heap.size + 1) VB 36) := L2.out.below (hx2) L2.out.lt
  clear L2
  have L2 := L2n
  clear L2n
  have L3n : Hid (Lies y2 (w.heap.size + 2) VC 36) := L3.out.below (hx2) L3.out.lt
  clear L3
  have L3 := L3n
  clear L3n
  clear hHeld hx1 hx2 KB
  go_upto_region 2 with fail
  refine wp_region_late (fun wx => Below y2.heap.size y2 wx) 8 (by kernel_rfl) (Below.refl _ y2).drew (fun hHeld => ?_)
  refine wpAnyE_tk (i := 0) (d := some 17) (v := .agg VB) rfl (by kernel_rfl) (by kernel_rfl) (by kernel_rfl) rfl (fun _ _ _ h => h) rfl rfl ?hy (by assumption) ?_
  case hy => exact fun w' hSw => exec_load_row 36 _ rfl (w.heap.size + 1) rfl VB 36 _ (L2.out.below hSw L2.out.lt) Tryz.underlying36 rfl (by rw [zb]; exact infoHo)
  simp only [Act.put, List.setIfInBounds_toArray, List.set_cons_zero, List.set_cons_succ]
  refine wpAnyE_tk (i := 1) (d := some 18) (v := .agg VC) rfl (by kernel_rfl) (by kernel_rfl) (by kernel_rfl) rfl (fun _ _ _ h => h) rfl rfl ?hy (by assumption) ?_
  case hy => exact fun w' hSw => exec_load_row 36 _ rfl (w.heap.size + 2) rfl VC 36 _ (L3.out.below hSw L3.out.lt) Tryz.underlying36 rfl (by rw [zc]; exact infoHo)
  simp only [Act.put, List.setIfInBounds_toArray, List.set_cons_zero, List.set_cons_succ]
  refine wpAnyE_tk (i := 3) (d := some 20) (v := .agg VA) rfl (by kernel_rfl) (by kernel_rfl) (by kernel_rfl) rfl (fun _ _ _ h => h) rfl rfl ?hy (by assumption) ?_
  case hy => exact fun w' hSw => exec_load_row 36 _ rfl (w.heap.size) rfl VA 36 _ (L1.out.below hSw L1.out.lt) Tryz.underlying36 rfl (by rw [za]; exact infoHo)
  simp only [Act.put, List.setIfInBounds_toArray, List.set_cons_zero, List.set_cons_succ]
  refine wpAnyE_tk (i := 4) (d := some 21) (v := .agg VC) rfl (by kernel_rfl) (by kernel_rfl) (by kernel_rfl) rfl (fun _ _ _ h => h) rfl rfl ?hy (by assumption) ?_
  case hy => exact fun w' hSw => exec_load_row 36 _ rfl (w.heap.size + 2) rfl VC 36 _ (L3.out.below hSw L3.out.lt) Tryz.underlying36 rfl (by rw [zc]; exact infoHo)
  simp only [Act.put, List.setIfInBounds_toArray, List.set_cons_zero, List.set_cons_succ]
  refine wpAnyE_on (i := 2) (by kernel_rfl) rfl rfl ?_
  go_simp
  refine Calls.mono (HBC.out _ (KB3.out.trans (((Below.refl _ y2).drew).mono KB3.out.size))) ?_
  rintro e y4 ⟨rfl, hc4⟩
  have hx4 : Below y2.heap.size y2 y4 := ((Below.refl _ y2).drew).trans hc4
  refine ⟨hx4, ?_⟩
  clear hc4
  refine wpAnyE_on (i := 5) (by kernel_rfl) rfl rfl ?_
  go_simp
  refine Calls.mono (HAC.out _ (KB3.out.trans ((hx4).mono KB3.out.size))) ?_
  rintro e y5 ⟨rfl, hc5⟩
  have hx5 : Below y2.heap.size y2 y5 := hx4.trans (hc5.mono hx4.size)
  refine ⟨hx5, ?_⟩
  clear hc5
  refine wpAnyE_tk (i := 6) (d := some 9) (v := ?_) rfl (by kernel_rfl) (by kernel_rfl) (by kernel_rfl) rfl (fun _ _ _ h => h) rfl rfl ?hy (by assumption) ?_
  case hy => (intro w' hSw; (try dsimp only at hSw); go_simp <;> (first | with_reducible rfl | omega | skip))
  simp only [Act.put, List.setIfInBounds_toArray, List.set_cons_zero, List.set_cons_succ]
  refine wpAnyE_tk (i := 7) (d := some 10) (v := ?_) rfl (by kernel_rfl) (by kernel_rfl) (by kernel_rfl) rfl (fun _ _ _ h => h) rfl rfl ?hy (by assumption) ?_
  case hy => (intro w' hSw; (try dsimp only at hSw); go_simp <;> (first | with_reducible rfl | omega | skip))
  simp only [Act.put, List.setIfInBounds_toArray, List.set_cons_zero, List.set_cons_succ]
  refine wpAnyE_done (by kernel_rfl) ?_ _
  have KB6 : Hid (Below w.heap.size w y5) := KB3.out.trans ((hx5).mono KB3.out.size)
  have L1n : Hid (Lies y5 (w.heap.size) VA 36) := L1.out.below (hx5) L1.out.lt
  clear L1
  have L1 := L1n
  clear L1n
  have L2n : Hid (Lies y5 (w.heap.size + 1) VB 36) := L2.out.below (hx5) L2.out.lt
  clear L2
  have L2 := L2n
  clear L2n
  have L3n : Hid (Lies y5 (w.heap.size + 2) VC 36) := L3.out.below (hx5) L3.out.lt
  clear L3
  have L3 := L3n
  clear L3n
  clear hHeld hx4 hx5 KB3
  go_upto_region 3 with fail
  go_upto_region 5 with fail
  refine wp_region_late (fun wx => Below y5.heap.size y5 wx) 11 (by kernel_rfl) (Below.refl _ y5).drew (fun hHeld => ?_)
  refine wpAnyE_tk (i := 0) (d := some 59) (v := .agg VA) rfl (by kernel_rfl) (by kernel_rfl) (by kernel_rfl) rfl (fun _ _ _ h => h) rfl rfl ?hy (by assumption) ?_
  case hy => exact fun w' hSw => exec_load_row 36 _ rfl (w.heap.size) rfl VA 36 _ (L1.out.below hSw L1.out.lt) Tryz.underlying36 rfl (by rw [za]; exact infoHo)
  simp only [Act.put, List.setIfInBounds_toArray, List.set_cons_zero, List.set_cons_succ]
  refine wpAnyE_tk (i := 1) (d := some 60) (v := .agg VA) rfl (by kernel_rfl) (by kernel_rfl) (by kernel_rfl) rfl (fun _ _ _ h => h) rfl rfl ?hy (by assumption) ?_
  case hy => exact fun w' hSw => exec_load_row 36 _ rfl (w.heap.size) rfl VA 36 _ (L1.out.below hSw L1.out.lt) Tryz.underlying36 rfl (by rw [za]; exact infoHo)
  simp only [Act.put, List.setIfInBounds_toArray, List.set_cons_zero, List.set_cons_succ]
  refine wpAnyE_tk (i := 3) (d := some 62) (v := .agg VA) rfl (by kernel_rfl) (by kernel_rfl) (by kernel_rfl) rfl (fun _ _ _ h => h) rfl rfl ?hy (by assumption) ?_
  case hy => exact fun w' hSw => exec_load_row 36 _ rfl (w.heap.size) rfl VA 36 _ (L1.out.below hSw L1.out.lt) Tryz.underlying36 rfl (by rw [za]; exact infoHo)
  simp only [Act.put, List.setIfInBounds_toArray, List.set_cons_zero, List.set_cons_succ]
  refine wpAnyE_on (i := 2) (by kernel_rfl) rfl rfl ?_
  go_simp
  refine Calls.mono (HAA.out _ (KB6.out.trans (((Below.refl _ y5).drew).mono KB6.out.size))) ?_
  rintro e y7 ⟨rfl, hc7⟩
  have hx7 : Below y5.heap.size y5 y7 := ((Below.refl _ y5).drew).trans hc7
  refine ⟨hx7, ?_⟩
  clear hc7
  refine wpAnyE_on (i := 4) (by kernel_rfl) rfl rfl ?_
  go_simp
  refine Calls.mono (HCA.out _ (KB6.out.trans ((hx7).mono KB6.out.size))) ?_
  rintro e y8 ⟨rfl, hc8⟩
  have hx8 : Below y5.heap.size y5 y8 := hx7.trans (hc8.mono hx7.size)
  refine ⟨hx8, ?_⟩
  clear hc8
  refine wpAnyE_tk (i := 5) (d := some 64) (v := ?_) rfl (by kernel_rfl) (by kernel_rfl) (by kernel_rfl) rfl (fun _ _ _ h => h) rfl rfl ?hy (by assumption) ?_
  case hy => (intro w' hSw; (try dsimp only at hSw); go_simp <;> (first | with_reducible rfl | omega | skip))
  simp only [Act.put, List.setIfInBounds_toArray, List.set_cons_zero, List.set_cons_succ]
  refine wpAnyE_tk (i := 6) (d := some 65) (v := ?_) rfl (by kernel_rfl) (by kernel_rfl) (by kernel_rfl) rfl (fun _ _ _ h => h) rfl rfl ?hy (by assumption) ?_
  case hy => (intro w' hSw; (try dsimp only at hSw); go_simp <;> (first | with_reducible rfl | omega | skip))
  simp only [Act.put, List.setIfInBounds_toArray, List.set_cons_zero, List.set_cons_succ]
  refine wpAnyE_tk (i := 7) (d := some 66) (v := ?_) rfl (by kernel_rfl) (by kernel_rfl) (by kernel_rfl) rfl (fun _ _ _ h => h) rfl rfl ?hy (by assumption) ?_
  case hy => (intro w' hSw; (try dsimp only at hSw); go_simp <;> (first | with_reducible rfl | omega | skip))
  simp only [Act.put, List.setIfInBounds_toArray, List.set_cons_zero, List.set_cons_succ]
  refine wpAnyE_on (i := 8) (by kernel_rfl) rfl rfl ?_
  go_simp
  refine Calls.mono (HW.out _ (KB6.out.trans ((hx8).mono KB6.out.size))) ?_
  rintro e y9 ⟨rfl, hc9⟩
  have hx9 : Below y5.heap.size y5 y9 := hx8.trans (hc9.mono hx8.size)
  refine ⟨hx9, ?_⟩
  clear hc9
  refine wpAnyE_tk (i := 9) (d := some 68) (v := ?_) rfl (by kernel_rfl) (by kernel_rfl) (by kernel_rfl) rfl (fun _ _ _ h => h) rfl rfl ?hy (by assumption) ?_
  case hy => (intro w' hSw; (try dsimp only at hSw); go_simp <;> (first | with_reducible rfl | omega | skip))
  simp only [Act.put, List.setIfInBounds_toArray, List.set_cons_zero, List.set_cons_succ]
  refine wpAnyE_tk (i := 10) (d := some 6) (v := ?_) rfl (by kernel_rfl) (by kernel_rfl) (by kernel_rfl) rfl (fun _ _ _ h => h) rfl rfl ?hy (by assumption) ?_
  case hy => (intro w' hSw; (try dsimp only at hSw); go_simp <;> (first | with_reducible rfl | omega | skip))
  simp only [Act.put, List.setIfInBounds_toArray, List.set_cons_zero, List.set_cons_succ]
  refine wpAnyE_done (by kernel_rfl) ?_ _
  have KB10 : Hid (Below w.heap.size w y9) := KB6.out.trans ((hx9).mono KB6.out.size)
  have L1n : Hid (Lies y9 (w.heap.size) VA 36) := L1.out.below (hx9) L1.out.lt
  clear L1
  have L1 := L1n
  clear L1n
  have L2n : Hid (Lies y9 (w.heap.size + 1) VB 36) := L2.out.below (hx9) L2.out.lt
  clear L2
  have L2 := L2n
  clear L2n
  have L3n : Hid (Lies y9 (w.heap.size + 2) VC 36) := L3.out.below (hx9) L3.out.lt
  clear L3
  have L3 := L3n
  clear L3n
  clear hHeld hx7 hx8 hx9 KB6
  go_wp2
  go_ret
  exact ⟨rfl, KB10.out⟩

set_option maxHeartbeats 8000000 in
set_option maxRecDepth 100000 in
theorem walkC (VA VB VC : Array Value) (za : VA.size = 18) (zb : VB.size = 18) (zc : VC.size = 18) (w : World)
    (HAB : Hid (∀ wx, Below w.heap.size w wx → Calls Tryz.prog 12 #[.agg VA, .agg VB] wx fun e w' => e = .returned (.bool true) ∧ Below wx.heap.size wx w'))
    (HBA : Hid (∀ wx, Below w.heap.size w wx → Calls Tryz.prog 12 #[.agg VB, .agg VA] wx fun e w' => e = .returned (.bool true) ∧ Below wx.heap.size wx w'))
    (HBC : Hid (∀ wx, Below w.heap.size w wx → Calls Tryz.prog 12 #[.agg VB, .agg VC] wx fun e w' => e = .returned (.bool true) ∧ Below wx.heap.size wx w'))
    (HAC : Hid (∀ wx, Below w.heap.size w wx → Calls Tryz.prog 12 #[.agg VA, .agg VC] wx fun e w' => e = .returned (.bool true) ∧ Below wx.heap.size wx w'))
    (HAA : Hid (∀ wx, Below w.heap.size w wx → Calls Tryz.prog 12 #[.agg VA, .agg VA] wx fun e w' => e = .returned (.bool true) ∧ Below wx.heap.size wx w'))
    (HCA : Hid (∀ wx, Below w.heap.size w wx → Calls Tryz.prog 13 #[.agg VA, .bool true] wx fun e w' => e = .returned (.int .i64 0) ∧ Below wx.heap.size wx w'))
    (HCB : Hid (∀ wx, Below w.heap.size w wx → Calls Tryz.prog 13 #[.agg VB, .bool true] wx fun e w' => e = .returned (.int .i64 0) ∧ Below wx.heap.size wx w'))
    (HW : Hid (∀ wx, Below w.heap.size w wx → Calls Tryz.prog 11 #[] wx fun e w' => e = .returned (.bool true) ∧ Below wx.heap.size wx w')) :
    Calls Tryz.prog 4 #[.agg VA, .agg VB, .agg VC] w fun e w' => e = .returned (.bool true) ∧ Below w.heap.size w w' := by
  have L1 : Hid (Lies (((w.alloc (.cells VA 36)).alloc (.cells VB 36)).alloc (.cells VC 36)) w.heap.size VA 36) := ((Lies.new w _ _).alloc _).alloc _
  have L2 : Hid (Lies (((w.alloc (.cells VA 36)).alloc (.cells VB 36)).alloc (.cells VC 36)) (w.heap.size + 1) VB 36) := (new_one w _ _ _).alloc _
  have L3 : Hid (Lies (((w.alloc (.cells VA 36)).alloc (.cells VB 36)).alloc (.cells VC 36)) (w.heap.size + 2) VC 36) := new_two w _ _ _ _
  have KB : Hid (Below w.heap.size w (((w.alloc (.cells VA 36)).alloc (.cells VB 36)).alloc (.cells VC 36))) := (((Below.refl _ _).alloc (Nat.le_refl _) _).alloc (by simp) _).alloc (by simp; omega) _
  go_enter Tryz.func4, Tryz.ntmps4
  go_upto_region 1 with fail
  generalize ((w.alloc (.cells VA 36)).alloc (.cells VB 36)).alloc (.cells VC 36) = v0 at L1 L2 L3 KB ⊢
  refine wp_region_late (fun wx => Below v0.heap.size v0 wx) 8 (by kernel_rfl) (Below.refl _ v0).drew (fun hHeld => ?_)
  refine wpAnyE_tk (i := 0) (d := some 11) (v := .agg VA) rfl (by kernel_rfl) (by kernel_rfl) (by kernel_rfl) rfl (fun _ _ _ h => h) rfl rfl ?hy (by assumption) ?_
  case hy => exact fun w' hSw => exec_load_row 36 _ rfl (w.heap.size) rfl VA 36 _ (L1.out.below hSw L1.out.lt) Tryz.underlying36 rfl (by rw [za]; exact infoHo)
  simp only [Act.put, List.setIfInBounds_toArray, List.set_cons_zero, List.set_cons_succ]
  refine wpAnyE_tk (i := 1) (d := some 12) (v := .agg VB) rfl (by kernel_rfl) (by kernel_rfl) (by kernel_rfl) rfl (fun _ _ _ h => h) rfl rfl ?hy (by assumption) ?_
  case hy => exact fun w' hSw => exec_load_row 36 _ rfl (w.heap.size + 1) rfl VB 36 _ (L2.out.below hSw L2.out.lt) Tryz.underlying36 rfl (by rw [zb]; exact infoHo)
  simp only [Act.put, List.setIfInBounds_toArray, List.set_cons_zero, List.set_cons_succ]
  refine wpAnyE_tk (i := 3) (d := some 14) (v := .agg VB) rfl (by kernel_rfl) (by kernel_rfl) (by kernel_rfl) rfl (fun _ _ _ h => h) rfl rfl ?hy (by assumption) ?_
  case hy => exact fun w' hSw => exec_load_row 36 _ rfl (w.heap.size + 1) rfl VB 36 _ (L2.out.below hSw L2.out.lt) Tryz.underlying36 rfl (by rw [zb]; exact infoHo)
  simp only [Act.put, List.setIfInBounds_toArray, List.set_cons_zero, List.set_cons_succ]
  refine wpAnyE_tk (i := 4) (d := some 15) (v := .agg VA) rfl (by kernel_rfl) (by kernel_rfl) (by kernel_rfl) rfl (fun _ _ _ h => h) rfl rfl ?hy (by assumption) ?_
  case hy => exact fun w' hSw => exec_load_row 36 _ rfl (w.heap.size) rfl VA 36 _ (L1.out.below hSw L1.out.lt) Tryz.underlying36 rfl (by rw [za]; exact infoHo)
  simp only [Act.put, List.setIfInBounds_toArray, List.set_cons_zero, List.set_cons_succ]
  refine wpAnyE_on (i := 2) (by kernel_rfl) rfl rfl ?_
  go_simp
  refine Calls.mono (HAB.out _ (KB.out.trans (((Below.refl _ v0).drew).mono KB.out.size))) ?_
  rintro e y1 ⟨rfl, hc1⟩
  have hx1 : Below v0.heap.size v0 y1 := ((Below.refl _ v0).drew).trans hc1
  refine ⟨hx1, ?_⟩
  clear hc1
  refine wpAnyE_on (i := 5) (by kernel_rfl) rfl rfl ?_
  go_simp
  refine Calls.mono (HBA.out _ (KB.out.trans ((hx1).mono KB.out.size))) ?_
  rintro e y2 ⟨rfl, hc2⟩
  have hx2 : Below v0.heap.size v0 y2 := hx1.trans (hc2.mono hx1.size)
  refine ⟨hx2, ?_⟩
  clear hc2
  refine wpAnyE_tk (i := 6) (d := some 7) (v := ?_) rfl (by kernel_rfl) (by kernel_rfl) (by kernel_rfl) rfl (fun _ _ _ h => h) rfl rfl ?hy (by assumption) ?_
  case hy => (intro w' hSw; (try dsimp only at hSw); go_simp <;> (first | with_reducible rfl | omega | skip))
  simp only [Act.put, List.setIfInBounds_toArray, List.set_cons_zero, List.set_cons_succ]
  refine wpAnyE_tk (i := 7) (d := some 8) (v := ?_) rfl (by kernel_rfl) (by kernel_rfl) (by kernel_rfl) rfl (fun _ _ _ h => h) rfl rfl ?hy (by assumption) ?_
  case hy => (intro w' hSw; (try dsimp only at hSw); go_simp <;> (first | with_reducible rfl | omega | skip))
  simp only [Act.put, List.setIfInBounds_toArray, List.set_cons_zero, List.set_cons_succ]
  refine wpAnyE_done (by kernel_rfl) ?_ _
  have KB3 : Hid (Below w.heap.size w y2) := KB.out.trans ((hx2).mono KB.out.size)
  have L1n : Hid (Lies y2 (w.heap.size) VA 36) := L1.out.below (hx2) L1.out.lt
  clear L1
  have L1 := L1n
  clear L1n
  have L2n : Hid (Lies y2 (w.heap.size + 1) VB 36) := L2.out.below (hx2) L2.out.lt
  clear L2
  have L2 := L2n
  clear L2n
  have L3n : Hid (Lies y2 (w.heap.size + 2) VC 36) := L3.out.below (hx2) L3.out.lt
  clear L3
  have L3 := L3n
  clear L3n
  clear hHeld hx1 hx2 KB
  go_upto_region 2 with fail
  refine wp_region_late (fun wx => Below y2.heap.size y2 wx) 8 (by kernel_rfl) (Below.refl _ y2).drew (fun hHeld => ?_)
  refine wpAnyE_tk (i := 0) (d := some 17) (v := .agg VB) rfl (by kernel_rfl) (by kernel_rfl) (by kernel_rfl) rfl (fun _ _ _ h => h) rfl rfl ?hy (by assumption) ?_
  case hy => exact fun w' hSw => exec_load_row 36 _ rfl (w.heap.size + 1) rfl VB 36 _ (L2.out.below hSw L2.out.lt) Tryz.underlying36 rfl (by rw [zb]; exact infoHo)
  simp only [Act.put, List.setIfInBounds_toArray, List.set_cons_zero, List.set_cons_succ]
  refine wpAnyE_tk (i := 1) (d := some 18) (v := .agg VC) rfl (by kernel_rfl) (by kernel_rfl) (by kernel_rfl) rfl (fun _ _ _ h => h) rfl rfl ?hy (by assumption) ?_
  case hy => exact fun w' hSw => exec_load_row 36 _ rfl (w.heap.size + 2) rfl VC 36 _ (L3.out.below hSw L3.out.lt) Tryz.underlying36 rfl (by rw [zc]; exact infoHo)
  simp only [Act.put, List.setIfInBounds_toArray, List.set_cons_zero, List.set_cons_succ]
  refine wpAnyE_tk (i := 3) (d := some 20) (v := .agg VA) rfl (by kernel_rfl) (by kernel_rfl) (by kernel_rfl) rfl (fun _ _ _ h => h) rfl rfl ?hy (by assumption) ?_
  case hy => exact fun w' hSw => exec_load_row 36 _ rfl (w.heap.size) rfl VA 36 _ (L1.out.below hSw L1.out.lt) Tryz.underlying36 rfl (by rw [za]; exact infoHo)
  simp only [Act.put, List.setIfInBounds_toArray, List.set_cons_zero, List.set_cons_succ]
  refine wpAnyE_tk (i := 4) (d := some 21) (v := .agg VC) rfl (by kernel_rfl) (by kernel_rfl) (by kernel_rfl) rfl (fun _ _ _ h => h) rfl rfl ?hy (by assumption) ?_
  case hy => exact fun w' hSw => exec_load_row 36 _ rfl (w.heap.size + 2) rfl VC 36 _ (L3.out.below hSw L3.out.lt) Tryz.underlying36 rfl (by rw [zc]; exact infoHo)
  simp only [Act.put, List.setIfInBounds_toArray, List.set_cons_zero, List.set_cons_succ]
  refine wpAnyE_on (i := 2) (by kernel_rfl) rfl rfl ?_
  go_simp
  refine Calls.mono (HBC.out _ (KB3.out.trans (((Below.refl _ y2).drew).mono KB3.out.size))) ?_
  rintro e y4 ⟨rfl, hc4⟩
  have hx4 : Below y2.heap.size y2 y4 := ((Below.refl _ y2).drew).trans hc4
  refine ⟨hx4, ?_⟩
  clear hc4
  refine wpAnyE_on (i := 5) (by kernel_rfl) rfl rfl ?_
  go_simp
  refine Calls.mono (HAC.out _ (KB3.out.trans ((hx4).mono KB3.out.size))) ?_
  rintro e y5 ⟨rfl, hc5⟩
  have hx5 : Below y2.heap.size y2 y5 := hx4.trans (hc5.mono hx4.size)
  refine ⟨hx5, ?_⟩
  clear hc5
  refine wpAnyE_tk (i := 6) (d := some 9) (v := ?_) rfl (by kernel_rfl) (by kernel_rfl) (by kernel_rfl) rfl (fun _ _ _ h => h) rfl rfl ?hy (by assumption) ?_
  case hy => (intro w' hSw; (try dsimp only at hSw); go_simp <;> (first | with_reducible rfl | omega | skip))
  simp only [Act.put, List.setIfInBounds_toArray, List.set_cons_zero, List.set_cons_succ]
  refine wpAnyE_tk (i := 7) (d := some 10) (v := ?_) rfl (by kernel_rfl) (by kernel_rfl) (by kernel_rfl) rfl (fun _ _ _ h => h) rfl rfl ?hy (by assumption) ?_
  case hy => (intro w' hSw; (try dsimp only at hSw); go_simp <;> (first | with_reducible rfl | omega | skip))
  simp only [Act.put, List.setIfInBounds_toArray, List.set_cons_zero, List.set_cons_succ]
  refine wpAnyE_done (by kernel_rfl) ?_ _
  have KB6 : Hid (Below w.heap.size w y5) := KB3.out.trans ((hx5).mono KB3.out.size)
  have L1n : Hid (Lies y5 (w.heap.size) VA 36) := L1.out.below (hx5) L1.out.lt
  clear L1
  have L1 := L1n
  clear L1n
  have L2n : Hid (Lies y5 (w.heap.size + 1) VB 36) := L2.out.below (hx5) L2.out.lt
  clear L2
  have L2 := L2n
  clear L2n
  have L3n : Hid (Lies y5 (w.heap.size + 2) VC 36) := L3.out.below (hx5) L3.out.lt
  clear L3
  have L3 := L3n
  clear L3n
  clear hHeld hx4 hx5 KB3
  go_upto_region 3 with fail
  go_wp2_with (first | (refine wpList_load_rowG (by rfl) 36 _ rfl (w.heap.size) rfl VA 36 _ L1.out Tryz.underlying36 rfl (by rw [za]; exact infoHo) ?_) | (refine wpList_load_rowG (by rfl) 36 _ rfl (w.heap.size + 1) rfl VB 36 _ L2.out Tryz.underlying36 rfl (by rw [zb]; exact infoHo) ?_) | (refine wpList_load_rowG (by rfl) 36 _ rfl (w.heap.size + 2) rfl VC 36 _ L3.out Tryz.underlying36 rfl (by rw [zc]; exact infoHo) ?_))
  refine Calls.mono (HCA.out _ KB6.out) ?_
  rintro e y7 ⟨rfl, hc7⟩
  have KB7 : Hid (Below w.heap.size w y7) := KB6.out.trans ((hc7).mono KB6.out.size)
  have L1n : Hid (Lies y7 (w.heap.size) VA 36) := L1.out.below (hc7) L1.out.lt
  clear L1
  have L1 := L1n
  clear L1n
  have L2n : Hid (Lies y7 (w.heap.size + 1) VB 36) := L2.out.below (hc7) L2.out.lt
  clear L2
  have L2 := L2n
  clear L2n
  have L3n : Hid (Lies y7 (w.heap.size + 2) VC 36) := L3.out.below (hc7) L3.out.lt
  clear L3
  have L3 := L3n
  clear L3n
  clear KB6
  clear hc7
  go_wp2_with (first | (refine wpList_load_rowG (by rfl) 36 _ rfl (w.heap.size) rfl VA 36 _ L1.out Tryz.underlying36 rfl (by rw [za]; exact infoHo) ?_) | (refine wpList_load_rowG (by rfl) 36 _ rfl (w.heap.size + 1) rfl VB 36 _ L2.out Tryz.underlying36 rfl (by rw [zb]; exact infoHo) ?_) | (refine wpList_load_rowG (by rfl) 36 _ rfl (w.heap.size + 2) rfl VC 36 _ L3.out Tryz.underlying36 rfl (by rw [zc]; exact infoHo) ?_))
  refine Calls.mono (HCB.out _ KB7.out) ?_
  rintro e y8 ⟨rfl, hc8⟩
  have KB8 : Hid (Below w.heap.size w y8) := KB7.out.trans ((hc8).mono KB7.out.size)
  have L1n : Hid (Lies y8 (w.heap.size) VA 36) := L1.out.below (hc8) L1.out.lt
  clear L1
  have L1 := L1n
  clear L1n
  have L2n : Hid (Lies y8 (w.heap.size + 1) VB 36) := L2.out.below (hc8) L2.out.lt
  clear L2
  have L2 := L2n
  clear L2n
  have L3n : Hid (Lies y8 (w.heap.size + 2) VC 36) := L3.out.below (hc8) L3.out.lt
  clear L3
  have L3 := L3n
  clear L3n
  clear KB7
  clear hc8
  go_upto_region 5 with fail
  refine wp_region_late (fun wx => Below y8.heap.size y8 wx) 11 (by kernel_rfl) (Below.refl _ y8).drew (fun hHeld => ?_)
  refine wpAnyE_tk (i := 0) (d := some 59) (v := .agg VA) rfl (by kernel_rfl) (by kernel_rfl) (by kernel_rfl) rfl (fun _ _ _ h => h) rfl rfl ?hy (by assumption) ?_
  case hy => exact fun w' hSw => exec_load_row 36 _ rfl (w.heap.size) rfl VA 36 _ (L1.out.below hSw L1.out.lt) Tryz.underlying36 rfl (by rw [za]; exact infoHo)
  simp only [Act.put, List.setIfInBounds_toArray, List.set_cons_zero, List.set_cons_succ]
  refine wpAnyE_tk (i := 1) (d := some 60) (v := .agg VA) rfl (by kernel_rfl) (by kernel_rfl) (by kernel_rfl) rfl (fun _ _ _ h => h) rfl rfl ?hy (by assumption) ?_
  case hy => exact fun w' hSw => exec_load_row 36 _ rfl (w.heap.size) rfl VA 36 _ (L1.out.below hSw L1.out.lt) Tryz.underlying36 rfl (by rw [za]; exact infoHo)
  simp only [Act.put, List.setIfInBounds_toArray, List.set_cons_zero, List.set_cons_succ]
  refine wpAnyE_tk (i := 3) (d := some 62) (v := .agg VA) rfl (by kernel_rfl) (by kernel_rfl) (by kernel_rfl) rfl (fun _ _ _ h => h) rfl rfl ?hy (by assumption) ?_
  case hy => exact fun w' hSw => exec_load_row 36 _ rfl (w.heap.size) rfl VA 36 _ (L1.out.below hSw L1.out.lt) Tryz.underlying36 rfl (by rw [za]; exact infoHo)
  simp only [Act.put, List.setIfInBounds_toArray, List.set_cons_zero, List.set_cons_succ]
  refine wpAnyE_on (i := 2) (by kernel_rfl) rfl rfl ?_
  go_simp
  refine Calls.mono (HAA.out _ (KB8.out.trans (((Below.refl _ y8).drew).mono KB8.out.size))) ?_
  rintro e y9 ⟨rfl, hc9⟩
  have hx9 : Below y8.heap.size y8 y9 := ((Below.refl _ y8).drew).trans hc9
  refine ⟨hx9, ?_⟩
  clear hc9
  refine wpAnyE_on (i := 4) (by kernel_rfl) rfl rfl ?_
  go_simp
  refine Calls.mono (HCA.out _ (KB8.out.trans ((hx9).mono KB8.out.size))) ?_
  rintro e y10 ⟨rfl, hc10⟩
  have hx10 : Below y8.heap.size y8 y10 := hx9.trans (hc10.mono hx9.size)
  refine ⟨hx10, ?_⟩
  clear hc10
  refine wpAnyE_tk (i := 5) (d := some 64) (v := ?_) rfl (by kernel_rfl) (by kernel_rfl) (by kernel_rfl) rfl (fun _ _ _ h => h) rfl rfl ?hy (by assumption) ?_
  case hy => (intro w' hSw; (try dsimp only at hSw); go_simp <;> (first | with_reducible rfl | omega | skip))
  simp only [Act.put, List.setIfInBounds_toArray, List.set_cons_zero, List.set_cons_succ]
  refine wpAnyE_tk (i := 6) (d := some 65) (v := ?_) rfl (by kernel_rfl) (by kernel_rfl) (by kernel_rfl) rfl (fun _ _ _ h => h) rfl rfl ?hy (by assumption) ?_
  case hy => (intro w' hSw; (try dsimp only at hSw); go_simp <;> (first | with_reducible rfl | omega | skip))
  simp only [Act.put, List.setIfInBounds_toArray, List.set_cons_zero, List.set_cons_succ]
  refine wpAnyE_tk (i := 7) (d := some 66) (v := ?_) rfl (by kernel_rfl) (by kernel_rfl) (by kernel_rfl) rfl (fun _ _ _ h => h) rfl rfl ?hy (by assumption) ?_
  case hy => (intro w' hSw; (try dsimp only at hSw); go_simp <;> (first | with_reducible rfl | omega | skip))
  simp only [Act.put, List.setIfInBounds_toArray, List.set_cons_zero, List.set_cons_succ]
  refine wpAnyE_on (i := 8) (by kernel_rfl) rfl rfl ?_
  go_simp
  refine Calls.mono (HW.out _ (KB8.out.trans ((hx10).mono KB8.out.size))) ?_
  rintro e y11 ⟨rfl, hc11⟩
  have hx11 : Below y8.heap.size y8 y11 := hx10.trans (hc11.mono hx10.size)
  refine ⟨hx11, ?_⟩
  clear hc11
  refine wpAnyE_tk (i := 9) (d := some 68) (v := ?_) rfl (by kernel_rfl) (by kernel_rfl) (by kernel_rfl) rfl (fun _ _ _ h => h) rfl rfl ?hy (by assumption) ?_
  case hy => (intro w' hSw; (try dsimp only at hSw); go_simp <;> (first | with_reducible rfl | omega | skip))
  simp only [Act.put, List.setIfInBounds_toArray, List.set_cons_zero, List.set_cons_succ]
  refine wpAnyE_tk (i := 10) (d := some 6) (v := ?_) rfl (by kernel_rfl) (by kernel_rfl) (by kernel_rfl) rfl (fun _ _ _ h => h) rfl rfl ?hy (by assumption) ?_
  case hy => (intro w' hSw; (try dsimp only at hSw); go_simp <;> (first | with_reducible rfl | omega | skip))
  simp only [Act.put, List.setIfInBounds_toArray, List.set_cons_zero, List.set_cons_succ]
  refine wpAnyE_done (by kernel_rfl) ?_ _
  have KB12 : Hid (Below w.heap.size w y11) := KB8.out.trans ((hx11).mono KB8.out.size)
  have L1n : Hid (Lies y11 (w.heap.size) VA 36) := L1.out.below (hx11) L1.out.lt
  clear L1
  have L1 := L1n
  clear L1n
  have L2n : Hid (Lies y11 (w.heap.size + 1) VB 36) := L2.out.below (hx11) L2.out.lt
  clear L2
  have L2 := L2n
  clear L2n
  have L3n : Hid (Lies y11 (w.heap.size + 2) VC 36) := L3.out.below (hx11) L3.out.lt
  clear L3
  have L3 := L3n
  clear L3n
  clear hHeld hx9 hx10 hx11 KB8
  go_wp2
  go_ret
  exact ⟨rfl, KB12.out⟩

set_option maxHeartbeats 8000000 in
set_option maxRecDepth 100000 in
theorem walkD (VA VB VC : Array Value) (za : VA.size = 18) (zb : VB.size = 18) (zc : VC.size = 18) (w : World)
    (HAB : Hid (∀ wx, Below w.heap.size w wx → Calls Tryz.prog 12 #[.agg VA, .agg VB] wx fun e w' => e = .returned (.bool true) ∧ Below wx.heap.size wx w'))
    (HBA : Hid (∀ wx, Below w.heap.size w wx → Calls Tryz.prog 12 #[.agg VB, .agg VA] wx fun e w' => e = .returned (.bool true) ∧ Below wx.heap.size wx w'))
    (HBC : Hid (∀ wx, Below w.heap.size w wx → Calls Tryz.prog 12 #[.agg VB, .agg VC] wx fun e w' => e = .returned (.bool false) ∧ Below wx.heap.size wx w'))
    (HAC : Hid (∀ wx, Below w.heap.size w wx → Calls Tryz.prog 12 #[.agg VA, .agg VC] wx fun e w' => e = .returned (.bool false) ∧ Below wx.heap.size wx w'))
    (HAA : Hid (∀ wx, Below w.heap.size w wx → Calls Tryz.prog 12 #[.agg VA, .agg VA] wx fun e w' => e = .returned (.bool true) ∧ Below wx.heap.size wx w'))
    (HCA : Hid (∀ wx, Below w.heap.size w wx → Calls Tryz.prog 13 #[.agg VA, .bool true] wx fun e w' => e = .returned (.int .i64 0) ∧ Below wx.heap.size wx w'))
    (HCB : Hid (∀ wx, Below w.heap.size w wx → Calls Tryz.prog 13 #[.agg VB, .bool true] wx fun e w' => e = .returned (.int .i64 0) ∧ Below wx.heap.size wx w'))
    (HW : Hid (∀ wx, Below w.heap.size w wx → Calls Tryz.prog 11 #[] wx fun e w' => e = .returned (.bool true) ∧ Below wx.heap.size wx w')) :
    Calls Tryz.prog 4 #[.agg VA, .agg VB, .agg VC] w fun e w' => e = .returned (.bool true) ∧ Below w.heap.size w w' := by
  have L1 : Hid (Lies (((w.alloc (.cells VA 36)).alloc (.cells VB 36)).alloc (.cells VC 36)) w.heap.size VA 36) := ((Lies.new w _ _).alloc _).alloc _
  have L2 : Hid (Lies (((w.alloc (.cells VA 36)).alloc (.cells VB 36)).alloc (.cells VC 36)) (w.heap.size + 1) VB 36) := (new_one w _ _ _).alloc _
  have L3 : Hid (Lies (((w.alloc (.cells VA 36)).alloc (.cells VB 36)).alloc (.cells VC 36)) (w.heap.size + 2) VC 36) := new_two w _ _ _ _
  have KB : Hid (Below w.heap.size w (((w.alloc (.cells VA 36)).alloc (.cells VB 36)).alloc (.cells VC 36))) := (((Below.refl _ _).alloc (Nat.le_refl _) _).alloc (by simp) _).alloc (by simp; omega) _
  go_enter Tryz.func4, Tryz.ntmps4
  go_upto_region 1 with fail
  generalize ((w.alloc (.cells VA 36)).alloc (.cells VB 36)).alloc (.cells VC 36) = v0 at L1 L2 L3 KB ⊢
  refine wp_region_late (fun wx => Below v0.heap.size v0 wx) 8 (by kernel_rfl) (Below.refl _ v0).drew (fun hHeld => ?_)
  refine wpAnyE_tk (i := 0) (d := some 11) (v := .agg VA) rfl (by kernel_rfl) (by kernel_rfl) (by kernel_rfl) rfl (fun _ _ _ h => h) rfl rfl ?hy (by assumption) ?_
  case hy => exact fun w' hSw => exec_load_row 36 _ rfl (w.heap.size) rfl VA 36 _ (L1.out.below hSw L1.out.lt) Tryz.underlying36 rfl (by rw [za]; exact infoHo)
  simp only [Act.put, List.setIfInBounds_toArray, List.set_cons_zero, List.set_cons_succ]
  refine wpAnyE_tk (i := 1) (d := some 12) (v := .agg VB) rfl (by kernel_rfl) (by kernel_rfl) (by kernel_rfl) rfl (fun _ _ _ h => h) rfl rfl ?hy (by assumption) ?_
  case hy => exact fun w' hSw => exec_load_row 36 _ rfl (w.heap.size + 1) rfl VB 36 _ (L2.out.below hSw L2.out.lt) Tryz.underlying36 rfl (by rw [zb]; exact infoHo)
  simp only [Act.put, List.setIfInBounds_toArray, List.set_cons_zero, List.set_cons_succ]
  refine wpAnyE_tk (i := 3) (d := some 14) (v := .agg VB) rfl (by kernel_rfl) (by kernel_rfl) (by kernel_rfl) rfl (fun _ _ _ h => h) rfl rfl ?hy (by assumption) ?_
  case hy => exact fun w' hSw => exec_load_row 36 _ rfl (w.heap.size + 1) rfl VB 36 _ (L2.out.below hSw L2.out.lt) Tryz.underlying36 rfl (by rw [zb]; exact infoHo)
  simp only [Act.put, List.setIfInBounds_toArray, List.set_cons_zero, List.set_cons_succ]
  refine wpAnyE_tk (i := 4) (d := some 15) (v := .agg VA) rfl (by kernel_rfl) (by kernel_rfl) (by kernel_rfl) rfl (fun _ _ _ h => h) rfl rfl ?hy (by assumption) ?_
  case hy => exact fun w' hSw => exec_load_row 36 _ rfl (w.heap.size) rfl VA 36 _ (L1.out.below hSw L1.out.lt) Tryz.underlying36 rfl (by rw [za]; exact infoHo)
  simp only [Act.put, List.setIfInBounds_toArray, List.set_cons_zero, List.set_cons_succ]
  refine wpAnyE_on (i := 2) (by kernel_rfl) rfl rfl ?_
  go_simp
  refine Calls.mono (HAB.out _ (KB.out.trans (((Below.refl _ v0).drew).mono KB.out.size))) ?_
  rintro e y1 ⟨rfl, hc1⟩
  have hx1 : Below v0.heap.size v0 y1 := ((Below.refl _ v0).drew).trans hc1
  refine ⟨hx1, ?_⟩
  clear hc1
  refine wpAnyE_on (i := 5) (by kernel_rfl) rfl rfl ?_
  go_simp
  refine Calls.mono (HBA.out _ (KB.out.trans ((hx1).mono KB.out.size))) ?_
  rintro e y2 ⟨rfl, hc2⟩
  have hx2 : Below v0.heap.size v0 y2 := hx1.trans (hc2.mono hx1.size)
  refine ⟨hx2, ?_⟩
  clear hc2
  refine wpAnyE_tk (i := 6) (d := some 7) (v := ?_) rfl (by kernel_rfl) (by kernel_rfl) (by kernel_rfl) rfl (fun _ _ _ h => h) rfl rfl ?hy (by assumption) ?_
  case hy => (intro w' hSw; (try dsimp only at hSw); go_simp <;> (first | with_reducible rfl | omega | skip))
  simp only [Act.put, List.setIfInBounds_toArray, List.set_cons_zero, List.set_cons_succ]
  refine wpAnyE_tk (i := 7) (d := some 8) (v := ?_) rfl (by kernel_rfl) (by kernel_rfl) (by kernel_rfl) rfl (fun _ _ _ h => h) rfl rfl ?hy (by assumption) ?_
  case hy => (intro w' hSw; (try dsimp only at hSw); go_simp <;> (first | with_reducible rfl | omega | skip))
  simp only [Act.put, List.setIfInBounds_toArray, List.set_cons_zero, List.set_cons_succ]
  refine wpAnyE_done (by kernel_rfl) ?_ _
  have KB3 : Hid (Below w.heap.size w y2) := KB.out.trans ((hx2).mono KB.out.size)
  have L1n : Hid (Lies y2 (w.heap.size) VA 36) := L1.out.below (hx2) L1.out.lt
  clear L1
  have L1 := L1n
  clear L1n
  have L2n : Hid (Lies y2 (w.heap.size + 1) VB 36) := L2.out.below (hx2) L2.out.lt
  clear L2
  have L2 := L2n
  clear L2n
  have L3n : Hid (Lies y2 (w.heap.size + 2) VC 36) := L3.out.below (hx2) L3.out.lt
  clear L3
  have L3 := L3n
  clear L3n
  clear hHeld hx1 hx2 KB
  go_upto_region 2 with fail
  refine wp_region_late (fun wx => Below y2.heap.size y2 wx) 8 (by kernel_rfl) (Below.refl _ y2).drew (fun hHeld => ?_)
  refine wpAnyE_tk (i := 0) (d := some 17) (v := .agg VB) rfl (by kernel_rfl) (by kernel_rfl) (by kernel_rfl) rfl (fun _ _ _ h => h) rfl rfl ?hy (by assumption) ?_
  case hy => exact fun w' hSw => exec_load_row 36 _ rfl (w.heap.size + 1) rfl VB 36 _ (L2.out.below hSw L2.out.lt) Tryz.underlying36 rfl (by rw [zb]; exact infoHo)
  simp only [Act.put, List.setIfInBounds_toArray, List.set_cons_zero, List.set_cons_succ]
  refine wpAnyE_tk (i := 1) (d := some 18) (v := .agg VC) rfl (by kernel_rfl) (by kernel_rfl) (by kernel_rfl) rfl (fun _ _ _ h => h) rfl rfl ?hy (by assumption) ?_
  case hy => exact fun w' hSw => exec_load_row 36 _ rfl (w.heap.size + 2) rfl VC 36 _ (L3.out.below hSw L3.out.lt) Tryz.underlying36 rfl (by rw [zc]; exact infoHo)
  simp only [Act.put, List.setIfInBounds_toArray, List.set_cons_zero, List.set_cons_succ]
  refine wpAnyE_tk (i := 3) (d := some 20) (v := .agg VA) rfl (by kernel_rfl) (by kernel_rfl) (by kernel_rfl) rfl (fun _ _ _ h => h) rfl rfl ?hy (by assumption) ?_
  case hy => exact fun w' hSw => exec_load_row 36 _ rfl (w.heap.size) rfl VA 36 _ (L1.out.below hSw L1.out.lt) Tryz.underlying36 rfl (by rw [za]; exact infoHo)
  simp only [Act.put, List.setIfInBounds_toArray, List.set_cons_zero, List.set_cons_succ]
  refine wpAnyE_tk (i := 4) (d := some 21) (v := .agg VC) rfl (by kernel_rfl) (by kernel_rfl) (by kernel_rfl) rfl (fun _ _ _ h => h) rfl rfl ?hy (by assumption) ?_
  case hy => exact fun w' hSw => exec_load_row 36 _ rfl (w.heap.size + 2) rfl VC 36 _ (L3.out.below hSw L3.out.lt) Tryz.underlying36 rfl (by rw [zc]; exact infoHo)
  simp only [Act.put, List.setIfInBounds_toArray, List.set_cons_zero, List.set_cons_succ]
  refine wpAnyE_on (i := 2) (by kernel_rfl) rfl rfl ?_
  go_simp
  refine Calls.mono (HBC.out _ (KB3.out.trans (((Below.refl _ y2).drew).mono KB3.out.size))) ?_
  rintro e y4 ⟨rfl, hc4⟩
  have hx4 : Below y2.heap.size y2 y4 := ((Below.refl _ y2).drew).trans hc4
  refine ⟨hx4, ?_⟩
  clear hc4
  refine wpAnyE_on (i := 5) (by kernel_rfl) rfl rfl ?_
  go_simp
  refine Calls.mono (HAC.out _ (KB3.out.trans ((hx4).mono KB3.out.size))) ?_
  rintro e y5 ⟨rfl, hc5⟩
  have hx5 : Below y2.heap.size y2 y5 := hx4.trans (hc5.mono hx4.size)
  refine ⟨hx5, ?_⟩
  clear hc5
  refine wpAnyE_tk (i := 6) (d := some 9) (v := ?_) rfl (by kernel_rfl) (by kernel_rfl) (by kernel_rfl) rfl (fun _ _ _ h => h) rfl rfl ?hy (by assumption) ?_
  case hy => (intro w' hSw; (try dsimp only at hSw); go_simp <;> (first | with_reducible rfl | omega | skip))
  simp only [Act.put, List.setIfInBounds_toArray, List.set_cons_zero, List.set_cons_succ]
  refine wpAnyE_tk (i := 7) (d := some 10) (v := ?_) rfl (by kernel_rfl) (by kernel_rfl) (by kernel_rfl) rfl (fun _ _ _ h => h) rfl rfl ?hy (by assumption) ?_
  case hy => (intro w' hSw; (try dsimp only at hSw); go_simp <;> (first | with_reducible rfl | omega | skip))
  simp only [Act.put, List.setIfInBounds_toArray, List.set_cons_zero, List.set_cons_succ]
  refine wpAnyE_done (by kernel_rfl) ?_ _
  have KB6 : Hid (Below w.heap.size w y5) := KB3.out.trans ((hx5).mono KB3.out.size)
  have L1n : Hid (Lies y5 (w.heap.size) VA 36) := L1.out.below (hx5) L1.out.lt
  clear L1
  have L1 := L1n
  clear L1n
  have L2n : Hid (Lies y5 (w.heap.size + 1) VB 36) := L2.out.below (hx5) L2.out.lt
  clear L2
  have L2 := L2n
  clear L2n
  have L3n : Hid (Lies y5 (w.heap.size + 2) VC 36) := L3.out.below (hx5) L3.out.lt
  clear L3
  have L3 := L3n
  clear L3n
  clear hHeld hx4 hx5 KB3
  go_upto_region 3 with fail
  go_wp2_with (first | (refine wpList_load_rowG (by rfl) 36 _ rfl (w.heap.size) rfl VA 36 _ L1.out Tryz.underlying36 rfl (by rw [za]; exact infoHo) ?_) | (refine wpList_load_rowG (by rfl) 36 _ rfl (w.heap.size + 1) rfl VB 36 _ L2.out Tryz.underlying36 rfl (by rw [zb]; exact infoHo) ?_) | (refine wpList_load_rowG (by rfl) 36 _ rfl (w.heap.size + 2) rfl VC 36 _ L3.out Tryz.underlying36 rfl (by rw [zc]; exact infoHo) ?_))
  refine Calls.mono (HCA.out _ KB6.out) ?_
  rintro e y7 ⟨rfl, hc7⟩
  have KB7 : Hid (Below w.heap.size w y7) := KB6.out.trans ((hc7).mono KB6.out.size)
  have L1n : Hid (Lies y7 (w.heap.size) VA 36) := L1.out.below (hc7) L1.out.lt
  clear L1
  have L1 := L1n
  clear L1n
  have L2n : Hid (Lies y7 (w.heap.size + 1) VB 36) := L2.out.below (hc7) L2.out.lt
  clear L2
  have L2 := L2n
  clear L2n
  have L3n : Hid (Lies y7 (w.heap.size + 2) VC 36) := L3.out.below (hc7) L3.out.lt
  clear L3
  have L3 := L3n
  clear L3n
  clear KB6
  clear hc7
  go_wp2_with (first | (refine wpList_load_rowG (by rfl) 36 _ rfl (w.heap.size) rfl VA 36 _ L1.out Tryz.underlying36 rfl (by rw [za]; exact infoHo) ?_) | (refine wpList_load_rowG (by rfl) 36 _ rfl (w.heap.size + 1) rfl VB 36 _ L2.out Tryz.underlying36 rfl (by rw [zb]; exact infoHo) ?_) | (refine wpList_load_rowG (by rfl) 36 _ rfl (w.heap.size + 2) rfl VC 36 _ L3.out Tryz.underlying36 rfl (by rw [zc]; exact infoHo) ?_))
  refine Calls.mono (HCB.out _ KB7.out) ?_
  rintro e y8 ⟨rfl, hc8⟩
  have KB8 : Hid (Below w.heap.size w y8) := KB7.out.trans ((hc8).mono KB7.out.size)
  have L1n : Hid (Lies y8 (w.heap.size) VA 36) := L1.out.below (hc8) L1.out.lt
  clear L1
  have L1 := L1n
  clear L1n
  have L2n : Hid (Lies y8 (w.heap.size + 1) VB 36) := L2.out.below (hc8) L2.out.lt
  clear L2
  have L2 := L2n
  clear L2n
  have L3n : Hid (Lies y8 (w.heap.size + 2) VC 36) := L3.out.below (hc8) L3.out.lt
  clear L3
  have L3 := L3n
  clear L3n
  clear KB7
  clear hc8
  go_upto_region 5 with fail
  refine wp_region_late (fun wx => Below y8.heap.size y8 wx) 11 (by kernel_rfl) (Below.refl _ y8).drew (fun hHeld => ?_)
  refine wpAnyE_tk (i := 0) (d := some 59) (v := .agg VA) rfl (by kernel_rfl) (by kernel_rfl) (by kernel_rfl) rfl (fun _ _ _ h => h) rfl rfl ?hy (by assumption) ?_
  case hy => exact fun w' hSw => exec_load_row 36 _ rfl (w.heap.size) rfl VA 36 _ (L1.out.below hSw L1.out.lt) Tryz.underlying36 rfl (by rw [za]; exact infoHo)
  simp only [Act.put, List.setIfInBounds_toArray, List.set_cons_zero, List.set_cons_succ]
  refine wpAnyE_tk (i := 1) (d := some 60) (v := .agg VA) rfl (by kernel_rfl) (by kernel_rfl) (by kernel_rfl) rfl (fun _ _ _ h => h) rfl rfl ?hy (by assumption) ?_
  case hy => exact fun w' hSw => exec_load_row 36 _ rfl (w.heap.size) rfl VA 36 _ (L1.out.below hSw L1.out.lt) Tryz.underlying36 rfl (by rw [za]; exact infoHo)
  simp only [Act.put, List.setIfInBounds_toArray, List.set_cons_zero, List.set_cons_succ]
  refine wpAnyE_tk (i := 3) (d := some 62) (v := .agg VA) rfl (by kernel_rfl) (by kernel_rfl) (by kernel_rfl) rfl (fun _ _ _ h => h) rfl rfl ?hy (by assumption) ?_
  case hy => exact fun w' hSw => exec_load_row 36 _ rfl (w.heap.size) rfl VA 36 _ (L1.out.below hSw L1.out.lt) Tryz.underlying36 rfl (by rw [za]; exact infoHo)
  simp only [Act.put, List.setIfInBounds_toArray, List.set_cons_zero, List.set_cons_succ]
  refine wpAnyE_on (i := 2) (by kernel_rfl) rfl rfl ?_
  go_simp
  refine Calls.mono (HAA.out _ (KB8.out.trans (((Below.refl _ y8).drew).mono KB8.out.size))) ?_
  rintro e y9 ⟨rfl, hc9⟩
  have hx9 : Below y8.heap.size y8 y9 := ((Below.refl _ y8).drew).trans hc9
  refine ⟨hx9, ?_⟩
  clear hc9
  refine wpAnyE_on (i := 4) (by kernel_rfl) rfl rfl ?_
  go_simp
  refine Calls.mono (HCA.out _ (KB8.out.trans ((hx9).mono KB8.out.size))) ?_
  rintro e y10 ⟨rfl, hc10⟩
  have hx10 : Below y8.heap.size y8 y10 := hx9.trans (hc10.mono hx9.size)
  refine ⟨hx10, ?_⟩
  clear hc10
  refine wpAnyE_tk (i := 5) (d := some 64) (v := ?_) rfl (by kernel_rfl) (by kernel_rfl) (by kernel_rfl) rfl (fun _ _ _ h => h) rfl rfl ?hy (by assumption) ?_
  case hy => (intro w' hSw; (try dsimp only at hSw); go_simp <;> (first | with_reducible rfl | omega | skip))
  simp only [Act.put, List.setIfInBounds_toArray, List.set_cons_zero, List.set_cons_succ]
  refine wpAnyE_tk (i := 6) (d := some 65) (v := ?_) rfl (by kernel_rfl) (by kernel_rfl) (by kernel_rfl) rfl (fun _ _ _ h => h) rfl rfl ?hy (by assumption) ?_
  case hy => (intro w' hSw; (try dsimp only at hSw); go_simp <;> (first | with_reducible rfl | omega | skip))
  simp only [Act.put, List.setIfInBounds_toArray, List.set_cons_zero, List.set_cons_succ]
  refine wpAnyE_tk (i := 7) (d := some 66) (v := ?_) rfl (by kernel_rfl) (by kernel_rfl) (by kernel_rfl) rfl (fun _ _ _ h => h) rfl rfl ?hy (by assumption) ?_
  case hy => (intro w' hSw; (try dsimp only at hSw); go_simp <;> (first | with_reducible rfl | omega | skip))
  simp only [Act.put, List.setIfInBounds_toArray, List.set_cons_zero, List.set_cons_succ]
  refine wpAnyE_on (i := 8) (by kernel_rfl) rfl rfl ?_
  go_simp
  refine Calls.mono (HW.out _ (KB8.out.trans ((hx10).mono KB8.out.size))) ?_
  rintro e y11 ⟨rfl, hc11⟩
  have hx11 : Below y8.heap.size y8 y11 := hx10.trans (hc11.mono hx10.size)
  refine ⟨hx11, ?_⟩
  clear hc11
  refine wpAnyE_tk (i := 9) (d := some 68) (v := ?_) rfl (by kernel_rfl) (by kernel_rfl) (by kernel_rfl) rfl (fun _ _ _ h => h) rfl rfl ?hy (by assumption) ?_
  case hy => (intro w' hSw; (try dsimp only at hSw); go_simp <;> (first | with_reducible rfl | omega | skip))
  simp only [Act.put, List.setIfInBounds_toArray, List.set_cons_zero, List.set_cons_succ]
  refine wpAnyE_tk (i := 10) (d := some 6) (v := ?_) rfl (by kernel_rfl) (by kernel_rfl) (by kernel_rfl) rfl (fun _ _ _ h => h) rfl rfl ?hy (by assumption) ?_
  case hy => (intro w' hSw; (try dsimp only at hSw); go_simp <;> (first | with_reducible rfl | omega | skip))
  simp only [Act.put, List.setIfInBounds_toArray, List.set_cons_zero, List.set_cons_succ]
  refine wpAnyE_done (by kernel_rfl) ?_ _
  have KB12 : Hid (Below w.heap.size w y11) := KB8.out.trans ((hx11).mono KB8.out.size)
  have L1n : Hid (Lies y11 (w.heap.size) VA 36) := L1.out.below (hx11) L1.out.lt
  clear L1
  have L1 := L1n
  clear L1n
  have L2n : Hid (Lies y11 (w.heap.size + 1) VB 36) := L2.out.below (hx11) L2.out.lt
  clear L2
  have L2 := L2n
  clear L2n
  have L3n : Hid (Lies y11 (w.heap.size + 2) VC 36) := L3.out.below (hx11) L3.out.lt
  clear L3
  have L3 := L3n
  clear L3n
  clear hHeld hx9 hx10 hx11 KB8
  go_wp2
  go_ret
  exact ⟨rfl, KB12.out⟩

theorem walk (a : Ho) (oka : a.Ok) (_ : -9223372036854775808 ≤ a.k ∧ a.k ≤ 9223372036854775807) (sa : a.n.length ≤ 140737488351232) (b : Ho) (okb : b.Ok) (_ : -9223372036854775808 ≤ b.k ∧ b.k ≤ 9223372036854775807) (sb : b.n.length ≤ 140737488351232) (c : Ho) (okc : c.Ok) (_ : -9223372036854775808 ≤ c.k ∧ c.k ≤ 9223372036854775807) (sc : c.n.length ≤ 140737488351232) (w : World) (ht : Tc w) :
    Calls Tryz.prog 4 #[hostV a, hostV b, hostV c] w fun e w' => e = .returned (.bool true) ∧ Below w.heap.size w w' := by
  have HT : Hid (∀ wx, Below w.heap.size w wx → Tc wx) := fun wx hb => ht.below hb
  have HAB : Hid (∀ wx, Below w.heap.size w wx → Calls Tryz.prog 12 #[.agg (hostC a), .agg (hostC b)] wx fun e w' => e = .returned (.bool (same asciiL a b)) ∧ Below wx.heap.size wx w') := fun wx hx => sme_any a b oka okb wx (HT.out wx hx) sa sb
  have HBA : Hid (∀ wx, Below w.heap.size w wx → Calls Tryz.prog 12 #[.agg (hostC b), .agg (hostC a)] wx fun e w' => e = .returned (.bool (same asciiL b a)) ∧ Below wx.heap.size wx w') := fun wx hx => sme_any b a okb oka wx (HT.out wx hx) sb sa
  have HBC : Hid (∀ wx, Below w.heap.size w wx → Calls Tryz.prog 12 #[.agg (hostC b), .agg (hostC c)] wx fun e w' => e = .returned (.bool (same asciiL b c)) ∧ Below wx.heap.size wx w') := fun wx hx => sme_any b c okb okc wx (HT.out wx hx) sb sc
  have HAC : Hid (∀ wx, Below w.heap.size w wx → Calls Tryz.prog 12 #[.agg (hostC a), .agg (hostC c)] wx fun e w' => e = .returned (.bool (same asciiL a c)) ∧ Below wx.heap.size wx w') := fun wx hx => sme_any a c oka okc wx (HT.out wx hx) sa sc
  have HAA : Hid (∀ wx, Below w.heap.size w wx → Calls Tryz.prog 12 #[.agg (hostC a), .agg (hostC a)] wx fun e w' => e = .returned (.bool (same asciiL a a)) ∧ Below wx.heap.size wx w') := fun wx hx => sme_any a a oka oka wx (HT.out wx hx) sa sa
  have HCA : Hid (∀ wx, Below w.heap.size w wx → Calls Tryz.prog 13 #[.agg (hostC a), .bool true] wx fun e w' => e = .returned (.int .i64 (check a true : Nat)) ∧ Below wx.heap.size wx w') := fun wx hx => chk_any a oka.len true wx (HT.out wx hx).tb sa
  have HCB : Hid (∀ wx, Below w.heap.size w wx → Calls Tryz.prog 13 #[.agg (hostC b), .bool true] wx fun e w' => e = .returned (.int .i64 (check b true : Nat)) ∧ Below wx.heap.size wx w') := fun wx hx => chk_any b okb.len true wx (HT.out wx hx).tb sb
  have HW : Hid (∀ wx, Below w.heap.size w wx → Calls Tryz.prog 11 #[] wx fun e w' => e = .returned (.bool true) ∧ Below wx.heap.size wx w') := fun wx hx => wakes_any wx (HT.out wx hx)
  have T1 : same asciiL a b = true → same asciiL b c = true → same asciiL a c = true := fun h g => same_trans asciiL h g
  have T2 : same asciiL a b = true → same asciiL a c = true → same asciiL b c = true := fun h g => same_trans asciiL (by rw [same_comm]; exact h) g
  have T3 : same asciiL a b = true → check a true = 0 ∧ check b true = 0 := fun h => by
    rw [same_iff] at h
    exact ⟨h.2.1, h.2.2.1⟩
  rw [same_comm asciiL b a] at HBA
  rw [same_self] at HAA
  have za := hostC_size a oka.len
  have zb := hostC_size b okb.len
  have zc := hostC_size c okc.len
  show Calls Tryz.prog 4 #[.agg (hostC a), .agg (hostC b), .agg (hostC c)] w _
  cases hab : same asciiL a b with
  | false =>
    rw [hab] at HAB HBA
    by_cases hca : check a true = 0
    · rw [decide_eq_true hca] at HAA
      rw [hca] at HCA
      exact walkA _ _ _ za zb zc _ _ _ w HAB HBA HBC HAC HAA HCA HCB HW
    · rw [decide_eq_false hca] at HAA
      exact walkB _ _ _ za zb zc _ _ _ hca _ w HAB HBA HBC HAC HAA HCA HCB HW
  | true =>
    obtain ⟨hca, hcb⟩ := T3 hab
    rw [hab] at HAB HBA
    rw [decide_eq_true hca] at HAA
    rw [hca] at HCA
    rw [hcb] at HCB
    cases hbc : same asciiL b c with
    | true =>
      rw [hbc] at HBC
      rw [T1 hab hbc] at HAC
      exact walkC _ _ _ za zb zc w HAB HBA HBC HAC HAA HCA HCB HW
    | false =>
      have hac : same asciiL a c = false := by
        cases h : same asciiL a c with
        | false => rfl
        | true => rw [T2 hab h] at hbc; cases hbc
      rw [hbc] at HBC
      rw [hac] at HAC
      exact walkD _ _ _ za zb zc w HAB HBA HBC HAC HAA HCA HCB HW

set_option maxRecDepth 100000 in
theorem contract (H : Type) (enc : TypeId × Value → H) (W : World) (base : Nat) (args : Array Value) (ds gs : List (DataW H)) (before : List MemPlace)
    (hval : ∀ (j : Nat) t v, Tryz.f4.params[j]? = some t → args[j]? = some v → Value.okWide Tryz.prog W .any base t v)
    (hW : DataW.Whole enc Tryz.prog Tryz.f4.params.toList Rows.domainOneSpec.vars false W args.toList ds gs before)
    (hsz : (DataW.weightsEach Tryz.prog (Tryz.f4.params.toList ++ (OpenSpec.ofChange Rows.domainOneSpec).bare.plain.varTypes Tryz.prog) (ds ++ gs)).all (· ≤ reachBytes) = true)
    (hL : laidMetH Tryz.prog Rows.domainOneRow.laid W) (hsh : W.ShapedOpen Tryz.prog) :
    Calls Tryz.prog 4 args W fun e W' => ∃ v, e = .returned v ∧ Rows.domainOneSpec.post enc Tryz.prog Tryz.f4 false true false false W args v W' := by
  have hW' := hW
  obtain ⟨p, q, hA0, hV, rfl, hfz, hnd⟩ := hW
  have hA : DataW.TrodAll enc Tryz.prog W 0 (fun _ => true) true Tryz.f4.params.toList args.toList ds p := hA0
  rw [Tryz.params4] at hA hval hsz
  obtain ⟨v0, vs0, d0, ds0, p0, q0, hargs, rfl, rfl, h0, r0⟩ := trodAll_cons hA
  obtain ⟨v1, vs1, d1, ds1, p1, q1, rfl, rfl, rfl, h1, r1⟩ := trodAll_cons r0
  obtain ⟨v2, vs2, d2, ds2, p2, q2, rfl, rfl, rfl, h2, r2⟩ := trodAll_cons r1
  obtain ⟨rfl, rfl, rfl⟩ := trodAll_nil r2
  obtain rfl : args = #[v0, v1, v2] := by cases args; simp_all
  obtain ⟨rfl, rfl⟩ := trodVars_none hV
  have k0 := h0
  have lt0 : ∀ x ∈ p0, x.block < W.heap.size := by obtain ⟨m, hm⟩ := k0; exact DataW.trod_lt m _ _ _ hm
  obtain ⟨a0, rfl, b0, e0⟩ := open_host (hval 0 36 v0 rfl rfl) h0
  have k1 := h1
  have lt1 : ∀ x ∈ p1, x.block < W.heap.size := by obtain ⟨m, hm⟩ := k1; exact DataW.trod_lt m _ _ _ hm
  obtain ⟨a1, rfl, b1, e1⟩ := open_host (hval 1 36 v1 rfl rfl) h1
  have k2 := h2
  have lt2 : ∀ x ∈ p2, x.block < W.heap.size := by obtain ⟨m, hm⟩ := k2; exact DataW.trod_lt m _ _ _ hm
  obtain ⟨a2, rfl, b2, e2⟩ := open_host (hval 2 36 v2 rfl rfl) h2
  clear hA0
  have s0 := host_size (j := 0) hsz rfl rfl e0
  have s1 := host_size (j := 1) hsz rfl rfl e1
  have s2 := host_size (j := 2) hsz rfl rfl e2
  refine (walk a0 b0.1 b0.2 s0 a1 b1.1 b1.2 s1 a2 b2.1 b2.2 s2 W (tabs8_of hL hsh)).mono fun e W' ⟨he, bel⟩ => ?_
  subst he
  exact ⟨_, rfl, _, _, _, [], _, [], hW', trodAll_mk1 (shut_bool Tryz.underlying4 _), trodAll_cons_mk (Below.trod laidOut (by kernel_rfl) (of_decide_eq_true (by kernel_rfl)) k0 bel lt0) (trodAll_cons_mk (Below.trod laidOut (by kernel_rfl) (of_decide_eq_true (by kernel_rfl)) k1 bel lt1) (trodAll_cons_mk (Below.trod laidOut (by kernel_rfl) (of_decide_eq_true (by kernel_rfl)) k2 bel lt2) trodAll_mk0)), rfl, bel.frame _, fun h => by cases h⟩

set_option maxRecDepth 100000 in
theorem laid_met (os : Os) : laidMet Tryz.prog Rows.domainOneRow.laid ((laidWorld8 os).forCall (fun _ _ => 0) ⟨#[], #[.agg #[.int .i64 0, .string ByteArray.empty, .int .u8 0, .int .u8 0, .int .u8 0, .int .u8 0, .int .u8 0, .int .u8 0, .int .u8 0, .int .u8 0, .int .u8 0, .int .u8 0, .int .u8 0, .int .u8 0, .int .u8 0, .int .u8 0, .int .u8 0, .int .u8 0], .agg #[.int .i64 0, .string ByteArray.empty, .int .u8 0, .int .u8 0, .int .u8 0, .int .u8 0, .int .u8 0, .int .u8 0, .int .u8 0, .int .u8 0, .int .u8 0, .int .u8 0, .int .u8 0, .int .u8 0, .int .u8 0, .int .u8 0, .int .u8 0, .int .u8 0], .agg #[.int .i64 0, .string ByteArray.empty, .int .u8 0, .int .u8 0, .int .u8 0, .int .u8 0, .int .u8 0, .int .u8 0, .int .u8 0, .int .u8 0, .int .u8 0, .int .u8 0, .int .u8 0, .int .u8 0, .int .u8 0, .int .u8 0, .int .u8 0, .int .u8 0]], []⟩).memory :=
  laidMet_of_run' 8 (by kernel_rfl) (by kernel_rfl)
set_option maxRecDepth 100000 in
theorem reads (os : Os) {H : Type} (enc : TypeId × Value → H) : ∃ places, DataW.whole enc Tryz.prog ((laidWorld8 os).forCall (fun _ _ => 0) ⟨#[], #[.agg #[.int .i64 0, .string ByteArray.empty, .int .u8 0, .int .u8 0, .int .u8 0, .int .u8 0, .int .u8 0, .int .u8 0, .int .u8 0, .int .u8 0, .int .u8 0, .int .u8 0, .int .u8 0, .int .u8 0, .int .u8 0, .int .u8 0, .int .u8 0, .int .u8 0], .agg #[.int .i64 0, .string ByteArray.empty, .int .u8 0, .int .u8 0, .int .u8 0, .int .u8 0, .int .u8 0, .int .u8 0, .int .u8 0, .int .u8 0, .int .u8 0, .int .u8 0, .int .u8 0, .int .u8 0, .int .u8 0, .int .u8 0, .int .u8 0, .int .u8 0], .agg #[.int .i64 0, .string ByteArray.empty, .int .u8 0, .int .u8 0, .int .u8 0, .int .u8 0, .int .u8 0, .int .u8 0, .int .u8 0, .int .u8 0, .int .u8 0, .int .u8 0, .int .u8 0, .int .u8 0, .int .u8 0, .int .u8 0, .int .u8 0, .int .u8 0]], []⟩).memory Tryz.f4.params.toList Rows.domainOneSpec.vars false #[Value.agg #[.int .i64 0, .string ByteArray.empty, .int .u8 0, .int .u8 0, .int .u8 0, .int .u8 0, .int .u8 0, .int .u8 0, .int .u8 0, .int .u8 0, .int .u8 0, .int .u8 0, .int .u8 0, .int .u8 0, .int .u8 0, .int .u8 0, .int .u8 0, .int .u8 0], Value.agg #[.int .i64 0, .string ByteArray.empty, .int .u8 0, .int .u8 0, .int .u8 0, .int .u8 0, .int .u8 0, .int .u8 0, .int .u8 0, .int .u8 0, .int .u8 0, .int .u8 0, .int .u8 0, .int .u8 0, .int .u8 0, .int .u8 0, .int .u8 0, .int .u8 0], Value.agg #[.int .i64 0, .string ByteArray.empty, .int .u8 0, .int .u8 0, .int .u8 0, .int .u8 0, .int .u8 0, .int .u8 0, .int .u8 0, .int .u8 0, .int .u8 0, .int .u8 0, .int .u8 0, .int .u8 0, .int .u8 0, .int .u8 0, .int .u8 0, .int .u8 0]].toList 8 = some ([.agg [.lit (.int .i64 0), .lit (.string []), .agg [.lit (.int .u8 0), .lit (.int .u8 0), .lit (.int .u8 0), .lit (.int .u8 0), .lit (.int .u8 0), .lit (.int .u8 0), .lit (.int .u8 0), .lit (.int .u8 0), .lit (.int .u8 0), .lit (.int .u8 0), .lit (.int .u8 0), .lit (.int .u8 0), .lit (.int .u8 0), .lit (.int .u8 0), .lit (.int .u8 0), .lit (.int .u8 0)]], .agg [.lit (.int .i64 0), .lit (.string []), .agg [.lit (.int .u8 0), .lit (.int .u8 0), .lit (.int .u8 0), .lit (.int .u8 0), .lit (.int .u8 0), .lit (.int .u8 0), .lit (.int .u8 0), .lit (.int .u8 0), .lit (.int .u8 0), .lit (.int .u8 0), .lit (.int .u8 0), .lit (.int .u8 0), .lit (.int .u8 0), .lit (.int .u8 0), .lit (.int .u8 0), .lit (.int .u8 0)]], .agg [.lit (.int .i64 0), .lit (.string []), .agg [.lit (.int .u8 0), .lit (.int .u8 0), .lit (.int .u8 0), .lit (.int .u8 0), .lit (.int .u8 0), .lit (.int .u8 0), .lit (.int .u8 0), .lit (.int .u8 0), .lit (.int .u8 0), .lit (.int .u8 0), .lit (.int .u8 0), .lit (.int .u8 0), .lit (.int .u8 0), .lit (.int .u8 0), .lit (.int .u8 0), .lit (.int .u8 0)]]], [], places) :=
  ⟨[], by kernel_rfl⟩

set_option maxRecDepth 100000 in
theorem lifted (os : Os) (started : os.Started) (H : Type) (enc : TypeId × Value → H) (F : Stop.Interp) :
    ReturnsInHanded {} Tryz.checked os 4 .any ((OpenSpec.ofChange Rows.domainOneSpec).preRow enc Tryz.prog Tryz.f4 Rows.domainOneRow.domain false Rows.domainOneRow.laid) (((OpenSpec.ofChange Rows.domainOneSpec).at F).post enc Tryz.prog Tryz.f4 false true false false) := by
  obtain ⟨places, hx⟩ := reads os enc
  refine returnsInHanded_of_row (C := Tryz.checked) (s := OpenSpec.ofChange Rows.domainOneSpec) own started (by kernel_rfl) Tryz.func4
    (witness_row_at (enc := enc) (C := Tryz.checked) false (laidWorld8 os) #[.agg #[.int .i64 0, .string ByteArray.empty, .int .u8 0, .int .u8 0, .int .u8 0, .int .u8 0, .int .u8 0, .int .u8 0, .int .u8 0, .int .u8 0, .int .u8 0, .int .u8 0, .int .u8 0, .int .u8 0, .int .u8 0, .int .u8 0, .int .u8 0, .int .u8 0], .agg #[.int .i64 0, .string ByteArray.empty, .int .u8 0, .int .u8 0, .int .u8 0, .int .u8 0, .int .u8 0, .int .u8 0, .int .u8 0, .int .u8 0, .int .u8 0, .int .u8 0, .int .u8 0, .int .u8 0, .int .u8 0, .int .u8 0, .int .u8 0, .int .u8 0], .agg #[.int .i64 0, .string ByteArray.empty, .int .u8 0, .int .u8 0, .int .u8 0, .int .u8 0, .int .u8 0, .int .u8 0, .int .u8 0, .int .u8 0, .int .u8 0, .int .u8 0, .int .u8 0, .int .u8 0, .int .u8 0, .int .u8 0, .int .u8 0, .int .u8 0]] rfl (by kernel_rfl) (by kernel_rfl) (by kernel_rfl)
      (OpenSpec.preRow_of_cond 8 hx (by kernel_rfl) (fun k hk => by cases hk) (by kernel_rfl) (laid_met os))) ?_
  intro W base args ds gs before hval hW _ _ hsz hL hsh _
  exact contract H enc W base args ds gs before hval hW hsz hL hsh

theorem said : Rows.DomainOneSaid :=
  OpenClaim.holds_of_cond 4 Tryz.f4 rfl rfl rfl rfl rfl rfl rfl ⟨rfl, rfl, rfl, rfl, rfl⟩ rfl rfl rfl rfl rfl (by kernel_rfl) Tryz.func4 (by kernel_rfl)
    (of_decide_eq_true (by kernel_rfl)) (by unfold Func.isWrapper; first | (rw [if_pos (by decide +kernel)]; kernel_rfl) | (rw [if_neg (by decide +kernel)]; exact ⟨rfl, rfl⟩))
    (fun os started H enc _ F => by rw [OpenClaim.pre_eq_preRow]; exact lifted os started H enc F)

/-- No parameter wants a stand-in; the program's own looks are off. -/
theorem plain (f : FuncId) (fn : Func) (hf : Tryz.pinned.checked.prog.funcNamed "posthorn/posthornlaw08.DomainOne" = some f) (hfn : Tryz.pinned.checked.prog.funcs[f]? = some fn) :
    true = Tryz.pinned.checked.prog.looks [] ∧ ∀ (j : Nat) t, fn.params[j]? = some t → Tryz.pinned.checked.prog.wantsStandIn t = false := by
  obtain rfl : f = 4 := Option.some.inj ((show Tryz.prog.funcNamed "posthorn/posthornlaw08.DomainOne" = some 4 by kernel_rfl).symm.trans hf) |>.symm
  obtain rfl : fn = Tryz.f4 := (Option.some.inj (Tryz.func4.symm.trans hfn)).symm
  refine ⟨by kernel_rfl, fun j t ht => ?_⟩
  rw [Tryz.params4] at ht
  have hm : t ∈ [36, 36, 36] := by simpa using Array.mem_of_getElem? ht
  have hall : ([36, 36, 36].all fun u => !Tryz.prog.wantsStandIn u) = true := by kernel_rfl
  exact (show Tryz.prog.wantsStandIn t = false by simpa using List.all_eq_true.1 hall t hm)

/-- The card. -/
theorem card : Rows.DomainOneCardSaid :=
  Claim7.holds_tied_plain_at .later [] _ _ _ _ said (fun _ h => by cases h) (by kernel_rfl) (fun _ h => by cases h) domainOne_row_tie rfl ⟨rfl, rfl⟩ (by kernel_rfl) rfl plain (by kernel_rfl)
end Go.Proofs.YtnlgbopdbihnjabGreatDoor.domainOne
namespace Go.Proofs.YtnlgbopdbihnjabGreatDoor
theorem domainOne_card : Rows.DomainOneCardSaid := domainOne.card
#print axioms domainOne_card
end Go.Proofs.YtnlgbopdbihnjabGreatDoor
