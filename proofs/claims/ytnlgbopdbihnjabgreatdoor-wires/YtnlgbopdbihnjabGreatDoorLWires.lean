/-
  For every host the statement DomainWires returns true.
-/
import Derived.Test.YtnlgbopdbihnjabGreatDoorLb8
import Derived.ProofKit
import Derived.ChangeMaps5
import Derived.OpenShut
import Derived.ShutString
import Derived.ChangeOld
import Derived.SizedLaws
namespace Go.Proofs.YtnlgbopdbihnjabGreatDoor.domainWires
open Go.ChangeShapes Go.WideShapes Go.ChangeAt Go.RowKit

set_option maxHeartbeats 16000000 in
set_option maxRecDepth 100000 in
theorem walkA (VH VX : Array Value) (h x : Ho) (hVH : VH = hostC h) (hVX : VX = hostC x) (hlh : h.a.length = 16) (hlx : x.a.length = 16) (hax : x.a = h.a) (k : Int) (T : ByteArray) (hT : T.size ≤ 140737488351232) (HX0 : Hid (VX[0]? = some (.int .i64 k))) (HX1 : Hid (VX[1]? = some (.string T))) (HH0 : Hid (VH[0]? = some (.int .i64 k)))
    (hb : Hid (k = 1 → ∀ j (hj : j < T.size), T[j].toNat < 128 ∧ ¬ (65 ≤ T[j].toNat ∧ T[j].toNat ≤ 90))) (w : World)
    (HAS : Hid (∀ wx, Below w.heap.size w wx → Calls Tryz.prog 14 #[.agg VH] wx fun e w' => e = .returned (.tuple #[.agg VX, .int .i64 0]) ∧ Below wx.heap.size wx w')) (HAX : Hid (∀ wx, Below w.heap.size w wx → Calls Tryz.prog 14 #[.agg VX] wx fun e w' => e = .returned (.tuple #[.agg VX, .int .i64 0]) ∧ Below wx.heap.size wx w'))
    (HCX : Hid (∀ wx, Below w.heap.size w wx → Calls Tryz.prog 13 #[.agg VX, .bool false] wx fun e w' => e = .returned (.int .i64 0) ∧ Below wx.heap.size wx w')) (HSM : Hid (∀ wx, Below w.heap.size w wx → Calls Tryz.prog 12 #[.agg VX, .agg VH] wx fun e w' => e = .returned (.bool true) ∧ Below wx.heap.size wx w')) (HW : Hid (∀ wx, Below w.heap.size w wx → Calls Tryz.prog 11 #[] wx fun e w' => e = .returned (.bool true) ∧ Below wx.heap.size wx w')) :
    Calls Tryz.prog 5 #[.agg VH] w fun e w' => e = .returned (.bool true) ∧ Below w.heap.size w w' := by
  have zh : VH.size = 18 := by rw [hVH]; exact hostC_size h hlh
  have zx : VX.size = 18 := by rw [hVX]; exact hostC_size x hlx
  have ox : Hid (VX.all (·.oneCell') = true ∧ (#[.int .i64 0, .string ⟨#[]⟩, .int .u8 0, .int .u8 0, .int .u8 0, .int .u8 0, .int .u8 0, .int .u8 0, .int .u8 0, .int .u8 0, .int .u8 0, .int .u8 0, .int .u8 0, .int .u8 0, .int .u8 0, .int .u8 0, .int .u8 0, .int .u8 0] : Array Value).size = VX.size) := ⟨by rw [hVX]; exact hostC_one x, by rw [zx]; rfl⟩
  have EH : Hid (VH = hostC h) := hVH
  have EX : Hid (VX = hostC x) := hVX
  have L1 : Hid (Lies (w.alloc (.cells VH 36)) w.heap.size VH 36) := Lies.new w _ _
  have KB : Hid (Below w.heap.size w (w.alloc (.cells VH 36))) := (Below.refl _ _).alloc (Nat.le_refl _) _
  clear hVH hVX
  go_enter Tryz.func5, Tryz.ntmps5
  go_upto_region 1 with fail
  generalize w.alloc (.cells VH 36) = v0 at L1 KB ⊢
  go_wp2_with (first | (refine wpList_load_rowG (by rfl) 36 _ rfl (w.heap.size) rfl VH 36 _ L1.out Tryz.underlying36 rfl (by rw [zh]; exact infoHo) ?_))
  refine Calls.mono (HAS.out _ KB.out) ?_
  rintro e y1 ⟨rfl, hc⟩
  have KB1 : Hid (Below w.heap.size w y1) := KB.out.trans ((hc).mono KB.out.size)
  have L1n : Hid (Lies y1 (w.heap.size) VH 36) := L1.out.below (hc) L1.out.lt
  clear L1
  have L1 := L1n
  clear L1n
  clear KB
  clear hc
  have A : Hid (Lies (y1.alloc (.cells #[.int .i64 0, .string ⟨#[]⟩, .int .u8 0, .int .u8 0, .int .u8 0, .int .u8 0, .int .u8 0, .int .u8 0, .int .u8 0, .int .u8 0, .int .u8 0, .int .u8 0, .int .u8 0, .int .u8 0, .int .u8 0, .int .u8 0, .int .u8 0, .int .u8 0] 36)) y1.heap.size #[.int .i64 0, .string ⟨#[]⟩, .int .u8 0, .int .u8 0, .int .u8 0, .int .u8 0, .int .u8 0, .int .u8 0, .int .u8 0, .int .u8 0, .int .u8 0, .int .u8 0, .int .u8 0, .int .u8 0, .int .u8 0, .int .u8 0, .int .u8 0, .int .u8 0] 36) := Lies.new y1 _ _
  have M1 : Hid (Lies ((y1.alloc (.cells #[.int .i64 0, .string ⟨#[]⟩, .int .u8 0, .int .u8 0, .int .u8 0, .int .u8 0, .int .u8 0, .int .u8 0, .int .u8 0, .int .u8 0, .int .u8 0, .int .u8 0, .int .u8 0, .int .u8 0, .int .u8 0, .int .u8 0, .int .u8 0, .int .u8 0] 36)).setRow y1.heap.size VX) y1.heap.size VX 36) := A.out.row _
  have BB : Hid (Below y1.heap.size y1 ((y1.alloc (.cells #[.int .i64 0, .string ⟨#[]⟩, .int .u8 0, .int .u8 0, .int .u8 0, .int .u8 0, .int .u8 0, .int .u8 0, .int .u8 0, .int .u8 0, .int .u8 0, .int .u8 0, .int .u8 0, .int .u8 0, .int .u8 0, .int .u8 0, .int .u8 0, .int .u8 0] 36)).setRow y1.heap.size VX)) := below_row ((Below.refl _ _).alloc (Nat.le_refl _) _) (Nat.le_refl _) _
  have KB2 : Hid (Below w.heap.size w ((y1.alloc (.cells #[.int .i64 0, .string ⟨#[]⟩, .int .u8 0, .int .u8 0, .int .u8 0, .int .u8 0, .int .u8 0, .int .u8 0, .int .u8 0, .int .u8 0, .int .u8 0, .int .u8 0, .int .u8 0, .int .u8 0, .int .u8 0, .int .u8 0, .int .u8 0, .int .u8 0] 36)).setRow y1.heap.size VX)) := KB1.out.trans ((BB.out).mono KB1.out.size)
  have L1n : Hid (Lies ((y1.alloc (.cells #[.int .i64 0, .string ⟨#[]⟩, .int .u8 0, .int .u8 0, .int .u8 0, .int .u8 0, .int .u8 0, .int .u8 0, .int .u8 0, .int .u8 0, .int .u8 0, .int .u8 0, .int .u8 0, .int .u8 0, .int .u8 0, .int .u8 0, .int .u8 0, .int .u8 0] 36)).setRow y1.heap.size VX) (w.heap.size) VH 36) := L1.out.below (BB.out) L1.out.lt
  clear L1
  have L1 := L1n
  clear L1n
  clear KB1
  go_upto_region 4 with (refine wpList_store_row rfl 36 _ _ rfl y1.heap.size rfl _ VX rfl 36 A.out (by rw [zx]; exact infoHo) ox.out.2 ox.out.1 rfl ?_)
  generalize hv1 : (y1.alloc (.cells #[.int .i64 0, .string ⟨#[]⟩, .int .u8 0, .int .u8 0, .int .u8 0, .int .u8 0, .int .u8 0, .int .u8 0, .int .u8 0, .int .u8 0, .int .u8 0, .int .u8 0, .int .u8 0, .int .u8 0, .int .u8 0, .int .u8 0, .int .u8 0, .int .u8 0] 36)).setRow y1.heap.size VX = v1 at M1 KB2 L1 ⊢
  clear hv1 A BB
  have c0 : v1.cell? ⟨y1.heap.size, 0, none⟩ = some (.int .i64 k) := by rw [M1.out.cell 0, HX0.out]
  have c1 : v1.cell? ⟨y1.heap.size, 1, none⟩ = some (.string T) := by rw [M1.out.cell 1, HX1.out]
  go_wp2_with fail
  go_loopw [5] (fun i wr => ∃ j : Nat, j ≤ T.size ∧ i = .int .i64 j ∧ Hid (wr = v1)) (fun i _ => T.size - (intOf i).toNat)
  case atStart => exact ⟨0, Nat.zero_le _, rfl, rfl⟩
  obtain ⟨j, hj, rfl, HV⟩ := hrel
  obtain rfl : wr = v1 := HV.out
  clear HV
  by_cases hlt : j < T.size
  case pos =>
    by_cases hk1 : k = 1
    case pos =>
      obtain ⟨q1, q2⟩ := hb.out hk1 j hlt
      have hkb : (k == 1) = true := by rw [beq_iff_eq]; exact hk1
      have q3 : ¬ (127 : Int) < (T[j].toNat : Int) := by omega
      by_cases q4 : 65 ≤ T[j].toNat
      · have q5 : ¬ T[j].toNat ≤ 90 := by omega
        clear q2
        go_wp2
        go_roundw
        case rel => exact ⟨j + 1, by omega, by go_num, trivial⟩
        case measure => simp [intOf]; omega
      · clear q2
        go_wp2
        go_roundw
        case rel => exact ⟨j + 1, by omega, by go_num, trivial⟩
        case measure => simp [intOf]; omega
    have hkb : (k == 1) = false := by rw [beq_eq_false_iff_ne]; exact hk1
    go_upto_region 9 with fail
    clear c0 c1
    go_wp2_with (first | (refine wpList_load_rowG (by rfl) 36 _ rfl (y1.heap.size) rfl VX 36 _ M1.out Tryz.underlying36 rfl (by rw [zx]; exact infoHo) ?_))
    refine Calls.mono (HAX.out _ KB2.out) ?_
    rintro e y2 ⟨rfl, hc⟩
    have KB3 : Hid (Below w.heap.size w y2) := KB2.out.trans ((hc).mono KB2.out.size)
    have L1n : Hid (Lies y2 (w.heap.size) VH 36) := L1.out.below (hc) L1.out.lt
    clear L1
    have L1 := L1n
    clear L1n
    have M1n : Hid (Lies y2 (y1.heap.size) VX 36) := M1.out.below (hc) M1.out.lt
    clear M1
    have M1 := M1n
    clear M1n
    clear KB2
    clear hc
    have A : Hid (Lies (y2.alloc (.cells #[.int .i64 0, .string ⟨#[]⟩, .int .u8 0, .int .u8 0, .int .u8 0, .int .u8 0, .int .u8 0, .int .u8 0, .int .u8 0, .int .u8 0, .int .u8 0, .int .u8 0, .int .u8 0, .int .u8 0, .int .u8 0, .int .u8 0, .int .u8 0, .int .u8 0] 36)) y2.heap.size #[.int .i64 0, .string ⟨#[]⟩, .int .u8 0, .int .u8 0, .int .u8 0, .int .u8 0, .int .u8 0, .int .u8 0, .int .u8 0, .int .u8 0, .int .u8 0, .int .u8 0, .int .u8 0, .int .u8 0, .int .u8 0, .int .u8 0, .int .u8 0, .int .u8 0] 36) := Lies.new y2 _ _
    have M2 : Hid (Lies ((y2.alloc (.cells #[.int .i64 0, .string ⟨#[]⟩, .int .u8 0, .int .u8 0, .int .u8 0, .int .u8 0, .int .u8 0, .int .u8 0, .int .u8 0, .int .u8 0, .int .u8 0, .int .u8 0, .int .u8 0, .int .u8 0, .int .u8 0, .int .u8 0, .int .u8 0, .int .u8 0] 36)).setRow y2.heap.size VX) y2.heap.size VX 36) := A.out.row _
    have BB : Hid (Below y2.heap.size y2 ((y2.alloc (.cells #[.int .i64 0, .string ⟨#[]⟩, .int .u8 0, .int .u8 0, .int .u8 0, .int .u8 0, .int .u8 0, .int .u8 0, .int .u8 0, .int .u8 0, .int .u8 0, .int .u8 0, .int .u8 0, .int .u8 0, .int .u8 0, .int .u8 0, .int .u8 0, .int .u8 0] 36)).setRow y2.heap.size VX)) := below_row ((Below.refl _ _).alloc (Nat.le_refl _) _) (Nat.le_refl _) _
    have KB4 : Hid (Below w.heap.size w ((y2.alloc (.cells #[.int .i64 0, .string ⟨#[]⟩, .int .u8 0, .int .u8 0, .int .u8 0, .int .u8 0, .int .u8 0, .int .u8 0, .int .u8 0, .int .u8 0, .int .u8 0, .int .u8 0, .int .u8 0, .int .u8 0, .int .u8 0, .int .u8 0, .int .u8 0, .int .u8 0] 36)).setRow y2.heap.size VX)) := KB3.out.trans ((BB.out).mono KB3.out.size)
    have L1n : Hid (Lies ((y2.alloc (.cells #[.int .i64 0, .string ⟨#[]⟩, .int .u8 0, .int .u8 0, .int .u8 0, .int .u8 0, .int .u8 0, .int .u8 0, .int .u8 0, .int .u8 0, .int .u8 0, .int .u8 0, .int .u8 0, .int .u8 0, .int .u8 0, .int .u8 0, .int .u8 0, .int .u8 0] 36)).setRow y2.heap.size VX) (w.heap.size) VH 36) := L1.out.below (BB.out) L1.out.lt
    clear L1
    have L1 := L1n
    clear L1n
    have M1n : Hid (Lies ((y2.alloc (.cells #[.int .i64 0, .string ⟨#[]⟩, .int .u8 0, .int .u8 0, .int .u8 0, .int .u8 0, .int .u8 0, .int .u8 0, .int .u8 0, .int .u8 0, .int .u8 0, .int .u8 0, .int .u8 0, .int .u8 0, .int .u8 0, .int .u8 0, .int .u8 0, .int .u8 0] 36)).setRow y2.heap.size VX) (y1.heap.size) VX 36) := M1.out.below (BB.out) M1.out.lt
    clear M1
    have M1 := M1n
    clear M1n
    clear KB3
    go_upto_region 10 with (refine wpList_store_row rfl 36 _ _ rfl y2.heap.size rfl _ VX rfl 36 A.out (by rw [zx]; exact infoHo) ox.out.2 ox.out.1 rfl ?_)
    generalize hv2 : (y2.alloc (.cells #[.int .i64 0, .string ⟨#[]⟩, .int .u8 0, .int .u8 0, .int .u8 0, .int .u8 0, .int .u8 0, .int .u8 0, .int .u8 0, .int .u8 0, .int .u8 0, .int .u8 0, .int .u8 0, .int .u8 0, .int .u8 0, .int .u8 0, .int .u8 0, .int .u8 0] 36)).setRow y2.heap.size VX = v2 at M2 KB4 L1 M1 ⊢
    clear hv2 A BB
    refine wp_region_lit ?_
    refine wpList_load_rowG (by rfl) 36 _ rfl (y1.heap.size) rfl VX 36 _ M1.out Tryz.underlying36 rfl (by rw [zx]; exact infoHo) ?_
    simp only [Act.put, List.setIfInBounds_toArray, List.set_cons_zero, List.set_cons_succ]
    refine wpList_onG (by rfl) ?_
    go_simp
    refine Calls.mono (HCX.out _ KB4.out) ?_
    rintro e y101 ⟨rfl, hc101⟩
    have hb101 : Hid (Below v2.heap.size v2 y101) := hc101
    have KB101 : Hid (Below w.heap.size w y101) := KB4.out.trans ((hc101).mono KB4.out.size)
    have L1n : Hid (Lies y101 (w.heap.size) VH 36) := L1.out.below (hc101) L1.out.lt
    clear L1
    have L1 := L1n
    clear L1n
    have M1n : Hid (Lies y101 (y1.heap.size) VX 36) := M1.out.below (hc101) M1.out.lt
    clear M1
    have M1 := M1n
    clear M1n
    have M2n : Hid (Lies y101 (y2.heap.size) VX 36) := M2.out.below (hc101) M2.out.lt
    clear M2
    have M2 := M2n
    clear M2n
    clear KB4
    clear hc101
    refine wpList_yieldG (.bool true) (by rfl) ?hy ?_
    case hy => (go_simp <;> (first | with_reducible rfl | omega | skip))
    simp only [Act.put, List.setIfInBounds_toArray, List.set_cons_zero, List.set_cons_succ]
    refine wpList_yieldG (.bool true) (by rfl) ?hy ?_
    case hy => (go_simp <;> (first | with_reducible rfl | omega | skip))
    simp only [Act.put, List.setIfInBounds_toArray, List.set_cons_zero, List.set_cons_succ]
    refine wpList_load_rowG (by rfl) 36 _ rfl (y1.heap.size) rfl VX 36 _ M1.out Tryz.underlying36 rfl (by rw [zx]; exact infoHo) ?_
    simp only [Act.put, List.setIfInBounds_toArray, List.set_cons_zero, List.set_cons_succ]
    refine wpList_load_rowG (by rfl) 36 _ rfl (w.heap.size) rfl VH 36 _ L1.out Tryz.underlying36 rfl (by rw [zh]; exact infoHo) ?_
    simp only [Act.put, List.setIfInBounds_toArray, List.set_cons_zero, List.set_cons_succ]
    refine wpList_onG (by rfl) ?_
    go_simp
    refine Calls.mono (HSM.out _ KB101.out) ?_
    rintro e y102 ⟨rfl, hc102⟩
    have hb102 : Hid (Below v2.heap.size v2 y102) := (hb101.out).trans ((hc102).mono (hb101.out).size)
    have KB102 : Hid (Below w.heap.size w y102) := KB101.out.trans ((hc102).mono KB101.out.size)
    have L1n : Hid (Lies y102 (w.heap.size) VH 36) := L1.out.below (hc102) L1.out.lt
    clear L1
    have L1 := L1n
    clear L1n
    have M1n : Hid (Lies y102 (y1.heap.size) VX 36) := M1.out.below (hc102) M1.out.lt
    clear M1
    have M1 := M1n
    clear M1n
    have M2n : Hid (Lies y102 (y2.heap.size) VX 36) := M2.out.below (hc102) M2.out.lt
    clear M2
    have M2 := M2n
    clear M2n
    clear KB101
    clear hc102
    refine wpList_yieldG (.bool true) (by rfl) ?hy ?_
    case hy => (go_simp <;> (first | with_reducible rfl | omega | skip))
    simp only [Act.put, List.setIfInBounds_toArray, List.set_cons_zero, List.set_cons_succ]
    refine wpList_yieldG (.bool true) (by rfl) ?hy ?_
    case hy => (go_simp <;> (first | with_reducible rfl | omega | skip))
    simp only [Act.put, List.setIfInBounds_toArray, List.set_cons_zero, List.set_cons_succ]
    refine wpList_load_rowG (by rfl) 36 _ rfl (y2.heap.size) rfl VX 36 _ M2.out Tryz.underlying36 rfl (by rw [zx]; exact infoHo) ?_
    simp only [Act.put, List.setIfInBounds_toArray, List.set_cons_zero, List.set_cons_succ]
    refine wpList_load_rowG (by rfl) 36 _ rfl (y1.heap.size) rfl VX 36 _ M1.out Tryz.underlying36 rfl (by rw [zx]; exact infoHo) ?_
    simp only [Act.put, List.setIfInBounds_toArray, List.set_cons_zero, List.set_cons_succ]
    refine wpList_yieldG (.bool true) (by rfl) ?hy ?_
    case hy => 
      refine Eq.trans (exec_eql_host _ _ _ rfl x x ?_ ?_ hlx hlx) (by rw [decide_eq_true rfl])
      · (show Value.agg VX = _; rw [EX.out]; rfl)
      · (show Value.agg VX = _; rw [EX.out]; rfl)
    simp only [Act.put, List.setIfInBounds_toArray, List.set_cons_zero, List.set_cons_succ]
    refine wpList_yieldG (.bool true) (by rfl) ?hy ?_
    case hy => (go_simp <;> (first | with_reducible rfl | omega | skip))
    simp only [Act.put, List.setIfInBounds_toArray, List.set_cons_zero, List.set_cons_succ]
    refine wpList_yieldG (.bool true) (by rfl) ?hy ?_
    case hy => (go_simp <;> (first | with_reducible rfl | omega | skip))
    simp only [Act.put, List.setIfInBounds_toArray, List.set_cons_zero, List.set_cons_succ]
    refine wpList_yieldG ?_ (by rfl) ?hy ?_
    case hy => (go_simp <;> (first | with_reducible rfl | omega | skip))
    simp only [Act.put, List.setIfInBounds_toArray, List.set_cons_zero, List.set_cons_succ]
    refine wpList_yieldG (.bool true) (by rfl) ?hy ?_
    case hy => (go_simp <;> (first | with_reducible rfl | omega | skip))
    simp only [Act.put, List.setIfInBounds_toArray, List.set_cons_zero, List.set_cons_succ]
    refine wpList_yieldG (.bool true) (by rfl) ?hy ?_
    case hy => (go_simp <;> (first | with_reducible rfl | omega | skip))
    simp only [Act.put, List.setIfInBounds_toArray, List.set_cons_zero, List.set_cons_succ]
    refine wpList_yieldG (.bool true) (by rfl) ?hy ?_
    case hy => (go_simp <;> (first | with_reducible rfl | omega | skip))
    simp only [Act.put, List.setIfInBounds_toArray, List.set_cons_zero, List.set_cons_succ]
    refine wpList_yieldG ?_ (by rfl) ?hy ?_
    case hy => (go_simp <;> (first | with_reducible rfl | omega | skip))
    simp only [Act.put, List.setIfInBounds_toArray, List.set_cons_zero, List.set_cons_succ]
    have c0 : y102.cell? ⟨y1.heap.size, 0, none⟩ = some (.int .i64 k) := by rw [M1.out.cell 0, HX0.out]
    refine wpList_yieldG (.int .i64 k) (by rfl) ?hy ?_
    case hy => (go_simp <;> (first | with_reducible rfl | omega | skip))
    clear c0
    simp only [Act.put, List.setIfInBounds_toArray, List.set_cons_zero, List.set_cons_succ]
    refine wpList_yieldG ?_ (by rfl) ?hy ?_
    case hy => (go_simp <;> (first | with_reducible rfl | omega | skip))
    simp only [Act.put, List.setIfInBounds_toArray, List.set_cons_zero, List.set_cons_succ]
    have c0 : y102.cell? ⟨w.heap.size, 0, none⟩ = some (.int .i64 k) := by rw [L1.out.cell 0, HH0.out]
    refine wpList_yieldG (.int .i64 k) (by rfl) ?hy ?_
    case hy => (go_simp <;> (first | with_reducible rfl | omega | skip))
    clear c0
    simp only [Act.put, List.setIfInBounds_toArray, List.set_cons_zero, List.set_cons_succ]
    refine wpList_yieldG (.bool true) (by rfl) ?hy ?_
    case hy => (go_simp <;> (first | with_reducible rfl | omega | skip))
    simp only [Act.put, List.setIfInBounds_toArray, List.set_cons_zero, List.set_cons_succ]
    refine wpList_yieldG (.bool true) (by rfl) ?hy ?_
    case hy => (go_simp <;> (first | with_reducible rfl | omega | skip))
    simp only [Act.put, List.setIfInBounds_toArray, List.set_cons_zero, List.set_cons_succ]
    refine wpList_yieldG (.bool true) (by rfl) ?hy ?_
    case hy => (go_simp <;> (first | with_reducible rfl | omega | skip))
    simp only [Act.put, List.setIfInBounds_toArray, List.set_cons_zero, List.set_cons_succ]
    refine wpList_yieldG ?_ (by rfl) ?hy ?_
    case hy => (go_simp <;> (first | with_reducible rfl | omega | skip))
    simp only [Act.put, List.setIfInBounds_toArray, List.set_cons_zero, List.set_cons_succ]
    refine wpList_yieldG (.agg (bytesV x.a)) (by rfl) ?hy ?_
    case hy => exact exec_load_mid 23 _ rfl (y1.heap.size) 2 rfl (x.a.map fun n => Value.int .u8 (n : Nat)) _ (host_mid (by rw [← EX.out]; exact M1.out)) Tryz.underlying23 rfl (by rw [List.length_map, hlx]; exact info16)
    simp only [Act.put, List.setIfInBounds_toArray, List.set_cons_zero, List.set_cons_succ]
    refine wpList_yieldG ?_ (by rfl) ?hy ?_
    case hy => (go_simp <;> (first | with_reducible rfl | omega | skip))
    simp only [Act.put, List.setIfInBounds_toArray, List.set_cons_zero, List.set_cons_succ]
    refine wpList_yieldG (.agg (bytesV h.a)) (by rfl) ?hy ?_
    case hy => exact exec_load_mid 23 _ rfl (w.heap.size) 2 rfl (h.a.map fun n => Value.int .u8 (n : Nat)) _ (host_mid (by rw [← EH.out]; exact L1.out)) Tryz.underlying23 rfl (by rw [List.length_map, hlh]; exact info16)
    simp only [Act.put, List.setIfInBounds_toArray, List.set_cons_zero, List.set_cons_succ]
    refine wpList_yieldG (.bool true) (by rfl) ?hy ?_
    case hy => exact Eq.trans (exec_eql16 _ _ _ rfl x.a h.a rfl rfl hlx hlh) (by rw [decide_eq_true hax])
    simp only [Act.put, List.setIfInBounds_toArray, List.set_cons_zero, List.set_cons_succ]
    refine wpList_yieldG (.bool true) (by rfl) ?hy ?_
    case hy => (go_simp <;> (first | with_reducible rfl | omega | skip))
    simp only [Act.put, List.setIfInBounds_toArray, List.set_cons_zero, List.set_cons_succ]
    refine wpList_yieldG (.bool true) (by rfl) ?hy ?_
    case hy => (go_simp <;> (first | with_reducible rfl | omega | skip))
    simp only [Act.put, List.setIfInBounds_toArray, List.set_cons_zero, List.set_cons_succ]
    refine wpList_onG (by rfl) ?_
    go_simp
    refine Calls.mono (HW.out _ KB102.out) ?_
    rintro e y103 ⟨rfl, hc103⟩
    have hb103 : Hid (Below v2.heap.size v2 y103) := (hb102.out).trans ((hc103).mono (hb102.out).size)
    have KB103 : Hid (Below w.heap.size w y103) := KB102.out.trans ((hc103).mono KB102.out.size)
    have L1n : Hid (Lies y103 (w.heap.size) VH 36) := L1.out.below (hc103) L1.out.lt
    clear L1
    have L1 := L1n
    clear L1n
    have M1n : Hid (Lies y103 (y1.heap.size) VX 36) := M1.out.below (hc103) M1.out.lt
    clear M1
    have M1 := M1n
    clear M1n
    have M2n : Hid (Lies y103 (y2.heap.size) VX 36) := M2.out.below (hc103) M2.out.lt
    clear M2
    have M2 := M2n
    clear M2n
    clear KB102
    clear hc103
    refine wpList_yieldG (.bool true) (by rfl) ?hy ?_
    case hy => (go_simp <;> (first | with_reducible rfl | omega | skip))
    simp only [Act.put, List.setIfInBounds_toArray, List.set_cons_zero, List.set_cons_succ]
    refine wpList_yieldG (.bool true) (by rfl) ?hy ?_
    case hy => (go_simp <;> (first | with_reducible rfl | omega | skip))
    simp only [Act.put, List.setIfInBounds_toArray, List.set_cons_zero, List.set_cons_succ]
    refine wpList_nil ?_
    go_wp2
    go_ret
    exact ⟨rfl, KB103.out⟩
  go_upto_region 9 with fail
  clear c0 c1
  go_wp2_with (first | (refine wpList_load_rowG (by rfl) 36 _ rfl (y1.heap.size) rfl VX 36 _ M1.out Tryz.underlying36 rfl (by rw [zx]; exact infoHo) ?_))
  refine Calls.mono (HAX.out _ KB2.out) ?_
  rintro e y2 ⟨rfl, hc⟩
  have KB3 : Hid (Below w.heap.size w y2) := KB2.out.trans ((hc).mono KB2.out.size)
  have L1n : Hid (Lies y2 (w.heap.size) VH 36) := L1.out.below (hc) L1.out.lt
  clear L1
  have L1 := L1n
  clear L1n
  have M1n : Hid (Lies y2 (y1.heap.size) VX 36) := M1.out.below (hc) M1.out.lt
  clear M1
  have M1 := M1n
  clear M1n
  clear KB2
  clear hc
  have A : Hid (Lies (y2.alloc (.cells #[.int .i64 0, .string ⟨#[]⟩, .int .u8 0, .int .u8 0, .int .u8 0, .int .u8 0, .int .u8 0, .int .u8 0, .int .u8 0, .int .u8 0, .int .u8 0, .int .u8 0, .int .u8 0, .int .u8 0, .int .u8 0, .int .u8 0, .int .u8 0, .int .u8 0] 36)) y2.heap.size #[.int .i64 0, .string ⟨#[]⟩, .int .u8 0, .int .u8 0, .int .u8 0, .int .u8 0, .int .u8 0, .int .u8 0, .int .u8 0, .int .u8 0, .int .u8 0, .int .u8 0, .int .u8 0, .int .u8 0, .int .u8 0, .int .u8 0, .int .u8 0, .int .u8 0] 36) := Lies.new y2 _ _
  have M2 : Hid (Lies ((y2.alloc (.cells #[.int .i64 0, .string ⟨#[]⟩, .int .u8 0, .int .u8 0, .int .u8 0, .int .u8 0, .int .u8 0, .int .u8 0, .int .u8 0, .int .u8 0, .int .u8 0, .int .u8 0, .int .u8 0, .int .u8 0, .int .u8 0, .int .u8 0, .int .u8 0, .int .u8 0] 36)).setRow y2.heap.size VX) y2.heap.size VX 36) := A.out.row _
  have BB : Hid (Below y2.heap.size y2 ((y2.alloc (.cells #[.int .i64 0, .string ⟨#[]⟩, .int .u8 0, .int .u8 0, .int .u8 0, .int .u8 0, .int .u8 0, .int .u8 0, .int .u8 0, .int .u8 0, .int .u8 0, .int .u8 0, .int .u8 0, .int .u8 0, .int .u8 0, .int .u8 0, .int .u8 0, .int .u8 0] 36)).setRow y2.heap.size VX)) := below_row ((Below.refl _ _).alloc (Nat.le_refl _) _) (Nat.le_refl _) _
  have KB4 : Hid (Below w.heap.size w ((y2.alloc (.cells #[.int .i64 0, .string ⟨#[]⟩, .int .u8 0, .int .u8 0, .int .u8 0, .int .u8 0, .int .u8 0, .int .u8 0, .int .u8 0, .int .u8 0, .int .u8 0, .int .u8 0, .int .u8 0, .int .u8 0, .int .u8 0, .int .u8 0, .int .u8 0, .int .u8 0] 36)).setRow y2.heap.size VX)) := KB3.out.trans ((BB.out).mono KB3.out.size)
  have L1n : Hid (Lies ((y2.alloc (.cells #[.int .i64 0, .string ⟨#[]⟩, .int .u8 0, .int .u8 0, .int .u8 0, .int .u8 0, .int .u8 0, .int .u8 0, .int .u8 0, .int .u8 0, .int .u8 0, .int .u8 0, .int .u8 0, .int .u8 0, .int .u8 0, .int .u8 0, .int .u8 0, .int .u8 0] 36)).setRow y2.heap.size VX) (w.heap.size) VH 36) := L1.out.below (BB.out) L1.out.lt
  clear L1
  have L1 := L1n
  clear L1n
  have M1n : Hid (Lies ((y2.alloc (.cells #[.int .i64 0, .string ⟨#[]⟩, .int .u8 0, .int .u8 0, .int .u8 0, .int .u8 0, .int .u8 0, .int .u8 0, .int .u8 0, .int .u8 0, .int .u8 0, .int .u8 0, .int .u8 0, .int .u8 0, .int .u8 0, .int .u8 0, .int .u8 0, .int .u8 0] 36)).setRow y2.heap.size VX) (y1.heap.size) VX 36) := M1.out.below (BB.out) M1.out.lt
  clear M1
  have M1 := M1n
  clear M1n
  clear KB3
  go_upto_region 10 with (refine wpList_store_row rfl 36 _ _ rfl y2.heap.size rfl _ VX rfl 36 A.out (by rw [zx]; exact infoHo) ox.out.2 ox.out.1 rfl ?_)
  generalize hv2 : (y2.alloc (.cells #[.int .i64 0, .string ⟨#[]⟩, .int .u8 0, .int .u8 0, .int .u8 0, .int .u8 0, .int .u8 0, .int .u8 0, .int .u8 0, .int .u8 0, .int .u8 0, .int .u8 0, .int .u8 0, .int .u8 0, .int .u8 0, .int .u8 0, .int .u8 0, .int .u8 0] 36)).setRow y2.heap.size VX = v2 at M2 KB4 L1 M1 ⊢
  clear hv2 A BB
  refine wp_region_lit ?_
  refine wpList_load_rowG (by rfl) 36 _ rfl (y1.heap.size) rfl VX 36 _ M1.out Tryz.underlying36 rfl (by rw [zx]; exact infoHo) ?_
  simp only [Act.put, List.setIfInBounds_toArray, List.set_cons_zero, List.set_cons_succ]
  refine wpList_onG (by rfl) ?_
  go_simp
  refine Calls.mono (HCX.out _ KB4.out) ?_
  rintro e y101 ⟨rfl, hc101⟩
  have hb101 : Hid (Below v2.heap.size v2 y101) := hc101
  have KB101 : Hid (Below w.heap.size w y101) := KB4.out.trans ((hc101).mono KB4.out.size)
  have L1n : Hid (Lies y101 (w.heap.size) VH 36) := L1.out.below (hc101) L1.out.lt
  clear L1
  have L1 := L1n
  clear L1n
  have M1n : Hid (Lies y101 (y1.heap.size) VX 36) := M1.out.below (hc101) M1.out.lt
  clear M1
  have M1 := M1n
  clear M1n
  have M2n : Hid (Lies y101 (y2.heap.size) VX 36) := M2.out.below (hc101) M2.out.lt
  clear M2
  have M2 := M2n
  clear M2n
  clear KB4
  clear hc101
  refine wpList_yieldG (.bool true) (by rfl) ?hy ?_
  case hy => (go_simp <;> (first | with_reducible rfl | omega | skip))
  simp only [Act.put, List.setIfInBounds_toArray, List.set_cons_zero, List.set_cons_succ]
  refine wpList_yieldG (.bool true) (by rfl) ?hy ?_
  case hy => (go_simp <;> (first | with_reducible rfl | omega | skip))
  simp only [Act.put, List.setIfInBounds_toArray, List.set_cons_zero, List.set_cons_succ]
  refine wpList_load_rowG (by rfl) 36 _ rfl (y1.heap.size) rfl VX 36 _ M1.out Tryz.underlying36 rfl (by rw [zx]; exact infoHo) ?_
  simp only [Act.put, List.setIfInBounds_toArray, List.set_cons_zero, List.set_cons_succ]
  refine wpList_load_rowG (by rfl) 36 _ rfl (w.heap.size) rfl VH 36 _ L1.out Tryz.underlying36 rfl (by rw [zh]; exact infoHo) ?_
  simp only [Act.put, List.setIfInBounds_toArray, List.set_cons_zero, List.set_cons_succ]
  refine wpList_onG (by rfl) ?_
  go_simp
  refine Calls.mono (HSM.out _ KB101.out) ?_
  rintro e y102 ⟨rfl, hc102⟩
  have hb102 : Hid (Below v2.heap.size v2 y102) := (hb101.out).trans ((hc102).mono (hb101.out).size)
  have KB102 : Hid (Below w.heap.size w y102) := KB101.out.trans ((hc102).mono KB101.out.size)
  have L1n : Hid (Lies y102 (w.heap.size) VH 36) := L1.out.below (hc102) L1.out.lt
  clear L1
  have L1 := L1n
  clear L1n
  have M1n : Hid (Lies y102 (y1.heap.size) VX 36) := M1.out.below (hc102) M1.out.lt
  clear M1
  have M1 := M1n
  clear M1n
  have M2n : Hid (Lies y102 (y2.heap.size) VX 36) := M2.out.below (hc102) M2.out.lt
  clear M2
  have M2 := M2n
  clear M2n
  clear KB101
  clear hc102
  refine wpList_yieldG (.bool true) (by rfl) ?hy ?_
  case hy => (go_simp <;> (first | with_reducible rfl | omega | skip))
  simp only [Act.put, List.setIfInBounds_toArray, List.set_cons_zero, List.set_cons_succ]
  refine wpList_yieldG (.bool true) (by rfl) ?hy ?_
  case hy => (go_simp <;> (first | with_reducible rfl | omega | skip))
  simp only [Act.put, List.setIfInBounds_toArray, List.set_cons_zero, List.set_cons_succ]
  refine wpList_load_rowG (by rfl) 36 _ rfl (y2.heap.size) rfl VX 36 _ M2.out Tryz.underlying36 rfl (by rw [zx]; exact infoHo) ?_
  simp only [Act.put, List.setIfInBounds_toArray, List.set_cons_zero, List.set_cons_succ]
  refine wpList_load_rowG (by rfl) 36 _ rfl (y1.heap.size) rfl VX 36 _ M1.out Tryz.underlying36 rfl (by rw [zx]; exact infoHo) ?_
  simp only [Act.put, List.setIfInBounds_toArray, List.set_cons_zero, List.set_cons_succ]
  refine wpList_yieldG (.bool true) (by rfl) ?hy ?_
  case hy => 
    refine Eq.trans (exec_eql_host _ _ _ rfl x x ?_ ?_ hlx hlx) (by rw [decide_eq_true rfl])
    · (show Value.agg VX = _; rw [EX.out]; rfl)
    · (show Value.agg VX = _; rw [EX.out]; rfl)
  simp only [Act.put, List.setIfInBounds_toArray, List.set_cons_zero, List.set_cons_succ]
  refine wpList_yieldG (.bool true) (by rfl) ?hy ?_
  case hy => (go_simp <;> (first | with_reducible rfl | omega | skip))
  simp only [Act.put, List.setIfInBounds_toArray, List.set_cons_zero, List.set_cons_succ]
  refine wpList_yieldG (.bool true) (by rfl) ?hy ?_
  case hy => (go_simp <;> (first | with_reducible rfl | omega | skip))
  simp only [Act.put, List.setIfInBounds_toArray, List.set_cons_zero, List.set_cons_succ]
  refine wpList_yieldG ?_ (by rfl) ?hy ?_
  case hy => (go_simp <;> (first | with_reducible rfl | omega | skip))
  simp only [Act.put, List.setIfInBounds_toArray, List.set_cons_zero, List.set_cons_succ]
  refine wpList_yieldG (.bool true) (by rfl) ?hy ?_
  case hy => (go_simp <;> (first | with_reducible rfl | omega | skip))
  simp only [Act.put, List.setIfInBounds_toArray, List.set_cons_zero, List.set_cons_succ]
  refine wpList_yieldG (.bool true) (by rfl) ?hy ?_
  case hy => (go_simp <;> (first | with_reducible rfl | omega | skip))
  simp only [Act.put, List.setIfInBounds_toArray, List.set_cons_zero, List.set_cons_succ]
  refine wpList_yieldG (.bool true) (by rfl) ?hy ?_
  case hy => (go_simp <;> (first | with_reducible rfl | omega | skip))
  simp only [Act.put, List.setIfInBounds_toArray, List.set_cons_zero, List.set_cons_succ]
  refine wpList_yieldG ?_ (by rfl) ?hy ?_
  case hy => (go_simp <;> (first | with_reducible rfl | omega | skip))
  simp only [Act.put, List.setIfInBounds_toArray, List.set_cons_zero, List.set_cons_succ]
  have c0 : y102.cell? ⟨y1.heap.size, 0, none⟩ = some (.int .i64 k) := by rw [M1.out.cell 0, HX0.out]
  refine wpList_yieldG (.int .i64 k) (by rfl) ?hy ?_
  case hy => (go_simp <;> (first | with_reducible rfl | omega | skip))
  clear c0
  simp only [Act.put, List.setIfInBounds_toArray, List.set_cons_zero, List.set_cons_succ]
  refine wpList_yieldG ?_ (by rfl) ?hy ?_
  case hy => (go_simp <;> (first | with_reducible rfl | omega | skip))
  simp only [Act.put, List.setIfInBounds_toArray, List.set_cons_zero, List.set_cons_succ]
  have c0 : y102.cell? ⟨w.heap.size, 0, none⟩ = some (.int .i64 k) := by rw [L1.out.cell 0, HH0.out]
  refine wpList_yieldG (.int .i64 k) (by rfl) ?hy ?_
  case hy => (go_simp <;> (first | with_reducible rfl | omega | skip))
  clear c0
  simp only [Act.put, List.setIfInBounds_toArray, List.set_cons_zero, List.set_cons_succ]
  refine wpList_yieldG (.bool true) (by rfl) ?hy ?_
  case hy => (go_simp <;> (first | with_reducible rfl | omega | skip))
  simp only [Act.put, List.setIfInBounds_toArray, List.set_cons_zero, List.set_cons_succ]
  refine wpList_yieldG (.bool true) (by rfl) ?hy ?_
  case hy => (go_simp <;> (first | with_reducible rfl | omega | skip))
  simp only [Act.put, List.setIfInBounds_toArray, List.set_cons_zero, List.set_cons_succ]
  refine wpList_yieldG (.bool true) (by rfl) ?hy ?_
  case hy => (go_simp <;> (first | with_reducible rfl | omega | skip))
  simp only [Act.put, List.setIfInBounds_toArray, List.set_cons_zero, List.set_cons_succ]
  refine wpList_yieldG ?_ (by rfl) ?hy ?_
  case hy => (go_simp <;> (first | with_reducible rfl | omega | skip))
  simp only [Act.put, List.setIfInBounds_toArray, List.set_cons_zero, List.set_cons_succ]
  refine wpList_yieldG (.agg (bytesV x.a)) (by rfl) ?hy ?_
  case hy => exact exec_load_mid 23 _ rfl (y1.heap.size) 2 rfl (x.a.map fun n => Value.int .u8 (n : Nat)) _ (host_mid (by rw [← EX.out]; exact M1.out)) Tryz.underlying23 rfl (by rw [List.length_map, hlx]; exact info16)
  simp only [Act.put, List.setIfInBounds_toArray, List.set_cons_zero, List.set_cons_succ]
  refine wpList_yieldG ?_ (by rfl) ?hy ?_
  case hy => (go_simp <;> (first | with_reducible rfl | omega | skip))
  simp only [Act.put, List.setIfInBounds_toArray, List.set_cons_zero, List.set_cons_succ]
  refine wpList_yieldG (.agg (bytesV h.a)) (by rfl) ?hy ?_
  case hy => exact exec_load_mid 23 _ rfl (w.heap.size) 2 rfl (h.a.map fun n => Value.int .u8 (n : Nat)) _ (host_mid (by rw [← EH.out]; exact L1.out)) Tryz.underlying23 rfl (by rw [List.length_map, hlh]; exact info16)
  simp only [Act.put, List.setIfInBounds_toArray, List.set_cons_zero, List.set_cons_succ]
  refine wpList_yieldG (.bool true) (by rfl) ?hy ?_
  case hy => exact Eq.trans (exec_eql16 _ _ _ rfl x.a h.a rfl rfl hlx hlh) (by rw [decide_eq_true hax])
  simp only [Act.put, List.setIfInBounds_toArray, List.set_cons_zero, List.set_cons_succ]
  refine wpList_yieldG (.bool true) (by rfl) ?hy ?_
  case hy => (go_simp <;> (first | with_reducible rfl | omega | skip))
  simp only [Act.put, List.setIfInBounds_toArray, List.set_cons_zero, List.set_cons_succ]
  refine wpList_yieldG (.bool true) (by rfl) ?hy ?_
  case hy => (go_simp <;> (first | with_reducible rfl | omega | skip))
  simp only [Act.put, List.setIfInBounds_toArray, List.set_cons_zero, List.set_cons_succ]
  refine wpList_onG (by rfl) ?_
  go_simp
  refine Calls.mono (HW.out _ KB102.out) ?_
  rintro e y103 ⟨rfl, hc103⟩
  have hb103 : Hid (Below v2.heap.size v2 y103) := (hb102.out).trans ((hc103).mono (hb102.out).size)
  have KB103 : Hid (Below w.heap.size w y103) := KB102.out.trans ((hc103).mono KB102.out.size)
  have L1n : Hid (Lies y103 (w.heap.size) VH 36) := L1.out.below (hc103) L1.out.lt
  clear L1
  have L1 := L1n
  clear L1n
  have M1n : Hid (Lies y103 (y1.heap.size) VX 36) := M1.out.below (hc103) M1.out.lt
  clear M1
  have M1 := M1n
  clear M1n
  have M2n : Hid (Lies y103 (y2.heap.size) VX 36) := M2.out.below (hc103) M2.out.lt
  clear M2
  have M2 := M2n
  clear M2n
  clear KB102
  clear hc103
  refine wpList_yieldG (.bool true) (by rfl) ?hy ?_
  case hy => (go_simp <;> (first | with_reducible rfl | omega | skip))
  simp only [Act.put, List.setIfInBounds_toArray, List.set_cons_zero, List.set_cons_succ]
  refine wpList_yieldG (.bool true) (by rfl) ?hy ?_
  case hy => (go_simp <;> (first | with_reducible rfl | omega | skip))
  simp only [Act.put, List.setIfInBounds_toArray, List.set_cons_zero, List.set_cons_succ]
  refine wpList_nil ?_
  go_wp2
  go_ret
  exact ⟨rfl, KB103.out⟩

set_option maxHeartbeats 16000000 in
set_option maxRecDepth 100000 in
theorem walkB (VH VX : Array Value) (h x : Ho) (hVH : VH = hostC h) (hVX : VX = hostC x) (hlh : h.a.length = 16) (hlx : x.a.length = 16) (hx0 : x = ho0) (er : Nat) (he : er ≠ 0) (w : World)
    (HAS : Hid (∀ wx, Below w.heap.size w wx → Calls Tryz.prog 14 #[.agg VH] wx fun e w' => e = .returned (.tuple #[.agg VX, .int .i64 (er : Nat)]) ∧ Below wx.heap.size wx w')) (HCH : Hid (∀ wx, Below w.heap.size w wx → Calls Tryz.prog 13 #[.agg VH, .bool true] wx fun e w' => e = .returned (.int .i64 (er : Nat)) ∧ Below wx.heap.size wx w')) (HW : Hid (∀ wx, Below w.heap.size w wx → Calls Tryz.prog 11 #[] wx fun e w' => e = .returned (.bool true) ∧ Below wx.heap.size wx w')) :
    Calls Tryz.prog 5 #[.agg VH] w fun e w' => e = .returned (.bool true) ∧ Below w.heap.size w w' := by
  have he1 : ((er : Int) != 0) = true := by rw [bne_iff_ne]; omega
  have he2 : ((er : Int) == 0) = false := by rw [beq_eq_false_iff_ne]; omega
  have he3 : ((er : Int) == (er : Int)) = true := by simp
  clear he
  have zh : VH.size = 18 := by rw [hVH]; exact hostC_size h hlh
  have zx : VX.size = 18 := by rw [hVX]; exact hostC_size x hlx
  have ox : Hid (VX.all (·.oneCell') = true ∧ (#[.int .i64 0, .string ⟨#[]⟩, .int .u8 0, .int .u8 0, .int .u8 0, .int .u8 0, .int .u8 0, .int .u8 0, .int .u8 0, .int .u8 0, .int .u8 0, .int .u8 0, .int .u8 0, .int .u8 0, .int .u8 0, .int .u8 0, .int .u8 0, .int .u8 0] : Array Value).size = VX.size) := ⟨by rw [hVX]; exact hostC_one x, by rw [zx]; rfl⟩
  have EH : Hid (VH = hostC h) := hVH
  have EX : Hid (VX = hostC x) := hVX
  have L1 : Hid (Lies (w.alloc (.cells VH 36)) w.heap.size VH 36) := Lies.new w _ _
  have KB : Hid (Below w.heap.size w (w.alloc (.cells VH 36))) := (Below.refl _ _).alloc (Nat.le_refl _) _
  clear hVH hVX
  go_enter Tryz.func5, Tryz.ntmps5
  go_upto_region 1 with fail
  generalize w.alloc (.cells VH 36) = v0 at L1 KB ⊢
  go_wp2_with (first | (refine wpList_load_rowG (by rfl) 36 _ rfl (w.heap.size) rfl VH 36 _ L1.out Tryz.underlying36 rfl (by rw [zh]; exact infoHo) ?_))
  refine Calls.mono (HAS.out _ KB.out) ?_
  rintro e y1 ⟨rfl, hc⟩
  have KB1 : Hid (Below w.heap.size w y1) := KB.out.trans ((hc).mono KB.out.size)
  have L1n : Hid (Lies y1 (w.heap.size) VH 36) := L1.out.below (hc) L1.out.lt
  clear L1
  have L1 := L1n
  clear L1n
  clear KB
  clear hc
  have A : Hid (Lies (y1.alloc (.cells #[.int .i64 0, .string ⟨#[]⟩, .int .u8 0, .int .u8 0, .int .u8 0, .int .u8 0, .int .u8 0, .int .u8 0, .int .u8 0, .int .u8 0, .int .u8 0, .int .u8 0, .int .u8 0, .int .u8 0, .int .u8 0, .int .u8 0, .int .u8 0, .int .u8 0] 36)) y1.heap.size #[.int .i64 0, .string ⟨#[]⟩, .int .u8 0, .int .u8 0, .int .u8 0, .int .u8 0, .int .u8 0, .int .u8 0, .int .u8 0, .int .u8 0, .int .u8 0, .int .u8 0, .int .u8 0, .int .u8 0, .int .u8 0, .int .u8 0, .int .u8 0, .int .u8 0] 36) := Lies.new y1 _ _
  have M1 : Hid (Lies ((y1.alloc (.cells #[.int .i64 0, .string ⟨#[]⟩, .int .u8 0, .int .u8 0, .int .u8 0, .int .u8 0, .int .u8 0, .int .u8 0, .int .u8 0, .int .u8 0, .int .u8 0, .int .u8 0, .int .u8 0, .int .u8 0, .int .u8 0, .int .u8 0, .int .u8 0, .int .u8 0] 36)).setRow y1.heap.size VX) y1.heap.size VX 36) := A.out.row _
  have BB : Hid (Below y1.heap.size y1 ((y1.alloc (.cells #[.int .i64 0, .string ⟨#[]⟩, .int .u8 0, .int .u8 0, .int .u8 0, .int .u8 0, .int .u8 0, .int .u8 0, .int .u8 0, .int .u8 0, .int .u8 0, .int .u8 0, .int .u8 0, .int .u8 0, .int .u8 0, .int .u8 0, .int .u8 0, .int .u8 0] 36)).setRow y1.heap.size VX)) := below_row ((Below.refl _ _).alloc (Nat.le_refl _) _) (Nat.le_refl _) _
  have KB2 : Hid (Below w.heap.size w ((y1.alloc (.cells #[.int .i64 0, .string ⟨#[]⟩, .int .u8 0, .int .u8 0, .int .u8 0, .int .u8 0, .int .u8 0, .int .u8 0, .int .u8 0, .int .u8 0, .int .u8 0, .int .u8 0, .int .u8 0, .int .u8 0, .int .u8 0, .int .u8 0, .int .u8 0, .int .u8 0] 36)).setRow y1.heap.size VX)) := KB1.out.trans ((BB.out).mono KB1.out.size)
  have L1n : Hid (Lies ((y1.alloc (.cells #[.int .i64 0, .string ⟨#[]⟩, .int .u8 0, .int .u8 0, .int .u8 0, .int .u8 0, .int .u8 0, .int .u8 0, .int .u8 0, .int .u8 0, .int .u8 0, .int .u8 0, .int .u8 0, .int .u8 0, .int .u8 0, .int .u8 0, .int .u8 0, .int .u8 0] 36)).setRow y1.heap.size VX) (w.heap.size) VH 36) := L1.out.below (BB.out) L1.out.lt
  clear L1
  have L1 := L1n
  clear L1n
  clear KB1
  go_upto_region 3 with (refine wpList_store_row rfl 36 _ _ rfl y1.heap.size rfl _ VX rfl 36 A.out (by rw [zx]; exact infoHo) ox.out.2 ox.out.1 rfl ?_)
  generalize hv1 : (y1.alloc (.cells #[.int .i64 0, .string ⟨#[]⟩, .int .u8 0, .int .u8 0, .int .u8 0, .int .u8 0, .int .u8 0, .int .u8 0, .int .u8 0, .int .u8 0, .int .u8 0, .int .u8 0, .int .u8 0, .int .u8 0, .int .u8 0, .int .u8 0, .int .u8 0, .int .u8 0] 36)).setRow y1.heap.size VX = v1 at M1 KB2 L1 ⊢
  clear hv1 A BB
  refine wp_region_lit ?_
  refine wpList_load_rowG (by rfl) 36 _ rfl (y1.heap.size) rfl VX 36 _ M1.out Tryz.underlying36 rfl (by rw [zx]; exact infoHo) ?_
  simp only [Act.put, List.setIfInBounds_toArray, List.set_cons_zero, List.set_cons_succ]
  refine wpList_yieldG (hostV ho0) (by rfl) ?hy ?_
  case hy => (go_simp; rfl)
  simp only [Act.put, List.setIfInBounds_toArray, List.set_cons_zero, List.set_cons_succ]
  refine wpList_yieldG (.bool true) (by rfl) ?hy ?_
  case hy => 
    refine Eq.trans (exec_eql_host _ _ _ rfl x ho0 ?_ ?_ hlx rfl) (by rw [decide_eq_true hx0])
    · (show Value.agg VX = _; rw [EX.out]; rfl)
    · rfl
  simp only [Act.put, List.setIfInBounds_toArray, List.set_cons_zero, List.set_cons_succ]
  refine wpList_yieldG (.bool true) (by rfl) ?hy ?_
  case hy => (go_simp <;> (first | with_reducible rfl | omega | skip))
  simp only [Act.put, List.setIfInBounds_toArray, List.set_cons_zero, List.set_cons_succ]
  refine wpList_load_rowG (by rfl) 36 _ rfl (w.heap.size) rfl VH 36 _ L1.out Tryz.underlying36 rfl (by rw [zh]; exact infoHo) ?_
  simp only [Act.put, List.setIfInBounds_toArray, List.set_cons_zero, List.set_cons_succ]
  refine wpList_onG (by rfl) ?_
  go_simp
  refine Calls.mono (HCH.out _ KB2.out) ?_
  rintro e y101 ⟨rfl, hc101⟩
  have hb101 : Hid (Below v1.heap.size v1 y101) := hc101
  have KB101 : Hid (Below w.heap.size w y101) := KB2.out.trans ((hc101).mono KB2.out.size)
  have L1n : Hid (Lies y101 (w.heap.size) VH 36) := L1.out.below (hc101) L1.out.lt
  clear L1
  have L1 := L1n
  clear L1n
  have M1n : Hid (Lies y101 (y1.heap.size) VX 36) := M1.out.below (hc101) M1.out.lt
  clear M1
  have M1 := M1n
  clear M1n
  clear KB2
  clear hc101
  go_wp2_with fail
  refine Calls.mono (HW.out _ KB101.out) ?_
  rintro e y102 ⟨rfl, hc102⟩
  have KB102 : Hid (Below w.heap.size w y102) := KB101.out.trans ((hc102).mono KB101.out.size)
  clear hc102
  go_wp2_with fail
  go_ret
  exact ⟨rfl, KB102.out⟩

set_option maxHeartbeats 16000000 in
set_option maxRecDepth 100000 in
theorem walkC (VH VX : Array Value) (h x : Ho) (hVH : VH = hostC h) (hVX : VX = hostC x) (hlh : h.a.length = 16) (hlx : x.a.length = 16) (hx0 : x = ho0) (w : World) (HH0 : Hid (VH[0]? = some (.int .i64 1)))
    (HAS : Hid (∀ wx, Below w.heap.size w wx → Calls Tryz.prog 14 #[.agg VH] wx fun e w' => e = .returned (.tuple #[.agg VX, .int .i64 80]) ∧ Below wx.heap.size wx w')) (HCH : Hid (∀ wx, Below w.heap.size w wx → Calls Tryz.prog 13 #[.agg VH, .bool true] wx fun e w' => e = .returned (.int .i64 0) ∧ Below wx.heap.size wx w')) (HW : Hid (∀ wx, Below w.heap.size w wx → Calls Tryz.prog 11 #[] wx fun e w' => e = .returned (.bool true) ∧ Below wx.heap.size wx w')) :
    Calls Tryz.prog 5 #[.agg VH] w fun e w' => e = .returned (.bool true) ∧ Below w.heap.size w w' := by
  have zh : VH.size = 18 := by rw [hVH]; exact hostC_size h hlh
  have zx : VX.size = 18 := by rw [hVX]; exact hostC_size x hlx
  have ox : Hid (VX.all (·.oneCell') = true ∧ (#[.int .i64 0, .string ⟨#[]⟩, .int .u8 0, .int .u8 0, .int .u8 0, .int .u8 0, .int .u8 0, .int .u8 0, .int .u8 0, .int .u8 0, .int .u8 0, .int .u8 0, .int .u8 0, .int .u8 0, .int .u8 0, .int .u8 0, .int .u8 0, .int .u8 0] : Array Value).size = VX.size) := ⟨by rw [hVX]; exact hostC_one x, by rw [zx]; rfl⟩
  have EH : Hid (VH = hostC h) := hVH
  have EX : Hid (VX = hostC x) := hVX
  have L1 : Hid (Lies (w.alloc (.cells VH 36)) w.heap.size VH 36) := Lies.new w _ _
  have KB : Hid (Below w.heap.size w (w.alloc (.cells VH 36))) := (Below.refl _ _).alloc (Nat.le_refl _) _
  clear hVH hVX
  go_enter Tryz.func5, Tryz.ntmps5
  go_upto_region 1 with fail
  generalize w.alloc (.cells VH 36) = v0 at L1 KB ⊢
  go_wp2_with (first | (refine wpList_load_rowG (by rfl) 36 _ rfl (w.heap.size) rfl VH 36 _ L1.out Tryz.underlying36 rfl (by rw [zh]; exact infoHo) ?_))
  refine Calls.mono (HAS.out _ KB.out) ?_
  rintro e y1 ⟨rfl, hc⟩
  have KB1 : Hid (Below w.heap.size w y1) := KB.out.trans ((hc).mono KB.out.size)
  have L1n : Hid (Lies y1 (w.heap.size) VH 36) := L1.out.below (hc) L1.out.lt
  clear L1
  have L1 := L1n
  clear L1n
  clear KB
  clear hc
  have A : Hid (Lies (y1.alloc (.cells #[.int .i64 0, .string ⟨#[]⟩, .int .u8 0, .int .u8 0, .int .u8 0, .int .u8 0, .int .u8 0, .int .u8 0, .int .u8 0, .int .u8 0, .int .u8 0, .int .u8 0, .int .u8 0, .int .u8 0, .int .u8 0, .int .u8 0, .int .u8 0, .int .u8 0] 36)) y1.heap.size #[.int .i64 0, .string ⟨#[]⟩, .int .u8 0, .int .u8 0, .int .u8 0, .int .u8 0, .int .u8 0, .int .u8 0, .int .u8 0, .int .u8 0, .int .u8 0, .int .u8 0, .int .u8 0, .int .u8 0, .int .u8 0, .int .u8 0, .int .u8 0, .int .u8 0] 36) := Lies.new y1 _ _
  have M1 : Hid (Lies ((y1.alloc (.cells #[.int .i64 0, .string ⟨#[]⟩, .int .u8 0, .int .u8 0, .int .u8 0, .int .u8 0, .int .u8 0, .int .u8 0, .int .u8 0, .int .u8 0, .int .u8 0, .int .u8 0, .int .u8 0, .int .u8 0, .int .u8 0, .int .u8 0, .int .u8 0, .int .u8 0] 36)).setRow y1.heap.size VX) y1.heap.size VX 36) := A.out.row _
  have BB : Hid (Below y1.heap.size y1 ((y1.alloc (.cells #[.int .i64 0, .string ⟨#[]⟩, .int .u8 0, .int .u8 0, .int .u8 0, .int .u8 0, .int .u8 0, .int .u8 0, .int .u8 0, .int .u8 0, .int .u8 0, .int .u8 0, .int .u8 0, .int .u8 0, .int .u8 0, .int .u8 0, .int .u8 0, .int .u8 0] 36)).setRow y1.heap.size VX)) := below_row ((Below.refl _ _).alloc (Nat.le_refl _) _) (Nat.le_refl _) _
  have KB2 : Hid (Below w.heap.size w ((y1.alloc (.cells #[.int .i64 0, .string ⟨#[]⟩, .int .u8 0, .int .u8 0, .int .u8 0, .int .u8 0, .int .u8 0, .int .u8 0, .int .u8 0, .int .u8 0, .int .u8 0, .int .u8 0, .int .u8 0, .int .u8 0, .int .u8 0, .int .u8 0, .int .u8 0, .int .u8 0] 36)).setRow y1.heap.size VX)) := KB1.out.trans ((BB.out).mono KB1.out.size)
  have L1n : Hid (Lies ((y1.alloc (.cells #[.int .i64 0, .string ⟨#[]⟩, .int .u8 0, .int .u8 0, .int .u8 0, .int .u8 0, .int .u8 0, .int .u8 0, .int .u8 0, .int .u8 0, .int .u8 0, .int .u8 0, .int .u8 0, .int .u8 0, .int .u8 0, .int .u8 0, .int .u8 0, .int .u8 0] 36)).setRow y1.heap.size VX) (w.heap.size) VH 36) := L1.out.below (BB.out) L1.out.lt
  clear L1
  have L1 := L1n
  clear L1n
  clear KB1
  go_upto_region 3 with (refine wpList_store_row rfl 36 _ _ rfl y1.heap.size rfl _ VX rfl 36 A.out (by rw [zx]; exact infoHo) ox.out.2 ox.out.1 rfl ?_)
  generalize hv1 : (y1.alloc (.cells #[.int .i64 0, .string ⟨#[]⟩, .int .u8 0, .int .u8 0, .int .u8 0, .int .u8 0, .int .u8 0, .int .u8 0, .int .u8 0, .int .u8 0, .int .u8 0, .int .u8 0, .int .u8 0, .int .u8 0, .int .u8 0, .int .u8 0, .int .u8 0, .int .u8 0] 36)).setRow y1.heap.size VX = v1 at M1 KB2 L1 ⊢
  clear hv1 A BB
  refine wp_region_lit ?_
  refine wpList_load_rowG (by rfl) 36 _ rfl (y1.heap.size) rfl VX 36 _ M1.out Tryz.underlying36 rfl (by rw [zx]; exact infoHo) ?_
  simp only [Act.put, List.setIfInBounds_toArray, List.set_cons_zero, List.set_cons_succ]
  refine wpList_yieldG (hostV ho0) (by rfl) ?hy ?_
  case hy => (go_simp; rfl)
  simp only [Act.put, List.setIfInBounds_toArray, List.set_cons_zero, List.set_cons_succ]
  refine wpList_yieldG (.bool true) (by rfl) ?hy ?_
  case hy => 
    refine Eq.trans (exec_eql_host _ _ _ rfl x ho0 ?_ ?_ hlx rfl) (by rw [decide_eq_true hx0])
    · (show Value.agg VX = _; rw [EX.out]; rfl)
    · rfl
  simp only [Act.put, List.setIfInBounds_toArray, List.set_cons_zero, List.set_cons_succ]
  refine wpList_yieldG (.bool true) (by rfl) ?hy ?_
  case hy => (go_simp <;> (first | with_reducible rfl | omega | skip))
  simp only [Act.put, List.setIfInBounds_toArray, List.set_cons_zero, List.set_cons_succ]
  refine wpList_load_rowG (by rfl) 36 _ rfl (w.heap.size) rfl VH 36 _ L1.out Tryz.underlying36 rfl (by rw [zh]; exact infoHo) ?_
  simp only [Act.put, List.setIfInBounds_toArray, List.set_cons_zero, List.set_cons_succ]
  refine wpList_onG (by rfl) ?_
  go_simp
  refine Calls.mono (HCH.out _ KB2.out) ?_
  rintro e y101 ⟨rfl, hc101⟩
  have hb101 : Hid (Below v1.heap.size v1 y101) := hc101
  have KB101 : Hid (Below w.heap.size w y101) := KB2.out.trans ((hc101).mono KB2.out.size)
  have L1n : Hid (Lies y101 (w.heap.size) VH 36) := L1.out.below (hc101) L1.out.lt
  clear L1
  have L1 := L1n
  clear L1n
  have M1n : Hid (Lies y101 (y1.heap.size) VX 36) := M1.out.below (hc101) M1.out.lt
  clear M1
  have M1 := M1n
  clear M1n
  clear KB2
  clear hc101
  refine wpList_yieldG ?_ (by rfl) ?hy ?_
  case hy => (go_simp <;> (first | with_reducible rfl | omega | skip))
  simp only [Act.put, List.setIfInBounds_toArray, List.set_cons_zero, List.set_cons_succ]
  refine wpList_yieldG (.bool false) (by rfl) ?hy ?_
  case hy => (go_simp <;> (first | with_reducible rfl | omega | skip))
  simp only [Act.put, List.setIfInBounds_toArray, List.set_cons_zero, List.set_cons_succ]
  refine wpList_yieldG (.bool false) (by rfl) ?hy ?_
  case hy => (go_simp <;> (first | with_reducible rfl | omega | skip))
  simp only [Act.put, List.setIfInBounds_toArray, List.set_cons_zero, List.set_cons_succ]
  refine wpList_yieldG ?_ (by rfl) ?hy ?_
  case hy => (go_simp <;> (first | with_reducible rfl | omega | skip))
  simp only [Act.put, List.setIfInBounds_toArray, List.set_cons_zero, List.set_cons_succ]
  have c0 : y101.cell? ⟨w.heap.size, 0, none⟩ = some (.int .i64 1) := by rw [L1.out.cell 0, HH0.out]
  refine wpList_yieldG (.int .i64 1) (by rfl) ?hy ?_
  case hy => (go_simp <;> (first | with_reducible rfl | omega | skip))
  clear c0
  simp only [Act.put, List.setIfInBounds_toArray, List.set_cons_zero, List.set_cons_succ]
  refine wpList_yieldG (.bool true) (by rfl) ?hy ?_
  case hy => (go_simp <;> (first | with_reducible rfl | omega | skip))
  simp only [Act.put, List.setIfInBounds_toArray, List.set_cons_zero, List.set_cons_succ]
  refine wpList_yieldG (.bool true) (by rfl) ?hy ?_
  case hy => (go_simp <;> (first | with_reducible rfl | omega | skip))
  simp only [Act.put, List.setIfInBounds_toArray, List.set_cons_zero, List.set_cons_succ]
  refine wpList_load_rowG (by rfl) 36 _ rfl (w.heap.size) rfl VH 36 _ L1.out Tryz.underlying36 rfl (by rw [zh]; exact infoHo) ?_
  simp only [Act.put, List.setIfInBounds_toArray, List.set_cons_zero, List.set_cons_succ]
  refine wpList_onG (by rfl) ?_
  go_simp
  refine Calls.mono (HCH.out _ KB101.out) ?_
  rintro e y102 ⟨rfl, hc102⟩
  have hb102 : Hid (Below v1.heap.size v1 y102) := (hb101.out).trans ((hc102).mono (hb101.out).size)
  have KB102 : Hid (Below w.heap.size w y102) := KB101.out.trans ((hc102).mono KB101.out.size)
  have L1n : Hid (Lies y102 (w.heap.size) VH 36) := L1.out.below (hc102) L1.out.lt
  clear L1
  have L1 := L1n
  clear L1n
  have M1n : Hid (Lies y102 (y1.heap.size) VX 36) := M1.out.below (hc102) M1.out.lt
  clear M1
  have M1 := M1n
  clear M1n
  clear KB101
  clear hc102
  refine wpList_yieldG (.bool true) (by rfl) ?hy ?_
  case hy => (go_simp <;> (first | with_reducible rfl | omega | skip))
  simp only [Act.put, List.setIfInBounds_toArray, List.set_cons_zero, List.set_cons_succ]
  refine wpList_yieldG (.bool true) (by rfl) ?hy ?_
  case hy => (go_simp <;> (first | with_reducible rfl | omega | skip))
  simp only [Act.put, List.setIfInBounds_toArray, List.set_cons_zero, List.set_cons_succ]
  refine wpList_yieldG (.bool true) (by rfl) ?hy ?_
  case hy => (go_simp <;> (first | with_reducible rfl | omega | skip))
  simp only [Act.put, List.setIfInBounds_toArray, List.set_cons_zero, List.set_cons_succ]
  refine wpList_yieldG ?_ (by rfl) ?hy ?_
  case hy => (go_simp <;> (first | with_reducible rfl | omega | skip))
  simp only [Act.put, List.setIfInBounds_toArray, List.set_cons_zero, List.set_cons_succ]
  refine wpList_yieldG (.bool true) (by rfl) ?hy ?_
  case hy => (go_simp <;> (first | with_reducible rfl | omega | skip))
  simp only [Act.put, List.setIfInBounds_toArray, List.set_cons_zero, List.set_cons_succ]
  refine wpList_yieldG (.bool true) (by rfl) ?hy ?_
  case hy => (go_simp <;> (first | with_reducible rfl | omega | skip))
  simp only [Act.put, List.setIfInBounds_toArray, List.set_cons_zero, List.set_cons_succ]
  refine wpList_skipG (by rfl) ?_
  simp only [Act.put, List.setIfInBounds_toArray, List.set_cons_zero, List.set_cons_succ]
  refine wpList_skipG (by rfl) ?_
  simp only [Act.put, List.setIfInBounds_toArray, List.set_cons_zero, List.set_cons_succ]
  refine wpList_yieldG (.bool true) (by rfl) ?hy ?_
  case hy => (go_simp <;> (first | with_reducible rfl | omega | skip))
  simp only [Act.put, List.setIfInBounds_toArray, List.set_cons_zero, List.set_cons_succ]
  refine wpList_yieldG (.bool true) (by rfl) ?hy ?_
  case hy => (go_simp <;> (first | with_reducible rfl | omega | skip))
  simp only [Act.put, List.setIfInBounds_toArray, List.set_cons_zero, List.set_cons_succ]
  refine wpList_yieldG (.bool true) (by rfl) ?hy ?_
  case hy => (go_simp <;> (first | with_reducible rfl | omega | skip))
  simp only [Act.put, List.setIfInBounds_toArray, List.set_cons_zero, List.set_cons_succ]
  refine wpList_yieldG (.bool true) (by rfl) ?hy ?_
  case hy => (go_simp <;> (first | with_reducible rfl | omega | skip))
  simp only [Act.put, List.setIfInBounds_toArray, List.set_cons_zero, List.set_cons_succ]
  refine wpList_yieldG (.bool true) (by rfl) ?hy ?_
  case hy => (go_simp <;> (first | with_reducible rfl | omega | skip))
  simp only [Act.put, List.setIfInBounds_toArray, List.set_cons_zero, List.set_cons_succ]
  refine wpList_onG (by rfl) ?_
  go_simp
  refine Calls.mono (HW.out _ KB102.out) ?_
  rintro e y103 ⟨rfl, hc103⟩
  have hb103 : Hid (Below v1.heap.size v1 y103) := (hb102.out).trans ((hc103).mono (hb102.out).size)
  have KB103 : Hid (Below w.heap.size w y103) := KB102.out.trans ((hc103).mono KB102.out.size)
  have L1n : Hid (Lies y103 (w.heap.size) VH 36) := L1.out.below (hc103) L1.out.lt
  clear L1
  have L1 := L1n
  clear L1n
  have M1n : Hid (Lies y103 (y1.heap.size) VX 36) := M1.out.below (hc103) M1.out.lt
  clear M1
  have M1 := M1n
  clear M1n
  clear KB102
  clear hc103
  refine wpList_yieldG (.bool true) (by rfl) ?hy ?_
  case hy => (go_simp <;> (first | with_reducible rfl | omega | skip))
  simp only [Act.put, List.setIfInBounds_toArray, List.set_cons_zero, List.set_cons_succ]
  refine wpList_yieldG (.bool true) (by rfl) ?hy ?_
  case hy => (go_simp <;> (first | with_reducible rfl | omega | skip))
  simp only [Act.put, List.setIfInBounds_toArray, List.set_cons_zero, List.set_cons_succ]
  refine wpList_nil ?_
  go_wp2
  go_ret
  exact ⟨rfl, KB103.out⟩

set_option maxHeartbeats 16000000 in
set_option maxRecDepth 100000 in
theorem walkD (VH VX : Array Value) (h x : Ho) (hVH : VH = hostC h) (hVX : VX = hostC x) (hlh : h.a.length = 16) (hlx : x.a.length = 16) (hx0 : x = ho0) (w : World) (HH0 : Hid (VH[0]? = some (.int .i64 1)))
    (HAS : Hid (∀ wx, Below w.heap.size w wx → Calls Tryz.prog 14 #[.agg VH] wx fun e w' => e = .returned (.tuple #[.agg VX, .int .i64 81]) ∧ Below wx.heap.size wx w')) (HCH : Hid (∀ wx, Below w.heap.size w wx → Calls Tryz.prog 13 #[.agg VH, .bool true] wx fun e w' => e = .returned (.int .i64 0) ∧ Below wx.heap.size wx w')) (HW : Hid (∀ wx, Below w.heap.size w wx → Calls Tryz.prog 11 #[] wx fun e w' => e = .returned (.bool true) ∧ Below wx.heap.size wx w')) :
    Calls Tryz.prog 5 #[.agg VH] w fun e w' => e = .returned (.bool true) ∧ Below w.heap.size w w' := by
  have zh : VH.size = 18 := by rw [hVH]; exact hostC_size h hlh
  have zx : VX.size = 18 := by rw [hVX]; exact hostC_size x hlx
  have ox : Hid (VX.all (·.oneCell') = true ∧ (#[.int .i64 0, .string ⟨#[]⟩, .int .u8 0, .int .u8 0, .int .u8 0, .int .u8 0, .int .u8 0, .int .u8 0, .int .u8 0, .int .u8 0, .int .u8 0, .int .u8 0, .int .u8 0, .int .u8 0, .int .u8 0, .int .u8 0, .int .u8 0, .int .u8 0] : Array Value).size = VX.size) := ⟨by rw [hVX]; exact hostC_one x, by rw [zx]; rfl⟩
  have EH : Hid (VH = hostC h) := hVH
  have EX : Hid (VX = hostC x) := hVX
  have L1 : Hid (Lies (w.alloc (.cells VH 36)) w.heap.size VH 36) := Lies.new w _ _
  have KB : Hid (Below w.heap.size w (w.alloc (.cells VH 36))) := (Below.refl _ _).alloc (Nat.le_refl _) _
  clear hVH hVX
  go_enter Tryz.func5, Tryz.ntmps5
  go_upto_region 1 with fail
  generalize w.alloc (.cells VH 36) = v0 at L1 KB ⊢
  go_wp2_with (first | (refine wpList_load_rowG (by rfl) 36 _ rfl (w.heap.size) rfl VH 36 _ L1.out Tryz.underlying36 rfl (by rw [zh]; exact infoHo) ?_))
  refine Calls.mono (HAS.out _ KB.out) ?_
  rintro e y1 ⟨rfl, hc⟩
  have KB1 : Hid (Below w.heap.size w y1) := KB.out.trans ((hc).mono KB.out.size)
  have L1n : Hid (Lies y1 (w.heap.size) VH 36) := L1.out.below (hc) L1.out.lt
  clear L1
  have L1 := L1n
  clear L1n
  clear KB
  clear hc
  have A : Hid (Lies (y1.alloc (.cells #[.int .i64 0, .string ⟨#[]⟩, .int .u8 0, .int .u8 0, .int .u8 0, .int .u8 0, .int .u8 0, .int .u8 0, .int .u8 0, .int .u8 0, .int .u8 0, .int .u8 0, .int .u8 0, .int .u8 0, .int .u8 0, .int .u8 0, .int .u8 0, .int .u8 0] 36)) y1.heap.size #[.int .i64 0, .string ⟨#[]⟩, .int .u8 0, .int .u8 0, .int .u8 0, .int .u8 0, .int .u8 0, .int .u8 0, .int .u8 0, .int .u8 0, .int .u8 0, .int .u8 0, .int .u8 0, .int .u8 0, .int .u8 0, .int .u8 0, .int .u8 0, .int .u8 0] 36) := Lies.new y1 _ _
  have M1 : Hid (Lies ((y1.alloc (.cells #[.int .i64 0, .string ⟨#[]⟩, .int .u8 0, .int .u8 0, .int .u8 0, .int .u8 0, .int .u8 0, .int .u8 0, .int .u8 0, .int .u8 0, .int .u8 0, .int .u8 0, .int .u8 0, .int .u8 0, .int .u8 0, .int .u8 0, .int .u8 0, .int .u8 0] 36)).setRow y1.heap.size VX) y1.heap.size VX 36) := A.out.row _
  have BB : Hid (Below y1.heap.size y1 ((y1.alloc (.cells #[.int .i64 0, .string ⟨#[]⟩, .int .u8 0, .int .u8 0, .int .u8 0, .int .u8 0, .int .u8 0, .int .u8 0, .int .u8 0, .int .u8 0, .int .u8 0, .int .u8 0, .int .u8 0, .int .u8 0, .int .u8 0, .int .u8 0, .int .u8 0, .int .u8 0] 36)).setRow y1.heap.size VX)) := below_row ((Below.refl _ _).alloc (Nat.le_refl _) _) (Nat.le_refl _) _
  have KB2 : Hid (Below w.heap.size w ((y1.alloc (.cells #[.int .i64 0, .string ⟨#[]⟩, .int .u8 0, .int .u8 0, .int .u8 0, .int .u8 0, .int .u8 0, .int .u8 0, .int .u8 0, .int .u8 0, .int .u8 0, .int .u8 0, .int .u8 0, .int .u8 0, .int .u8 0, .int .u8 0, .int .u8 0, .int .u8 0] 36)).setRow y1.heap.size VX)) := KB1.out.trans ((BB.out).mono KB1.out.size)
  have L1n : Hid (Lies ((y1.alloc (.cells #[.int .i64 0, .string ⟨#[]⟩, .int .u8 0, .int .u8 0, .int .u8 0, .int .u8 0, .int .u8 0, .int .u8 0, .int .u8 0, .int .u8 0, .int .u8 0, .int .u8 0, .int .u8 0, .int .u8 0, .int .u8 0, .int .u8 0, .int .u8 0, .int .u8 0] 36)).setRow y1.heap.size VX) (w.heap.size) VH 36) := L1.out.below (BB.out) L1.out.lt
  clear L1
  have L1 := L1n
  clear L1n
  clear KB1
  go_upto_region 3 with (refine wpList_store_row rfl 36 _ _ rfl y1.heap.size rfl _ VX rfl 36 A.out (by rw [zx]; exact infoHo) ox.out.2 ox.out.1 rfl ?_)
  generalize hv1 : (y1.alloc (.cells #[.int .i64 0, .string ⟨#[]⟩, .int .u8 0, .int .u8 0, .int .u8 0, .int .u8 0, .int .u8 0, .int .u8 0, .int .u8 0, .int .u8 0, .int .u8 0, .int .u8 0, .int .u8 0, .int .u8 0, .int .u8 0, .int .u8 0, .int .u8 0, .int .u8 0] 36)).setRow y1.heap.size VX = v1 at M1 KB2 L1 ⊢
  clear hv1 A BB
  refine wp_region_lit ?_
  refine wpList_load_rowG (by rfl) 36 _ rfl (y1.heap.size) rfl VX 36 _ M1.out Tryz.underlying36 rfl (by rw [zx]; exact infoHo) ?_
  simp only [Act.put, List.setIfInBounds_toArray, List.set_cons_zero, List.set_cons_succ]
  refine wpList_yieldG (hostV ho0) (by rfl) ?hy ?_
  case hy => (go_simp; rfl)
  simp only [Act.put, List.setIfInBounds_toArray, List.set_cons_zero, List.set_cons_succ]
  refine wpList_yieldG (.bool true) (by rfl) ?hy ?_
  case hy => 
    refine Eq.trans (exec_eql_host _ _ _ rfl x ho0 ?_ ?_ hlx rfl) (by rw [decide_eq_true hx0])
    · (show Value.agg VX = _; rw [EX.out]; rfl)
    · rfl
  simp only [Act.put, List.setIfInBounds_toArray, List.set_cons_zero, List.set_cons_succ]
  refine wpList_yieldG (.bool true) (by rfl) ?hy ?_
  case hy => (go_simp <;> (first | with_reducible rfl | omega | skip))
  simp only [Act.put, List.setIfInBounds_toArray, List.set_cons_zero, List.set_cons_succ]
  refine wpList_load_rowG (by rfl) 36 _ rfl (w.heap.size) rfl VH 36 _ L1.out Tryz.underlying36 rfl (by rw [zh]; exact infoHo) ?_
  simp only [Act.put, List.setIfInBounds_toArray, List.set_cons_zero, List.set_cons_succ]
  refine wpList_onG (by rfl) ?_
  go_simp
  refine Calls.mono (HCH.out _ KB2.out) ?_
  rintro e y101 ⟨rfl, hc101⟩
  have hb101 : Hid (Below v1.heap.size v1 y101) := hc101
  have KB101 : Hid (Below w.heap.size w y101) := KB2.out.trans ((hc101).mono KB2.out.size)
  have L1n : Hid (Lies y101 (w.heap.size) VH 36) := L1.out.below (hc101) L1.out.lt
  clear L1
  have L1 := L1n
  clear L1n
  have M1n : Hid (Lies y101 (y1.heap.size) VX 36) := M1.out.below (hc101) M1.out.lt
  clear M1
  have M1 := M1n
  clear M1n
  clear KB2
  clear hc101
  refine wpList_yieldG ?_ (by rfl) ?hy ?_
  case hy => (go_simp <;> (first | with_reducible rfl | omega | skip))
  simp only [Act.put, List.setIfInBounds_toArray, List.set_cons_zero, List.set_cons_succ]
  refine wpList_yieldG (.bool false) (by rfl) ?hy ?_
  case hy => (go_simp <;> (first | with_reducible rfl | omega | skip))
  simp only [Act.put, List.setIfInBounds_toArray, List.set_cons_zero, List.set_cons_succ]
  refine wpList_yieldG (.bool false) (by rfl) ?hy ?_
  case hy => (go_simp <;> (first | with_reducible rfl | omega | skip))
  simp only [Act.put, List.setIfInBounds_toArray, List.set_cons_zero, List.set_cons_succ]
  refine wpList_yieldG ?_ (by rfl) ?hy ?_
  case hy => (go_simp <;> (first | with_reducible rfl | omega | skip))
  simp only [Act.put, List.setIfInBounds_toArray, List.set_cons_zero, List.set_cons_succ]
  have c0 : y101.cell? ⟨w.heap.size, 0, none⟩ = some (.int .i64 1) := by rw [L1.out.cell 0, HH0.out]
  refine wpList_yieldG (.int .i64 1) (by rfl) ?hy ?_
  case hy => (go_simp <;> (first | with_reducible rfl | omega | skip))
  clear c0
  simp only [Act.put, List.setIfInBounds_toArray, List.set_cons_zero, List.set_cons_succ]
  refine wpList_yieldG (.bool true) (by rfl) ?hy ?_
  case hy => (go_simp <;> (first | with_reducible rfl | omega | skip))
  simp only [Act.put, List.setIfInBounds_toArray, List.set_cons_zero, List.set_cons_succ]
  refine wpList_yieldG (.bool true) (by rfl) ?hy ?_
  case hy => (go_simp <;> (first | with_reducible rfl | omega | skip))
  simp only [Act.put, List.setIfInBounds_toArray, List.set_cons_zero, List.set_cons_succ]
  refine wpList_load_rowG (by rfl) 36 _ rfl (w.heap.size) rfl VH 36 _ L1.out Tryz.underlying36 rfl (by rw [zh]; exact infoHo) ?_
  simp only [Act.put, List.setIfInBounds_toArray, List.set_cons_zero, List.set_cons_succ]
  refine wpList_onG (by rfl) ?_
  go_simp
  refine Calls.mono (HCH.out _ KB101.out) ?_
  rintro e y102 ⟨rfl, hc102⟩
  have hb102 : Hid (Below v1.heap.size v1 y102) := (hb101.out).trans ((hc102).mono (hb101.out).size)
  have KB102 : Hid (Below w.heap.size w y102) := KB101.out.trans ((hc102).mono KB101.out.size)
  have L1n : Hid (Lies y102 (w.heap.size) VH 36) := L1.out.below (hc102) L1.out.lt
  clear L1
  have L1 := L1n
  clear L1n
  have M1n : Hid (Lies y102 (y1.heap.size) VX 36) := M1.out.below (hc102) M1.out.lt
  clear M1
  have M1 := M1n
  clear M1n
  clear KB101
  clear hc102
  refine wpList_yieldG (.bool true) (by rfl) ?hy ?_
  case hy => (go_simp <;> (first | with_reducible rfl | omega | skip))
  simp only [Act.put, List.setIfInBounds_toArray, List.set_cons_zero, List.set_cons_succ]
  refine wpList_yieldG (.bool true) (by rfl) ?hy ?_
  case hy => (go_simp <;> (first | with_reducible rfl | omega | skip))
  simp only [Act.put, List.setIfInBounds_toArray, List.set_cons_zero, List.set_cons_succ]
  refine wpList_yieldG (.bool true) (by rfl) ?hy ?_
  case hy => (go_simp <;> (first | with_reducible rfl | omega | skip))
  simp only [Act.put, List.setIfInBounds_toArray, List.set_cons_zero, List.set_cons_succ]
  refine wpList_yieldG ?_ (by rfl) ?hy ?_
  case hy => (go_simp <;> (first | with_reducible rfl | omega | skip))
  simp only [Act.put, List.setIfInBounds_toArray, List.set_cons_zero, List.set_cons_succ]
  refine wpList_yieldG (.bool false) (by rfl) ?hy ?_
  case hy => (go_simp <;> (first | with_reducible rfl | omega | skip))
  simp only [Act.put, List.setIfInBounds_toArray, List.set_cons_zero, List.set_cons_succ]
  refine wpList_yieldG (.bool false) (by rfl) ?hy ?_
  case hy => (go_simp <;> (first | with_reducible rfl | omega | skip))
  simp only [Act.put, List.setIfInBounds_toArray, List.set_cons_zero, List.set_cons_succ]
  refine wpList_yieldG ?_ (by rfl) ?hy ?_
  case hy => (go_simp <;> (first | with_reducible rfl | omega | skip))
  simp only [Act.put, List.setIfInBounds_toArray, List.set_cons_zero, List.set_cons_succ]
  refine wpList_yieldG (.bool true) (by rfl) ?hy ?_
  case hy => (go_simp <;> (first | with_reducible rfl | omega | skip))
  simp only [Act.put, List.setIfInBounds_toArray, List.set_cons_zero, List.set_cons_succ]
  refine wpList_yieldG (.bool true) (by rfl) ?hy ?_
  case hy => (go_simp <;> (first | with_reducible rfl | omega | skip))
  simp only [Act.put, List.setIfInBounds_toArray, List.set_cons_zero, List.set_cons_succ]
  refine wpList_yieldG (.bool true) (by rfl) ?hy ?_
  case hy => (go_simp <;> (first | with_reducible rfl | omega | skip))
  simp only [Act.put, List.setIfInBounds_toArray, List.set_cons_zero, List.set_cons_succ]
  refine wpList_yieldG (.bool true) (by rfl) ?hy ?_
  case hy => (go_simp <;> (first | with_reducible rfl | omega | skip))
  simp only [Act.put, List.setIfInBounds_toArray, List.set_cons_zero, List.set_cons_succ]
  refine wpList_yieldG (.bool true) (by rfl) ?hy ?_
  case hy => (go_simp <;> (first | with_reducible rfl | omega | skip))
  simp only [Act.put, List.setIfInBounds_toArray, List.set_cons_zero, List.set_cons_succ]
  refine wpList_yieldG (.bool true) (by rfl) ?hy ?_
  case hy => (go_simp <;> (first | with_reducible rfl | omega | skip))
  simp only [Act.put, List.setIfInBounds_toArray, List.set_cons_zero, List.set_cons_succ]
  refine wpList_onG (by rfl) ?_
  go_simp
  refine Calls.mono (HW.out _ KB102.out) ?_
  rintro e y103 ⟨rfl, hc103⟩
  have hb103 : Hid (Below v1.heap.size v1 y103) := (hb102.out).trans ((hc103).mono (hb102.out).size)
  have KB103 : Hid (Below w.heap.size w y103) := KB102.out.trans ((hc103).mono KB102.out.size)
  have L1n : Hid (Lies y103 (w.heap.size) VH 36) := L1.out.below (hc103) L1.out.lt
  clear L1
  have L1 := L1n
  clear L1n
  have M1n : Hid (Lies y103 (y1.heap.size) VX 36) := M1.out.below (hc103) M1.out.lt
  clear M1
  have M1 := M1n
  clear M1n
  clear KB102
  clear hc103
  refine wpList_yieldG (.bool true) (by rfl) ?hy ?_
  case hy => (go_simp <;> (first | with_reducible rfl | omega | skip))
  simp only [Act.put, List.setIfInBounds_toArray, List.set_cons_zero, List.set_cons_succ]
  refine wpList_yieldG (.bool true) (by rfl) ?hy ?_
  case hy => (go_simp <;> (first | with_reducible rfl | omega | skip))
  simp only [Act.put, List.setIfInBounds_toArray, List.set_cons_zero, List.set_cons_succ]
  refine wpList_nil ?_
  go_wp2
  go_ret
  exact ⟨rfl, KB103.out⟩

theorem walk (h : Ho) (okh : h.Ok) (_ : -9223372036854775808 ≤ h.k ∧ h.k ≤ 9223372036854775807) (sh : h.n.length ≤ 140737488351232) (w : World) (ht : Tc w) :
    Calls Tryz.prog 5 #[hostV h] w fun e w' => e = .returned (.bool true) ∧ Below w.heap.size w w' := by
  have HT : Hid (∀ wx, Below w.heap.size w wx → Tc wx) := fun wx hb => ht.below hb
  have HAS : Hid (∀ wx, Below w.heap.size w wx → Calls Tryz.prog 14 #[.agg (hostC h)] wx fun e w' => e = .returned (ascV (ascii asciiL h)) ∧ Below wx.heap.size wx w') := fun wx hx => asc_any h okh wx (HT.out wx hx) sh
  have HW : Hid (∀ wx, Below w.heap.size w wx → Calls Tryz.prog 11 #[] wx fun e w' => e = .returned (.bool true) ∧ Below wx.heap.size wx w') := fun wx hx => wakes_any wx (HT.out wx hx)
  have HCH : Hid (∀ wx, Below w.heap.size w wx → Calls Tryz.prog 13 #[.agg (hostC h), .bool true] wx fun e w' => e = .returned (.int .i64 (check h true : Nat)) ∧ Below wx.heap.size wx w') := fun wx hx => chk_any h okh.len true wx (HT.out wx hx).tb sh
  show Calls Tryz.prog 5 #[.agg (hostC h)] w _
  by_cases he : (ascii asciiL h).2 = 0
  · obtain ⟨w1, w2, w3, w4, w5, w6⟩ := wires_ok labs_ascii he
    have okx : (ascii asciiL h).1.Ok := ⟨by rw [w5]; exact okh.len, by rw [w5]; exact okh.byt⟩
    have sx : (ascii asciiL h).1.n.length ≤ 140737488351232 := ascii_len8 sh
    generalize hx : ascii asciiL h = X at *
    obtain ⟨x, e⟩ := X
    obtain rfl : e = 0 := he
    refine walkA _ _ h x rfl rfl okh.len okx.len w5 h.k ⟨x.n.toArray⟩ (by show x.n.toArray.size ≤ _; rw [List.size_toArray]; exact sx) (by show _ = _; rw [← w4]; rfl) rfl rfl (fun hk j hj => ?_) w HAS
      (fun wx hx => by have := asc_any x okx wx (HT.out wx hx) sx; rw [w3] at this; exact this)
      (fun wx hx => by have := chk_any x okx.len false wx (HT.out wx hx).tb sx; rw [w1] at this; exact this)
      (fun wx hx => by have := sme_any x h okx okh wx (HT.out wx hx) sx sh; rw [w2] at this; exact this) HW
    exact w6 hk _ (by show x.n.toArray[j] ∈ x.n; simp)
  · obtain ⟨h1, h2⟩ := wires_err he
    generalize hx : ascii asciiL h = X at *
    obtain ⟨x, e⟩ := X
    dsimp only at he h1 h2
    rcases h2 with h2 | ⟨hk, h2, h3⟩
    · rw [h2] at HCH
      exact walkB _ _ h x rfl rfl okh.len (by rw [h1]; rfl) h1 e he w HAS HCH HW
    · rw [h2] at HCH
      rcases h3 with rfl | rfl
      · exact walkC _ _ h x rfl rfl okh.len (by rw [h1]; rfl) h1 w (by show _ = _; rw [← hk]; rfl) HAS HCH HW
      · exact walkD _ _ h x rfl rfl okh.len (by rw [h1]; rfl) h1 w (by show _ = _; rw [← hk]; rfl) HAS HCH HW

set_option maxRecDepth 100000 in
theorem contract (H : Type) (enc : TypeId × Value → H) (W : World) (base : Nat) (args : Array Value) (ds gs : List (DataW H)) (before : List MemPlace)
    (hval : ∀ (j : Nat) t v, Tryz.f5.params[j]? = some t → args[j]? = some v → Value.okWide Tryz.prog W .any base t v)
    (hW : DataW.Whole enc Tryz.prog Tryz.f5.params.toList Rows.domainWiresSpec.vars false W args.toList ds gs before)
    (hsz : (DataW.weightsEach Tryz.prog (Tryz.f5.params.toList ++ (OpenSpec.ofChange Rows.domainWiresSpec).bare.plain.varTypes Tryz.prog) (ds ++ gs)).all (· ≤ reachBytes) = true)
    (hL : laidMetH Tryz.prog Rows.domainWiresRow.laid W) (hsh : W.ShapedOpen Tryz.prog) :
    Calls Tryz.prog 5 args W fun e W' => ∃ v, e = .returned v ∧ Rows.domainWiresSpec.post enc Tryz.prog Tryz.f5 false true false false W args v W' := by
  have hW' := hW
  obtain ⟨p, q, hA0, hV, rfl, hfz, hnd⟩ := hW
  have hA : DataW.TrodAll enc Tryz.prog W 0 (fun _ => true) true Tryz.f5.params.toList args.toList ds p := hA0
  rw [Tryz.params5] at hA hval hsz
  obtain ⟨v0, vs0, d0, ds0, p0, q0, hargs, rfl, rfl, h0, r0⟩ := trodAll_cons hA
  obtain ⟨rfl, rfl, rfl⟩ := trodAll_nil r0
  obtain rfl : args = #[v0] := by cases args; simp_all
  obtain ⟨rfl, rfl⟩ := trodVars_none hV
  have k0 := h0
  have lt0 : ∀ x ∈ p0, x.block < W.heap.size := by obtain ⟨m, hm⟩ := k0; exact DataW.trod_lt m _ _ _ hm
  obtain ⟨a0, rfl, b0, e0⟩ := open_host (hval 0 36 v0 rfl rfl) h0
  clear hA0
  have s0 := host_size (j := 0) hsz rfl rfl e0
  refine (walk a0 b0.1 b0.2 s0 W (tabs8_of hL hsh)).mono fun e W' ⟨he, bel⟩ => ?_
  subst he
  exact ⟨_, rfl, _, _, _, [], _, [], hW', trodAll_mk1 (shut_bool Tryz.underlying4 _), trodAll_cons_mk (Below.trod laidOut (by kernel_rfl) (of_decide_eq_true (by kernel_rfl)) k0 bel lt0) trodAll_mk0, rfl, bel.frame _, fun h => by cases h⟩

set_option maxRecDepth 100000 in
theorem laid_met (os : Os) : laidMet Tryz.prog Rows.domainWiresRow.laid ((laidWorld8 os).forCall (fun _ _ => 0) ⟨#[], #[.agg #[.int .i64 0, .string ByteArray.empty, .int .u8 0, .int .u8 0, .int .u8 0, .int .u8 0, .int .u8 0, .int .u8 0, .int .u8 0, .int .u8 0, .int .u8 0, .int .u8 0, .int .u8 0, .int .u8 0, .int .u8 0, .int .u8 0, .int .u8 0, .int .u8 0]], []⟩).memory :=
  laidMet_of_run' 8 (by kernel_rfl) (by kernel_rfl)
set_option maxRecDepth 100000 in
theorem reads (os : Os) {H : Type} (enc : TypeId × Value → H) : ∃ places, DataW.whole enc Tryz.prog ((laidWorld8 os).forCall (fun _ _ => 0) ⟨#[], #[.agg #[.int .i64 0, .string ByteArray.empty, .int .u8 0, .int .u8 0, .int .u8 0, .int .u8 0, .int .u8 0, .int .u8 0, .int .u8 0, .int .u8 0, .int .u8 0, .int .u8 0, .int .u8 0, .int .u8 0, .int .u8 0, .int .u8 0, .int .u8 0, .int .u8 0]], []⟩).memory Tryz.f5.params.toList Rows.domainWiresSpec.vars false #[Value.agg #[.int .i64 0, .string ByteArray.empty, .int .u8 0, .int .u8 0, .int .u8 0, .int .u8 0, .int .u8 0, .int .u8 0, .int .u8 0, .int .u8 0, .int .u8 0, .int .u8 0, .int .u8 0, .int .u8 0, .int .u8 0, .int .u8 0, .int .u8 0, .int .u8 0]].toList 8 = some ([.agg [.lit (.int .i64 0), .lit (.string []), .agg [.lit (.int .u8 0), .lit (.int .u8 0), .lit (.int .u8 0), .lit (.int .u8 0), .lit (.int .u8 0), .lit (.int .u8 0), .lit (.int .u8 0), .lit (.int .u8 0), .lit (.int .u8 0), .lit (.int .u8 0), .lit (.int .u8 0), .lit (.int .u8 0), .lit (.int .u8 0), .lit (.int .u8 0), .lit (.int .u8 0), .lit (.int .u8 0)]]], [], places) :=
  ⟨[], by kernel_rfl⟩

set_option maxRecDepth 100000 in
theorem lifted (os : Os) (started : os.Started) (H : Type) (enc : TypeId × Value → H) (F : Stop.Interp) :
    ReturnsInHanded {} Tryz.checked os 5 .any ((OpenSpec.ofChange Rows.domainWiresSpec).preRow enc Tryz.prog Tryz.f5 Rows.domainWiresRow.domain false Rows.domainWiresRow.laid) (((OpenSpec.ofChange Rows.domainWiresSpec).at F).post enc Tryz.prog Tryz.f5 false true false false) := by
  obtain ⟨places, hx⟩ := reads os enc
  refine returnsInHanded_of_row (C := Tryz.checked) (s := OpenSpec.ofChange Rows.domainWiresSpec) own started (by kernel_rfl) Tryz.func5
    (witness_row_at (enc := enc) (C := Tryz.checked) false (laidWorld8 os) #[.agg #[.int .i64 0, .string ByteArray.empty, .int .u8 0, .int .u8 0, .int .u8 0, .int .u8 0, .int .u8 0, .int .u8 0, .int .u8 0, .int .u8 0, .int .u8 0, .int .u8 0, .int .u8 0, .int .u8 0, .int .u8 0, .int .u8 0, .int .u8 0, .int .u8 0]] rfl (by kernel_rfl) (by kernel_rfl) (by kernel_rfl)
      (OpenSpec.preRow_of_cond 8 hx (by kernel_rfl) (fun k hk => by cases hk) (by kernel_rfl) (laid_met os))) ?_
  intro W base args ds gs before hval hW _ _ hsz hL hsh _
  exact contract H enc W base args ds gs before hval hW hsz hL hsh

theorem said : Rows.DomainWiresSaid :=
  OpenClaim.holds_of_cond 5 Tryz.f5 rfl rfl rfl rfl rfl rfl rfl ⟨rfl, rfl, rfl, rfl, rfl⟩ rfl rfl rfl rfl rfl (by kernel_rfl) Tryz.func5 (by kernel_rfl)
    (of_decide_eq_true (by kernel_rfl)) (by unfold Func.isWrapper; first | (rw [if_pos (by decide +kernel)]; kernel_rfl) | (rw [if_neg (by decide +kernel)]; exact ⟨rfl, rfl⟩))
    (fun os started H enc _ F => by rw [OpenClaim.pre_eq_preRow]; exact lifted os started H enc F)

/-- No parameter wants a stand-in; the program's own looks are off. -/
theorem plain (f : FuncId) (fn : Func) (hf : Tryz.pinned.checked.prog.funcNamed "posthorn/posthornlaw08.DomainWires" = some f) (hfn : Tryz.pinned.checked.prog.funcs[f]? = some fn) :
    true = Tryz.pinned.checked.prog.looks [] ∧ ∀ (j : Nat) t, fn.params[j]? = some t → Tryz.pinned.checked.prog.wantsStandIn t = false := by
  obtain rfl : f = 5 := Option.some.inj ((show Tryz.prog.funcNamed "posthorn/posthornlaw08.DomainWires" = some 5 by kernel_rfl).symm.trans hf) |>.symm
  obtain rfl : fn = Tryz.f5 := (Option.some.inj (Tryz.func5.symm.trans hfn)).symm
  refine ⟨by kernel_rfl, fun j t ht => ?_⟩
  rw [Tryz.params5] at ht
  have hm : t ∈ [36] := by simpa using Array.mem_of_getElem? ht
  have hall : ([36].all fun u => !Tryz.prog.wantsStandIn u) = true := by kernel_rfl
  exact (show Tryz.prog.wantsStandIn t = false by simpa using List.all_eq_true.1 hall t hm)

/-- The card. -/
theorem card : Rows.DomainWiresCardSaid :=
  Claim7.holds_tied_plain_at .later [] _ _ _ _ said (fun _ h => by cases h) (by kernel_rfl) (fun _ h => by cases h) domainWires_row_tie rfl ⟨rfl, rfl⟩ (by kernel_rfl) rfl plain (by kernel_rfl)
end Go.Proofs.YtnlgbopdbihnjabGreatDoor.domainWires
namespace Go.Proofs.YtnlgbopdbihnjabGreatDoor
theorem domainWires_card : Rows.DomainWiresCardSaid := domainWires.card
#print axioms domainWires_card
end Go.Proofs.YtnlgbopdbihnjabGreatDoor
