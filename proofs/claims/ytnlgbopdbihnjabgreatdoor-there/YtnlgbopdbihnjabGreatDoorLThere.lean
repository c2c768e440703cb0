/-
  For every two addresses and every text the statement DomainThere returns true.
-/
import Derived.Test.YtnlgbopdbihnjabGreatDoorRg8
import Derived.ProofKit
import Derived.ChangeMaps5
import Derived.OpenShut
import Derived.ShutString
import Derived.ChangeOld
import Derived.SizedLaws
namespace Go.Proofs.YtnlgbopdbihnjabGreatDoor.domainThere
open Go.ChangeShapes Go.WideShapes Go.ChangeAt Go.RowKit
open Go.ChangeMaps (open_string shut_string)

theorem bytesV_one (l : List Nat) : (bytesV l).all (·.oneCell') = true := by
  rw [Array.all_eq_true_iff_forall_mem]
  intro v hv
  unfold bytesV at hv
  rw [List.mem_toArray] at hv
  obtain ⟨n, _, rfl⟩ := List.mem_map.1 hv
  rfl
set_option maxHeartbeats 8000000 in
set_option maxRecDepth 100000 in
theorem walkA (q0 q1 q2 q3 : Nat) (b z : List Nat) (VA VB VZ : Array Value) (hVA : VA = #[.int .u8 (q0 : Nat), .int .u8 (q1 : Nat), .int .u8 (q2 : Nat), .int .u8 (q3 : Nat)]) (hVB : VB = bytesV b) (hlb : b.length = 16) (hVZ : VZ = bytesV z) (hlz : z.length = 16) (s S4 S6 SZ : ByteArray) (w : World)
    (HP4 : Hid (∀ wx, Below w.heap.size w wx → Calls Tryz.prog 8 #[.agg VA] wx fun e w' => e = .returned (.string S4) ∧ Below wx.heap.size wx w')) (HV4 : Hid (∀ wx, Below w.heap.size w wx → Calls Tryz.prog 7 #[.string S4] wx fun e w' => e = .returned (.tuple #[.agg VA, .agg #[.int .i64 0, .int .i64 0]]) ∧ Below wx.heap.size wx w'))
    (HP6 : Hid (∀ wx, Below w.heap.size w wx → Calls Tryz.prog 10 #[.agg VB] wx fun e w' => e = .returned (.string S6) ∧ Below wx.heap.size wx w')) (HV6 : Hid (∀ wx, Below w.heap.size w wx → Calls Tryz.prog 9 #[.string S6] wx fun e w' => e = .returned (.tuple #[.agg VB, .agg #[.int .i64 0, .int .i64 0]]) ∧ Below wx.heap.size wx w'))
    (HVs : Hid (∀ wx, Below w.heap.size w wx → Calls Tryz.prog 9 #[.string s] wx fun e w' => e = .returned (.tuple #[.agg VZ, .agg #[.int .i64 0, .int .i64 0]]) ∧ Below wx.heap.size wx w'))
    (HPz : Hid (∀ wx, Below w.heap.size w wx → Calls Tryz.prog 10 #[.agg VZ] wx fun e w' => e = .returned (.string SZ) ∧ Below wx.heap.size wx w')) (HVz : Hid (∀ wx, Below w.heap.size w wx → Calls Tryz.prog 9 #[.string SZ] wx fun e w' => e = .returned (.tuple #[.agg VZ, .agg #[.int .i64 0, .int .i64 0]]) ∧ Below wx.heap.size wx w'))
    (HW : Hid (∀ wx, Below w.heap.size w wx → Calls Tryz.prog 11 #[] wx fun e w' => e = .returned (.bool true) ∧ Below wx.heap.size wx w')) :
    Calls Tryz.prog 3 #[.agg VA, .agg VB, .string s] w fun e w' => e = .returned (.bool true) ∧ Below w.heap.size w w' := by
  have L1 : Hid (Lies ((w.alloc (.cells VA 22)).alloc (.cells VB 23)) w.heap.size VA 22) := (Lies.new w _ _).alloc _
  have L2 : Hid (Lies ((w.alloc (.cells VA 22)).alloc (.cells VB 23)) (w.heap.size + 1) VB 23) := new_one w _ _ _
  have KB : Hid (Below w.heap.size w ((w.alloc (.cells VA 22)).alloc (.cells VB 23))) := ((Below.refl _ _).alloc (Nat.le_refl _) _).alloc (by simp) _
  have i4 : Hid ((Tryz.prog.info? 22).map (·.size) = some VA.size) := by rw [hVA]; exact info4
  have i6 : Hid ((Tryz.prog.info? 23).map (·.size) = some VB.size) := by rw [hVB, bytesV_size, hlb]; exact info16
  have o4 : Hid (VA.all (·.oneCell') = true ∧ (#[.int .u8 0, .int .u8 0, .int .u8 0, .int .u8 0] : Array Value).size = VA.size) := by rw [hVA]; exact ⟨by simp [Value.oneCell'], rfl⟩
  have o6 : Hid (VB.all (·.oneCell') = true ∧ (#[.int .u8 0, .int .u8 0, .int .u8 0, .int .u8 0, .int .u8 0, .int .u8 0, .int .u8 0, .int .u8 0, .int .u8 0, .int .u8 0, .int .u8 0, .int .u8 0, .int .u8 0, .int .u8 0, .int .u8 0, .int .u8 0] : Array Value).size = VB.size) := by rw [hVB]; exact ⟨bytesV_one b, by rw [bytesV_size, hlb]; rfl⟩
  have HVA : Hid (VA = #[.int .u8 (q0 : Nat), .int .u8 (q1 : Nat), .int .u8 (q2 : Nat), .int .u8 (q3 : Nat)]) := hVA
  have HVB : Hid (VB = bytesV b) := hVB
  have iz : Hid ((Tryz.prog.info? 23).map (·.size) = some VZ.size) := by rw [hVZ, bytesV_size, hlz]; exact info16
  have oz : Hid (VZ.all (·.oneCell') = true ∧ (#[.int .u8 0, .int .u8 0, .int .u8 0, .int .u8 0, .int .u8 0, .int .u8 0, .int .u8 0, .int .u8 0, .int .u8 0, .int .u8 0, .int .u8 0, .int .u8 0, .int .u8 0, .int .u8 0, .int .u8 0, .int .u8 0] : Array Value).size = VZ.size) := by rw [hVZ]; exact ⟨bytesV_one z, by rw [bytesV_size, hlz]; rfl⟩
  have HVZ : Hid (VZ = bytesV z) := hVZ
  clear hVA hVB hVZ
  go_enter Tryz.func3, Tryz.ntmps3
  go_upto_region 1 with fail
  generalize (w.alloc (.cells VA 22)).alloc (.cells VB 23) = v0 at L1 L2 KB ⊢
  go_wp2_with (first | (refine wpList_load_rowG (by rfl) 22 _ rfl (w.heap.size) rfl VA 22 _ L1.out Tryz.underlying22 rfl i4.out ?_))
  refine Calls.mono (HP4.out _ KB.out) ?_
  rintro e y1 ⟨rfl, hc⟩
  have KB1 : Hid (Below w.heap.size w y1) := KB.out.trans ((hc).mono KB.out.size)
  have L1n : Hid (Lies y1 (w.heap.size) VA 22) := L1.out.below (hc) L1.out.lt
  clear L1
  have L1 := L1n
  clear L1n
  have L2n : Hid (Lies y1 (w.heap.size + 1) VB 23) := L2.out.below (hc) L2.out.lt
  clear L2
  have L2 := L2n
  clear L2n
  clear KB
  clear hc
  go_wp2_with fail
  refine Calls.mono (HV4.out _ KB1.out) ?_
  rintro e y2 ⟨rfl, hc⟩
  have KB2 : Hid (Below w.heap.size w y2) := KB1.out.trans ((hc).mono KB1.out.size)
  have L1n : Hid (Lies y2 (w.heap.size) VA 22) := L1.out.below (hc) L1.out.lt
  clear L1
  have L1 := L1n
  clear L1n
  have L2n : Hid (Lies y2 (w.heap.size + 1) VB 23) := L2.out.below (hc) L2.out.lt
  clear L2
  have L2 := L2n
  clear L2n
  clear KB1
  clear hc
  have A : Hid (Lies ((y2.alloc (.cells #[.int .u8 0, .int .u8 0, .int .u8 0, .int .u8 0] 22)).alloc (.cells #[.int .i64 0, .int .i64 0] 26)) y2.heap.size #[.int .u8 0, .int .u8 0, .int .u8 0, .int .u8 0] 22) := (Lies.new y2 _ _).alloc _
  have B : Hid (Lies ((y2.alloc (.cells #[.int .u8 0, .int .u8 0, .int .u8 0, .int .u8 0] 22)).alloc (.cells #[.int .i64 0, .int .i64 0] 26)) (y2.heap.size + 1) #[.int .i64 0, .int .i64 0] 26) := new_one y2 _ _ _
  have M1 : Hid (Lies ((((y2.alloc (.cells #[.int .u8 0, .int .u8 0, .int .u8 0, .int .u8 0] 22)).alloc (.cells #[.int .i64 0, .int .i64 0] 26)).setRow y2.heap.size VA).setRow (y2.heap.size + 1) #[.int .i64 0, .int .i64 0]) y2.heap.size VA 22) := (A.out.row _).row_other (by omega) _
  have N1 : Hid (Lies ((((y2.alloc (.cells #[.int .u8 0, .int .u8 0, .int .u8 0, .int .u8 0] 22)).alloc (.cells #[.int .i64 0, .int .i64 0] 26)).setRow y2.heap.size VA).setRow (y2.heap.size + 1) #[.int .i64 0, .int .i64 0]) (y2.heap.size + 1) #[.int .i64 0, .int .i64 0] 26) := (B.out.row_other (by omega) _).row _
  have BB : Hid (Below y2.heap.size y2 ((((y2.alloc (.cells #[.int .u8 0, .int .u8 0, .int .u8 0, .int .u8 0] 22)).alloc (.cells #[.int .i64 0, .int .i64 0] 26)).setRow y2.heap.size VA).setRow (y2.heap.size + 1) #[.int .i64 0, .int .i64 0])) := below_row (below_row (((Below.refl _ _).alloc (Nat.le_refl _) _).alloc (by simp) _) (Nat.le_refl _) _) (by omega) _
  have KB3 : Hid (Below w.heap.size w ((((y2.alloc (.cells #[.int .u8 0, .int .u8 0, .int .u8 0, .int .u8 0] 22)).alloc (.cells #[.int .i64 0, .int .i64 0] 26)).setRow y2.heap.size VA).setRow (y2.heap.size + 1) #[.int .i64 0, .int .i64 0])) := KB2.out.trans ((BB.out).mono KB2.out.size)
  have L1n : Hid (Lies ((((y2.alloc (.cells #[.int .u8 0, .int .u8 0, .int .u8 0, .int .u8 0] 22)).alloc (.cells #[.int .i64 0, .int .i64 0] 26)).setRow y2.heap.size VA).setRow (y2.heap.size + 1) #[.int .i64 0, .int .i64 0]) (w.heap.size) VA 22) := L1.out.below (BB.out) L1.out.lt
  clear L1
  have L1 := L1n
  clear L1n
  have L2n : Hid (Lies ((((y2.alloc (.cells #[.int .u8 0, .int .u8 0, .int .u8 0, .int .u8 0] 22)).alloc (.cells #[.int .i64 0, .int .i64 0] 26)).setRow y2.heap.size VA).setRow (y2.heap.size + 1) #[.int .i64 0, .int .i64 0]) (w.heap.size + 1) VB 23) := L2.out.below (BB.out) L2.out.lt
  clear L2
  have L2 := L2n
  clear L2n
  clear KB2
  go_upto_region 2 with (first | (refine wpList_store_row rfl 22 _ _ rfl y2.heap.size rfl _ VA rfl 22 A.out i4.out o4.out.2 o4.out.1 rfl ?_) | (refine wpList_store_row rfl 26 _ _ rfl (y2.heap.size + 1) rfl _ #[.int .i64 0, .int .i64 0] rfl 26 (B.out.row_other (by omega) _) infoSp rfl (by simp [Value.oneCell']) rfl ?_))
  generalize hv1 : (((y2.alloc (.cells #[.int .u8 0, .int .u8 0, .int .u8 0, .int .u8 0] 22)).alloc (.cells #[.int .i64 0, .int .i64 0] 26)).setRow y2.heap.size VA).setRow (y2.heap.size + 1) #[.int .i64 0, .int .i64 0] = v1 at M1 N1 KB3 L1 L2 ⊢
  clear hv1 A B BB
  go_wp2_with (first | (refine wpList_load_rowG (by rfl) 23 _ rfl (w.heap.size + 1) rfl VB 23 _ L2.out Tryz.underlying23 rfl i6.out ?_))
  refine Calls.mono (HP6.out _ KB3.out) ?_
  rintro e y3 ⟨rfl, hc⟩
  have KB4 : Hid (Below w.heap.size w y3) := KB3.out.trans ((hc).mono KB3.out.size)
  have L1n : Hid (Lies y3 (w.heap.size) VA 22) := L1.out.below (hc) L1.out.lt
  clear L1
  have L1 := L1n
  clear L1n
  have L2n : Hid (Lies y3 (w.heap.size + 1) VB 23) := L2.out.below (hc) L2.out.lt
  clear L2
  have L2 := L2n
  clear L2n
  have M1n : Hid (Lies y3 (y2.heap.size) VA 22) := M1.out.below (hc) M1.out.lt
  clear M1
  have M1 := M1n
  clear M1n
  have N1n : Hid (Lies y3 (y2.heap.size + 1) #[.int .i64 0, .int .i64 0] 26) := N1.out.below (hc) N1.out.lt
  clear N1
  have N1 := N1n
  clear N1n
  clear KB3
  clear hc
  go_wp2_with fail
  refine Calls.mono (HV6.out _ KB4.out) ?_
  rintro e y4 ⟨rfl, hc⟩
  have KB5 : Hid (Below w.heap.size w y4) := KB4.out.trans ((hc).mono KB4.out.size)
  have L1n : Hid (Lies y4 (w.heap.size) VA 22) := L1.out.below (hc) L1.out.lt
  clear L1
  have L1 := L1n
  clear L1n
  have L2n : Hid (Lies y4 (w.heap.size + 1) VB 23) := L2.out.below (hc) L2.out.lt
  clear L2
  have L2 := L2n
  clear L2n
  have M1n : Hid (Lies y4 (y2.heap.size) VA 22) := M1.out.below (hc) M1.out.lt
  clear M1
  have M1 := M1n
  clear M1n
  have N1n : Hid (Lies y4 (y2.heap.size + 1) #[.int .i64 0, .int .i64 0] 26) := N1.out.below (hc) N1.out.lt
  clear N1
  have N1 := N1n
  clear N1n
  clear KB4
  clear hc
  have A : Hid (Lies ((y4.alloc (.cells #[.int .u8 0, .int .u8 0, .int .u8 0, .int .u8 0, .int .u8 0, .int .u8 0, .int .u8 0, .int .u8 0, .int .u8 0, .int .u8 0, .int .u8 0, .int .u8 0, .int .u8 0, .int .u8 0, .int .u8 0, .int .u8 0] 23)).alloc (.cells #[.int .i64 0, .int .i64 0] 26)) y4.heap.size #[.int .u8 0, .int .u8 0, .int .u8 0, .int .u8 0, .int .u8 0, .int .u8 0, .int .u8 0, .int .u8 0, .int .u8 0, .int .u8 0, .int .u8 0, .int .u8 0, .int .u8 0, .int .u8 0, .int .u8 0, .int .u8 0] 23) := (Lies.new y4 _ _).alloc _
  have B : Hid (Lies ((y4.alloc (.cells #[.int .u8 0, .int .u8 0, .int .u8 0, .int .u8 0, .int .u8 0, .int .u8 0, .int .u8 0, .int .u8 0, .int .u8 0, .int .u8 0, .int .u8 0, .int .u8 0, .int .u8 0, .int .u8 0, .int .u8 0, .int .u8 0] 23)).alloc (.cells #[.int .i64 0, .int .i64 0] 26)) (y4.heap.size + 1) #[.int .i64 0, .int .i64 0] 26) := new_one y4 _ _ _
  have M2 : Hid (Lies ((((y4.alloc (.cells #[.int .u8 0, .int .u8 0, .int .u8 0, .int .u8 0, .int .u8 0, .int .u8 0, .int .u8 0, .int .u8 0, .int .u8 0, .int .u8 0, .int .u8 0, .int .u8 0, .int .u8 0, .int .u8 0, .int .u8 0, .int .u8 0] 23)).alloc (.cells #[.int .i64 0, .int .i64 0] 26)).setRow y4.heap.size VB).setRow (y4.heap.size + 1) #[.int .i64 0, .int .i64 0]) y4.heap.size VB 23) := (A.out.row _).row_other (by omega) _
  have N2 : Hid (Lies ((((y4.alloc (.cells #[.int .u8 0, .int .u8 0, .int .u8 0, .int .u8 0, .int .u8 0, .int .u8 0, .int .u8 0, .int .u8 0, .int .u8 0, .int .u8 0, .int .u8 0, .int .u8 0, .int .u8 0, .int .u8 0, .int .u8 0, .int .u8 0] 23)).alloc (.cells #[.int .i64 0, .int .i64 0] 26)).setRow y4.heap.size VB).setRow (y4.heap.size + 1) #[.int .i64 0, .int .i64 0]) (y4.heap.size + 1) #[.int .i64 0, .int .i64 0] 26) := (B.out.row_other (by omega) _).row _
  have BB : Hid (Below y4.heap.size y4 ((((y4.alloc (.cells #[.int .u8 0, .int .u8 0, .int .u8 0, .int .u8 0, .int .u8 0, .int .u8 0, .int .u8 0, .int .u8 0, .int .u8 0, .int .u8 0, .int .u8 0, .int .u8 0, .int .u8 0, .int .u8 0, .int .u8 0, .int .u8 0] 23)).alloc (.cells #[.int .i64 0, .int .i64 0] 26)).setRow y4.heap.size VB).setRow (y4.heap.size + 1) #[.int .i64 0, .int .i64 0])) := below_row (below_row (((Below.refl _ _).alloc (Nat.le_refl _) _).alloc (by simp) _) (Nat.le_refl _) _) (by omega) _
  have KB6 : Hid (Below w.heap.size w ((((y4.alloc (.cells #[.int .u8 0, .int .u8 0, .int .u8 0, .int .u8 0, .int .u8 0, .int .u8 0, .int .u8 0, .int .u8 0, .int .u8 0, .int .u8 0, .int .u8 0, .int .u8 0, .int .u8 0, .int .u8 0, .int .u8 0, .int .u8 0] 23)).alloc (.cells #[.int .i64 0, .int .i64 0] 26)).setRow y4.heap.size VB).setRow (y4.heap.size + 1) #[.int .i64 0, .int .i64 0])) := KB5.out.trans ((BB.out).mono KB5.out.size)
  have L1n : Hid (Lies ((((y4.alloc (.cells #[.int .u8 0, .int .u8 0, .int .u8 0, .int .u8 0, .int .u8 0, .int .u8 0, .int .u8 0, .int .u8 0, .int .u8 0, .int .u8 0, .int .u8 0, .int .u8 0, .int .u8 0, .int .u8 0, .int .u8 0, .int .u8 0] 23)).alloc (.cells #[.int .i64 0, .int .i64 0] 26)).setRow y4.heap.size VB).setRow (y4.heap.size + 1) #[.int .i64 0, .int .i64 0]) (w.heap.size) VA 22) := L1.out.below (BB.out) L1.out.lt
  clear L1
  have L1 := L1n
  clear L1n
  have L2n : Hid (Lies ((((y4.alloc (.cells #[.int .u8 0, .int .u8 0, .int .u8 0, .int .u8 0, .int .u8 0, .int .u8 0, .int .u8 0, .int .u8 0, .int .u8 0, .int .u8 0, .int .u8 0, .int .u8 0, .int .u8 0, .int .u8 0, .int .u8 0, .int .u8 0] 23)).alloc (.cells #[.int .i64 0, .int .i64 0] 26)).setRow y4.heap.size VB).setRow (y4.heap.size + 1) #[.int .i64 0, .int .i64 0]) (w.heap.size + 1) VB 23) := L2.out.below (BB.out) L2.out.lt
  clear L2
  have L2 := L2n
  clear L2n
  have M1n : Hid (Lies ((((y4.alloc (.cells #[.int .u8 0, .int .u8 0, .int .u8 0, .int .u8 0, .int .u8 0, .int .u8 0, .int .u8 0, .int .u8 0, .int .u8 0, .int .u8 0, .int .u8 0, .int .u8 0, .int .u8 0, .int .u8 0, .int .u8 0, .int .u8 0] 23)).alloc (.cells #[.int .i64 0, .int .i64 0] 26)).setRow y4.heap.size VB).setRow (y4.heap.size + 1) #[.int .i64 0, .int .i64 0]) (y2.heap.size) VA 22) := M1.out.below (BB.out) M1.out.lt
  clear M1
  have M1 := M1n
  clear M1n
  have N1n : Hid (Lies ((((y4.alloc (.cells #[.int .u8 0, .int .u8 0, .int .u8 0, .int .u8 0, .int .u8 0, .int .u8 0, .int .u8 0, .int .u8 0, .int .u8 0, .int .u8 0, .int .u8 0, .int .u8 0, .int .u8 0, .int .u8 0, .int .u8 0, .int .u8 0] 23)).alloc (.cells #[.int .i64 0, .int .i64 0] 26)).setRow y4.heap.size VB).setRow (y4.heap.size + 1) #[.int .i64 0, .int .i64 0]) (y2.heap.size + 1) #[.int .i64 0, .int .i64 0] 26) := N1.out.below (BB.out) N1.out.lt
  clear N1
  have N1 := N1n
  clear N1n
  clear KB5
  go_upto_region 3 with (first | (refine wpList_store_row rfl 23 _ _ rfl y4.heap.size rfl _ VB rfl 23 A.out i6.out o6.out.2 o6.out.1 rfl ?_) | (refine wpList_store_row rfl 26 _ _ rfl (y4.heap.size + 1) rfl _ #[.int .i64 0, .int .i64 0] rfl 26 (B.out.row_other (by omega) _) infoSp rfl (by simp [Value.oneCell']) rfl ?_))
  generalize hv2 : (((y4.alloc (.cells #[.int .u8 0, .int .u8 0, .int .u8 0, .int .u8 0, .int .u8 0, .int .u8 0, .int .u8 0, .int .u8 0, .int .u8 0, .int .u8 0, .int .u8 0, .int .u8 0, .int .u8 0, .int .u8 0, .int .u8 0, .int .u8 0] 23)).alloc (.cells #[.int .i64 0, .int .i64 0] 26)).setRow y4.heap.size VB).setRow (y4.heap.size + 1) #[.int .i64 0, .int .i64 0] = v2 at M2 N2 KB6 L1 L2 M1 N1 ⊢
  clear hv2 A B BB
  refine wp_region_lit ?_
  refine wpList_load_rowG (by rfl) 22 _ rfl (y2.heap.size) rfl VA 22 _ M1.out Tryz.underlying22 rfl i4.out ?_
  simp only [Act.put, List.setIfInBounds_toArray, List.set_cons_zero, List.set_cons_succ]
  refine wpList_load_rowG (by rfl) 22 _ rfl (w.heap.size) rfl VA 22 _ L1.out Tryz.underlying22 rfl i4.out ?_
  simp only [Act.put, List.setIfInBounds_toArray, List.set_cons_zero, List.set_cons_succ]
  refine wpList_yieldG (.bool false) (by rfl) (by rw [HVA.out]; refine Eq.trans (exec_neq4 _ _ _ rfl [q0, q1, q2, q3] [q0, q1, q2, q3] rfl rfl rfl rfl) (by rw [decide_eq_true rfl]; rfl)) ?_
  simp only [Act.put, List.setIfInBounds_toArray, List.set_cons_zero, List.set_cons_succ]
  refine wpList_yieldG ?_ (by rfl) ?hy ?_
  case hy => (go_simp <;> (first | with_reducible rfl | omega | skip))
  simp only [Act.put, List.setIfInBounds_toArray, List.set_cons_zero, List.set_cons_succ]
  refine wpList_load_rowG (by rfl) 23 _ rfl (y4.heap.size) rfl VB 23 _ M2.out Tryz.underlying23 rfl i6.out ?_
  simp only [Act.put, List.setIfInBounds_toArray, List.set_cons_zero, List.set_cons_succ]
  refine wpList_load_rowG (by rfl) 23 _ rfl (w.heap.size + 1) rfl VB 23 _ L2.out Tryz.underlying23 rfl i6.out ?_
  simp only [Act.put, List.setIfInBounds_toArray, List.set_cons_zero, List.set_cons_succ]
  refine wpList_yieldG (.bool false) (by rfl) (by rw [HVB.out]; refine Eq.trans (exec_neq16 _ _ _ rfl b b rfl rfl hlb hlb) (by rw [decide_eq_true rfl]; rfl)) ?_
  simp only [Act.put, List.setIfInBounds_toArray, List.set_cons_zero, List.set_cons_succ]
  refine wpList_yieldG ?_ (by rfl) ?hy ?_
  case hy => (go_simp <;> (first | with_reducible rfl | omega | skip))
  simp only [Act.put, List.setIfInBounds_toArray, List.set_cons_zero, List.set_cons_succ]
  refine wpList_yieldG ?_ (by rfl) ?hy ?_
  case hy => (go_simp <;> (first | with_reducible rfl | omega | skip))
  simp only [Act.put, List.setIfInBounds_toArray, List.set_cons_zero, List.set_cons_succ]
  refine wpList_load_rowG (by rfl) 26 _ rfl (y2.heap.size + 1) rfl #[.int .i64 0, .int .i64 0] 26 _ N1.out Tryz.underlying26 rfl infoSp ?_
  simp only [Act.put, List.setIfInBounds_toArray, List.set_cons_zero, List.set_cons_succ]
  refine wpList_yieldG ?_ (by rfl) ?hy ?_
  case hy => (go_simp <;> (first | with_reducible rfl | omega | skip))
  simp only [Act.put, List.setIfInBounds_toArray, List.set_cons_zero, List.set_cons_succ]
  refine wpList_yieldG ?_ (by rfl) ?hy ?_
  case hy => (go_simp <;> (first | with_reducible rfl | omega | skip))
  simp only [Act.put, List.setIfInBounds_toArray, List.set_cons_zero, List.set_cons_succ]
  refine wpList_yieldG ?_ (by rfl) ?hy ?_
  case hy => (go_simp <;> (first | with_reducible rfl | omega | skip))
  simp only [Act.put, List.setIfInBounds_toArray, List.set_cons_zero, List.set_cons_succ]
  refine wpList_yieldG ?_ (by rfl) ?hy ?_
  case hy => (go_simp <;> (first | with_reducible rfl | omega | skip))
  simp only [Act.put, List.setIfInBounds_toArray, List.set_cons_zero, List.set_cons_succ]
  refine wpList_load_rowG (by rfl) 26 _ rfl (y4.heap.size + 1) rfl #[.int .i64 0, .int .i64 0] 26 _ N2.out Tryz.underlying26 rfl infoSp ?_
  simp only [Act.put, List.setIfInBounds_toArray, List.set_cons_zero, List.set_cons_succ]
  refine wpList_yieldG ?_ (by rfl) ?hy ?_
  case hy => (go_simp <;> (first | with_reducible rfl | omega | skip))
  simp only [Act.put, List.setIfInBounds_toArray, List.set_cons_zero, List.set_cons_succ]
  refine wpList_yieldG ?_ (by rfl) ?hy ?_
  case hy => (go_simp <;> (first | with_reducible rfl | omega | skip))
  simp only [Act.put, List.setIfInBounds_toArray, List.set_cons_zero, List.set_cons_succ]
  refine wpList_yieldG ?_ (by rfl) ?hy ?_
  case hy => (go_simp <;> (first | with_reducible rfl | omega | skip))
  simp only [Act.put, List.setIfInBounds_toArray, List.set_cons_zero, List.set_cons_succ]
  refine wpList_nil ?_
  go_upto_region 5 with fail
  go_wp2_with fail
  refine Calls.mono (HVs.out _ KB6.out) ?_
  rintro e y5 ⟨rfl, hc⟩
  have KB7 : Hid (Below w.heap.size w y5) := KB6.out.trans ((hc).mono KB6.out.size)
  have L1n : Hid (Lies y5 (w.heap.size) VA 22) := L1.out.below (hc) L1.out.lt
  clear L1
  have L1 := L1n
  clear L1n
  have L2n : Hid (Lies y5 (w.heap.size + 1) VB 23) := L2.out.below (hc) L2.out.lt
  clear L2
  have L2 := L2n
  clear L2n
  have M1n : Hid (Lies y5 (y2.heap.size) VA 22) := M1.out.below (hc) M1.out.lt
  clear M1
  have M1 := M1n
  clear M1n
  have N1n : Hid (Lies y5 (y2.heap.size + 1) #[.int .i64 0, .int .i64 0] 26) := N1.out.below (hc) N1.out.lt
  clear N1
  have N1 := N1n
  clear N1n
  have M2n : Hid (Lies y5 (y4.heap.size) VB 23) := M2.out.below (hc) M2.out.lt
  clear M2
  have M2 := M2n
  clear M2n
  have N2n : Hid (Lies y5 (y4.heap.size + 1) #[.int .i64 0, .int .i64 0] 26) := N2.out.below (hc) N2.out.lt
  clear N2
  have N2 := N2n
  clear N2n
  clear KB6
  clear hc
  have A : Hid (Lies ((y5.alloc (.cells #[.int .u8 0, .int .u8 0, .int .u8 0, .int .u8 0, .int .u8 0, .int .u8 0, .int .u8 0, .int .u8 0, .int .u8 0, .int .u8 0, .int .u8 0, .int .u8 0, .int .u8 0, .int .u8 0, .int .u8 0, .int .u8 0] 23)).alloc (.cells #[.int .i64 0, .int .i64 0] 26)) y5.heap.size #[.int .u8 0, .int .u8 0, .int .u8 0, .int .u8 0, .int .u8 0, .int .u8 0, .int .u8 0, .int .u8 0, .int .u8 0, .int .u8 0, .int .u8 0, .int .u8 0, .int .u8 0, .int .u8 0, .int .u8 0, .int .u8 0] 23) := (Lies.new y5 _ _).alloc _
  have B : Hid (Lies ((y5.alloc (.cells #[.int .u8 0, .int .u8 0, .int .u8 0, .int .u8 0, .int .u8 0, .int .u8 0, .int .u8 0, .int .u8 0, .int .u8 0, .int .u8 0, .int .u8 0, .int .u8 0, .int .u8 0, .int .u8 0, .int .u8 0, .int .u8 0] 23)).alloc (.cells #[.int .i64 0, .int .i64 0] 26)) (y5.heap.size + 1) #[.int .i64 0, .int .i64 0] 26) := new_one y5 _ _ _
  have M3 : Hid (Lies ((((y5.alloc (.cells #[.int .u8 0, .int .u8 0, .int .u8 0, .int .u8 0, .int .u8 0, .int .u8 0, .int .u8 0, .int .u8 0, .int .u8 0, .int .u8 0, .int .u8 0, .int .u8 0, .int .u8 0, .int .u8 0, .int .u8 0, .int .u8 0] 23)).alloc (.cells #[.int .i64 0, .int .i64 0] 26)).setRow y5.heap.size VZ).setRow (y5.heap.size + 1) #[.int .i64 0, .int .i64 0]) y5.heap.size VZ 23) := (A.out.row _).row_other (by omega) _
  have N3 : Hid (Lies ((((y5.alloc (.cells #[.int .u8 0, .int .u8 0, .int .u8 0, .int .u8 0, .int .u8 0, .int .u8 0, .int .u8 0, .int .u8 0, .int .u8 0, .int .u8 0, .int .u8 0, .int .u8 0, .int .u8 0, .int .u8 0, .int .u8 0, .int .u8 0] 23)).alloc (.cells #[.int .i64 0, .int .i64 0] 26)).setRow y5.heap.size VZ).setRow (y5.heap.size + 1) #[.int .i64 0, .int .i64 0]) (y5.heap.size + 1) #[.int .i64 0, .int .i64 0] 26) := (B.out.row_other (by omega) _).row _
  have BB : Hid (Below y5.heap.size y5 ((((y5.alloc (.cells #[.int .u8 0, .int .u8 0, .int .u8 0, .int .u8 0, .int .u8 0, .int .u8 0, .int .u8 0, .int .u8 0, .int .u8 0, .int .u8 0, .int .u8 0, .int .u8 0, .int .u8 0, .int .u8 0, .int .u8 0, .int .u8 0] 23)).alloc (.cells #[.int .i64 0, .int .i64 0] 26)).setRow y5.heap.size VZ).setRow (y5.heap.size + 1) #[.int .i64 0, .int .i64 0])) := below_row (below_row (((Below.refl _ _).alloc (Nat.le_refl _) _).alloc (by simp) _) (Nat.le_refl _) _) (by omega) _
  have KB8 : Hid (Below w.heap.size w ((((y5.alloc (.cells #[.int .u8 0, .int .u8 0, .int .u8 0, .int .u8 0, .int .u8 0, .int .u8 0, .int .u8 0, .int .u8 0, .int .u8 0, .int .u8 0, .int .u8 0, .int .u8 0, .int .u8 0, .int .u8 0, .int .u8 0, .int .u8 0] 23)).alloc (.cells #[.int .i64 0, .int .i64 0] 26)).setRow y5.heap.size VZ).setRow (y5.heap.size + 1) #[.int .i64 0, .int .i64 0])) := KB7.out.trans ((BB.out).mono KB7.out.size)
  have L1n : Hid (Lies ((((y5.alloc (.cells #[.int .u8 0, .int .u8 0, .int .u8 0, .int .u8 0, .int .u8 0, .int .u8 0, .int .u8 0, .int .u8 0, .int .u8 0, .int .u8 0, .int .u8 0, .int .u8 0, .int .u8 0, .int .u8 0, .int .u8 0, .int .u8 0] 23)).alloc (.cells #[.int .i64 0, .int .i64 0] 26)).setRow y5.heap.size VZ).setRow (y5.heap.size + 1) #[.int .i64 0, .int .i64 0]) (w.heap.size) VA 22) := L1.out.below (BB.out) L1.out.lt
  clear L1
  have L1 := L1n
  clear L1n
  have L2n : Hid (Lies ((((y5.alloc (.cells #[.int .u8 0, .int .u8 0, .int .u8 0, .int .u8 0, .int .u8 0, .int .u8 0, .int .u8 0, .int .u8 0, .int .u8 0, .int .u8 0, .int .u8 0, .int .u8 0, .int .u8 0, .int .u8 0, .int .u8 0, .int .u8 0] 23)).alloc (.cells #[.int .i64 0, .int .i64 0] 26)).setRow y5.heap.size VZ).setRow (y5.heap.size + 1) #[.int .i64 0, .int .i64 0]) (w.heap.size + 1) VB 23) := L2.out.below (BB.out) L2.out.lt
  clear L2
  have L2 := L2n
  clear L2n
  have M1n : Hid (Lies ((((y5.alloc (.cells #[.int .u8 0, .int .u8 0, .int .u8 0, .int .u8 0, .int .u8 0, .int .u8 0, .int .u8 0, .int .u8 0, .int .u8 0, .int .u8 0, .int .u8 0, .int .u8 0, .int .u8 0, .int .u8 0, .int .u8 0, .int .u8 0] 23)).alloc (.cells #[.int .i64 0, .int .i64 0] 26)).setRow y5.heap.size VZ).setRow (y5.heap.size + 1) #[.int .i64 0, .int .i64 0]) (y2.heap.size) VA 22) := M1.out.below (BB.out) M1.out.lt
  clear M1
  have M1 := M1n
  clear M1n
  have N1n : Hid (Lies ((((y5.alloc (.cells #[.int .u8 0, .int .u8 0, .int .u8 0, .int .u8 0, .int .u8 0, .int .u8 0, .int .u8 0, .int .u8 0, .int .u8 0, .int .u8 0, .int .u8 0, .int .u8 0, .int .u8 0, .int .u8 0, .int .u8 0, .int .u8 0] 23)).alloc (.cells #[.int .i64 0, .int .i64 0] 26)).setRow y5.heap.size VZ).setRow (y5.heap.size + 1) #[.int .i64 0, .int .i64 0]) (y2.heap.size + 1) #[.int .i64 0, .int .i64 0] 26) := N1.out.below (BB.out) N1.out.lt
  clear N1
  have N1 := N1n
  clear N1n
  have M2n : Hid (Lies ((((y5.alloc (.cells #[.int .u8 0, .int .u8 0, .int .u8 0, .int .u8 0, .int .u8 0, .int .u8 0, .int .u8 0, .int .u8 0, .int .u8 0, .int .u8 0, .int .u8 0, .int .u8 0, .int .u8 0, .int .u8 0, .int .u8 0, .int .u8 0] 23)).alloc (.cells #[.int .i64 0, .int .i64 0] 26)).setRow y5.heap.size VZ).setRow (y5.heap.size + 1) #[.int .i64 0, .int .i64 0]) (y4.heap.size) VB 23) := M2.out.below (BB.out) M2.out.lt
  clear M2
  have M2 := M2n
  clear M2n
  have N2n : Hid (Lies ((((y5.alloc (.cells #[.int .u8 0, .int .u8 0, .int .u8 0, .int .u8 0, .int .u8 0, .int .u8 0, .int .u8 0, .int .u8 0, .int .u8 0, .int .u8 0, .int .u8 0, .int .u8 0, .int .u8 0, .int .u8 0, .int .u8 0, .int .u8 0] 23)).alloc (.cells #[.int .i64 0, .int .i64 0] 26)).setRow y5.heap.size VZ).setRow (y5.heap.size + 1) #[.int .i64 0, .int .i64 0]) (y4.heap.size + 1) #[.int .i64 0, .int .i64 0] 26) := N2.out.below (BB.out) N2.out.lt
  clear N2
  have N2 := N2n
  clear N2n
  clear KB7
  go_upto_region 6 with (first | (refine wpList_store_row rfl 23 _ _ rfl y5.heap.size rfl _ VZ rfl 23 A.out iz.out oz.out.2 oz.out.1 rfl ?_) | (refine wpList_store_row rfl 26 _ _ rfl (y5.heap.size + 1) rfl _ #[.int .i64 0, .int .i64 0] rfl 26 (B.out.row_other (by omega) _) infoSp rfl (by simp [Value.oneCell']) rfl ?_))
  generalize hv3 : (((y5.alloc (.cells #[.int .u8 0, .int .u8 0, .int .u8 0, .int .u8 0, .int .u8 0, .int .u8 0, .int .u8 0, .int .u8 0, .int .u8 0, .int .u8 0, .int .u8 0, .int .u8 0, .int .u8 0, .int .u8 0, .int .u8 0, .int .u8 0] 23)).alloc (.cells #[.int .i64 0, .int .i64 0] 26)).setRow y5.heap.size VZ).setRow (y5.heap.size + 1) #[.int .i64 0, .int .i64 0] = v3 at M3 N3 KB8 L1 L2 M1 N1 M2 N2 ⊢
  clear hv3 A B BB
  have f0 := N3.out.cell 0
  simp at f0
  go_upto_region 8 with fail
  clear f0
  go_wp2_with (first | (refine wpList_load_rowG (by rfl) 23 _ rfl (y5.heap.size) rfl VZ 23 _ M3.out Tryz.underlying23 rfl iz.out ?_))
  refine Calls.mono (HPz.out _ KB8.out) ?_
  rintro e y6 ⟨rfl, hc⟩
  have KB9 : Hid (Below w.heap.size w y6) := KB8.out.trans ((hc).mono KB8.out.size)
  have L1n : Hid (Lies y6 (w.heap.size) VA 22) := L1.out.below (hc) L1.out.lt
  clear L1
  have L1 := L1n
  clear L1n
  have L2n : Hid (Lies y6 (w.heap.size + 1) VB 23) := L2.out.below (hc) L2.out.lt
  clear L2
  have L2 := L2n
  clear L2n
  have M1n : Hid (Lies y6 (y2.heap.size) VA 22) := M1.out.below (hc) M1.out.lt
  clear M1
  have M1 := M1n
  clear M1n
  have N1n : Hid (Lies y6 (y2.heap.size + 1) #[.int .i64 0, .int .i64 0] 26) := N1.out.below (hc) N1.out.lt
  clear N1
  have N1 := N1n
  clear N1n
  have M2n : Hid (Lies y6 (y4.heap.size) VB 23) := M2.out.below (hc) M2.out.lt
  clear M2
  have M2 := M2n
  clear M2n
  have N2n : Hid (Lies y6 (y4.heap.size + 1) #[.int .i64 0, .int .i64 0] 26) := N2.out.below (hc) N2.out.lt
  clear N2
  have N2 := N2n
  clear N2n
  have M3n : Hid (Lies y6 (y5.heap.size) VZ 23) := M3.out.below (hc) M3.out.lt
  clear M3
  have M3 := M3n
  clear M3n
  have N3n : Hid (Lies y6 (y5.heap.size + 1) #[.int .i64 0, .int .i64 0] 26) := N3.out.below (hc) N3.out.lt
  clear N3
  have N3 := N3n
  clear N3n
  clear KB8
  clear hc
  go_upto_region 9 with fail
  go_wp2_with fail
  refine Calls.mono (HVz.out _ KB9.out) ?_
  rintro e y7 ⟨rfl, hc⟩
  have KB10 : Hid (Below w.heap.size w y7) := KB9.out.trans ((hc).mono KB9.out.size)
  have L1n : Hid (Lies y7 (w.heap.size) VA 22) := L1.out.below (hc) L1.out.lt
  clear L1
  have L1 := L1n
  clear L1n
  have L2n : Hid (Lies y7 (w.heap.size + 1) VB 23) := L2.out.below (hc) L2.out.lt
  clear L2
  have L2 := L2n
  clear L2n
  have M1n : Hid (Lies y7 (y2.heap.size) VA 22) := M1.out.below (hc) M1.out.lt
  clear M1
  have M1 := M1n
  clear M1n
  have N1n : Hid (Lies y7 (y2.heap.size + 1) #[.int .i64 0, .int .i64 0] 26) := N1.out.below (hc) N1.out.lt
  clear N1
  have N1 := N1n
  clear N1n
  have M2n : Hid (Lies y7 (y4.heap.size) VB 23) := M2.out.below (hc) M2.out.lt
  clear M2
  have M2 := M2n
  clear M2n
  have N2n : Hid (Lies y7 (y4.heap.size + 1) #[.int .i64 0, .int .i64 0] 26) := N2.out.below (hc) N2.out.lt
  clear N2
  have N2 := N2n
  clear N2n
  have M3n : Hid (Lies y7 (y5.heap.size) VZ 23) := M3.out.below (hc) M3.out.lt
  clear M3
  have M3 := M3n
  clear M3n
  have N3n : Hid (Lies y7 (y5.heap.size + 1) #[.int .i64 0, .int .i64 0] 26) := N3.out.below (hc) N3.out.lt
  clear N3
  have N3 := N3n
  clear N3n
  clear KB9
  clear hc
  have A : Hid (Lies ((y7.alloc (.cells #[.int .u8 0, .int .u8 0, .int .u8 0, .int .u8 0, .int .u8 0, .int .u8 0, .int .u8 0, .int .u8 0, .int .u8 0, .int .u8 0, .int .u8 0, .int .u8 0, .int .u8 0, .int .u8 0, .int .u8 0, .int .u8 0] 23)).alloc (.cells #[.int .i64 0, .int .i64 0] 26)) y7.heap.size #[.int .u8 0, .int .u8 0, .int .u8 0, .int .u8 0, .int .u8 0, .int .u8 0, .int .u8 0, .int .u8 0, .int .u8 0, .int .u8 0, .int .u8 0, .int .u8 0, .int .u8 0, .int .u8 0, .int .u8 0, .int .u8 0] 23) := (Lies.new y7 _ _).alloc _
  have B : Hid (Lies ((y7.alloc (.cells #[.int .u8 0, .int .u8 0, .int .u8 0, .int .u8 0, .int .u8 0, .int .u8 0, .int .u8 0, .int .u8 0, .int .u8 0, .int .u8 0, .int .u8 0, .int .u8 0, .int .u8 0, .int .u8 0, .int .u8 0, .int .u8 0] 23)).alloc (.cells #[.int .i64 0, .int .i64 0] 26)) (y7.heap.size + 1) #[.int .i64 0, .int .i64 0] 26) := new_one y7 _ _ _
  have M4 : Hid (Lies ((((y7.alloc (.cells #[.int .u8 0, .int .u8 0, .int .u8 0, .int .u8 0, .int .u8 0, .int .u8 0, .int .u8 0, .int .u8 0, .int .u8 0, .int .u8 0, .int .u8 0, .int .u8 0, .int .u8 0, .int .u8 0, .int .u8 0, .int .u8 0] 23)).alloc (.cells #[.int .i64 0, .int .i64 0] 26)).setRow y7.heap.size VZ).setRow (y7.heap.size + 1) #[.int .i64 0, .int .i64 0]) y7.heap.size VZ 23) := (A.out.row _).row_other (by omega) _
  have N4 : Hid (Lies ((((y7.alloc (.cells #[.int .u8 0, .int .u8 0, .int .u8 0, .int .u8 0, .int .u8 0, .int .u8 0, .int .u8 0, .int .u8 0, .int .u8 0, .int .u8 0, .int .u8 0, .int .u8 0, .int .u8 0, .int .u8 0, .int .u8 0, .int .u8 0] 23)).alloc (.cells #[.int .i64 0, .int .i64 0] 26)).setRow y7.heap.size VZ).setRow (y7.heap.size + 1) #[.int .i64 0, .int .i64 0]) (y7.heap.size + 1) #[.int .i64 0, .int .i64 0] 26) := (B.out.row_other (by omega) _).row _
  have BB : Hid (Below y7.heap.size y7 ((((y7.alloc (.cells #[.int .u8 0, .int .u8 0, .int .u8 0, .int .u8 0, .int .u8 0, .int .u8 0, .int .u8 0, .int .u8 0, .int .u8 0, .int .u8 0, .int .u8 0, .int .u8 0, .int .u8 0, .int .u8 0, .int .u8 0, .int .u8 0] 23)).alloc (.cells #[.int .i64 0, .int .i64 0] 26)).setRow y7.heap.size VZ).setRow (y7.heap.size + 1) #[.int .i64 0, .int .i64 0])) := below_row (below_row (((Below.refl _ _).alloc (Nat.le_refl _) _).alloc (by simp) _) (Nat.le_refl _) _) (by omega) _
  have KB11 : Hid (Below w.heap.size w ((((y7.alloc (.cells #[.int .u8 0, .int .u8 0, .int .u8 0, .int .u8 0, .int .u8 0, .int .u8 0, .int .u8 0, .int .u8 0, .int .u8 0, .int .u8 0, .int .u8 0, .int .u8 0, .int .u8 0, .int .u8 0, .int .u8 0, .int .u8 0] 23)).alloc (.cells #[.int .i64 0, .int .i64 0] 26)).setRow y7.heap.size VZ).setRow (y7.heap.size + 1) #[.int .i64 0, .int .i64 0])) := KB10.out.trans ((BB.out).mono KB10.out.size)
  have L1n : Hid (Lies ((((y7.alloc (.cells #[.int .u8 0, .int .u8 0, .int .u8 0, .int .u8 0, .int .u8 0, .int .u8 0, .int .u8 0, .int .u8 0, .int .u8 0, .int .u8 0, .int .u8 0, .int .u8 0, .int .u8 0, .int .u8 0, .int .u8 0, .int .u8 0] 23)).alloc (.cells #[.int .i64 0, .int .i64 0] 26)).setRow y7.heap.size VZ).setRow (y7.heap.size + 1) #[.int .i64 0, .int .i64 0]) (w.heap.size) VA 22) := L1.out.below (BB.out) L1.out.lt
  clear L1
  have L1 := L1n
  clear L1n
  have L2n : Hid (Lies ((((y7.alloc (.cells #[.int .u8 0, .int .u8 0, .int .u8 0, .int .u8 0, .int .u8 0, .int .u8 0, .int .u8 0, .int .u8 0, .int .u8 0, .int .u8 0, .int .u8 0, .int .u8 0, .int .u8 0, .int .u8 0, .int .u8 0, .int .u8 0] 23)).alloc (.cells #[.int .i64 0, .int .i64 0] 26)).setRow y7.heap.size VZ).setRow (y7.heap.size + 1) #[.int .i64 0, .int .i64 0]) (w.heap.size + 1) VB 23) := L2.out.below (BB.out) L2.out.lt
  clear L2
  have L2 := L2n
  clear L2n
  have M1n : Hid (Lies ((((y7.alloc (.cells #[.int .u8 0, .int .u8 0, .int .u8 0, .int .u8 0, .int .u8 0, .int .u8 0, .int .u8 0, .int .u8 0, .int .u8 0, .int .u8 0, .int .u8 0, .int .u8 0, .int .u8 0, .int .u8 0, .int .u8 0, .int .u8 0] 23)).alloc (.cells #[.int .i64 0, .int .i64 0] 26)).setRow y7.heap.size VZ).setRow (y7.heap.size + 1) #[.int .i64 0, .int .i64 0]) (y2.heap.size) VA 22) := M1.out.below (BB.out) M1.out.lt
  clear M1
  have M1 := M1n
  clear M1n
  have N1n : Hid (Lies ((((y7.alloc (.cells #[.int .u8 0, .int .u8 0, .int .u8 0, .int .u8 0, .int .u8 0, .int .u8 0, .int .u8 0, .int .u8 0, .int .u8 0, .int .u8 0, .int .u8 0, .int .u8 0, .int .u8 0, .int .u8 0, .int .u8 0, .int .u8 0] 23)).alloc (.cells #[.int .i64 0, .int .i64 0] 26)).setRow y7.heap.size VZ).setRow (y7.heap.size + 1) #[.int .i64 0, .int .i64 0]) (y2.heap.size + 1) #[.int .i64 0, .int .i64 0] 26) := N1.out.below (BB.out) N1.out.lt
  clear N1
  have N1 := N1n
  clear N1n
  have M2n : Hid (Lies ((((y7.alloc (.cells #[.int .u8 0, .int .u8 0, .int .u8 0, .int .u8 0, .int .u8 0, .int .u8 0, .int .u8 0, .int .u8 0, .int .u8 0, .int .u8 0, .int .u8 0, .int .u8 0, .int .u8 0, .int .u8 0, .int .u8 0, .int .u8 0] 23)).alloc (.cells #[.int .i64 0, .int .i64 0] 26)).setRow y7.heap.size VZ).setRow (y7.heap.size + 1) #[.int .i64 0, .int .i64 0]) (y4.heap.size) VB 23) := M2.out.below (BB.out) M2.out.lt
  clear M2
  have M2 := M2n
  clear M2n
  have N2n : Hid (Lies ((((y7.alloc (.cells #[.int .u8 0, .int .u8 0, .int .u8 0, .int .u8 0, .int .u8 0, .int .u8 0, .int .u8 0, .int .u8 0, .int .u8 0, .int .u8 0, .int .u8 0, .int .u8 0, .int .u8 0, .int .u8 0, .int .u8 0, .int .u8 0] 23)).alloc (.cells #[.int .i64 0, .int .i64 0] 26)).setRow y7.heap.size VZ).setRow (y7.heap.size + 1) #[.int .i64 0, .int .i64 0]) (y4.heap.size + 1) #[.int .i64 0, .int .i64 0] 26) := N2.out.below (BB.out) N2.out.lt
  clear N2
  have N2 := N2n
  clear N2n
  have M3n : Hid (Lies ((((y7.alloc (.cells #[.int .u8 0, .int .u8 0, .int .u8 0, .int .u8 0, .int .u8 0, .int .u8 0, .int .u8 0, .int .u8 0, .int .u8 0, .int .u8 0, .int .u8 0, .int .u8 0, .int .u8 0, .int .u8 0, .int .u8 0, .int .u8 0] 23)).alloc (.cells #[.int .i64 0, .int .i64 0] 26)).setRow y7.heap.size VZ).setRow (y7.heap.size + 1) #[.int .i64 0, .int .i64 0]) (y5.heap.size) VZ 23) := M3.out.below (BB.out) M3.out.lt
  clear M3
  have M3 := M3n
  clear M3n
  have N3n : Hid (Lies ((((y7.alloc (.cells #[.int .u8 0, .int .u8 0, .int .u8 0, .int .u8 0, .int .u8 0, .int .u8 0, .int .u8 0, .int .u8 0, .int .u8 0, .int .u8 0, .int .u8 0, .int .u8 0, .int .u8 0, .int .u8 0, .int .u8 0, .int .u8 0] 23)).alloc (.cells #[.int .i64 0, .int .i64 0] 26)).setRow y7.heap.size VZ).setRow (y7.heap.size + 1) #[.int .i64 0, .int .i64 0]) (y5.heap.size + 1) #[.int .i64 0, .int .i64 0] 26) := N3.out.below (BB.out) N3.out.lt
  clear N3
  have N3 := N3n
  clear N3n
  clear KB10
  go_upto_region 10 with (first | (refine wpList_store_row rfl 23 _ _ rfl y7.heap.size rfl _ VZ rfl 23 A.out iz.out oz.out.2 oz.out.1 rfl ?_) | (refine wpList_store_row rfl 26 _ _ rfl (y7.heap.size + 1) rfl _ #[.int .i64 0, .int .i64 0] rfl 26 (B.out.row_other (by omega) _) infoSp rfl (by simp [Value.oneCell']) rfl ?_))
  generalize hv4 : (((y7.alloc (.cells #[.int .u8 0, .int .u8 0, .int .u8 0, .int .u8 0, .int .u8 0, .int .u8 0, .int .u8 0, .int .u8 0, .int .u8 0, .int .u8 0, .int .u8 0, .int .u8 0, .int .u8 0, .int .u8 0, .int .u8 0, .int .u8 0] 23)).alloc (.cells #[.int .i64 0, .int .i64 0] 26)).setRow y7.heap.size VZ).setRow (y7.heap.size + 1) #[.int .i64 0, .int .i64 0] = v4 at M4 N4 KB11 L1 L2 M1 N1 M2 N2 M3 N3 ⊢
  clear hv4 A B BB
  refine wp_region_lit ?_
  refine wpList_load_rowG (by rfl) 23 _ rfl (y7.heap.size) rfl VZ 23 _ M4.out Tryz.underlying23 rfl iz.out ?_
  simp only [Act.put, List.setIfInBounds_toArray, List.set_cons_zero, List.set_cons_succ]
  refine wpList_load_rowG (by rfl) 23 _ rfl (y5.heap.size) rfl VZ 23 _ M3.out Tryz.underlying23 rfl iz.out ?_
  simp only [Act.put, List.setIfInBounds_toArray, List.set_cons_zero, List.set_cons_succ]
  refine wpList_yieldG (.bool true) (by rfl) (by rw [HVZ.out]; refine Eq.trans (exec_eql16 _ _ _ rfl z z rfl rfl hlz hlz) (by rw [decide_eq_true rfl])) ?_
  simp only [Act.put, List.setIfInBounds_toArray, List.set_cons_zero, List.set_cons_succ]
  refine wpList_yieldG ?_ (by rfl) ?hy ?_
  case hy => (go_simp <;> (first | with_reducible rfl | omega | skip))
  simp only [Act.put, List.setIfInBounds_toArray, List.set_cons_zero, List.set_cons_succ]
  refine wpList_load_rowG (by rfl) 26 _ rfl (y7.heap.size + 1) rfl #[.int .i64 0, .int .i64 0] 26 _ N4.out Tryz.underlying26 rfl infoSp ?_
  simp only [Act.put, List.setIfInBounds_toArray, List.set_cons_zero, List.set_cons_succ]
  refine wpList_yieldG ?_ (by rfl) ?hy ?_
  case hy => (go_simp <;> (first | with_reducible rfl | omega | skip))
  simp only [Act.put, List.setIfInBounds_toArray, List.set_cons_zero, List.set_cons_succ]
  refine wpList_yieldG ?_ (by rfl) ?hy ?_
  case hy => (go_simp <;> (first | with_reducible rfl | omega | skip))
  simp only [Act.put, List.setIfInBounds_toArray, List.set_cons_zero, List.set_cons_succ]
  refine wpList_yieldG ?_ (by rfl) ?hy ?_
  case hy => (go_simp <;> (first | with_reducible rfl | omega | skip))
  simp only [Act.put, List.setIfInBounds_toArray, List.set_cons_zero, List.set_cons_succ]
  refine wpList_yieldG ?_ (by rfl) ?hy ?_
  case hy => (go_simp <;> (first | with_reducible rfl | omega | skip))
  simp only [Act.put, List.setIfInBounds_toArray, List.set_cons_zero, List.set_cons_succ]
  refine wpList_load_rowG (by rfl) 23 _ rfl (y7.heap.size) rfl VZ 23 _ M4.out Tryz.underlying23 rfl iz.out ?_
  simp only [Act.put, List.setIfInBounds_toArray, List.set_cons_zero, List.set_cons_succ]
  refine wpList_onG (by rfl) ?_
  go_simp
  refine Calls.mono (HPz.out _ KB11.out) ?_
  rintro e y8 ⟨rfl, hc⟩
  have KB12 : Hid (Below w.heap.size w y8) := KB11.out.trans ((hc).mono KB11.out.size)
  have L1n : Hid (Lies y8 (w.heap.size) VA 22) := L1.out.below (hc) L1.out.lt
  clear L1
  have L1 := L1n
  clear L1n
  have L2n : Hid (Lies y8 (w.heap.size + 1) VB 23) := L2.out.below (hc) L2.out.lt
  clear L2
  have L2 := L2n
  clear L2n
  have M1n : Hid (Lies y8 (y2.heap.size) VA 22) := M1.out.below (hc) M1.out.lt
  clear M1
  have M1 := M1n
  clear M1n
  have N1n : Hid (Lies y8 (y2.heap.size + 1) #[.int .i64 0, .int .i64 0] 26) := N1.out.below (hc) N1.out.lt
  clear N1
  have N1 := N1n
  clear N1n
  have M2n : Hid (Lies y8 (y4.heap.size) VB 23) := M2.out.below (hc) M2.out.lt
  clear M2
  have M2 := M2n
  clear M2n
  have N2n : Hid (Lies y8 (y4.heap.size + 1) #[.int .i64 0, .int .i64 0] 26) := N2.out.below (hc) N2.out.lt
  clear N2
  have N2 := N2n
  clear N2n
  have M3n : Hid (Lies y8 (y5.heap.size) VZ 23) := M3.out.below (hc) M3.out.lt
  clear M3
  have M3 := M3n
  clear M3n
  have N3n : Hid (Lies y8 (y5.heap.size + 1) #[.int .i64 0, .int .i64 0] 26) := N3.out.below (hc) N3.out.lt
  clear N3
  have N3 := N3n
  clear N3n
  have M4n : Hid (Lies y8 (y7.heap.size) VZ 23) := M4.out.below (hc) M4.out.lt
  clear M4
  have M4 := M4n
  clear M4n
  have N4n : Hid (Lies y8 (y7.heap.size + 1) #[.int .i64 0, .int .i64 0] 26) := N4.out.below (hc) N4.out.lt
  clear N4
  have N4 := N4n
  clear N4n
  clear KB11
  clear hc
  refine wpList_yieldG ?_ (by rfl) ?hy ?_
  case hy => (go_simp <;> (first | with_reducible rfl | omega | skip))
  simp only [Act.put, List.setIfInBounds_toArray, List.set_cons_zero, List.set_cons_succ]
  refine wpList_yieldG ?_ (by rfl) ?hy ?_
  case hy => (go_simp <;> (first | with_reducible rfl | omega | skip))
  simp only [Act.put, List.setIfInBounds_toArray, List.set_cons_zero, List.set_cons_succ]
  refine wpList_yieldG ?_ (by rfl) ?hy ?_
  case hy => (go_simp <;> (first | with_reducible rfl | omega | skip))
  simp only [Act.put, List.setIfInBounds_toArray, List.set_cons_zero, List.set_cons_succ]
  refine wpList_yieldG ?_ (by rfl) ?hy ?_
  case hy => (go_simp <;> (first | with_reducible rfl | omega | skip))
  simp only [Act.put, List.setIfInBounds_toArray, List.set_cons_zero, List.set_cons_succ]
  refine wpList_onG (by rfl) ?_
  go_simp
  refine Calls.mono (HW.out _ KB12.out) ?_
  rintro e y9 ⟨rfl, hc⟩
  have KB13 : Hid (Below w.heap.size w y9) := KB12.out.trans ((hc).mono KB12.out.size)
  have L1n : Hid (Lies y9 (w.heap.size) VA 22) := L1.out.below (hc) L1.out.lt
  clear L1
  have L1 := L1n
  clear L1n
  have L2n : Hid (Lies y9 (w.heap.size + 1) VB 23) := L2.out.below (hc) L2.out.lt
  clear L2
  have L2 := L2n
  clear L2n
  have M1n : Hid (Lies y9 (y2.heap.size) VA 22) := M1.out.below (hc) M1.out.lt
  clear M1
  have M1 := M1n
  clear M1n
  have N1n : Hid (Lies y9 (y2.heap.size + 1) #[.int .i64 0, .int .i64 0] 26) := N1.out.below (hc) N1.out.lt
  clear N1
  have N1 := N1n
  clear N1n
  have M2n : Hid (Lies y9 (y4.heap.size) VB 23) := M2.out.below (hc) M2.out.lt
  clear M2
  have M2 := M2n
  clear M2n
  have N2n : Hid (Lies y9 (y4.heap.size + 1) #[.int .i64 0, .int .i64 0] 26) := N2.out.below (hc) N2.out.lt
  clear N2
  have N2 := N2n
  clear N2n
  have M3n : Hid (Lies y9 (y5.heap.size) VZ 23) := M3.out.below (hc) M3.out.lt
  clear M3
  have M3 := M3n
  clear M3n
  have N3n : Hid (Lies y9 (y5.heap.size + 1) #[.int .i64 0, .int .i64 0] 26) := N3.out.below (hc) N3.out.lt
  clear N3
  have N3 := N3n
  clear N3n
  have M4n : Hid (Lies y9 (y7.heap.size) VZ 23) := M4.out.below (hc) M4.out.lt
  clear M4
  have M4 := M4n
  clear M4n
  have N4n : Hid (Lies y9 (y7.heap.size + 1) #[.int .i64 0, .int .i64 0] 26) := N4.out.below (hc) N4.out.lt
  clear N4
  have N4 := N4n
  clear N4n
  clear KB12
  clear hc
  refine wpList_yieldG ?_ (by rfl) ?hy ?_
  case hy => (go_simp <;> (first | with_reducible rfl | omega | skip))
  simp only [Act.put, List.setIfInBounds_toArray, List.set_cons_zero, List.set_cons_succ]
  refine wpList_yieldG ?_ (by rfl) ?hy ?_
  case hy => (go_simp <;> (first | with_reducible rfl | omega | skip))
  simp only [Act.put, List.setIfInBounds_toArray, List.set_cons_zero, List.set_cons_succ]
  refine wpList_nil ?_
  go_wp2
  go_ret
  exact ⟨rfl, KB13.out⟩

set_option maxHeartbeats 8000000 in
set_option maxRecDepth 100000 in
theorem walkB (q0 q1 q2 q3 : Nat) (b z0 : List Nat) (VA VB Z0 : Array Value) (hVA : VA = #[.int .u8 (q0 : Nat), .int .u8 (q1 : Nat), .int .u8 (q2 : Nat), .int .u8 (q3 : Nat)]) (hVB : VB = bytesV b) (hlb : b.length = 16) (hVZ : Z0 = bytesV z0) (hlz : z0.length = 16) (p : Nat) (s S4 S6 : ByteArray) (w : World)
    (HP4 : Hid (∀ wx, Below w.heap.size w wx → Calls Tryz.prog 8 #[.agg VA] wx fun e w' => e = .returned (.string S4) ∧ Below wx.heap.size wx w')) (HV4 : Hid (∀ wx, Below w.heap.size w wx → Calls Tryz.prog 7 #[.string S4] wx fun e w' => e = .returned (.tuple #[.agg VA, .agg #[.int .i64 0, .int .i64 0]]) ∧ Below wx.heap.size wx w'))
    (HP6 : Hid (∀ wx, Below w.heap.size w wx → Calls Tryz.prog 10 #[.agg VB] wx fun e w' => e = .returned (.string S6) ∧ Below wx.heap.size wx w')) (HV6 : Hid (∀ wx, Below w.heap.size w wx → Calls Tryz.prog 9 #[.string S6] wx fun e w' => e = .returned (.tuple #[.agg VB, .agg #[.int .i64 0, .int .i64 0]]) ∧ Below wx.heap.size wx w'))
    (HVs : Hid (∀ wx, Below w.heap.size w wx → Calls Tryz.prog 9 #[.string s] wx fun e w' => e = .returned (.tuple #[.agg Z0, .agg #[.int .i64 82, .int .i64 (p : Nat)]]) ∧ Below wx.heap.size wx w'))
    (HW : Hid (∀ wx, Below w.heap.size w wx → Calls Tryz.prog 11 #[] wx fun e w' => e = .returned (.bool true) ∧ Below wx.heap.size wx w')) :
    Calls Tryz.prog 3 #[.agg VA, .agg VB, .string s] w fun e w' => e = .returned (.bool true) ∧ Below w.heap.size w w' := by
  have L1 : Hid (Lies ((w.alloc (.cells VA 22)).alloc (.cells VB 23)) w.heap.size VA 22) := (Lies.new w _ _).alloc _
  have L2 : Hid (Lies ((w.alloc (.cells VA 22)).alloc (.cells VB 23)) (w.heap.size + 1) VB 23) := new_one w _ _ _
  have KB : Hid (Below w.heap.size w ((w.alloc (.cells VA 22)).alloc (.cells VB 23))) := ((Below.refl _ _).alloc (Nat.le_refl _) _).alloc (by simp) _
  have i4 : Hid ((Tryz.prog.info? 22).map (·.size) = some VA.size) := by rw [hVA]; exact info4
  have i6 : Hid ((Tryz.prog.info? 23).map (·.size) = some VB.size) := by rw [hVB, bytesV_size, hlb]; exact info16
  have o4 : Hid (VA.all (·.oneCell') = true ∧ (#[.int .u8 0, .int .u8 0, .int .u8 0, .int .u8 0] : Array Value).size = VA.size) := by rw [hVA]; exact ⟨by simp [Value.oneCell'], rfl⟩
  have o6 : Hid (VB.all (·.oneCell') = true ∧ (#[.int .u8 0, .int .u8 0, .int .u8 0, .int .u8 0, .int .u8 0, .int .u8 0, .int .u8 0, .int .u8 0, .int .u8 0, .int .u8 0, .int .u8 0, .int .u8 0, .int .u8 0, .int .u8 0, .int .u8 0, .int .u8 0] : Array Value).size = VB.size) := by rw [hVB]; exact ⟨bytesV_one b, by rw [bytesV_size, hlb]; rfl⟩
  have HVA : Hid (VA = #[.int .u8 (q0 : Nat), .int .u8 (q1 : Nat), .int .u8 (q2 : Nat), .int .u8 (q3 : Nat)]) := hVA
  have HVB : Hid (VB = bytesV b) := hVB
  have iz : Hid ((Tryz.prog.info? 23).map (·.size) = some Z0.size) := by rw [hVZ, bytesV_size, hlz]; exact info16
  have oz : Hid (Z0.all (·.oneCell') = true ∧ (#[.int .u8 0, .int .u8 0, .int .u8 0, .int .u8 0, .int .u8 0, .int .u8 0, .int .u8 0, .int .u8 0, .int .u8 0, .int .u8 0, .int .u8 0, .int .u8 0, .int .u8 0, .int .u8 0, .int .u8 0, .int .u8 0] : Array Value).size = Z0.size) := by rw [hVZ]; exact ⟨bytesV_one z0, by rw [bytesV_size, hlz]; rfl⟩
  have HVZ : Hid (Z0 = bytesV z0) := hVZ
  clear hVA hVB hVZ
  go_enter Tryz.func3, Tryz.ntmps3
  go_upto_region 1 with fail
  generalize (w.alloc (.cells VA 22)).alloc (.cells VB 23) = v0 at L1 L2 KB ⊢
  go_wp2_with (first | (refine wpList_load_rowG (by rfl) 22 _ rfl (w.heap.size) rfl VA 22 _ L1.out Tryz.underlying22 rfl i4.out ?_))
  refine Calls.mono (HP4.out _ KB.out) ?_
  rintro e y1 ⟨rfl, hc⟩
  have KB1 : Hid (Below w.heap.size w y1) := KB.out.trans ((hc).mono KB.out.size)
  have L1n : Hid (Lies y1 (w.heap.size) VA 22) := L1.out.below (hc) L1.out.lt
  clear L1
  have L1 := L1n
  clear L1n
  have L2n : Hid (Lies y1 (w.heap.size + 1) VB 23) := L2.out.below (hc) L2.out.lt
  clear L2
  have L2 := L2n
  clear L2n
  clear KB
  clear hc
  go_wp2_with fail
  refine Calls.mono (HV4.out _ KB1.out) ?_
  rintro e y2 ⟨rfl, hc⟩
  have KB2 : Hid (Below w.heap.size w y2) := KB1.out.trans ((hc).mono KB1.out.size)
  have L1n : Hid (Lies y2 (w.heap.size) VA 22) := L1.out.below (hc) L1.out.lt
  clear L1
  have L1 := L1n
  clear L1n
  have L2n : Hid (Lies y2 (w.heap.size + 1) VB 23) := L2.out.below (hc) L2.out.lt
  clear L2
  have L2 := L2n
  clear L2n
  clear KB1
  clear hc
  have A : Hid (Lies ((y2.alloc (.cells #[.int .u8 0, .int .u8 0, .int .u8 0, .int .u8 0] 22)).alloc (.cells #[.int .i64 0, .int .i64 0] 26)) y2.heap.size #[.int .u8 0, .int .u8 0, .int .u8 0, .int .u8 0] 22) := (Lies.new y2 _ _).alloc _
  have B : Hid (Lies ((y2.alloc (.cells #[.int .u8 0, .int .u8 0, .int .u8 0, .int .u8 0] 22)).alloc (.cells #[.int .i64 0, .int .i64 0] 26)) (y2.heap.size + 1) #[.int .i64 0, .int .i64 0] 26) := new_one y2 _ _ _
  have M1 : Hid (Lies ((((y2.alloc (.cells #[.int .u8 0, .int .u8 0, .int .u8 0, .int .u8 0] 22)).alloc (.cells #[.int .i64 0, .int .i64 0] 26)).setRow y2.heap.size VA).setRow (y2.heap.size + 1) #[.int .i64 0, .int .i64 0]) y2.heap.size VA 22) := (A.out.row _).row_other (by omega) _
  have N1 : Hid (Lies ((((y2.alloc (.cells #[.int .u8 0, .int .u8 0, .int .u8 0, .int .u8 0] 22)).alloc (.cells #[.int .i64 0, .int .i64 0] 26)).setRow y2.heap.size VA).setRow (y2.heap.size + 1) #[.int .i64 0, .int .i64 0]) (y2.heap.size + 1) #[.int .i64 0, .int .i64 0] 26) := (B.out.row_other (by omega) _).row _
  have BB : Hid (Below y2.heap.size y2 ((((y2.alloc (.cells #[.int .u8 0, .int .u8 0, .int .u8 0, .int .u8 0] 22)).alloc (.cells #[.int .i64 0, .int .i64 0] 26)).setRow y2.heap.size VA).setRow (y2.heap.size + 1) #[.int .i64 0, .int .i64 0])) := below_row (below_row (((Below.refl _ _).alloc (Nat.le_refl _) _).alloc (by simp) _) (Nat.le_refl _) _) (by omega) _
  have KB3 : Hid (Below w.heap.size w ((((y2.alloc (.cells #[.int .u8 0, .int .u8 0, .int .u8 0, .int .u8 0] 22)).alloc (.cells #[.int .i64 0, .int .i64 0] 26)).setRow y2.heap.size VA).setRow (y2.heap.size + 1) #[.int .i64 0, .int .i64 0])) := KB2.out.trans ((BB.out).mono KB2.out.size)
  have L1n : Hid (Lies ((((y2.alloc (.cells #[.int .u8 0, .int .u8 0, .int .u8 0, .int .u8 0] 22)).alloc (.cells #[.int .i64 0, .int .i64 0] 26)).setRow y2.heap.size VA).setRow (y2.heap.size + 1) #[.int .i64 0, .int .i64 0]) (w.heap.size) VA 22) := L1.out.below (BB.out) L1.out.lt
  clear L1
  have L1 := L1n
  clear L1n
  have L2n : Hid (Lies ((((y2.alloc (.cells #[.int .u8 0, .int .u8 0, .int .u8 0, .int .u8 0] 22)).alloc (.cells #[.int .i64 0, .int .i64 0] 26)).setRow y2.heap.size VA).setRow (y2.heap.size + 1) #[.int .i64 0, .int .i64 0]) (w.heap.size + 1) VB 23) := L2.out.below (BB.out) L2.out.lt
  clear L2
  have L2 := L2n
  clear L2n
  clear KB2
  go_upto_region 2 with (first | (refine wpList_store_row rfl 22 _ _ rfl y2.heap.size rfl _ VA rfl 22 A.out i4.out o4.out.2 o4.out.1 rfl ?_) | (refine wpList_store_row rfl 26 _ _ rfl (y2.heap.size + 1) rfl _ #[.int .i64 0, .int .i64 0] rfl 26 (B.out.row_other (by omega) _) infoSp rfl (by simp [Value.oneCell']) rfl ?_))
  generalize hv1 : (((y2.alloc (.cells #[.int .u8 0, .int .u8 0, .int .u8 0, .int .u8 0] 22)).alloc (.cells #[.int .i64 0, .int .i64 0] 26)).setRow y2.heap.size VA).setRow (y2.heap.size + 1) #[.int .i64 0, .int .i64 0] = v1 at M1 N1 KB3 L1 L2 ⊢
  clear hv1 A B BB
  go_wp2_with (first | (refine wpList_load_rowG (by rfl) 23 _ rfl (w.heap.size + 1) rfl VB 23 _ L2.out Tryz.underlying23 rfl i6.out ?_))
  refine Calls.mono (HP6.out _ KB3.out) ?_
  rintro e y3 ⟨rfl, hc⟩
  have KB4 : Hid (Below w.heap.size w y3) := KB3.out.trans ((hc).mono KB3.out.size)
  have L1n : Hid (Lies y3 (w.heap.size) VA 22) := L1.out.below (hc) L1.out.lt
  clear L1
  have L1 := L1n
  clear L1n
  have L2n : Hid (Lies y3 (w.heap.size + 1) VB 23) := L2.out.below (hc) L2.out.lt
  clear L2
  have L2 := L2n
  clear L2n
  have M1n : Hid (Lies y3 (y2.heap.size) VA 22) := M1.out.below (hc) M1.out.lt
  clear M1
  have M1 := M1n
  clear M1n
  have N1n : Hid (Lies y3 (y2.heap.size + 1) #[.int .i64 0, .int .i64 0] 26) := N1.out.below (hc) N1.out.lt
  clear N1
  have N1 := N1n
  clear N1n
  clear KB3
  clear hc
  go_wp2_with fail
  refine Calls.mono (HV6.out _ KB4.out) ?_
  rintro e y4 ⟨rfl, hc⟩
  have KB5 : Hid (Below w.heap.size w y4) := KB4.out.trans ((hc).mono KB4.out.size)
  have L1n : Hid (Lies y4 (w.heap.size) VA 22) := L1.out.below (hc) L1.out.lt
  clear L1
  have L1 := L1n
  clear L1n
  have L2n : Hid (Lies y4 (w.heap.size + 1) VB 23) := L2.out.below (hc) L2.out.lt
  clear L2
  have L2 := L2n
  clear L2n
  have M1n : Hid (Lies y4 (y2.heap.size) VA 22) := M1.out.below (hc) M1.out.lt
  clear M1
  have M1 := M1n
  clear M1n
  have N1n : Hid (Lies y4 (y2.heap.size + 1) #[.int .i64 0, .int .i64 0] 26) := N1.out.below (hc) N1.out.lt
  clear N1
  have N1 := N1n
  clear N1n
  clear KB4
  clear hc
  have A : Hid (Lies ((y4.alloc (.cells #[.int .u8 0, .int .u8 0, .int .u8 0, .int .u8 0, .int .u8 0, .int .u8 0, .int .u8 0, .int .u8 0, .int .u8 0, .int .u8 0, .int .u8 0, .int .u8 0, .int .u8 0, .int .u8 0, .int .u8 0, .int .u8 0] 23)).alloc (.cells #[.int .i64 0, .int .i64 0] 26)) y4.heap.size #[.int .u8 0, .int .u8 0, .int .u8 0, .int .u8 0, .int .u8 0, .int .u8 0, .int .u8 0, .int .u8 0, .int .u8 0, .int .u8 0, .int .u8 0, .int .u8 0, .int .u8 0, .int .u8 0, .int .u8 0, .int .u8 0] 23) := (Lies.new y4 _ _).alloc _
  have B : Hid (Lies ((y4.alloc (.cells #[.int .u8 0, .int .u8 0, .int .u8 0, .int .u8 0, .int .u8 0, .int .u8 0, .int .u8 0, .int .u8 0, .int .u8 0, .int .u8 0, .int .u8 0, .int .u8 0, .int .u8 0, .int .u8 0, .int .u8 0, .int .u8 0] 23)).alloc (.cells #[.int .i64 0, .int .i64 0] 26)) (y4.heap.size + 1) #[.int .i64 0, .int .i64 0] 26) := new_one y4 _ _ _
  have M2 : Hid (Lies ((((y4.alloc (.cells #[.int .u8 0, .int .u8 0, .int .u8 0, .int .u8 0, .int .u8 0, .int .u8 0, .int .u8 0, .int .u8 0, .int .u8 0, .int .u8 0, .int .u8 0, .int .u8 0, .int .u8 0, .int .u8 0, .int .u8 0, .int .u8 0] 23)).alloc (.cells #[.int .i64 0, .int .i64 0] 26)).setRow y4.heap.size VB).setRow (y4.heap.size + 1) #[.int .i64 0, .int .i64 0]) y4.heap.size VB 23) := (A.out.row _).row_other (by omega) _
  have N2 : Hid (Lies ((((y4.alloc (.cells #[.int .u8 0, .int .u8 0, .int .u8 0, .int .u8 0, .int .u8 0, .int .u8 0, .int .u8 0, .int .u8 0, .int .u8 0, .int .u8 0, .int .u8 0, .int .u8 0, .int .u8 0, .int .u8 0, .int .u8 0, .int .u8 0] 23)).alloc (.cells #[.int .i64 0, .int .i64 0] 26)).setRow y4.heap.size VB).setRow (y4.heap.size + 1) #[.int .i64 0, .int .i64 0]) (y4.heap.size + 1) #[.int .i64 0, .int .i64 0] 26) := (B.out.row_other (by omega) _).row _
  have BB : Hid (Below y4.heap.size y4 ((((y4.alloc (.cells #[.int .u8 0, .int .u8 0, .int .u8 0, .int .u8 0, .int .u8 0, .int .u8 0, .int .u8 0, .int .u8 0, .int .u8 0, .int .u8 0, .int .u8 0, .int .u8 0, .int .u8 0, .int .u8 0, .int .u8 0, .int .u8 0] 23)).alloc (.cells #[.int .i64 0, .int .i64 0] 26)).setRow y4.heap.size VB).setRow (y4.heap.size + 1) #[.int .i64 0, .int .i64 0])) := below_row (below_row (((Below.refl _ _).alloc (Nat.le_refl _) _).alloc (by simp) _) (Nat.le_refl _) _) (by omega) _
  have KB6 : Hid (Below w.heap.size w ((((y4.alloc (.cells #[.int .u8 0, .int .u8 0, .int .u8 0, .int .u8 0, .int .u8 0, .int .u8 0, .int .u8 0, .int .u8 0, .int .u8 0, .int .u8 0, .int .u8 0, .int .u8 0, .int .u8 0, .int .u8 0, .int .u8 0, .int .u8 0] 23)).alloc (.cells #[.int .i64 0, .int .i64 0] 26)).setRow y4.heap.size VB).setRow (y4.heap.size + 1) #[.int .i64 0, .int .i64 0])) := KB5.out.trans ((BB.out).mono KB5.out.size)
  have L1n : Hid (Lies ((((y4.alloc (.cells #[.int .u8 0, .int .u8 0, .int .u8 0, .int .u8 0, .int .u8 0, .int .u8 0, .int .u8 0, .int .u8 0, .int .u8 0, .int .u8 0, .int .u8 0, .int .u8 0, .int .u8 0, .int .u8 0, .int .u8 0, .int .u8 0] 23)).alloc (.cells #[.int .i64 0, .int .i64 0] 26)).setRow y4.heap.size VB).setRow (y4.heap.size + 1) #[.int .i64 0, .int .i64 0]) (w.heap.size) VA 22) := L1.out.below (BB.out) L1.out.lt
  clear L1
  have L1 := L1n
  clear L1n
  have L2n : Hid (Lies ((((y4.alloc (.cells #[.int .u8 0, .int .u8 0, .int .u8 0, .int .u8 0, .int .u8 0, .int .u8 0, .int .u8 0, .int .u8 0, .int .u8 0, .int .u8 0, .int .u8 0, .int .u8 0, .int .u8 0, .int .u8 0, .int .u8 0, .int .u8 0] 23)).alloc (.cells #[.int .i64 0, .int .i64 0] 26)).setRow y4.heap.size VB).setRow (y4.heap.size + 1) #[.int .i64 0, .int .i64 0]) (w.heap.size + 1) VB 23) := L2.out.below (BB.out) L2.out.lt
  clear L2
  have L2 := L2n
  clear L2n
  have M1n : Hid (Lies ((((y4.alloc (.cells #[.int .u8 0, .int .u8 0, .int .u8 0, .int .u8 0, .int .u8 0, .int .u8 0, .int .u8 0, .int .u8 0, .int .u8 0, .int .u8 0, .int .u8 0, .int .u8 0, .int .u8 0, .int .u8 0, .int .u8 0, .int .u8 0] 23)).alloc (.cells #[.int .i64 0, .int .i64 0] 26)).setRow y4.heap.size VB).setRow (y4.heap.size + 1) #[.int .i64 0, .int .i64 0]) (y2.heap.size) VA 22) := M1.out.below (BB.out) M1.out.lt
  clear M1
  have M1 := M1n
  clear M1n
  have N1n : Hid (Lies ((((y4.alloc (.cells #[.int .u8 0, .int .u8 0, .int .u8 0, .int .u8 0, .int .u8 0, .int .u8 0, .int .u8 0, .int .u8 0, .int .u8 0, .int .u8 0, .int .u8 0, .int .u8 0, .int .u8 0, .int .u8 0, .int .u8 0, .int .u8 0] 23)).alloc (.cells #[.int .i64 0, .int .i64 0] 26)).setRow y4.heap.size VB).setRow (y4.heap.size + 1) #[.int .i64 0, .int .i64 0]) (y2.heap.size + 1) #[.int .i64 0, .int .i64 0] 26) := N1.out.below (BB.out) N1.out.lt
  clear N1
  have N1 := N1n
  clear N1n
  clear KB5
  go_upto_region 3 with (first | (refine wpList_store_row rfl 23 _ _ rfl y4.heap.size rfl _ VB rfl 23 A.out i6.out o6.out.2 o6.out.1 rfl ?_) | (refine wpList_store_row rfl 26 _ _ rfl (y4.heap.size + 1) rfl _ #[.int .i64 0, .int .i64 0] rfl 26 (B.out.row_other (by omega) _) infoSp rfl (by simp [Value.oneCell']) rfl ?_))
  generalize hv2 : (((y4.alloc (.cells #[.int .u8 0, .int .u8 0, .int .u8 0, .int .u8 0, .int .u8 0, .int .u8 0, .int .u8 0, .int .u8 0, .int .u8 0, .int .u8 0, .int .u8 0, .int .u8 0, .int .u8 0, .int .u8 0, .int .u8 0, .int .u8 0] 23)).alloc (.cells #[.int .i64 0, .int .i64 0] 26)).setRow y4.heap.size VB).setRow (y4.heap.size + 1) #[.int .i64 0, .int .i64 0] = v2 at M2 N2 KB6 L1 L2 M1 N1 ⊢
  clear hv2 A B BB
  refine wp_region_lit ?_
  refine wpList_load_rowG (by rfl) 22 _ rfl (y2.heap.size) rfl VA 22 _ M1.out Tryz.underlying22 rfl i4.out ?_
  simp only [Act.put, List.setIfInBounds_toArray, List.set_cons_zero, List.set_cons_succ]
  refine wpList_load_rowG (by rfl) 22 _ rfl (w.heap.size) rfl VA 22 _ L1.out Tryz.underlying22 rfl i4.out ?_
  simp only [Act.put, List.setIfInBounds_toArray, List.set_cons_zero, List.set_cons_succ]
  refine wpList_yieldG (.bool false) (by rfl) (by rw [HVA.out]; refine Eq.trans (exec_neq4 _ _ _ rfl [q0, q1, q2, q3] [q0, q1, q2, q3] rfl rfl rfl rfl) (by rw [decide_eq_true rfl]; rfl)) ?_
  simp only [Act.put, List.setIfInBounds_toArray, List.set_cons_zero, List.set_cons_succ]
  refine wpList_yieldG ?_ (by rfl) ?hy ?_
  case hy => (go_simp <;> (first | with_reducible rfl | omega | skip))
  simp only [Act.put, List.setIfInBounds_toArray, List.set_cons_zero, List.set_cons_succ]
  refine wpList_load_rowG (by rfl) 23 _ rfl (y4.heap.size) rfl VB 23 _ M2.out Tryz.underlying23 rfl i6.out ?_
  simp only [Act.put, List.setIfInBounds_toArray, List.set_cons_zero, List.set_cons_succ]
  refine wpList_load_rowG (by rfl) 23 _ rfl (w.heap.size + 1) rfl VB 23 _ L2.out Tryz.underlying23 rfl i6.out ?_
  simp only [Act.put, List.setIfInBounds_toArray, List.set_cons_zero, List.set_cons_succ]
  refine wpList_yieldG (.bool false) (by rfl) (by rw [HVB.out]; refine Eq.trans (exec_neq16 _ _ _ rfl b b rfl rfl hlb hlb) (by rw [decide_eq_true rfl]; rfl)) ?_
  simp only [Act.put, List.setIfInBounds_toArray, List.set_cons_zero, List.set_cons_succ]
  refine wpList_yieldG ?_ (by rfl) ?hy ?_
  case hy => (go_simp <;> (first | with_reducible rfl | omega | skip))
  simp only [Act.put, List.setIfInBounds_toArray, List.set_cons_zero, List.set_cons_succ]
  refine wpList_yieldG ?_ (by rfl) ?hy ?_
  case hy => (go_simp <;> (first | with_reducible rfl | omega | skip))
  simp only [Act.put, List.setIfInBounds_toArray, List.set_cons_zero, List.set_cons_succ]
  refine wpList_load_rowG (by rfl) 26 _ rfl (y2.heap.size + 1) rfl #[.int .i64 0, .int .i64 0] 26 _ N1.out Tryz.underlying26 rfl infoSp ?_
  simp only [Act.put, List.setIfInBounds_toArray, List.set_cons_zero, List.set_cons_succ]
  refine wpList_yieldG ?_ (by rfl) ?hy ?_
  case hy => (go_simp <;> (first | with_reducible rfl | omega | skip))
  simp only [Act.put, List.setIfInBounds_toArray, List.set_cons_zero, List.set_cons_succ]
  refine wpList_yieldG ?_ (by rfl) ?hy ?_
  case hy => (go_simp <;> (first | with_reducible rfl | omega | skip))
  simp only [Act.put, List.setIfInBounds_toArray, List.set_cons_zero, List.set_cons_succ]
  refine wpList_yieldG ?_ (by rfl) ?hy ?_
  case hy => (go_simp <;> (first | with_reducible rfl | omega | skip))
  simp only [Act.put, List.setIfInBounds_toArray, List.set_cons_zero, List.set_cons_succ]
  refine wpList_yieldG ?_ (by rfl) ?hy ?_
  case hy => (go_simp <;> (first | with_reducible rfl | omega | skip))
  simp only [Act.put, List.setIfInBounds_toArray, List.set_cons_zero, List.set_cons_succ]
  refine wpList_load_rowG (by rfl) 26 _ rfl (y4.heap.size + 1) rfl #[.int .i64 0, .int .i64 0] 26 _ N2.out Tryz.underlying26 rfl infoSp ?_
  simp only [Act.put, List.setIfInBounds_toArray, List.set_cons_zero, List.set_cons_succ]
  refine wpList_yieldG ?_ (by rfl) ?hy ?_
  case hy => (go_simp <;> (first | with_reducible rfl | omega | skip))
  simp only [Act.put, List.setIfInBounds_toArray, List.set_cons_zero, List.set_cons_succ]
  refine wpList_yieldG ?_ (by rfl) ?hy ?_
  case hy => (go_simp <;> (first | with_reducible rfl | omega | skip))
  simp only [Act.put, List.setIfInBounds_toArray, List.set_cons_zero, List.set_cons_succ]
  refine wpList_yieldG ?_ (by rfl) ?hy ?_
  case hy => (go_simp <;> (first | with_reducible rfl | omega | skip))
  simp only [Act.put, List.setIfInBounds_toArray, List.set_cons_zero, List.set_cons_succ]
  refine wpList_nil ?_
  go_upto_region 5 with fail
  go_wp2_with fail
  refine Calls.mono (HVs.out _ KB6.out) ?_
  rintro e y5 ⟨rfl, hc⟩
  have KB7 : Hid (Below w.heap.size w y5) := KB6.out.trans ((hc).mono KB6.out.size)
  have L1n : Hid (Lies y5 (w.heap.size) VA 22) := L1.out.below (hc) L1.out.lt
  clear L1
  have L1 := L1n
  clear L1n
  have L2n : Hid (Lies y5 (w.heap.size + 1) VB 23) := L2.out.below (hc) L2.out.lt
  clear L2
  have L2 := L2n
  clear L2n
  have M1n : Hid (Lies y5 (y2.heap.size) VA 22) := M1.out.below (hc) M1.out.lt
  clear M1
  have M1 := M1n
  clear M1n
  have N1n : Hid (Lies y5 (y2.heap.size + 1) #[.int .i64 0, .int .i64 0] 26) := N1.out.below (hc) N1.out.lt
  clear N1
  have N1 := N1n
  clear N1n
  have M2n : Hid (Lies y5 (y4.heap.size) VB 23) := M2.out.below (hc) M2.out.lt
  clear M2
  have M2 := M2n
  clear M2n
  have N2n : Hid (Lies y5 (y4.heap.size + 1) #[.int .i64 0, .int .i64 0] 26) := N2.out.below (hc) N2.out.lt
  clear N2
  have N2 := N2n
  clear N2n
  clear KB6
  clear hc
  have A : Hid (Lies ((y5.alloc (.cells #[.int .u8 0, .int .u8 0, .int .u8 0, .int .u8 0, .int .u8 0, .int .u8 0, .int .u8 0, .int .u8 0, .int .u8 0, .int .u8 0, .int .u8 0, .int .u8 0, .int .u8 0, .int .u8 0, .int .u8 0, .int .u8 0] 23)).alloc (.cells #[.int .i64 0, .int .i64 0] 26)) y5.heap.size #[.int .u8 0, .int .u8 0, .int .u8 0, .int .u8 0, .int .u8 0, .int .u8 0, .int .u8 0, .int .u8 0, .int .u8 0, .int .u8 0, .int .u8 0, .int .u8 0, .int .u8 0, .int .u8 0, .int .u8 0, .int .u8 0] 23) := (Lies.new y5 _ _).alloc _
  have B : Hid (Lies ((y5.alloc (.cells #[.int .u8 0, .int .u8 0, .int .u8 0, .int .u8 0, .int .u8 0, .int .u8 0, .int .u8 0, .int .u8 0, .int .u8 0, .int .u8 0, .int .u8 0, .int .u8 0, .int .u8 0, .int .u8 0, .int .u8 0, .int .u8 0] 23)).alloc (.cells #[.int .i64 0, .int .i64 0] 26)) (y5.heap.size + 1) #[.int .i64 0, .int .i64 0] 26) := new_one y5 _ _ _
  have M3 : Hid (Lies ((((y5.alloc (.cells #[.int .u8 0, .int .u8 0, .int .u8 0, .int .u8 0, .int .u8 0, .int .u8 0, .int .u8 0, .int .u8 0, .int .u8 0, .int .u8 0, .int .u8 0, .int .u8 0, .int .u8 0, .int .u8 0, .int .u8 0, .int .u8 0] 23)).alloc (.cells #[.int .i64 0, .int .i64 0] 26)).setRow y5.heap.size Z0).setRow (y5.heap.size + 1) #[.int .i64 82, .int .i64 (p : Nat)]) y5.heap.size Z0 23) := (A.out.row _).row_other (by omega) _
  have N3 : Hid (Lies ((((y5.alloc (.cells #[.int .u8 0, .int .u8 0, .int .u8 0, .int .u8 0, .int .u8 0, .int .u8 0, .int .u8 0, .int .u8 0, .int .u8 0, .int .u8 0, .int .u8 0, .int .u8 0, .int .u8 0, .int .u8 0, .int .u8 0, .int .u8 0] 23)).alloc (.cells #[.int .i64 0, .int .i64 0] 26)).setRow y5.heap.size Z0).setRow (y5.heap.size + 1) #[.int .i64 82, .int .i64 (p : Nat)]) (y5.heap.size + 1) #[.int .i64 82, .int .i64 (p : Nat)] 26) := (B.out.row_other (by omega) _).row _
  have BB : Hid (Below y5.heap.size y5 ((((y5.alloc (.cells #[.int .u8 0, .int .u8 0, .int .u8 0, .int .u8 0, .int .u8 0, .int .u8 0, .int .u8 0, .int .u8 0, .int .u8 0, .int .u8 0, .int .u8 0, .int .u8 0, .int .u8 0, .int .u8 0, .int .u8 0, .int .u8 0] 23)).alloc (.cells #[.int .i64 0, .int .i64 0] 26)).setRow y5.heap.size Z0).setRow (y5.heap.size + 1) #[.int .i64 82, .int .i64 (p : Nat)])) := below_row (below_row (((Below.refl _ _).alloc (Nat.le_refl _) _).alloc (by simp) _) (Nat.le_refl _) _) (by omega) _
  have KB8 : Hid (Below w.heap.size w ((((y5.alloc (.cells #[.int .u8 0, .int .u8 0, .int .u8 0, .int .u8 0, .int .u8 0, .int .u8 0, .int .u8 0, .int .u8 0, .int .u8 0, .int .u8 0, .int .u8 0, .int .u8 0, .int .u8 0, .int .u8 0, .int .u8 0, .int .u8 0] 23)).alloc (.cells #[.int .i64 0, .int .i64 0] 26)).setRow y5.heap.size Z0).setRow (y5.heap.size + 1) #[.int .i64 82, .int .i64 (p : Nat)])) := KB7.out.trans ((BB.out).mono KB7.out.size)
  have L1n : Hid (Lies ((((y5.alloc (.cells #[.int .u8 0, .int .u8 0, .int .u8 0, .int .u8 0, .int .u8 0, .int .u8 0, .int .u8 0, .int .u8 0, .int .u8 0, .int .u8 0, .int .u8 0, .int .u8 0, .int .u8 0, .int .u8 0, .int .u8 0, .int .u8 0] 23)).alloc (.cells #[.int .i64 0, .int .i64 0] 26)).setRow y5.heap.size Z0).setRow (y5.heap.size + 1) #[.int .i64 82, .int .i64 (p : Nat)]) (w.heap.size) VA 22) := L1.out.below (BB.out) L1.out.lt
  clear L1
  have L1 := L1n
  clear L1n
  have L2n : Hid (Lies ((((y5.alloc (.cells #[.int .u8 0, .int .u8 0, .int .u8 0, .int .u8 0, .int .u8 0, .int .u8 0, .int .u8 0, .int .u8 0, .int .u8 0, .int .u8 0, .int .u8 0, .int .u8 0, .int .u8 0, .int .u8 0, .int .u8 0, .int .u8 0] 23)).alloc (.cells #[.int .i64 0, .int .i64 0] 26)).setRow y5.heap.size Z0).setRow (y5.heap.size + 1) #[.int .i64 82, .int .i64 (p : Nat)]) (w.heap.size + 1) VB 23) := L2.out.below (BB.out) L2.out.lt
  clear L2
  have L2 := L2n
  clear L2n
  have M1n : Hid (Lies ((((y5.alloc (.cells #[.int .u8 0, .int .u8 0, .int .u8 0, .int .u8 0, .int .u8 0, .int .u8 0, .int .u8 0, .int .u8 0, .int .u8 0, .int .u8 0, .int .u8 0, .int .u8 0, .int .u8 0, .int .u8 0, .int .u8 0, .int .u8 0] 23)).alloc (.cells #[.int .i64 0, .int .i64 0] 26)).setRow y5.heap.size Z0).setRow (y5.heap.size + 1) #[.int .i64 82, .int .i64 (p : Nat)]) (y2.heap.size) VA 22) := M1.out.below (BB.out) M1.out.lt
  clear M1
  have M1 := M1n
  clear M1n
  have N1n : Hid (Lies ((((y5.alloc (.cells #[.int .u8 0, .int .u8 0, .int .u8 0, .int .u8 0, .int .u8 0, .int .u8 0, .int .u8 0, .int .u8 0, .int .u8 0, .int .u8 0, .int .u8 0, .int .u8 0, .int .u8 0, .int .u8 0, .int .u8 0, .int .u8 0] 23)).alloc (.cells #[.int .i64 0, .int .i64 0] 26)).setRow y5.heap.size Z0).setRow (y5.heap.size + 1) #[.int .i64 82, .int .i64 (p : Nat)]) (y2.heap.size + 1) #[.int .i64 0, .int .i64 0] 26) := N1.out.below (BB.out) N1.out.lt
  clear N1
  have N1 := N1n
  clear N1n
  have M2n : Hid (Lies ((((y5.alloc (.cells #[.int .u8 0, .int .u8 0, .int .u8 0, .int .u8 0, .int .u8 0, .int .u8 0, .int .u8 0, .int .u8 0, .int .u8 0, .int .u8 0, .int .u8 0, .int .u8 0, .int .u8 0, .int .u8 0, .int .u8 0, .int .u8 0] 23)).alloc (.cells #[.int .i64 0, .int .i64 0] 26)).setRow y5.heap.size Z0).setRow (y5.heap.size + 1) #[.int .i64 82, .int .i64 (p : Nat)]) (y4.heap.size) VB 23) := M2.out.below (BB.out) M2.out.lt
  clear M2
  have M2 := M2n
  clear M2n
  have N2n : Hid (Lies ((((y5.alloc (.cells #[.int .u8 0, .int .u8 0, .int .u8 0, .int .u8 0, .int .u8 0, .int .u8 0, .int .u8 0, .int .u8 0, .int .u8 0, .int .u8 0, .int .u8 0, .int .u8 0, .int .u8 0, .int .u8 0, .int .u8 0, .int .u8 0] 23)).alloc (.cells #[.int .i64 0, .int .i64 0] 26)).setRow y5.heap.size Z0).setRow (y5.heap.size + 1) #[.int .i64 82, .int .i64 (p : Nat)]) (y4.heap.size + 1) #[.int .i64 0, .int .i64 0] 26) := N2.out.below (BB.out) N2.out.lt
  clear N2
  have N2 := N2n
  clear N2n
  clear KB7
  go_upto_region 6 with (first | (refine wpList_store_row rfl 23 _ _ rfl y5.heap.size rfl _ Z0 rfl 23 A.out iz.out oz.out.2 oz.out.1 rfl ?_) | (refine wpList_store_row rfl 26 _ _ rfl (y5.heap.size + 1) rfl _ #[.int .i64 82, .int .i64 (p : Nat)] rfl 26 (B.out.row_other (by omega) _) infoSp rfl (by simp [Value.oneCell']) rfl ?_))
  generalize hv3 : (((y5.alloc (.cells #[.int .u8 0, .int .u8 0, .int .u8 0, .int .u8 0, .int .u8 0, .int .u8 0, .int .u8 0, .int .u8 0, .int .u8 0, .int .u8 0, .int .u8 0, .int .u8 0, .int .u8 0, .int .u8 0, .int .u8 0, .int .u8 0] 23)).alloc (.cells #[.int .i64 0, .int .i64 0] 26)).setRow y5.heap.size Z0).setRow (y5.heap.size + 1) #[.int .i64 82, .int .i64 (p : Nat)] = v3 at M3 N3 KB8 L1 L2 M1 N1 M2 N2 ⊢
  clear hv3 A B BB
  have f0 := N3.out.cell 0
  simp at f0
  clear hlz HVB HVA HVZ
  go_wp2_with fail
  refine Calls.mono (HW.out _ KB8.out) ?_
  rintro e y6 ⟨rfl, hc⟩
  have KB9 : Hid (Below w.heap.size w y6) := KB8.out.trans ((hc).mono KB8.out.size)
  have L1n : Hid (Lies y6 (w.heap.size) VA 22) := L1.out.below (hc) L1.out.lt
  clear L1
  have L1 := L1n
  clear L1n
  have L2n : Hid (Lies y6 (w.heap.size + 1) VB 23) := L2.out.below (hc) L2.out.lt
  clear L2
  have L2 := L2n
  clear L2n
  have M1n : Hid (Lies y6 (y2.heap.size) VA 22) := M1.out.below (hc) M1.out.lt
  clear M1
  have M1 := M1n
  clear M1n
  have N1n : Hid (Lies y6 (y2.heap.size + 1) #[.int .i64 0, .int .i64 0] 26) := N1.out.below (hc) N1.out.lt
  clear N1
  have N1 := N1n
  clear N1n
  have M2n : Hid (Lies y6 (y4.heap.size) VB 23) := M2.out.below (hc) M2.out.lt
  clear M2
  have M2 := M2n
  clear M2n
  have N2n : Hid (Lies y6 (y4.heap.size + 1) #[.int .i64 0, .int .i64 0] 26) := N2.out.below (hc) N2.out.lt
  clear N2
  have N2 := N2n
  clear N2n
  have M3n : Hid (Lies y6 (y5.heap.size) Z0 23) := M3.out.below (hc) M3.out.lt
  clear M3
  have M3 := M3n
  clear M3n
  have N3n : Hid (Lies y6 (y5.heap.size + 1) #[.int .i64 82, .int .i64 (p : Nat)] 26) := N3.out.below (hc) N3.out.lt
  clear N3
  have N3 := N3n
  clear N3n
  clear KB8
  clear hc
  go_wp2
  go_ret
  exact ⟨rfl, KB9.out⟩

theorem walk (a : List Nat) (ha : a.length = 4) (ba : ∀ x ∈ a, x < 256) (b : List Nat) (hb : b.length = 16) (bb : ∀ x ∈ b, x < 256) (s : ByteArray) (ss : s.size ≤ 140737488351232) (w : World) (ht : Tc w) :
    Calls Tryz.prog 3 #[.agg (bytesV a), .agg (bytesV b), .string s] w fun e w' => e = .returned (.bool true) ∧ Below w.heap.size w w' := by
  have HT : Hid (∀ wx, Below w.heap.size w wx → Tc wx) := fun wx hb => ht.below hb
  obtain ⟨q0, q1, q2, q3, rfl⟩ : ∃ q0 q1 q2 q3, a = [q0, q1, q2, q3] := by
    match a, ha with
    | [q0, q1, q2, q3], _ => exact ⟨q0, q1, q2, q3, rfl⟩
  have HV : ∀ (t : ByteArray) (ht : t.size ≤ 140737488351232) (wx : World), Below w.heap.size w wx → Calls Tryz.prog 9 #[.string t] wx fun e w' => e = .returned (v6V (v6 t.data.toList)) ∧ Below wx.heap.size wx w' := fun t ht wx hx => by
    obtain ⟨te, pe, he⟩ := (HT.out wx hx).tb.es
    exact v6_any t te pe wx (HT.out wx hx).tb.cls (HT.out wx hx).tb.gcl he ht
  have HP : ∀ (l : List Nat) (h1 : l.length = 16) (h2 : ∀ x ∈ l, x < 256), Hid (∀ wx, Below w.heap.size w wx → Calls Tryz.prog 10 #[.agg (bytesV l)] wx fun e w' => e = .returned (.string ⟨(print6 l).toArray⟩) ∧ Below wx.heap.size wx w') := fun l h1 h2 wx hx => printv6_any l h1 h2 wx (HT.out wx hx).tb.t64
  have HB : ∀ (l : List Nat) (h1 : l.length = 16) (h2 : ∀ x ∈ l, x < 256), Hid (∀ wx, Below w.heap.size w wx → Calls Tryz.prog 9 #[.string ⟨(print6 l).toArray⟩] wx fun e w' => e = .returned (.tuple #[.agg (bytesV l), .agg #[.int .i64 0, .int .i64 0]]) ∧ Below wx.heap.size wx w') := fun l h1 h2 wx hx => by
    have := HV ⟨(print6 l).toArray⟩ (by have := print6_len l h1 h2; show (print6 l).toArray.size ≤ _; rw [List.size_toArray]; omega) wx hx
    rw [show (⟨(print6 l).toArray⟩ : ByteArray).data.toList = print6 l from by simp, v6_print l h1 h2] at this
    exact this
  have HP4 : Hid (∀ wx, Below w.heap.size w wx → Calls Tryz.prog 8 #[.agg (bytesV [q0, q1, q2, q3])] wx fun e w' => e = .returned (.string ⟨(print4 [q0, q1, q2, q3]).toArray⟩) ∧ Below wx.heap.size wx w') := fun wx hx => printv4_any _ rfl ba wx (HT.out wx hx).pow
  have HV4 : Hid (∀ wx, Below w.heap.size w wx → Calls Tryz.prog 7 #[.string ⟨(print4 [q0, q1, q2, q3]).toArray⟩] wx fun e w' => e = .returned (.tuple #[.agg (bytesV [q0, q1, q2, q3]), .agg #[.int .i64 0, .int .i64 0]]) ∧ Below wx.heap.size wx w') := fun wx hx => by
    have := v4_any ⟨(print4 [q0, q1, q2, q3]).toArray⟩ wx (HT.out wx hx).tb.cls (HT.out wx hx).tb.gcl (by have := print4_len q0 q1 q2 q3; show (print4 [q0, q1, q2, q3]).toArray.size ≤ _; rw [List.size_toArray]; omega)
    rw [show (⟨(print4 [q0, q1, q2, q3]).toArray⟩ : ByteArray).data.toList = print4 [q0, q1, q2, q3] from by simp, v4_print q0 q1 q2 q3 (ba _ (by simp)) (ba _ (by simp)) (ba _ (by simp)) (ba _ (by simp))] at this
    exact this
  have HW : Hid (∀ wx, Below w.heap.size w wx → Calls Tryz.prog 11 #[] wx fun e w' => e = .returned (.bool true) ∧ Below wx.heap.size wx w') := fun wx hx => wakes_any wx (HT.out wx hx)
  cases hz : v6 s.data.toList with
  | ok z =>
    obtain ⟨h1, h2⟩ := v6_ok _ _ hz
    exact walkA q0 q1 q2 q3 b z _ _ _ rfl rfl hb rfl h1 s _ _ _ w HP4 HV4 (HP b hb bb) (HB b hb bb) (fun wx hx => by have := HV s ss wx hx; rw [hz] at this; exact this) (HP z h1 h2) (HB z h1 h2) HW
  | error p =>
    exact walkB q0 q1 q2 q3 b zero16 _ _ _ rfl rfl hb rfl rfl p s _ _ w HP4 HV4 (HP b hb bb) (HB b hb bb) (fun wx hx => by have := HV s ss wx hx; rw [hz] at this; exact this) HW

set_option maxRecDepth 100000 in
theorem contract (H : Type) (enc : TypeId × Value → H) (W : World) (base : Nat) (args : Array Value) (ds gs : List (DataW H)) (before : List MemPlace)
    (hval : ∀ (j : Nat) t v, Tryz.f3.params[j]? = some t → args[j]? = some v → Value.okWide Tryz.prog W .any base t v)
    (hW : DataW.Whole enc Tryz.prog Tryz.f3.params.toList Rows.domainThereSpec.vars false W args.toList ds gs before)
    (hsz : (DataW.weightsEach Tryz.prog (Tryz.f3.params.toList ++ (OpenSpec.ofChange Rows.domainThereSpec).bare.plain.varTypes Tryz.prog) (ds ++ gs)).all (· ≤ reachBytes) = true)
    (hL : laidMetH Tryz.prog Rows.domainThereRow.laid W) (hsh : W.ShapedOpen Tryz.prog) :
    Calls Tryz.prog 3 args W fun e W' => ∃ v, e = .returned v ∧ Rows.domainThereSpec.post enc Tryz.prog Tryz.f3 false true false false W args v W' := by
  have hW' := hW
  obtain ⟨p, q, hA0, hV, rfl, hfz, hnd⟩ := hW
  have hA : DataW.TrodAll enc Tryz.prog W 0 (fun _ => true) true Tryz.f3.params.toList args.toList ds p := hA0
  rw [Tryz.params3] at hA hval hsz
  obtain ⟨v0, vs0, d0, ds0, p0, q0, hargs, rfl, rfl, h0, r0⟩ := trodAll_cons hA
  obtain ⟨v1, vs1, d1, ds1, p1, q1, rfl, rfl, rfl, h1, r1⟩ := trodAll_cons r0
  obtain ⟨v2, vs2, d2, ds2, p2, q2, rfl, rfl, rfl, h2, r2⟩ := trodAll_cons r1
  obtain ⟨rfl, rfl, rfl⟩ := trodAll_nil r2
  obtain rfl : args = #[v0, v1, v2] := by cases args; simp_all
  obtain ⟨rfl, rfl⟩ := trodVars_none hV
  have k0 := h0
  have lt0 : ∀ x ∈ p0, x.block < W.heap.size := by obtain ⟨m, hm⟩ := k0; exact DataW.trod_lt m _ _ _ hm
  obtain ⟨a0, rfl, b0, c0⟩ := open_arr Tryz.underlying22 cellsT4 (hval 0 22 v0 rfl rfl) h0
  have k1 := h1
  have lt1 : ∀ x ∈ p1, x.block < W.heap.size := by obtain ⟨m, hm⟩ := k1; exact DataW.trod_lt m _ _ _ hm
  obtain ⟨a1, rfl, b1, c1⟩ := open_arr Tryz.underlying23 cellsT16 (hval 1 23 v1 rfl rfl) h1
  obtain ⟨a2, rfl, rfl, rfl, w2⟩ := open_string Tryz.underlying9 (hval 2 9 v2 rfl rfl) h2
  clear hA0
  have s2 := sized_string hsz (j := 2) (t := 9) rfl rfl
  simp only [reachBytes, Array.length_toList] at s2
  refine (walk a0 b0 c0 a1 b1 c1 a2 s2 W (tabs8_of hL hsh)).mono fun e W' ⟨he, bel⟩ => ?_
  subst he
  exact ⟨_, rfl, _, _, _, [], _, [], hW', trodAll_mk1 (shut_bool Tryz.underlying4 _), trodAll_cons_mk (Below.trod laidOut (by kernel_rfl) (of_decide_eq_true (by kernel_rfl)) k0 bel lt0) (trodAll_cons_mk (Below.trod laidOut (by kernel_rfl) (of_decide_eq_true (by kernel_rfl)) k1 bel lt1) (trodAll_cons_mk (shut_string Tryz.underlying9 w2) trodAll_mk0)), rfl, bel.frame _, fun h => by cases h⟩

set_option maxRecDepth 100000 in
theorem laid_met (os : Os) : laidMet Tryz.prog Rows.domainThereRow.laid ((laidWorld8 os).forCall (fun _ _ => 0) ⟨#[], #[.agg #[.int .u8 0, .int .u8 0, .int .u8 0, .int .u8 0], .agg #[.int .u8 0, .int .u8 0, .int .u8 0, .int .u8 0, .int .u8 0, .int .u8 0, .int .u8 0, .int .u8 0, .int .u8 0, .int .u8 0, .int .u8 0, .int .u8 0, .int .u8 0, .int .u8 0, .int .u8 0, .int .u8 0], .string ByteArray.empty], []⟩).memory :=
  laidMet_of_run' 8 (by kernel_rfl) (by kernel_rfl)
set_option maxRecDepth 100000 in
theorem reads (os : Os) {H : Type} (enc : TypeId × Value → H) : ∃ places, DataW.whole enc Tryz.prog ((laidWorld8 os).forCall (fun _ _ => 0) ⟨#[], #[.agg #[.int .u8 0, .int .u8 0, .int .u8 0, .int .u8 0], .agg #[.int .u8 0, .int .u8 0, .int .u8 0, .int .u8 0, .int .u8 0, .int .u8 0, .int .u8 0, .int .u8 0, .int .u8 0, .int .u8 0, .int .u8 0, .int .u8 0, .int .u8 0, .int .u8 0, .int .u8 0, .int .u8 0], .string ByteArray.empty], []⟩).memory Tryz.f3.params.toList Rows.domainThereSpec.vars false #[Value.agg #[.int .u8 0, .int .u8 0, .int .u8 0, .int .u8 0], Value.agg #[.int .u8 0, .int .u8 0, .int .u8 0, .int .u8 0, .int .u8 0, .int .u8 0, .int .u8 0, .int .u8 0, .int .u8 0, .int .u8 0, .int .u8 0, .int .u8 0, .int .u8 0, .int .u8 0, .int .u8 0, .int .u8 0], Value.string ByteArray.empty].toList 8 = some ([.agg [.lit (.int .u8 0), .lit (.int .u8 0), .lit (.int .u8 0), .lit (.int .u8 0)], .agg [.lit (.int .u8 0), .lit (.int .u8 0), .lit (.int .u8 0), .lit (.int .u8 0), .lit (.int .u8 0), .lit (.int .u8 0), .lit (.int .u8 0), .lit (.int .u8 0), .lit (.int .u8 0), .lit (.int .u8 0), .lit (.int .u8 0), .lit (.int .u8 0), .lit (.int .u8 0), .lit (.int .u8 0), .lit (.int .u8 0), .lit (.int .u8 0)], .lit (.string [])], [], places) :=
  ⟨[], by kernel_rfl⟩

set_option maxRecDepth 100000 in
theorem lifted (os : Os) (started : os.Started) (H : Type) (enc : TypeId × Value → H) (F : Stop.Interp) :
    ReturnsInHanded {} Tryz.checked os 3 .any ((OpenSpec.ofChange Rows.domainThereSpec).preRow enc Tryz.prog Tryz.f3 Rows.domainThereRow.domain false Rows.domainThereRow.laid) (((OpenSpec.ofChange Rows.domainThereSpec).at F).post enc Tryz.prog Tryz.f3 false true false false) := by
  obtain ⟨places, hx⟩ := reads os enc
  refine returnsInHanded_of_row (C := Tryz.checked) (s := OpenSpec.ofChange Rows.domainThereSpec) own started (by kernel_rfl) Tryz.func3
    (witness_row_at (enc := enc) (C := Tryz.checked) false (laidWorld8 os) #[.agg #[.int .u8 0, .int .u8 0, .int .u8 0, .int .u8 0], .agg #[.int .u8 0, .int .u8 0, .int .u8 0, .int .u8 0, .int .u8 0, .int .u8 0, .int .u8 0, .int .u8 0, .int .u8 0, .int .u8 0, .int .u8 0, .int .u8 0, .int .u8 0, .int .u8 0, .int .u8 0, .int .u8 0], .string ByteArray.empty] rfl (by kernel_rfl) (by kernel_rfl) (by kernel_rfl)
      (OpenSpec.preRow_of_cond 8 hx (by kernel_rfl) (fun k hk => by cases hk) (by kernel_rfl) (laid_met os))) ?_
  intro W base args ds gs before hval hW _ _ hsz hL hsh _
  exact contract H enc W base args ds gs before hval hW hsz hL hsh

theorem said : Rows.DomainThereSaid :=
  OpenClaim.holds_of_cond 3 Tryz.f3 rfl rfl rfl rfl rfl rfl rfl ⟨rfl, rfl, rfl, rfl, rfl⟩ rfl rfl rfl rfl rfl (by kernel_rfl) Tryz.func3 (by kernel_rfl)
    (of_decide_eq_true (by kernel_rfl)) (by unfold Func.isWrapper; first | (rw [if_pos (by decide +kernel)]; kernel_rfl) | (rw [if_neg (by decide +kernel)]; exact ⟨rfl, rfl⟩))
    (fun os started H enc _ F => by rw [OpenClaim.pre_eq_preRow]; exact lifted os started H enc F)

/-- No parameter wants a stand-in; the program's own looks are off. -/
theorem plain (f : FuncId) (fn : Func) (hf : Tryz.pinned.checked.prog.funcNamed "posthorn/posthornlaw08.DomainThere" = some f) (hfn : Tryz.pinned.checked.prog.funcs[f]? = some fn) :
    true = Tryz.pinned.checked.prog.looks [] ∧ ∀ (j : Nat) t, fn.params[j]? = some t → Tryz.pinned.checked.prog.wantsStandIn t = false := by
  obtain rfl : f = 3 := Option.some.inj ((show Tryz.prog.funcNamed "posthorn/posthornlaw08.DomainThere" = some 3 by kernel_rfl).symm.trans hf) |>.symm
  obtain rfl : fn = Tryz.f3 := (Option.some.inj (Tryz.func3.symm.trans hfn)).symm
  refine ⟨by kernel_rfl, fun j t ht => ?_⟩
  rw [Tryz.params3] at ht
  have hm : t ∈ [22, 23, 9] := by simpa using Array.mem_of_getElem? ht
  have hall : ([22, 23, 9].all fun u => !Tryz.prog.wantsStandIn u) = true := by kernel_rfl
  exact (show Tryz.prog.wantsStandIn t = false by simpa using List.all_eq_true.1 hall t hm)

/-- The card. -/
theorem card : Rows.DomainThereCardSaid :=
  Claim7.holds_tied_plain_at .later [] _ _ _ _ said (fun _ h => by cases h) (by kernel_rfl) (fun _ h => by cases h) domainThere_row_tie rfl ⟨rfl, rfl⟩ (by kernel_rfl) rfl plain (by kernel_rfl)
end Go.Proofs.YtnlgbopdbihnjabGreatDoor.domainThere
namespace Go.Proofs.YtnlgbopdbihnjabGreatDoor
theorem domainThere_card : Rows.DomainThereCardSaid := domainThere.card
#print axioms domainThere_card
end Go.Proofs.YtnlgbopdbihnjabGreatDoor
