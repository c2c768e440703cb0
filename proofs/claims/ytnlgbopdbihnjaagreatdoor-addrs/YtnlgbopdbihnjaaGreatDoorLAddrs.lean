/-
  For every text of bulk at most 1048576 and every two addresses the statement DomainAddrs returns true.
-/
import Derived.Test.YtnlgbopdbihnjaaGreatDoorRva8
import Derived.Test.YtnlgbopdbihnjaaGreatDoorRi8
import Derived.Test.YtnlgbopdbihnjaaGreatDoorRj8
import Derived.Test.YtnlgbopdbihnjaaGreatDoorRg8
import Derived.Test.YtnlgbopdbihnjaaGreatDoorWk8
import Derived.ProofKit
import Derived.ChangeMaps5
import Derived.OpenShut
import Derived.ShutString
import Derived.ChangeOld
import Derived.SizedLaws
namespace Go.Proofs.YtnlgbopdbihnjaaGreatDoor.domainAddrs
open Go.ChangeShapes Go.WideShapes Go.ChangeAt Go.RowKit
open Go.ChangeMaps (open_string shut_string)

theorem bulk_mem {H : Type} {d : DataW H} : ∀ {l : List (DataW H)}, d ∈ l → Rows.uptoBulk d ≤ Rows.uptoBulkAll l
  | x :: r, h => by
    simp only [Rows.uptoBulkAll]
    rcases List.mem_cons.1 h with rfl | h
    · omega
    · have := bulk_mem h
      omega
theorem bulk_string {H : Type} {s : ByteArray} {l : List (DataW H)} (hk : Rows.uptoSmall H l = true) (h : DataW.lit (.string s.data.toList) ∈ l) : s.size ≤ 1048576 := by
  have h1 : Rows.uptoBulkAll l ≤ 1048576 := of_decide_eq_true hk
  have h2 := bulk_mem h
  simp only [Rows.uptoBulk, Array.length_toList] at h2
  have h3 : s.data.size = s.size := rfl
  omega

theorem bytesV_oneA (l : List Nat) : (bytesV l).all (·.oneCell') = true := by
  rw [Array.all_eq_true_iff_forall_mem]
  intro v hv
  exact cells8_one _ v (by unfold bytesV at hv; exact List.mem_toArray.1 hv)
theorem v4_len {s : List UInt8} {x : List Nat} (h : v4 s = .ok x) : x.length = 4 := whole4_len ((whole4_v4 s x).2 h)
theorem v6_len {s : List UInt8} {x : List Nat} (h : v6 s = .ok x) : x.length = 16 := whole6_len ((whole6_v6 s x).2 h)
theorem v4V_row (s : List UInt8) : ∃ (l : List Nat) (e p : Nat), l.length = 4 ∧ v4V (v4 s) = .tuple #[.agg (bytesV l), .agg #[.int .i64 (e : Nat), .int .i64 (p : Nat)]] := by
  cases h : v4 s with
  | ok x => exact ⟨x, 0, 0, v4_len h, rfl⟩
  | error p => exact ⟨[0, 0, 0, 0], 82, p, rfl, rfl⟩
theorem v6V_row (s : List UInt8) : ∃ (l : List Nat) (e p : Nat), l.length = 16 ∧ v6V (v6 s) = .tuple #[.agg (bytesV l), .agg #[.int .i64 (e : Nat), .int .i64 (p : Nat)]] := by
  cases h : v6 s with
  | ok x => exact ⟨x, 0, 0, v6_len h, rfl⟩
  | error p => exact ⟨zero16, 82, p, rfl, rfl⟩

set_option maxHeartbeats 16000000 in
set_option maxRecDepth 100000 in
theorem walkW (s : ByteArray) (x y a b : List Nat) (VX VY VA VB : Array Value) (hVX : VX = bytesV x) (hVY : VY = bytesV y) (hVA : VA = bytesV a) (hVB : VB = bytesV b) (hlVX : x.length = 4) (hlVY : y.length = 16) (hlVA : a.length = 4) (hlVB : b.length = 16) (ea pa eb pb : Nat) (S4 S6 : ByteArray) (w : World)
    (HV4 : Hid (∀ wx, Below w.heap.size w wx → Calls Tryz.prog 23 #[.string s] wx fun e w' => e = .returned (.tuple #[.agg VA, .agg #[.int .i64 (ea : Nat), .int .i64 (pa : Nat)]]) ∧ Below wx.heap.size wx w')) (HV6 : Hid (∀ wx, Below w.heap.size w wx → Calls Tryz.prog 12 #[.string s] wx fun e w' => e = .returned (.tuple #[.agg VB, .agg #[.int .i64 (eb : Nat), .int .i64 (pb : Nat)]]) ∧ Below wx.heap.size wx w'))
    (HE4 : Hid (∀ wx, Below w.heap.size w wx → Calls Tryz.prog 24 #[.string s] wx fun e w' => e = .returned (.tuple #[.agg VA, .agg #[.int .i64 (ea : Nat), .int .i64 (pa : Nat)]]) ∧ Below wx.heap.size wx w')) (HE6 : Hid (∀ wx, Below w.heap.size w wx → Calls Tryz.prog 25 #[.string s] wx fun e w' => e = .returned (.tuple #[.agg VB, .agg #[.int .i64 (eb : Nat), .int .i64 (pb : Nat)]]) ∧ Below wx.heap.size wx w'))
    (HP4 : Hid (∀ wx, Below w.heap.size w wx → Calls Tryz.prog 26 #[.agg VX] wx fun e w' => e = .returned (.string S4) ∧ Below wx.heap.size wx w')) (HQ4 : Hid (∀ wx, Below w.heap.size w wx → Calls Tryz.prog 27 #[.agg VX] wx fun e w' => e = .returned (.string S4) ∧ Below wx.heap.size wx w')) (HP6 : Hid (∀ wx, Below w.heap.size w wx → Calls Tryz.prog 16 #[.agg VY] wx fun e w' => e = .returned (.string S6) ∧ Below wx.heap.size wx w')) (HQ6 : Hid (∀ wx, Below w.heap.size w wx → Calls Tryz.prog 28 #[.agg VY] wx fun e w' => e = .returned (.string S6) ∧ Below wx.heap.size wx w'))
    (HW : Hid (∀ wx, Below w.heap.size w wx → Calls Tryz.prog 9 #[] wx fun e w' => e = .returned (.bool true) ∧ Below wx.heap.size wx w')) :
    Calls Tryz.prog 6 #[.string s, .agg VX, .agg VY] w fun e w' => e = .returned (.bool true) ∧ Below w.heap.size w w' := by
  have L1 : Hid (Lies ((w.alloc (.cells VX 46)).alloc (.cells VY 26)) w.heap.size VX 46) := (Lies.new w _ _).alloc _
  have L2 : Hid (Lies ((w.alloc (.cells VX 46)).alloc (.cells VY 26)) (w.heap.size + 1) VY 26) := new_one w _ _ _
  have KB : Hid (Below w.heap.size w ((w.alloc (.cells VX 46)).alloc (.cells VY 26))) := ((Below.refl _ _).alloc (Nat.le_refl _) _).alloc (by simp) _
  have iVX : Hid ((Tryz.prog.info? 46).map (·.size) = some VX.size) := by rw [hVX, bytesV_size, hlVX]; exact info4
  have oVX : Hid (VX.all (·.oneCell') = true ∧ (#[.int .u8 0, .int .u8 0, .int .u8 0, .int .u8 0] : Array Value).size = VX.size) := by rw [hVX]; exact ⟨bytesV_oneA _, by rw [bytesV_size, hlVX]; rfl⟩
  have HVX : Hid (VX = bytesV x) := hVX
  have iVY : Hid ((Tryz.prog.info? 26).map (·.size) = some VY.size) := by rw [hVY, bytesV_size, hlVY]; exact info16
  have oVY : Hid (VY.all (·.oneCell') = true ∧ (#[.int .u8 0, .int .u8 0, .int .u8 0, .int .u8 0, .int .u8 0, .int .u8 0, .int .u8 0, .int .u8 0, .int .u8 0, .int .u8 0, .int .u8 0, .int .u8 0, .int .u8 0, .int .u8 0, .int .u8 0, .int .u8 0] : Array Value).size = VY.size) := by rw [hVY]; exact ⟨bytesV_oneA _, by rw [bytesV_size, hlVY]; rfl⟩
  have HVY : Hid (VY = bytesV y) := hVY
  have iVA : Hid ((Tryz.prog.info? 46).map (·.size) = some VA.size) := by rw [hVA, bytesV_size, hlVA]; exact info4
  have oVA : Hid (VA.all (·.oneCell') = true ∧ (#[.int .u8 0, .int .u8 0, .int .u8 0, .int .u8 0] : Array Value).size = VA.size) := by rw [hVA]; exact ⟨bytesV_oneA _, by rw [bytesV_size, hlVA]; rfl⟩
  have HVA : Hid (VA = bytesV a) := hVA
  have iVB : Hid ((Tryz.prog.info? 26).map (·.size) = some VB.size) := by rw [hVB, bytesV_size, hlVB]; exact info16
  have oVB : Hid (VB.all (·.oneCell') = true ∧ (#[.int .u8 0, .int .u8 0, .int .u8 0, .int .u8 0, .int .u8 0, .int .u8 0, .int .u8 0, .int .u8 0, .int .u8 0, .int .u8 0, .int .u8 0, .int .u8 0, .int .u8 0, .int .u8 0, .int .u8 0, .int .u8 0] : Array Value).size = VB.size) := by rw [hVB]; exact ⟨bytesV_oneA _, by rw [bytesV_size, hlVB]; rfl⟩
  have HVB : Hid (VB = bytesV b) := hVB
  clear hVX hVY hVA hVB
  go_enter Tryz.func6, Tryz.ntmps6
  go_upto_region 1 with fail
  generalize (w.alloc (.cells VX 46)).alloc (.cells VY 26) = v0 at L1 L2 KB ⊢
  go_wp2_with fail
  refine Calls.mono (HV4.out _ KB.out) ?_
  rintro e y1 ⟨rfl, hc⟩
  have KB1 : Hid (Below w.heap.size w y1) := KB.out.trans ((hc).mono KB.out.size)
  have L1n : Hid (Lies y1 (w.heap.size) VX 46) := L1.out.below (hc) L1.out.lt
  clear L1
  have L1 := L1n
  clear L1n
  have L2n : Hid (Lies y1 (w.heap.size + 1) VY 26) := L2.out.below (hc) L2.out.lt
  clear L2
  have L2 := L2n
  clear L2n
  clear KB
  clear hc
  have A : Hid (Lies ((y1.alloc (.cells #[.int .u8 0, .int .u8 0, .int .u8 0, .int .u8 0] 46)).alloc (.cells #[.int .i64 0, .int .i64 0] 30)) y1.heap.size #[.int .u8 0, .int .u8 0, .int .u8 0, .int .u8 0] 46) := (Lies.new y1 _ _).alloc _
  have B : Hid (Lies ((y1.alloc (.cells #[.int .u8 0, .int .u8 0, .int .u8 0, .int .u8 0] 46)).alloc (.cells #[.int .i64 0, .int .i64 0] 30)) (y1.heap.size + 1) #[.int .i64 0, .int .i64 0] 30) := new_one y1 _ _ _
  have M1 : Hid (Lies ((((y1.alloc (.cells #[.int .u8 0, .int .u8 0, .int .u8 0, .int .u8 0] 46)).alloc (.cells #[.int .i64 0, .int .i64 0] 30)).setRow y1.heap.size VA).setRow (y1.heap.size + 1) #[.int .i64 (ea : Nat), .int .i64 (pa : Nat)]) y1.heap.size VA 46) := (A.out.row _).row_other (by omega) _
  have N1 : Hid (Lies ((((y1.alloc (.cells #[.int .u8 0, .int .u8 0, .int .u8 0, .int .u8 0] 46)).alloc (.cells #[.int .i64 0, .int .i64 0] 30)).setRow y1.heap.size VA).setRow (y1.heap.size + 1) #[.int .i64 (ea : Nat), .int .i64 (pa : Nat)]) (y1.heap.size + 1) #[.int .i64 (ea : Nat), .int .i64 (pa : Nat)] 30) := (B.out.row_other (by omega) _).row _
  have BB : Hid (Below y1.heap.size y1 ((((y1.alloc (.cells #[.int .u8 0, .int .u8 0, .int .u8 0, .int .u8 0] 46)).alloc (.cells #[.int .i64 0, .int .i64 0] 30)).setRow y1.heap.size VA).setRow (y1.heap.size + 1) #[.int .i64 (ea : Nat), .int .i64 (pa : Nat)])) := below_row (below_row (((Below.refl _ _).alloc (Nat.le_refl _) _).alloc (by simp) _) (Nat.le_refl _) _) (by omega) _
  have KB2 : Hid (Below w.heap.size w ((((y1.alloc (.cells #[.int .u8 0, .int .u8 0, .int .u8 0, .int .u8 0] 46)).alloc (.cells #[.int .i64 0, .int .i64 0] 30)).setRow y1.heap.size VA).setRow (y1.heap.size + 1) #[.int .i64 (ea : Nat), .int .i64 (pa : Nat)])) := KB1.out.trans ((BB.out).mono KB1.out.size)
  have L1n : Hid (Lies ((((y1.alloc (.cells #[.int .u8 0, .int .u8 0, .int .u8 0, .int .u8 0] 46)).alloc (.cells #[.int .i64 0, .int .i64 0] 30)).setRow y1.heap.size VA).setRow (y1.heap.size + 1) #[.int .i64 (ea : Nat), .int .i64 (pa : Nat)]) (w.heap.size) VX 46) := L1.out.below (BB.out) L1.out.lt
  clear L1
  have L1 := L1n
  clear L1n
  have L2n : Hid (Lies ((((y1.alloc (.cells #[.int .u8 0, .int .u8 0, .int .u8 0, .int .u8 0] 46)).alloc (.cells #[.int .i64 0, .int .i64 0] 30)).setRow y1.heap.size VA).setRow (y1.heap.size + 1) #[.int .i64 (ea : Nat), .int .i64 (pa : Nat)]) (w.heap.size + 1) VY 26) := L2.out.below (BB.out) L2.out.lt
  clear L2
  have L2 := L2n
  clear L2n
  clear KB1
  go_upto_region 2 with (first | (refine wpList_store_row rfl 46 _ _ rfl y1.heap.size rfl _ VA rfl 46 A.out iVA.out oVA.out.2 oVA.out.1 rfl ?_) | (refine wpList_store_row rfl 30 _ _ rfl (y1.heap.size + 1) rfl _ #[.int .i64 (ea : Nat), .int .i64 (pa : Nat)] rfl 30 (B.out.row_other (by omega) _) infoSp rfl (by simp [Value.oneCell']) rfl ?_))
  generalize hv1 : (((y1.alloc (.cells #[.int .u8 0, .int .u8 0, .int .u8 0, .int .u8 0] 46)).alloc (.cells #[.int .i64 0, .int .i64 0] 30)).setRow y1.heap.size VA).setRow (y1.heap.size + 1) #[.int .i64 (ea : Nat), .int .i64 (pa : Nat)] = v1 at M1 N1 KB2 L1 L2 ⊢
  clear hv1 A B BB
  go_wp2_with fail
  refine Calls.mono (HV6.out _ KB2.out) ?_
  rintro e y2 ⟨rfl, hc⟩
  have KB3 : Hid (Below w.heap.size w y2) := KB2.out.trans ((hc).mono KB2.out.size)
  have L1n : Hid (Lies y2 (w.heap.size) VX 46) := L1.out.below (hc) L1.out.lt
  clear L1
  have L1 := L1n
  clear L1n
  have L2n : Hid (Lies y2 (w.heap.size + 1) VY 26) := L2.out.below (hc) L2.out.lt
  clear L2
  have L2 := L2n
  clear L2n
  have M1n : Hid (Lies y2 (y1.heap.size) VA 46) := M1.out.below (hc) M1.out.lt
  clear M1
  have M1 := M1n
  clear M1n
  have N1n : Hid (Lies y2 (y1.heap.size + 1) #[.int .i64 (ea : Nat), .int .i64 (pa : Nat)] 30) := N1.out.below (hc) N1.out.lt
  clear N1
  have N1 := N1n
  clear N1n
  clear KB2
  clear hc
  have A : Hid (Lies ((y2.alloc (.cells #[.int .u8 0, .int .u8 0, .int .u8 0, .int .u8 0, .int .u8 0, .int .u8 0, .int .u8 0, .int .u8 0, .int .u8 0, .int .u8 0, .int .u8 0, .int .u8 0, .int .u8 0, .int .u8 0, .int .u8 0, .int .u8 0] 26)).alloc (.cells #[.int .i64 0, .int .i64 0] 30)) y2.heap.size #[.int .u8 0, .int .u8 0, .int .u8 0, .int .u8 0, .int .u8 0, .int .u8 0, .int .u8 0, .int .u8 0, .int .u8 0, .int .u8 0, .int .u8 0, .int .u8 0, .int .u8 0, .int .u8 0, .int .u8 0, .int .u8 0] 26) := (Lies.new y2 _ _).alloc _
  have B : Hid (Lies ((y2.alloc (.cells #[.int .u8 0, .int .u8 0, .int .u8 0, .int .u8 0, .int .u8 0, .int .u8 0, .int .u8 0, .int .u8 0, .int .u8 0, .int .u8 0, .int .u8 0, .int .u8 0, .int .u8 0, .int .u8 0, .int .u8 0, .int .u8 0] 26)).alloc (.cells #[.int .i64 0, .int .i64 0] 30)) (y2.heap.size + 1) #[.int .i64 0, .int .i64 0] 30) := new_one y2 _ _ _
  have M2 : Hid (Lies ((((y2.alloc (.cells #[.int .u8 0, .int .u8 0, .int .u8 0, .int .u8 0, .int .u8 0, .int .u8 0, .int .u8 0, .int .u8 0, .int .u8 0, .int .u8 0, .int .u8 0, .int .u8 0, .int .u8 0, .int .u8 0, .int .u8 0, .int .u8 0] 26)).alloc (.cells #[.int .i64 0, .int .i64 0] 30)).setRow y2.heap.size VB).setRow (y2.heap.size + 1) #[.int .i64 (eb : Nat), .int .i64 (pb : Nat)]) y2.heap.size VB 26) := (A.out.row _).row_other (by omega) _
  have N2 : Hid (Lies ((((y2.alloc (.cells #[.int .u8 0, .int .u8 0, .int .u8 0, .int .u8 0, .int .u8 0, .int .u8 0, .int .u8 0, .int .u8 0, .int .u8 0, .int .u8 0, .int .u8 0, .int .u8 0, .int .u8 0, .int .u8 0, .int .u8 0, .int .u8 0] 26)).alloc (.cells #[.int .i64 0, .int .i64 0] 30)).setRow y2.heap.size VB).setRow (y2.heap.size + 1) #[.int .i64 (eb : Nat), .int .i64 (pb : Nat)]) (y2.heap.size + 1) #[.int .i64 (eb : Nat), .int .i64 (pb : Nat)] 30) := (B.out.row_other (by omega) _).row _
  have BB : Hid (Below y2.heap.size y2 ((((y2.alloc (.cells #[.int .u8 0, .int .u8 0, .int .u8 0, .int .u8 0, .int .u8 0, .int .u8 0, .int .u8 0, .int .u8 0, .int .u8 0, .int .u8 0, .int .u8 0, .int .u8 0, .int .u8 0, .int .u8 0, .int .u8 0, .int .u8 0] 26)).alloc (.cells #[.int .i64 0, .int .i64 0] 30)).setRow y2.heap.size VB).setRow (y2.heap.size + 1) #[.int .i64 (eb : Nat), .int .i64 (pb : Nat)])) := below_row (below_row (((Below.refl _ _).alloc (Nat.le_refl _) _).alloc (by simp) _) (Nat.le_refl _) _) (by omega) _
  have KB4 : Hid (Below w.heap.size w ((((y2.alloc (.cells #[.int .u8 0, .int .u8 0, .int .u8 0, .int .u8 0, .int .u8 0, .int .u8 0, .int .u8 0, .int .u8 0, .int .u8 0, .int .u8 0, .int .u8 0, .int .u8 0, .int .u8 0, .int .u8 0, .int .u8 0, .int .u8 0] 26)).alloc (.cells #[.int .i64 0, .int .i64 0] 30)).setRow y2.heap.size VB).setRow (y2.heap.size + 1) #[.int .i64 (eb : Nat), .int .i64 (pb : Nat)])) := KB3.out.trans ((BB.out).mono KB3.out.size)
  have L1n : Hid (Lies ((((y2.alloc (.cells #[.int .u8 0, .int .u8 0, .int .u8 0, .int .u8 0, .int .u8 0, .int .u8 0, .int .u8 0, .int .u8 0, .int .u8 0, .int .u8 0, .int .u8 0, .int .u8 0, .int .u8 0, .int .u8 0, .int .u8 0, .int .u8 0] 26)).alloc (.cells #[.int .i64 0, .int .i64 0] 30)).setRow y2.heap.size VB).setRow (y2.heap.size + 1) #[.int .i64 (eb : Nat), .int .i64 (pb : Nat)]) (w.heap.size) VX 46) := L1.out.below (BB.out) L1.out.lt
  clear L1
  have L1 := L1n
  clear L1n
  have L2n : Hid (Lies ((((y2.alloc (.cells #[.int .u8 0, .int .u8 0, .int .u8 0, .int .u8 0, .int .u8 0, .int .u8 0, .int .u8 0, .int .u8 0, .int .u8 0, .int .u8 0, .int .u8 0, .int .u8 0, .int .u8 0, .int .u8 0, .int .u8 0, .int .u8 0] 26)).alloc (.cells #[.int .i64 0, .int .i64 0] 30)).setRow y2.heap.size VB).setRow (y2.heap.size + 1) #[.int .i64 (eb : Nat), .int .i64 (pb : Nat)]) (w.heap.size + 1) VY 26) := L2.out.below (BB.out) L2.out.lt
  clear L2
  have L2 := L2n
  clear L2n
  have M1n : Hid (Lies ((((y2.alloc (.cells #[.int .u8 0, .int .u8 0, .int .u8 0, .int .u8 0, .int .u8 0, .int .u8 0, .int .u8 0, .int .u8 0, .int .u8 0, .int .u8 0, .int .u8 0, .int .u8 0, .int .u8 0, .int .u8 0, .int .u8 0, .int .u8 0] 26)).alloc (.cells #[.int .i64 0, .int .i64 0] 30)).setRow y2.heap.size VB).setRow (y2.heap.size + 1) #[.int .i64 (eb : Nat), .int .i64 (pb : Nat)]) (y1.heap.size) VA 46) := M1.out.below (BB.out) M1.out.lt
  clear M1
  have M1 := M1n
  clear M1n
  have N1n : Hid (Lies ((((y2.alloc (.cells #[.int .u8 0, .int .u8 0, .int .u8 0, .int .u8 0, .int .u8 0, .int .u8 0, .int .u8 0, .int .u8 0, .int .u8 0, .int .u8 0, .int .u8 0, .int .u8 0, .int .u8 0, .int .u8 0, .int .u8 0, .int .u8 0] 26)).alloc (.cells #[.int .i64 0, .int .i64 0] 30)).setRow y2.heap.size VB).setRow (y2.heap.size + 1) #[.int .i64 (eb : Nat), .int .i64 (pb : Nat)]) (y1.heap.size + 1) #[.int .i64 (ea : Nat), .int .i64 (pa : Nat)] 30) := N1.out.below (BB.out) N1.out.lt
  clear N1
  have N1 := N1n
  clear N1n
  clear KB3
  go_upto_region 3 with (first | (refine wpList_store_row rfl 26 _ _ rfl y2.heap.size rfl _ VB rfl 26 A.out iVB.out oVB.out.2 oVB.out.1 rfl ?_) | (refine wpList_store_row rfl 30 _ _ rfl (y2.heap.size + 1) rfl _ #[.int .i64 (eb : Nat), .int .i64 (pb : Nat)] rfl 30 (B.out.row_other (by omega) _) infoSp rfl (by simp [Value.oneCell']) rfl ?_))
  generalize hv2 : (((y2.alloc (.cells #[.int .u8 0, .int .u8 0, .int .u8 0, .int .u8 0, .int .u8 0, .int .u8 0, .int .u8 0, .int .u8 0, .int .u8 0, .int .u8 0, .int .u8 0, .int .u8 0, .int .u8 0, .int .u8 0, .int .u8 0, .int .u8 0] 26)).alloc (.cells #[.int .i64 0, .int .i64 0] 30)).setRow y2.heap.size VB).setRow (y2.heap.size + 1) #[.int .i64 (eb : Nat), .int .i64 (pb : Nat)] = v2 at M2 N2 KB4 L1 L2 M1 N1 ⊢
  clear hv2 A B BB
  go_wp2_with fail
  refine Calls.mono (HE4.out _ KB4.out) ?_
  rintro e y3 ⟨rfl, hc⟩
  have KB5 : Hid (Below w.heap.size w y3) := KB4.out.trans ((hc).mono KB4.out.size)
  have L1n : Hid (Lies y3 (w.heap.size) VX 46) := L1.out.below (hc) L1.out.lt
  clear L1
  have L1 := L1n
  clear L1n
  have L2n : Hid (Lies y3 (w.heap.size + 1) VY 26) := L2.out.below (hc) L2.out.lt
  clear L2
  have L2 := L2n
  clear L2n
  have M1n : Hid (Lies y3 (y1.heap.size) VA 46) := M1.out.below (hc) M1.out.lt
  clear M1
  have M1 := M1n
  clear M1n
  have N1n : Hid (Lies y3 (y1.heap.size + 1) #[.int .i64 (ea : Nat), .int .i64 (pa : Nat)] 30) := N1.out.below (hc) N1.out.lt
  clear N1
  have N1 := N1n
  clear N1n
  have M2n : Hid (Lies y3 (y2.heap.size) VB 26) := M2.out.below (hc) M2.out.lt
  clear M2
  have M2 := M2n
  clear M2n
  have N2n : Hid (Lies y3 (y2.heap.size + 1) #[.int .i64 (eb : Nat), .int .i64 (pb : Nat)] 30) := N2.out.below (hc) N2.out.lt
  clear N2
  have N2 := N2n
  clear N2n
  clear KB4
  clear hc
  have A : Hid (Lies ((y3.alloc (.cells #[.int .u8 0, .int .u8 0, .int .u8 0, .int .u8 0] 46)).alloc (.cells #[.int .i64 0, .int .i64 0] 30)) y3.heap.size #[.int .u8 0, .int .u8 0, .int .u8 0, .int .u8 0] 46) := (Lies.new y3 _ _).alloc _
  have B : Hid (Lies ((y3.alloc (.cells #[.int .u8 0, .int .u8 0, .int .u8 0, .int .u8 0] 46)).alloc (.cells #[.int .i64 0, .int .i64 0] 30)) (y3.heap.size + 1) #[.int .i64 0, .int .i64 0] 30) := new_one y3 _ _ _
  have M3 : Hid (Lies ((((y3.alloc (.cells #[.int .u8 0, .int .u8 0, .int .u8 0, .int .u8 0] 46)).alloc (.cells #[.int .i64 0, .int .i64 0] 30)).setRow y3.heap.size VA).setRow (y3.heap.size + 1) #[.int .i64 (ea : Nat), .int .i64 (pa : Nat)]) y3.heap.size VA 46) := (A.out.row _).row_other (by omega) _
  have N3 : Hid (Lies ((((y3.alloc (.cells #[.int .u8 0, .int .u8 0, .int .u8 0, .int .u8 0] 46)).alloc (.cells #[.int .i64 0, .int .i64 0] 30)).setRow y3.heap.size VA).setRow (y3.heap.size + 1) #[.int .i64 (ea : Nat), .int .i64 (pa : Nat)]) (y3.heap.size + 1) #[.int .i64 (ea : Nat), .int .i64 (pa : Nat)] 30) := (B.out.row_other (by omega) _).row _
  have BB : Hid (Below y3.heap.size y3 ((((y3.alloc (.cells #[.int .u8 0, .int .u8 0, .int .u8 0, .int .u8 0] 46)).alloc (.cells #[.int .i64 0, .int .i64 0] 30)).setRow y3.heap.size VA).setRow (y3.heap.size + 1) #[.int .i64 (ea : Nat), .int .i64 (pa : Nat)])) := below_row (below_row (((Below.refl _ _).alloc (Nat.le_refl _) _).alloc (by simp) _) (Nat.le_refl _) _) (by omega) _
  have KB6 : Hid (Below w.heap.size w ((((y3.alloc (.cells #[.int .u8 0, .int .u8 0, .int .u8 0, .int .u8 0] 46)).alloc (.cells #[.int .i64 0, .int .i64 0] 30)).setRow y3.heap.size VA).setRow (y3.heap.size + 1) #[.int .i64 (ea : Nat), .int .i64 (pa : Nat)])) := KB5.out.trans ((BB.out).mono KB5.out.size)
  have L1n : Hid (Lies ((((y3.alloc (.cells #[.int .u8 0, .int .u8 0, .int .u8 0, .int .u8 0] 46)).alloc (.cells #[.int .i64 0, .int .i64 0] 30)).setRow y3.heap.size VA).setRow (y3.heap.size + 1) #[.int .i64 (ea : Nat), .int .i64 (pa : Nat)]) (w.heap.size) VX 46) := L1.out.below (BB.out) L1.out.lt
  clear L1
  have L1 := L1n
  clear L1n
  have L2n : Hid (Lies ((((y3.alloc (.cells #[.int .u8 0, .int .u8 0, .int .u8 0, .int .u8 0] 46)).alloc (.cells #[.int .i64 0, .int .i64 0] 30)).setRow y3.heap.size VA).setRow (y3.heap.size + 1) #[.int .i64 (ea : Nat), .int .i64 (pa : Nat)]) (w.heap.size + 1) VY 26) := L2.out.below (BB.out) L2.out.lt
  clear L2
  have L2 := L2n
  clear L2n
  have M1n : Hid (Lies ((((y3.alloc (.cells #[.int .u8 0, .int .u8 0, .int .u8 0, .int .u8 0] 46)).alloc (.cells #[.int .i64 0, .int .i64 0] 30)).setRow y3.heap.size VA).setRow (y3.heap.size + 1) #[.int .i64 (ea : Nat), .int .i64 (pa : Nat)]) (y1.heap.size) VA 46) := M1.out.below (BB.out) M1.out.lt
  clear M1
  have M1 := M1n
  clear M1n
  have N1n : Hid (Lies ((((y3.alloc (.cells #[.int .u8 0, .int .u8 0, .int .u8 0, .int .u8 0] 46)).alloc (.cells #[.int .i64 0, .int .i64 0] 30)).setRow y3.heap.size VA).setRow (y3.heap.size + 1) #[.int .i64 (ea : Nat), .int .i64 (pa : Nat)]) (y1.heap.size + 1) #[.int .i64 (ea : Nat), .int .i64 (pa : Nat)] 30) := N1.out.below (BB.out) N1.out.lt
  clear N1
  have N1 := N1n
  clear N1n
  have M2n : Hid (Lies ((((y3.alloc (.cells #[.int .u8 0, .int .u8 0, .int .u8 0, .int .u8 0] 46)).alloc (.cells #[.int .i64 0, .int .i64 0] 30)).setRow y3.heap.size VA).setRow (y3.heap.size + 1) #[.int .i64 (ea : Nat), .int .i64 (pa : Nat)]) (y2.heap.size) VB 26) := M2.out.below (BB.out) M2.out.lt
  clear M2
  have M2 := M2n
  clear M2n
  have N2n : Hid (Lies ((((y3.alloc (.cells #[.int .u8 0, .int .u8 0, .int .u8 0, .int .u8 0] 46)).alloc (.cells #[.int .i64 0, .int .i64 0] 30)).setRow y3.heap.size VA).setRow (y3.heap.size + 1) #[.int .i64 (ea : Nat), .int .i64 (pa : Nat)]) (y2.heap.size + 1) #[.int .i64 (eb : Nat), .int .i64 (pb : Nat)] 30) := N2.out.below (BB.out) N2.out.lt
  clear N2
  have N2 := N2n
  clear N2n
  clear KB5
  go_upto_region 4 with (first | (refine wpList_store_row rfl 46 _ _ rfl y3.heap.size rfl _ VA rfl 46 A.out iVA.out oVA.out.2 oVA.out.1 rfl ?_) | (refine wpList_store_row rfl 30 _ _ rfl (y3.heap.size + 1) rfl _ #[.int .i64 (ea : Nat), .int .i64 (pa : Nat)] rfl 30 (B.out.row_other (by omega) _) infoSp rfl (by simp [Value.oneCell']) rfl ?_))
  generalize hv3 : (((y3.alloc (.cells #[.int .u8 0, .int .u8 0, .int .u8 0, .int .u8 0] 46)).alloc (.cells #[.int .i64 0, .int .i64 0] 30)).setRow y3.heap.size VA).setRow (y3.heap.size + 1) #[.int .i64 (ea : Nat), .int .i64 (pa : Nat)] = v3 at M3 N3 KB6 L1 L2 M1 N1 M2 N2 ⊢
  clear hv3 A B BB
  go_wp2_with fail
  refine Calls.mono (HE6.out _ KB6.out) ?_
  rintro e y4 ⟨rfl, hc⟩
  have KB7 : Hid (Below w.heap.size w y4) := KB6.out.trans ((hc).mono KB6.out.size)
  have L1n : Hid (Lies y4 (w.heap.size) VX 46) := L1.out.below (hc) L1.out.lt
  clear L1
  have L1 := L1n
  clear L1n
  have L2n : Hid (Lies y4 (w.heap.size + 1) VY 26) := L2.out.below (hc) L2.out.lt
  clear L2
  have L2 := L2n
  clear L2n
  have M1n : Hid (Lies y4 (y1.heap.size) VA 46) := M1.out.below (hc) M1.out.lt
  clear M1
  have M1 := M1n
  clear M1n
  have N1n : Hid (Lies y4 (y1.heap.size + 1) #[.int .i64 (ea : Nat), .int .i64 (pa : Nat)] 30) := N1.out.below (hc) N1.out.lt
  clear N1
  have N1 := N1n
  clear N1n
  have M2n : Hid (Lies y4 (y2.heap.size) VB 26) := M2.out.below (hc) M2.out.lt
  clear M2
  have M2 := M2n
  clear M2n
  have N2n : Hid (Lies y4 (y2.heap.size + 1) #[.int .i64 (eb : Nat), .int .i64 (pb : Nat)] 30) := N2.out.below (hc) N2.out.lt
  clear N2
  have N2 := N2n
  clear N2n
  have M3n : Hid (Lies y4 (y3.heap.size) VA 46) := M3.out.below (hc) M3.out.lt
  clear M3
  have M3 := M3n
  clear M3n
  have N3n : Hid (Lies y4 (y3.heap.size + 1) #[.int .i64 (ea : Nat), .int .i64 (pa : Nat)] 30) := N3.out.below (hc) N3.out.lt
  clear N3
  have N3 := N3n
  clear N3n
  clear KB6
  clear hc
  have A : Hid (Lies ((y4.alloc (.cells #[.int .u8 0, .int .u8 0, .int .u8 0, .int .u8 0, .int .u8 0, .int .u8 0, .int .u8 0, .int .u8 0, .int .u8 0, .int .u8 0, .int .u8 0, .int .u8 0, .int .u8 0, .int .u8 0, .int .u8 0, .int .u8 0] 26)).alloc (.cells #[.int .i64 0, .int .i64 0] 30)) y4.heap.size #[.int .u8 0, .int .u8 0, .int .u8 0, .int .u8 0, .int .u8 0, .int .u8 0, .int .u8 0, .int .u8 0, .int .u8 0, .int .u8 0, .int .u8 0, .int .u8 0, .int .u8 0, .int .u8 0, .int .u8 0, .int .u8 0] 26) := (Lies.new y4 _ _).alloc _
  have B : Hid (Lies ((y4.alloc (.cells #[.int .u8 0, .int .u8 0, .int .u8 0, .int .u8 0, .int .u8 0, .int .u8 0, .int .u8 0, .int .u8 0, .int .u8 0, .int .u8 0, .int .u8 0, .int .u8 0, .int .u8 0, .int .u8 0, .int .u8 0, .int .u8 0] 26)).alloc (.cells #[.int .i64 0, .int .i64 0] 30)) (y4.heap.size + 1) #[.int .i64 0, .int .i64 0] 30) := new_one y4 _ _ _
  have M4 : Hid (Lies ((((y4.alloc (.cells #[.int .u8 0, .int .u8 0, .int .u8 0, .int .u8 0, .int .u8 0, .int .u8 0, .int .u8 0, .int .u8 0, .int .u8 0, .int .u8 0, .int .u8 0, .int .u8 0, .int .u8 0, .int .u8 0, .int .u8 0, .int .u8 0] 26)).alloc (.cells #[.int .i64 0, .int .i64 0] 30)).setRow y4.heap.size VB).setRow (y4.heap.size + 1) #[.int .i64 (eb : Nat), .int .i64 (pb : Nat)]) y4.heap.size VB 26) := (A.out.row _).row_other (by omega) _
  have N4 : Hid (Lies ((((y4.alloc (.cells #[.int .u8 0, .int .u8 0, .int .u8 0, .int .u8 0, .int .u8 0, .int .u8 0, .int .u8 0, .int .u8 0, .int .u8 0, .int .u8 0, .int .u8 0, .int .u8 0, .int .u8 0, .int .u8 0, .int .u8 0, .int .u8 0] 26)).alloc (.cells #[.int .i64 0, .int .i64 0] 30)).setRow y4.heap.size VB).setRow (y4.heap.size + 1) #[.int .i64 (eb : Nat), .int .i64 (pb : Nat)]) (y4.heap.size + 1) #[.int .i64 (eb : Nat), .int .i64 (pb : Nat)] 30) := (B.out.row_other (by omega) _).row _
  have BB : Hid (Below y4.heap.size y4 ((((y4.alloc (.cells #[.int .u8 0, .int .u8 0, .int .u8 0, .int .u8 0, .int .u8 0, .int .u8 0, .int .u8 0, .int .u8 0, .int .u8 0, .int .u8 0, .int .u8 0, .int .u8 0, .int .u8 0, .int .u8 0, .int .u8 0, .int .u8 0] 26)).alloc (.cells #[.int .i64 0, .int .i64 0] 30)).setRow y4.heap.size VB).setRow (y4.heap.size + 1) #[.int .i64 (eb : Nat), .int .i64 (pb : Nat)])) := below_row (below_row (((Below.refl _ _).alloc (Nat.le_refl _) _).alloc (by simp) _) (Nat.le_refl _) _) (by omega) _
  have KB8 : Hid (Below w.heap.size w ((((y4.alloc (.cells #[.int .u8 0, .int .u8 0, .int .u8 0, .int .u8 0, .int .u8 0, .int .u8 0, .int .u8 0, .int .u8 0, .int .u8 0, .int .u8 0, .int .u8 0, .int .u8 0, .int .u8 0, .int .u8 0, .int .u8 0, .int .u8 0] 26)).alloc (.cells #[.int .i64 0, .int .i64 0] 30)).setRow y4.heap.size VB).setRow (y4.heap.size + 1) #[.int .i64 (eb : Nat), .int .i64 (pb : Nat)])) := KB7.out.trans ((BB.out).mono KB7.out.size)
  have L1n : Hid (Lies ((((y4.alloc (.cells #[.int .u8 0, .int .u8 0, .int .u8 0, .int .u8 0, .int .u8 0, .int .u8 0, .int .u8 0, .int .u8 0, .int .u8 0, .int .u8 0, .int .u8 0, .int .u8 0, .int .u8 0, .int .u8 0, .int .u8 0, .int .u8 0] 26)).alloc (.cells #[.int .i64 0, .int .i64 0] 30)).setRow y4.heap.size VB).setRow (y4.heap.size + 1) #[.int .i64 (eb : Nat), .int .i64 (pb : Nat)]) (w.heap.size) VX 46) := L1.out.below (BB.out) L1.out.lt
  clear L1
  have L1 := L1n
  clear L1n
  have L2n : Hid (Lies ((((y4.alloc (.cells #[.int .u8 0, .int .u8 0, .int .u8 0, .int .u8 0, .int .u8 0, .int .u8 0, .int .u8 0, .int .u8 0, .int .u8 0, .int .u8 0, .int .u8 0, .int .u8 0, .int .u8 0, .int .u8 0, .int .u8 0, .int .u8 0] 26)).alloc (.cells #[.int .i64 0, .int .i64 0] 30)).setRow y4.heap.size VB).setRow (y4.heap.size + 1) #[.int .i64 (eb : Nat), .int .i64 (pb : Nat)]) (w.heap.size + 1) VY 26) := L2.out.below (BB.out) L2.out.lt
  clear L2
  have L2 := L2n
  clear L2n
  have M1n : Hid (Lies ((((y4.alloc (.cells #[.int .u8 0, .int .u8 0, .int .u8 0, .int .u8 0, .int .u8 0, .int .u8 0, .int .u8 0, .int .u8 0, .int .u8 0, .int .u8 0, .int .u8 0, .int .u8 0, .int .u8 0, .int .u8 0, .int .u8 0, .int .u8 0] 26)).alloc (.cells #[.int .i64 0, .int .i64 0] 30)).setRow y4.heap.size VB).setRow (y4.heap.size + 1) #[.int .i64 (eb : Nat), .int .i64 (pb : Nat)]) (y1.heap.size) VA 46) := M1.out.below (BB.out) M1.out.lt
  clear M1
  have M1 := M1n
  clear M1n
  have N1n : Hid (Lies ((((y4.alloc (.cells #[.int .u8 0, .int .u8 0, .int .u8 0, .int .u8 0, .int .u8 0, .int .u8 0, .int .u8 0, .int .u8 0, .int .u8 0, .int .u8 0, .int .u8 0, .int .u8 0, .int .u8 0, .int .u8 0, .int .u8 0, .int .u8 0] 26)).alloc (.cells #[.int .i64 0, .int .i64 0] 30)).setRow y4.heap.size VB).setRow (y4.heap.size + 1) #[.int .i64 (eb : Nat), .int .i64 (pb : Nat)]) (y1.heap.size + 1) #[.int .i64 (ea : Nat), .int .i64 (pa : Nat)] 30) := N1.out.below (BB.out) N1.out.lt
  clear N1
  have N1 := N1n
  clear N1n
  have M2n : Hid (Lies ((((y4.alloc (.cells #[.int .u8 0, .int .u8 0, .int .u8 0, .int .u8 0, .int .u8 0, .int .u8 0, .int .u8 0, .int .u8 0, .int .u8 0, .int .u8 0, .int .u8 0, .int .u8 0, .int .u8 0, .int .u8 0, .int .u8 0, .int .u8 0] 26)).alloc (.cells #[.int .i64 0, .int .i64 0] 30)).setRow y4.heap.size VB).setRow (y4.heap.size + 1) #[.int .i64 (eb : Nat), .int .i64 (pb : Nat)]) (y2.heap.size) VB 26) := M2.out.below (BB.out) M2.out.lt
  clear M2
  have M2 := M2n
  clear M2n
  have N2n : Hid (Lies ((((y4.alloc (.cells #[.int .u8 0, .int .u8 0, .int .u8 0, .int .u8 0, .int .u8 0, .int .u8 0, .int .u8 0, .int .u8 0, .int .u8 0, .int .u8 0, .int .u8 0, .int .u8 0, .int .u8 0, .int .u8 0, .int .u8 0, .int .u8 0] 26)).alloc (.cells #[.int .i64 0, .int .i64 0] 30)).setRow y4.heap.size VB).setRow (y4.heap.size + 1) #[.int .i64 (eb : Nat), .int .i64 (pb : Nat)]) (y2.heap.size + 1) #[.int .i64 (eb : Nat), .int .i64 (pb : Nat)] 30) := N2.out.below (BB.out) N2.out.lt
  clear N2
  have N2 := N2n
  clear N2n
  have M3n : Hid (Lies ((((y4.alloc (.cells #[.int .u8 0, .int .u8 0, .int .u8 0, .int .u8 0, .int .u8 0, .int .u8 0, .int .u8 0, .int .u8 0, .int .u8 0, .int .u8 0, .int .u8 0, .int .u8 0, .int .u8 0, .int .u8 0, .int .u8 0, .int .u8 0] 26)).alloc (.cells #[.int .i64 0, .int .i64 0] 30)).setRow y4.heap.size VB).setRow (y4.heap.size + 1) #[.int .i64 (eb : Nat), .int .i64 (pb : Nat)]) (y3.heap.size) VA 46) := M3.out.below (BB.out) M3.out.lt
  clear M3
  have M3 := M3n
  clear M3n
  have N3n : Hid (Lies ((((y4.alloc (.cells #[.int .u8 0, .int .u8 0, .int .u8 0, .int .u8 0, .int .u8 0, .int .u8 0, .int .u8 0, .int .u8 0, .int .u8 0, .int .u8 0, .int .u8 0, .int .u8 0, .int .u8 0, .int .u8 0, .int .u8 0, .int .u8 0] 26)).alloc (.cells #[.int .i64 0, .int .i64 0] 30)).setRow y4.heap.size VB).setRow (y4.heap.size + 1) #[.int .i64 (eb : Nat), .int .i64 (pb : Nat)]) (y3.heap.size + 1) #[.int .i64 (ea : Nat), .int .i64 (pa : Nat)] 30) := N3.out.below (BB.out) N3.out.lt
  clear N3
  have N3 := N3n
  clear N3n
  clear KB7
  go_upto_region 5 with (first | (refine wpList_store_row rfl 26 _ _ rfl y4.heap.size rfl _ VB rfl 26 A.out iVB.out oVB.out.2 oVB.out.1 rfl ?_) | (refine wpList_store_row rfl 30 _ _ rfl (y4.heap.size + 1) rfl _ #[.int .i64 (eb : Nat), .int .i64 (pb : Nat)] rfl 30 (B.out.row_other (by omega) _) infoSp rfl (by simp [Value.oneCell']) rfl ?_))
  generalize hv4 : (((y4.alloc (.cells #[.int .u8 0, .int .u8 0, .int .u8 0, .int .u8 0, .int .u8 0, .int .u8 0, .int .u8 0, .int .u8 0, .int .u8 0, .int .u8 0, .int .u8 0, .int .u8 0, .int .u8 0, .int .u8 0, .int .u8 0, .int .u8 0] 26)).alloc (.cells #[.int .i64 0, .int .i64 0] 30)).setRow y4.heap.size VB).setRow (y4.heap.size + 1) #[.int .i64 (eb : Nat), .int .i64 (pb : Nat)] = v4 at M4 N4 KB8 L1 L2 M1 N1 M2 N2 M3 N3 ⊢
  clear hv4 A B BB
  refine wp_region_lit ?_
  refine wpList_load_rowG (by rfl) 46 _ rfl (y1.heap.size) rfl VA 46 _ M1.out Tryz.underlying46 rfl iVA.out ?_
  simp only [Act.put, List.setIfInBounds_toArray, List.set_cons_zero, List.set_cons_succ]
  refine wpList_load_rowG (by rfl) 46 _ rfl (y3.heap.size) rfl VA 46 _ M3.out Tryz.underlying46 rfl iVA.out ?_
  simp only [Act.put, List.setIfInBounds_toArray, List.set_cons_zero, List.set_cons_succ]
  refine wpList_yieldG (.bool false) (by rfl) ?hy ?_
  case hy => (rw [HVA.out]; refine Eq.trans (exec_neq4 _ _ _ rfl a a rfl rfl hlVA hlVA) (by rw [decide_eq_true rfl]; rfl))
  simp only [Act.put, List.setIfInBounds_toArray, List.set_cons_zero, List.set_cons_succ]
  refine wpList_yieldG (.bool false) (by rfl) ?hy ?_
  case hy => (go_simp <;> (first | with_reducible rfl | omega | skip))
  simp only [Act.put, List.setIfInBounds_toArray, List.set_cons_zero, List.set_cons_succ]
  refine wpList_load_rowG (by rfl) 30 _ rfl (y1.heap.size + 1) rfl #[.int .i64 (ea : Nat), .int .i64 (pa : Nat)] 30 _ N1.out Tryz.underlying30 rfl infoSp ?_
  simp only [Act.put, List.setIfInBounds_toArray, List.set_cons_zero, List.set_cons_succ]
  refine wpList_load_rowG (by rfl) 30 _ rfl (y3.heap.size + 1) rfl #[.int .i64 (ea : Nat), .int .i64 (pa : Nat)] 30 _ N3.out Tryz.underlying30 rfl infoSp ?_
  simp only [Act.put, List.setIfInBounds_toArray, List.set_cons_zero, List.set_cons_succ]
  refine wpList_yieldG (.bool false) (by rfl) ?hy ?_
  case hy => (go_simp <;> (first | with_reducible rfl | omega | skip))
  simp only [Act.put, List.setIfInBounds_toArray, List.set_cons_zero, List.set_cons_succ]
  refine wpList_yieldG (.bool false) (by rfl) ?hy ?_
  case hy => (go_simp <;> (first | with_reducible rfl | omega | skip))
  simp only [Act.put, List.setIfInBounds_toArray, List.set_cons_zero, List.set_cons_succ]
  refine wpList_yieldG (.bool false) (by rfl) ?hy ?_
  case hy => (go_simp <;> (first | with_reducible rfl | omega | skip))
  simp only [Act.put, List.setIfInBounds_toArray, List.set_cons_zero, List.set_cons_succ]
  refine wpList_load_rowG (by rfl) 26 _ rfl (y2.heap.size) rfl VB 26 _ M2.out Tryz.underlying26 rfl iVB.out ?_
  simp only [Act.put, List.setIfInBounds_toArray, List.set_cons_zero, List.set_cons_succ]
  refine wpList_load_rowG (by rfl) 26 _ rfl (y4.heap.size) rfl VB 26 _ M4.out Tryz.underlying26 rfl iVB.out ?_
  simp only [Act.put, List.setIfInBounds_toArray, List.set_cons_zero, List.set_cons_succ]
  refine wpList_yieldG (.bool false) (by rfl) ?hy ?_
  case hy => (rw [HVB.out]; refine Eq.trans (exec_neq16 _ _ _ rfl b b rfl rfl hlVB hlVB) (by rw [decide_eq_true rfl]; rfl))
  simp only [Act.put, List.setIfInBounds_toArray, List.set_cons_zero, List.set_cons_succ]
  refine wpList_yieldG (.bool false) (by rfl) ?hy ?_
  case hy => (go_simp <;> (first | with_reducible rfl | omega | skip))
  simp only [Act.put, List.setIfInBounds_toArray, List.set_cons_zero, List.set_cons_succ]
  refine wpList_yieldG (.bool false) (by rfl) ?hy ?_
  case hy => (go_simp <;> (first | with_reducible rfl | omega | skip))
  simp only [Act.put, List.setIfInBounds_toArray, List.set_cons_zero, List.set_cons_succ]
  refine wpList_load_rowG (by rfl) 30 _ rfl (y2.heap.size + 1) rfl #[.int .i64 (eb : Nat), .int .i64 (pb : Nat)] 30 _ N2.out Tryz.underlying30 rfl infoSp ?_
  simp only [Act.put, List.setIfInBounds_toArray, List.set_cons_zero, List.set_cons_succ]
  refine wpList_load_rowG (by rfl) 30 _ rfl (y4.heap.size + 1) rfl #[.int .i64 (eb : Nat), .int .i64 (pb : Nat)] 30 _ N4.out Tryz.underlying30 rfl infoSp ?_
  simp only [Act.put, List.setIfInBounds_toArray, List.set_cons_zero, List.set_cons_succ]
  refine wpList_yieldG (.bool false) (by rfl) ?hy ?_
  case hy => (go_simp <;> (first | with_reducible rfl | omega | skip))
  simp only [Act.put, List.setIfInBounds_toArray, List.set_cons_zero, List.set_cons_succ]
  refine wpList_yieldG (.bool false) (by rfl) ?hy ?_
  case hy => (go_simp <;> (first | with_reducible rfl | omega | skip))
  simp only [Act.put, List.setIfInBounds_toArray, List.set_cons_zero, List.set_cons_succ]
  refine wpList_nil ?_
  go_upto_region 7 with fail
  clear M1 M2 M3 M4 N1 N2 N3 N4
  refine wp_region_late (fun wx => Below v4.heap.size v4 wx) 16 (by kernel_rfl) (Below.refl _ v4).drew (fun hHeld => ?_)
  refine wpAnyE_tk (i := 0) (d := some 53) (v := .agg VX) rfl (by kernel_rfl) (by kernel_rfl) (by kernel_rfl) rfl (fun _ _ _ h => h) rfl rfl ?hy (by assumption) ?_
  case hy => exact fun w' hSw => exec_load_row 46 _ rfl (w.heap.size) rfl VX 46 _ (L1.out.below hSw L1.out.lt) Tryz.underlying46 rfl iVX.out
  simp only [Act.put, List.setIfInBounds_toArray, List.set_cons_zero, List.set_cons_succ]
  refine wpAnyE_tk (i := 2) (d := some 55) (v := .agg VX) rfl (by kernel_rfl) (by kernel_rfl) (by kernel_rfl) rfl (fun _ _ _ h => h) rfl rfl ?hy (by assumption) ?_
  case hy => exact fun w' hSw => exec_load_row 46 _ rfl (w.heap.size) rfl VX 46 _ (L1.out.below hSw L1.out.lt) Tryz.underlying46 rfl iVX.out
  simp only [Act.put, List.setIfInBounds_toArray, List.set_cons_zero, List.set_cons_succ]
  refine wpAnyE_on (i := 1) (by kernel_rfl) rfl rfl ?_
  go_simp
  refine Calls.mono (HP4.out _ (KB8.out.trans (((Below.refl _ v4).drew).mono KB8.out.size))) ?_
  rintro e y51 ⟨rfl, hc51⟩
  have hx51 : Below v4.heap.size v4 y51 := ((Below.refl _ v4).drew).trans hc51
  refine ⟨hx51, ?_⟩
  clear hc51
  refine wpAnyE_on (i := 3) (by kernel_rfl) rfl rfl ?_
  go_simp
  refine Calls.mono (HQ4.out _ (KB8.out.trans ((hx51).mono KB8.out.size))) ?_
  rintro e y52 ⟨rfl, hc52⟩
  have hx52 : Below v4.heap.size v4 y52 := hx51.trans (hc52.mono hx51.size)
  refine ⟨hx52, ?_⟩
  clear hc52
  refine wpAnyE_tk (i := 4) (d := some 57) (v := ?_) rfl (by kernel_rfl) (by kernel_rfl) (by kernel_rfl) rfl (fun _ _ _ h => h) rfl rfl ?hy (by assumption) ?_
  case hy => (intro w' hSw; (try dsimp only at hSw); go_simp <;> (first | with_reducible rfl | omega | skip))
  simp only [Act.put, List.setIfInBounds_toArray, List.set_cons_zero, List.set_cons_succ]
  refine wpAnyE_tk (i := 5) (d := some 58) (v := ?_) rfl (by kernel_rfl) (by kernel_rfl) (by kernel_rfl) rfl (fun _ _ _ h => h) rfl rfl ?hy (by assumption) ?_
  case hy => (intro w' hSw; (try dsimp only at hSw); go_simp <;> (first | with_reducible rfl | omega | skip))
  simp only [Act.put, List.setIfInBounds_toArray, List.set_cons_zero, List.set_cons_succ]
  refine wpAnyE_tk (i := 6) (d := some 59) (v := .agg VY) rfl (by kernel_rfl) (by kernel_rfl) (by kernel_rfl) rfl (fun _ _ _ h => h) rfl rfl ?hy (by assumption) ?_
  case hy => exact fun w' hSw => exec_load_row 26 _ rfl (w.heap.size + 1) rfl VY 26 _ (L2.out.below hSw L2.out.lt) Tryz.underlying26 rfl iVY.out
  simp only [Act.put, List.setIfInBounds_toArray, List.set_cons_zero, List.set_cons_succ]
  refine wpAnyE_tk (i := 8) (d := some 61) (v := .agg VY) rfl (by kernel_rfl) (by kernel_rfl) (by kernel_rfl) rfl (fun _ _ _ h => h) rfl rfl ?hy (by assumption) ?_
  case hy => exact fun w' hSw => exec_load_row 26 _ rfl (w.heap.size + 1) rfl VY 26 _ (L2.out.below hSw L2.out.lt) Tryz.underlying26 rfl iVY.out
  simp only [Act.put, List.setIfInBounds_toArray, List.set_cons_zero, List.set_cons_succ]
  refine wpAnyE_on (i := 7) (by kernel_rfl) rfl rfl ?_
  go_simp
  refine Calls.mono (HP6.out _ (KB8.out.trans ((hx52).mono KB8.out.size))) ?_
  rintro e y53 ⟨rfl, hc53⟩
  have hx53 : Below v4.heap.size v4 y53 := hx52.trans (hc53.mono hx52.size)
  refine ⟨hx53, ?_⟩
  clear hc53
  refine wpAnyE_on (i := 9) (by kernel_rfl) rfl rfl ?_
  go_simp
  refine Calls.mono (HQ6.out _ (KB8.out.trans ((hx53).mono KB8.out.size))) ?_
  rintro e y54 ⟨rfl, hc54⟩
  have hx54 : Below v4.heap.size v4 y54 := hx53.trans (hc54.mono hx53.size)
  refine ⟨hx54, ?_⟩
  clear hc54
  refine wpAnyE_tk (i := 10) (d := some 63) (v := ?_) rfl (by kernel_rfl) (by kernel_rfl) (by kernel_rfl) rfl (fun _ _ _ h => h) rfl rfl ?hy (by assumption) ?_
  case hy => (intro w' hSw; (try dsimp only at hSw); go_simp <;> (first | with_reducible rfl | omega | skip))
  simp only [Act.put, List.setIfInBounds_toArray, List.set_cons_zero, List.set_cons_succ]
  refine wpAnyE_tk (i := 11) (d := some 64) (v := ?_) rfl (by kernel_rfl) (by kernel_rfl) (by kernel_rfl) rfl (fun _ _ _ h => h) rfl rfl ?hy (by assumption) ?_
  case hy => (intro w' hSw; (try dsimp only at hSw); go_simp <;> (first | with_reducible rfl | omega | skip))
  simp only [Act.put, List.setIfInBounds_toArray, List.set_cons_zero, List.set_cons_succ]
  refine wpAnyE_tk (i := 12) (d := some 65) (v := ?_) rfl (by kernel_rfl) (by kernel_rfl) (by kernel_rfl) rfl (fun _ _ _ h => h) rfl rfl ?hy (by assumption) ?_
  case hy => (intro w' hSw; (try dsimp only at hSw); go_simp <;> (first | with_reducible rfl | omega | skip))
  simp only [Act.put, List.setIfInBounds_toArray, List.set_cons_zero, List.set_cons_succ]
  refine wpAnyE_on (i := 13) (by kernel_rfl) rfl rfl ?_
  go_simp
  refine Calls.mono (HW.out _ (KB8.out.trans ((hx54).mono KB8.out.size))) ?_
  rintro e y55 ⟨rfl, hc55⟩
  have hx55 : Below v4.heap.size v4 y55 := hx54.trans (hc55.mono hx54.size)
  refine ⟨hx55, ?_⟩
  clear hc55
  refine wpAnyE_tk (i := 14) (d := some 67) (v := ?_) rfl (by kernel_rfl) (by kernel_rfl) (by kernel_rfl) rfl (fun _ _ _ h => h) rfl rfl ?hy (by assumption) ?_
  case hy => (intro w' hSw; (try dsimp only at hSw); go_simp <;> (first | with_reducible rfl | omega | skip))
  simp only [Act.put, List.setIfInBounds_toArray, List.set_cons_zero, List.set_cons_succ]
  refine wpAnyE_tk (i := 15) (d := some 6) (v := ?_) rfl (by kernel_rfl) (by kernel_rfl) (by kernel_rfl) rfl (fun _ _ _ h => h) rfl rfl ?hy (by assumption) ?_
  case hy => (intro w' hSw; (try dsimp only at hSw); go_simp <;> (first | with_reducible rfl | omega | skip))
  simp only [Act.put, List.setIfInBounds_toArray, List.set_cons_zero, List.set_cons_succ]
  refine wpAnyE_done (by kernel_rfl) ?_ _
  have KB56 : Hid (Below w.heap.size w y55) := KB8.out.trans ((hx55).mono KB8.out.size)
  have L1n : Hid (Lies y55 (w.heap.size) VX 46) := L1.out.below (hx55) L1.out.lt
  clear L1
  have L1 := L1n
  clear L1n
  have L2n : Hid (Lies y55 (w.heap.size + 1) VY 26) := L2.out.below (hx55) L2.out.lt
  clear L2
  have L2 := L2n
  clear L2n
  have hb56 : Hid (Below v4.heap.size v4 y55) := hx55
  clear hHeld hx51 hx52 hx53 hx54 hx55 KB8
  go_wp2
  go_ret
  exact ⟨rfl, KB56.out⟩

theorem walk (s : ByteArray) (hs : s.size ≤ 1048576) (x : List Nat) (hx : x.length = 4) (bx : ∀ n ∈ x, n < 256) (y : List Nat) (hy : y.length = 16) (by' : ∀ n ∈ y, n < 256) (w : World) (ht : Tc w) :
    Calls Tryz.prog 6 #[.string s, .agg (bytesV x), .agg (bytesV y)] w fun e w' => e = .returned (.bool true) ∧ Below w.heap.size w w' := by
  have HT : Hid (∀ wx, Below w.heap.size w wx → Tc wx) := fun wx hb => ht.below hb
  obtain ⟨a, ea, pa, ha, hva⟩ := v4V_row s.data.toList
  obtain ⟨b, eb, pb, hb, hvb⟩ := v6V_row s.data.toList
  refine walkW s x y a b _ _ _ _ rfl rfl rfl rfl hx hy ha hb ea pa eb pb ⟨(print4 x).toArray⟩ ⟨(print6 y).toArray⟩ w (fun wx h => ?_) (fun wx h => ?_) (fun wx h => ?_) (fun wx h => ?_) (fun wx h => printv4_any x hx bx wx (HT.out wx h).pow) (fun wx h => ?_) (fun wx h => printv6_any y hy by' wx (HT.out wx h).tb.t64) (fun wx h => ?_) (fun wx h => wakes_any wx (HT.out wx h))
  · have := v4_any s wx (HT.out wx h).tb.cls (HT.out wx h).tb.gcl (by omega)
    rw [hva] at this
    exact this
  · obtain ⟨te, pe, he⟩ := (HT.out wx h).tb.es
    have := v6_any s te pe wx (HT.out wx h).tb.cls (HT.out wx h).tb.gcl he (by omega)
    rw [hvb] at this
    exact this
  · have := rv4_any s wx (HT.out wx h).ml (by omega)
    rw [hva] at this
    exact this
  · have := rv6_any s wx (HT.out wx h).ml (by omega)
    rw [hvb] at this
    exact this
  · match x, hx, bx with
    | [q0, q1, q2, q3], _, bx => exact rpv4_any q0 q1 q2 q3 (bx _ (by simp)) (bx _ (by simp)) (bx _ (by simp)) (bx _ (by simp)) wx
  · have := rpv6_any y hy by' wx
    rw [pr6D_is y hy by'] at this
    exact this

set_option maxRecDepth 100000 in
theorem contract (H : Type) (enc : TypeId × Value → H) (W : World) (base : Nat) (args : Array Value) (ds gs : List (DataW H)) (before : List MemPlace)
    (hval : ∀ (j : Nat) t v, Tryz.f6.params[j]? = some t → args[j]? = some v → Value.okWide Tryz.prog W .any base t v)
    (hW : DataW.Whole enc Tryz.prog Tryz.f6.params.toList Rows.domainAddrsSpec.vars false W args.toList ds gs before)
    (hsz : (DataW.weightsEach Tryz.prog (Tryz.f6.params.toList ++ (Rows.OpenSpec.upto Rows.domainAddrsSpec).bare.plain.varTypes Tryz.prog) (ds ++ gs)).all (· ≤ reachBytes) = true)
    (hk : Rows.uptoSmall H (ds ++ gs) = true) (hL : laidMetH Tryz.prog Rows.domainAddrsUptoRow.laid W) (hsh : W.ShapedOpen Tryz.prog) :
    Calls Tryz.prog 6 args W fun e W' => ∃ v, e = .returned v ∧ Rows.domainAddrsSpec.post enc Tryz.prog Tryz.f6 false true false false W args v W' := by
  have hW' := hW
  obtain ⟨p, q, hA0, hV, rfl, hfz, hnd⟩ := hW
  have hA : DataW.TrodAll enc Tryz.prog W 0 (fun _ => true) true Tryz.f6.params.toList args.toList ds p := hA0
  rw [Tryz.params6] at hA hval hsz
  obtain ⟨v0, vs0, d0, ds0, p0, q0, hargs, rfl, rfl, h0, r0⟩ := trodAll_cons hA
  obtain ⟨v1, vs1, d1, ds1, p1, q1, rfl, rfl, rfl, h1, r1⟩ := trodAll_cons r0
  obtain ⟨v2, vs2, d2, ds2, p2, q2, rfl, rfl, rfl, h2, r2⟩ := trodAll_cons r1
  obtain ⟨rfl, rfl, rfl⟩ := trodAll_nil r2
  obtain rfl : args = #[v0, v1, v2] := by cases args; simp_all
  obtain ⟨rfl, rfl⟩ := trodVars_none hV
  obtain ⟨a0, rfl, rfl, rfl, w0⟩ := open_string Tryz.underlying9 (hval 0 9 v0 rfl rfl) h0
  have k1 := h1
  have lt1 : ∀ x ∈ p1, x.block < W.heap.size := by obtain ⟨m, hm⟩ := k1; exact DataW.trod_lt m _ _ _ hm
  obtain ⟨a1, rfl, b1, c1⟩ := open_arr Tryz.underlying46 cellsT4 (hval 1 46 v1 rfl rfl) h1
  have k2 := h2
  have lt2 : ∀ x ∈ p2, x.block < W.heap.size := by obtain ⟨m, hm⟩ := k2; exact DataW.trod_lt m _ _ _ hm
  obtain ⟨a2, rfl, b2, c2⟩ := open_arr Tryz.underlying26 cellsT16 (hval 2 26 v2 rfl rfl) h2
  clear hA0
  have s0 : a0.size ≤ 1048576 := bulk_string hk (by simp)
  refine (walk a0 s0 a1 b1 c1 a2 b2 c2 W (tabs8_of hL hsh)).mono fun e W' ⟨he, bel⟩ => ?_
  subst he
  exact ⟨_, rfl, _, _, _, [], _, [], hW', trodAll_mk1 (shut_bool Tryz.underlying4 _), trodAll_cons_mk (shut_string Tryz.underlying9 w0) (trodAll_cons_mk (Below.trod laidOut (by kernel_rfl) (of_decide_eq_true (by kernel_rfl)) k1 bel lt1) (trodAll_cons_mk (Below.trod laidOut (by kernel_rfl) (of_decide_eq_true (by kernel_rfl)) k2 bel lt2) trodAll_mk0)), rfl, bel.frame _, fun h => by cases h⟩

set_option maxRecDepth 100000 in
theorem laid_met (os : Os) : laidMet Tryz.prog Rows.domainAddrsUptoRow.laid ((laidWorld8 os).forCall (fun _ _ => 0) ⟨#[], #[.string ByteArray.empty, .agg #[.int .u8 0, .int .u8 0, .int .u8 0, .int .u8 0], .agg #[.int .u8 0, .int .u8 0, .int .u8 0, .int .u8 0, .int .u8 0, .int .u8 0, .int .u8 0, .int .u8 0, .int .u8 0, .int .u8 0, .int .u8 0, .int .u8 0, .int .u8 0, .int .u8 0, .int .u8 0, .int .u8 0]], []⟩).memory :=
  laidMet_of_run' 8 (by kernel_rfl) (by kernel_rfl)
set_option maxRecDepth 100000 in
theorem reads (os : Os) {H : Type} (enc : TypeId × Value → H) : ∃ places, DataW.whole enc Tryz.prog ((laidWorld8 os).forCall (fun _ _ => 0) ⟨#[], #[.string ByteArray.empty, .agg #[.int .u8 0, .int .u8 0, .int .u8 0, .int .u8 0], .agg #[.int .u8 0, .int .u8 0, .int .u8 0, .int .u8 0, .int .u8 0, .int .u8 0, .int .u8 0, .int .u8 0, .int .u8 0, .int .u8 0, .int .u8 0, .int .u8 0, .int .u8 0, .int .u8 0, .int .u8 0, .int .u8 0]], []⟩).memory Tryz.f6.params.toList Rows.domainAddrsSpec.vars false #[Value.string ByteArray.empty, Value.agg #[.int .u8 0, .int .u8 0, .int .u8 0, .int .u8 0], Value.agg #[.int .u8 0, .int .u8 0, .int .u8 0, .int .u8 0, .int .u8 0, .int .u8 0, .int .u8 0, .int .u8 0, .int .u8 0, .int .u8 0, .int .u8 0, .int .u8 0, .int .u8 0, .int .u8 0, .int .u8 0, .int .u8 0]].toList 8 = some ([.lit (.string []), .agg [.lit (.int .u8 0), .lit (.int .u8 0), .lit (.int .u8 0), .lit (.int .u8 0)], .agg [.lit (.int .u8 0), .lit (.int .u8 0), .lit (.int .u8 0), .lit (.int .u8 0), .lit (.int .u8 0), .lit (.int .u8 0), .lit (.int .u8 0), .lit (.int .u8 0), .lit (.int .u8 0), .lit (.int .u8 0), .lit (.int .u8 0), .lit (.int .u8 0), .lit (.int .u8 0), .lit (.int .u8 0), .lit (.int .u8 0), .lit (.int .u8 0)]], [], places) :=
  ⟨[], by kernel_rfl⟩

set_option maxRecDepth 100000 in
theorem lifted (os : Os) (started : os.Started) (H : Type) (enc : TypeId × Value → H) (F : Stop.Interp) :
    ReturnsInHanded {} Tryz.checked os 6 .any ((Rows.OpenSpec.upto Rows.domainAddrsSpec).preRow enc Tryz.prog Tryz.f6 Rows.domainAddrsUptoRow.domain false Rows.domainAddrsUptoRow.laid) (((Rows.OpenSpec.upto Rows.domainAddrsSpec).at F).post enc Tryz.prog Tryz.f6 false true false false) := by
  obtain ⟨places, hx⟩ := reads os enc
  refine returnsInHanded_of_row (C := Tryz.checked) (s := Rows.OpenSpec.upto Rows.domainAddrsSpec) own started (by kernel_rfl) Tryz.func6
    (witness_row_at (enc := enc) (C := Tryz.checked) false (laidWorld8 os) #[.string ByteArray.empty, .agg #[.int .u8 0, .int .u8 0, .int .u8 0, .int .u8 0], .agg #[.int .u8 0, .int .u8 0, .int .u8 0, .int .u8 0, .int .u8 0, .int .u8 0, .int .u8 0, .int .u8 0, .int .u8 0, .int .u8 0, .int .u8 0, .int .u8 0, .int .u8 0, .int .u8 0, .int .u8 0, .int .u8 0]] rfl (by kernel_rfl) (by kernel_rfl) (by kernel_rfl)
      (OpenSpec.preRow_of_cond 8 hx (by kernel_rfl) (fun k hk => by cases hk; kernel_rfl) (by kernel_rfl) (laid_met os))) ?_
  intro W base args ds gs before hval hW _ hcond hsz hL hsh _
  exact contract H enc W base args ds gs before hval hW hsz (hcond _ rfl) hL hsh

theorem said : Rows.DomainAddrsUptoSaid :=
  OpenClaim.holds_of_cond 6 Tryz.f6 rfl rfl rfl rfl rfl rfl rfl ⟨rfl, rfl, rfl, rfl, rfl⟩ rfl rfl rfl rfl rfl (by kernel_rfl) Tryz.func6 (by kernel_rfl)
    (of_decide_eq_true (by kernel_rfl)) (by unfold Func.isWrapper; first | (rw [if_pos (by decide +kernel)]; kernel_rfl) | (rw [if_neg (by decide +kernel)]; exact ⟨rfl, rfl⟩))
    (fun os started H enc _ F => by rw [OpenClaim.pre_eq_preRow]; exact lifted os started H enc F)

/-- No parameter wants a stand-in; the program's own looks are off. -/
theorem plain (f : FuncId) (fn : Func) (hf : Tryz.pinned.checked.prog.funcNamed "posthorn/posthornlaw08.DomainAddrs" = some f) (hfn : Tryz.pinned.checked.prog.funcs[f]? = some fn) :
    true = Tryz.pinned.checked.prog.looks [] ∧ ∀ (j : Nat) t, fn.params[j]? = some t → Tryz.pinned.checked.prog.wantsStandIn t = false := by
  obtain rfl : f = 6 := Option.some.inj ((show Tryz.prog.funcNamed "posthorn/posthornlaw08.DomainAddrs" = some 6 by kernel_rfl).symm.trans hf) |>.symm
  obtain rfl : fn = Tryz.f6 := (Option.some.inj (Tryz.func6.symm.trans hfn)).symm
  refine ⟨by kernel_rfl, fun j t ht => ?_⟩
  rw [Tryz.params6] at ht
  have hm : t ∈ [9, 46, 26] := by simpa using Array.mem_of_getElem? ht
  have hall : ([9, 46, 26].all fun u => !Tryz.prog.wantsStandIn u) = true := by kernel_rfl
  exact (show Tryz.prog.wantsStandIn t = false by simpa using List.all_eq_true.1 hall t hm)

/-- The card. -/
theorem card : Rows.DomainAddrsUptoCardSaid :=
  Claim7.holds_tied_plain_at .later [] _ _ _ _ said (fun _ h => by cases h) (by kernel_rfl) (fun _ h => by cases h) domainAddrsUpto_row_tie rfl ⟨rfl, rfl⟩ (by kernel_rfl) rfl plain (by kernel_rfl)
end Go.Proofs.YtnlgbopdbihnjaaGreatDoor.domainAddrs
namespace Go.Proofs.YtnlgbopdbihnjaaGreatDoor
theorem domainAddrsUpto_card : Rows.DomainAddrsUptoCardSaid := domainAddrs.card
#print axioms domainAddrsUpto_card
end Go.Proofs.YtnlgbopdbihnjaaGreatDoor
