/-
  The document's V4 and V6.
-/
import Derived.Test.YtnlgbopdbihnjaaGreatDoorRlg8
import Derived.Test.YtnlgbopdbihnjaaGreatDoorV6a
import Derived.Test.YtnlgbopdbihnjaaGreatDoorTl8
namespace Go.Proofs.YtnlgbopdbihnjaaGreatDoor
open Go.RowKit

set_option maxHeartbeats 8000000 in
set_option maxRecDepth 100000 in
theorem rv4_any (s : ByteArray) (w : World) (hT : ∃ m, w.cell? ⟨1, 0, none⟩ = some (.int .i64 m)) (hs : s.size ≤ 2000000) : Calls Tryz.prog 24 #[.string s] w fun e w' => e = .returned (v4V (v4 s.data.toList)) ∧ Below w.heap.size w w' := by
  have HT : Hid (∀ wx, Below w.heap.size w wx → ∃ m, wx.cell? ⟨1, 0, none⟩ = some (.int .i64 m)) := fun wx hx => by
    obtain ⟨m, hm⟩ := hT
    exact ⟨m, (hx.cell (p := ⟨1, 0, none⟩) (World.block_lt_of_cell? w _ hm)).trans hm⟩
  clear hT
  rw [← dV4_is]
  have R1 : Hid (Lies ((w.alloc (.cells #[.int .u8 0, .int .u8 0, .int .u8 0, .int .u8 0] 46)).alloc (.cells #[.int .i64 0, .int .i64 0] 30)) w.heap.size #[.int .u8 0, .int .u8 0, .int .u8 0, .int .u8 0] 46) := (Lies.new w _ _).alloc _
  have R2 : Hid (Lies ((w.alloc (.cells #[.int .u8 0, .int .u8 0, .int .u8 0, .int .u8 0] 46)).alloc (.cells #[.int .i64 0, .int .i64 0] 30)) (w.heap.size + 1) #[.int .i64 0, .int .i64 0] 30) := new_one w _ _ _
  have KX : Hid (Below w.heap.size w ((w.alloc (.cells #[.int .u8 0, .int .u8 0, .int .u8 0, .int .u8 0] 46)).alloc (.cells #[.int .i64 0, .int .i64 0] 30))) := ((Below.refl _ _).alloc (Nat.le_refl _) _).alloc (by simp) _
  go_enter Tryz.func24, Tryz.ntmps24
  go_upto_region 1 with fail
  generalize (w.alloc (.cells #[.int .u8 0, .int .u8 0, .int .u8 0, .int .u8 0] 46)).alloc (.cells #[.int .i64 0, .int .i64 0] 30) = v0 at R1 R2 KX ⊢
  have HW0 := rw4_any s v0 (HT.out _ KX.out) hs
  cases hw : whole4 s.data.toList with
  | none =>
    have HV : Hid (v4V (dV4 s.data.toList) = .tuple #[.agg #[.int .u8 0, .int .u8 0, .int .u8 0, .int .u8 0], .agg #[.int .i64 82, .int .i64 (longest begins4 s.data.toList : Nat)]]) := by
      show _ = _
      unfold dV4
      rw [hw]
      rfl
    obtain ⟨V, hV⟩ : ∃ V : Array Value, V = #[.int .u8 0, .int .u8 0, .int .u8 0, .int .u8 0] := ⟨_, rfl⟩
    have hVz : V.size = 4 := by rw [hV]; rfl
    have hVo : V.all (·.oneCell') = true := by rw [hV]; simp [Value.oneCell']
    rw [← hV] at HV
    have HW : Hid (Calls Tryz.prog 65 #[.string s] v0 fun e w' => e = .returned (.tuple #[.agg V, .bool false]) ∧ Below v0.heap.size v0 w') := by
      have e1 : w4V s.data.toList = .tuple #[.agg V, .bool false] := by unfold w4V; rw [hw, hV]; rfl
      rw [e1] at HW0
      exact HW0
    clear HW0 hw hV
    have HL : Hid (∀ wx, Below w.heap.size w wx → Calls Tryz.prog 66 #[.string s, .bool false] wx fun e w' => e = .returned (.int .i64 (longest begins4 s.data.toList : Nat)) ∧ Below wx.heap.size wx w') := fun wx hx => rlong_four s wx (HT.out wx hx) (by omega)
    generalize longest begins4 s.data.toList = p at HV HL
    go_wp2_with fail
    refine HW.out.mono ?_
    rintro e y1 ⟨rfl, hy1⟩
    have R1n : Hid (Lies y1 w.heap.size #[.int .u8 0, .int .u8 0, .int .u8 0, .int .u8 0] 46) := R1.out.below hy1 R1.out.lt
    have R2n : Hid (Lies y1 (w.heap.size + 1) #[.int .i64 0, .int .i64 0] 30) := R2.out.below hy1 R2.out.lt
    have KXn : Hid (Below w.heap.size w y1) := KX.out.trans (hy1.mono KX.out.size)
    clear R1 R2 KX HW hy1
    have hg : w.heap.size + 1 < y1.heap.size := R2n.out.lt
    have HZ : Hid (Lies (y1.alloc (.cells #[.int .u8 0, .int .u8 0, .int .u8 0, .int .u8 0] 46)) y1.heap.size #[.int .u8 0, .int .u8 0, .int .u8 0, .int .u8 0] 46) := Lies.new y1 _ _
    have R1 : Hid (Lies ((y1.alloc (.cells #[.int .u8 0, .int .u8 0, .int .u8 0, .int .u8 0] 46)).setRow y1.heap.size V) w.heap.size #[.int .u8 0, .int .u8 0, .int .u8 0, .int .u8 0] 46) := (R1n.out.alloc _).row_other (by omega) _
    have R2 : Hid (Lies ((y1.alloc (.cells #[.int .u8 0, .int .u8 0, .int .u8 0, .int .u8 0] 46)).setRow y1.heap.size V) (w.heap.size + 1) #[.int .i64 0, .int .i64 0] 30) := (R2n.out.alloc _).row_other (by omega) _
    have R3 : Hid (Lies ((y1.alloc (.cells #[.int .u8 0, .int .u8 0, .int .u8 0, .int .u8 0] 46)).setRow y1.heap.size V) y1.heap.size V 46) := HZ.out.row _
    have KX : Hid (Below w.heap.size w ((y1.alloc (.cells #[.int .u8 0, .int .u8 0, .int .u8 0, .int .u8 0] 46)).setRow y1.heap.size V)) := below_row (KXn.out.alloc KXn.out.size _) (by omega) _
    clear R1n R2n KXn
    go_upto_region 2 with (refine wpList_store_row rfl 46 _ _ rfl y1.heap.size rfl _ V rfl 46 HZ.out (by rw [hVz]; exact info4) (by rw [hVz]; rfl) hVo rfl ?_)
    clear HZ
    generalize (y1.alloc (.cells #[.int .u8 0, .int .u8 0, .int .u8 0, .int .u8 0] 46)).setRow y1.heap.size V = y2 at R1 R2 R3 KX ⊢
    generalize y1.heap.size = g at hg R3 ⊢
    clear y1
    go_upto_region 3 with fail
    refine wp_region_late (fun wx => Lies wx g V 46) 6 (by kernel_rfl) (R3.out.drew) (fun hHeld => ?_)
    refine wpAnyE_tk (i := 0) (d := some 13) (v := .agg V) rfl (by kernel_rfl) (by kernel_rfl) (by kernel_rfl) rfl (fun _ _ _ h => h) rfl rfl ?hy (by assumption) ?_
    case hy =>
      intro w' hSw
      exact exec_load_row 46 _ rfl g rfl V 46 _ hSw Tryz.underlying46 rfl (by rw [hVz]; exact info4)
    simp only [Act.put, List.setIfInBounds_toArray, List.set_cons_zero, List.set_cons_succ]
    refine wpAnyE_tk (i := 1) (d := some 14) (v := ?_) rfl (by kernel_rfl) (by kernel_rfl) (by kernel_rfl) rfl (fun _ _ _ h => h) rfl rfl ?hy (by assumption) ?_
    case hy => (intro w' hSw; (try dsimp only at hSw); go_simp <;> (first | with_reducible rfl | omega | skip))
    simp only [Act.put, List.setIfInBounds_toArray, List.set_cons_zero, List.set_cons_succ]
    refine wpAnyE_on (i := 2) (by kernel_rfl) rfl rfl ?_
    go_simp
    refine (HL.out _ KX.out.drew).mono ?_
    rintro e y3 ⟨rfl, hy3⟩
    have S3 : Hid (Lies y3 g V 46) := R3.out.drew.below hy3 R3.out.lt
    have R1n : Hid (Lies y3 w.heap.size #[.int .u8 0, .int .u8 0, .int .u8 0, .int .u8 0] 46) := R1.out.drew.below hy3 R1.out.lt
    have R2n : Hid (Lies y3 (w.heap.size + 1) #[.int .i64 0, .int .i64 0] 30) := R2.out.drew.below hy3 R2.out.lt
    have KXn : Hid (Below w.heap.size w y3) := KX.out.drew.trans (hy3.mono KX.out.size)
    have hS3 := S3.out
    refine ⟨hS3, ?_⟩
    clear R1 R2 KX R3 HL hy3 hHeld
    refine wpAnyE_tk (i := 3) (d := some 16) (v := .agg #[.int .i64 82, .int .i64 (p : Nat)]) rfl (by kernel_rfl) (by kernel_rfl) (by kernel_rfl) rfl (fun _ _ _ h => h) rfl rfl ?hy (by assumption) ?_
    case hy => (intro w' hSw; (try dsimp only at hSw); go_simp <;> (first | with_reducible rfl | omega | skip))
    simp only [Act.put, List.setIfInBounds_toArray, List.set_cons_zero, List.set_cons_succ]
    refine wpAnyE_on (i := 4) (by kernel_rfl) rfl rfl ?_
    refine oper_store_row 46 _ _ rfl w.heap.size rfl #[.int .u8 0, .int .u8 0, .int .u8 0, .int .u8 0] V rfl 46 R1n.out (by first | exact info4 | (rw [hVz]; exact info4)) (by rw [hVz]; rfl) hVo rfl ?_
    refine ⟨Or.inr (S3.out.row_other (by omega) _), ?_⟩
    refine wpAnyE_on (i := 5) (by kernel_rfl) rfl rfl ?_
    refine oper_store_row 30 _ _ rfl (w.heap.size + 1) rfl #[.int .i64 0, .int .i64 0] #[.int .i64 82, .int .i64 (p : Nat)] rfl 30 (R2n.out.row_other (by omega) _) infoSp rfl (by simp [Value.oneCell']) rfl ?_
    refine ⟨Or.inr ((S3.out.row_other (by omega) _).row_other (by omega) _), ?_⟩
    refine wpAnyE_done (by kernel_rfl) ?_ _
    go_wp2
    refine bodyPost_ret (results_two (p := 2) (q := 3) (by kernel_rfl) _ _ w.heap.size (w.heap.size + 1) 46 30 _ _ (0, 0) (0, 0) _ _ rfl rfl ((R1n.out.row _).row_other (by omega) _) ((R2n.out.row_other (by omega) _).row _) Tryz.underlying46 rfl (by rw [hVz]; exact info4) Tryz.underlying30 rfl infoSp) rfl ⟨by rw [HV.out], below_two KXn.out (by omega)⟩
  | some x =>
    have HV : Hid (v4V (dV4 s.data.toList) = .tuple #[.agg (bytesV x), .agg #[.int .i64 0, .int .i64 0]]) := by
      show _ = _
      unfold dV4
      rw [hw]
      rfl
    obtain ⟨V, hV⟩ : ∃ V : Array Value, V = bytesV x := ⟨_, rfl⟩
    have hVz : V.size = 4 := by rw [hV, bytesV_size]; exact whole4_len hw
    have hVo : V.all (·.oneCell') = true := by
      rw [hV, Array.all_eq_true_iff_forall_mem]
      intro v hv
      exact cells8_one _ v (by unfold bytesV at hv; exact List.mem_toArray.1 hv)
    rw [← hV] at HV
    have HW : Hid (Calls Tryz.prog 65 #[.string s] v0 fun e w' => e = .returned (.tuple #[.agg V, .bool true]) ∧ Below v0.heap.size v0 w') := by
      have e1 : w4V s.data.toList = .tuple #[.agg V, .bool true] := by unfold w4V; rw [hw, hV]; rfl
      rw [e1] at HW0
      exact HW0
    clear HW0 hw hV
    go_wp2_with fail
    refine HW.out.mono ?_
    rintro e y1 ⟨rfl, hy1⟩
    have R1n : Hid (Lies y1 w.heap.size #[.int .u8 0, .int .u8 0, .int .u8 0, .int .u8 0] 46) := R1.out.below hy1 R1.out.lt
    have R2n : Hid (Lies y1 (w.heap.size + 1) #[.int .i64 0, .int .i64 0] 30) := R2.out.below hy1 R2.out.lt
    have KXn : Hid (Below w.heap.size w y1) := KX.out.trans (hy1.mono KX.out.size)
    clear R1 R2 KX HW hy1
    have hg : w.heap.size + 1 < y1.heap.size := R2n.out.lt
    have HZ : Hid (Lies (y1.alloc (.cells #[.int .u8 0, .int .u8 0, .int .u8 0, .int .u8 0] 46)) y1.heap.size #[.int .u8 0, .int .u8 0, .int .u8 0, .int .u8 0] 46) := Lies.new y1 _ _
    have R1 : Hid (Lies ((y1.alloc (.cells #[.int .u8 0, .int .u8 0, .int .u8 0, .int .u8 0] 46)).setRow y1.heap.size V) w.heap.size #[.int .u8 0, .int .u8 0, .int .u8 0, .int .u8 0] 46) := (R1n.out.alloc _).row_other (by omega) _
    have R2 : Hid (Lies ((y1.alloc (.cells #[.int .u8 0, .int .u8 0, .int .u8 0, .int .u8 0] 46)).setRow y1.heap.size V) (w.heap.size + 1) #[.int .i64 0, .int .i64 0] 30) := (R2n.out.alloc _).row_other (by omega) _
    have R3 : Hid (Lies ((y1.alloc (.cells #[.int .u8 0, .int .u8 0, .int .u8 0, .int .u8 0] 46)).setRow y1.heap.size V) y1.heap.size V 46) := HZ.out.row _
    have KX : Hid (Below w.heap.size w ((y1.alloc (.cells #[.int .u8 0, .int .u8 0, .int .u8 0, .int .u8 0] 46)).setRow y1.heap.size V)) := below_row (KXn.out.alloc KXn.out.size _) (by omega) _
    clear R1n R2n KXn
    go_upto_region 2 with (refine wpList_store_row rfl 46 _ _ rfl y1.heap.size rfl _ V rfl 46 HZ.out (by rw [hVz]; exact info4) (by rw [hVz]; rfl) hVo rfl ?_)
    clear HZ
    generalize (y1.alloc (.cells #[.int .u8 0, .int .u8 0, .int .u8 0, .int .u8 0] 46)).setRow y1.heap.size V = y2 at R1 R2 R3 KX ⊢
    generalize y1.heap.size = g at hg R3 ⊢
    clear y1
    go_wp2_with (first | (refine wpList_load_row rfl 46 _ rfl g rfl V 46 _ R3.out Tryz.underlying46 rfl (by rw [hVz]; exact info4) ?_) | (refine wpList_store_row rfl 46 _ _ rfl w.heap.size rfl _ V rfl 46 R1.out (by rw [hVz]; exact info4) (by rw [hVz]; rfl) hVo rfl ?_) | (refine wpList_store_row rfl 30 _ _ rfl (w.heap.size + 1) rfl _ #[.int .i64 0, .int .i64 0] rfl 30 (R2.out.row_other (by omega) _) infoSp rfl (by simp [Value.oneCell']) rfl ?_))
    refine bodyPost_ret (results_two (p := 2) (q := 3) (by kernel_rfl) _ _ w.heap.size (w.heap.size + 1) 46 30 _ _ (0, 0) (0, 0) _ _ rfl rfl ((R1.out.row _).row_other (by omega) _) ((R2.out.row_other (by omega) _).row _) Tryz.underlying46 rfl (by rw [hVz]; exact info4) Tryz.underlying30 rfl infoSp) rfl ⟨by rw [HV.out], below_two KX.out (by omega)⟩

set_option maxHeartbeats 8000000 in
set_option maxRecDepth 100000 in
theorem rv6_any (s : ByteArray) (w : World) (hT : ∃ m, w.cell? ⟨1, 0, none⟩ = some (.int .i64 m)) (hs : s.size ≤ 2000000) : Calls Tryz.prog 25 #[.string s] w fun e w' => e = .returned (v6V (v6 s.data.toList)) ∧ Below w.heap.size w w' := by
  have HT : Hid (∀ wx, Below w.heap.size w wx → ∃ m, wx.cell? ⟨1, 0, none⟩ = some (.int .i64 m)) := fun wx hx => by
    obtain ⟨m, hm⟩ := hT
    exact ⟨m, (hx.cell (p := ⟨1, 0, none⟩) (World.block_lt_of_cell? w _ hm)).trans hm⟩
  clear hT
  rw [← dV6_is]
  have R1 : Hid (Lies ((w.alloc (.cells #[.int .u8 0, .int .u8 0, .int .u8 0, .int .u8 0, .int .u8 0, .int .u8 0, .int .u8 0, .int .u8 0, .int .u8 0, .int .u8 0, .int .u8 0, .int .u8 0, .int .u8 0, .int .u8 0, .int .u8 0, .int .u8 0] 26)).alloc (.cells #[.int .i64 0, .int .i64 0] 30)) w.heap.size #[.int .u8 0, .int .u8 0, .int .u8 0, .int .u8 0, .int .u8 0, .int .u8 0, .int .u8 0, .int .u8 0, .int .u8 0, .int .u8 0, .int .u8 0, .int .u8 0, .int .u8 0, .int .u8 0, .int .u8 0, .int .u8 0] 26) := (Lies.new w _ _).alloc _
  have R2 : Hid (Lies ((w.alloc (.cells #[.int .u8 0, .int .u8 0, .int .u8 0, .int .u8 0, .int .u8 0, .int .u8 0, .int .u8 0, .int .u8 0, .int .u8 0, .int .u8 0, .int .u8 0, .int .u8 0, .int .u8 0, .int .u8 0, .int .u8 0, .int .u8 0] 26)).alloc (.cells #[.int .i64 0, .int .i64 0] 30)) (w.heap.size + 1) #[.int .i64 0, .int .i64 0] 30) := new_one w _ _ _
  have KX : Hid (Below w.heap.size w ((w.alloc (.cells #[.int .u8 0, .int .u8 0, .int .u8 0, .int .u8 0, .int .u8 0, .int .u8 0, .int .u8 0, .int .u8 0, .int .u8 0, .int .u8 0, .int .u8 0, .int .u8 0, .int .u8 0, .int .u8 0, .int .u8 0, .int .u8 0] 26)).alloc (.cells #[.int .i64 0, .int .i64 0] 30))) := ((Below.refl _ _).alloc (Nat.le_refl _) _).alloc (by simp) _
  go_enter Tryz.func25, Tryz.ntmps25
  go_upto_region 1 with fail
  generalize (w.alloc (.cells #[.int .u8 0, .int .u8 0, .int .u8 0, .int .u8 0, .int .u8 0, .int .u8 0, .int .u8 0, .int .u8 0, .int .u8 0, .int .u8 0, .int .u8 0, .int .u8 0, .int .u8 0, .int .u8 0, .int .u8 0, .int .u8 0] 26)).alloc (.cells #[.int .i64 0, .int .i64 0] 30) = v0 at R1 R2 KX ⊢
  have HW0 := rw6_any s v0 (HT.out _ KX.out) hs
  cases hw : whole6 s.data.toList with
  | none =>
    have HV : Hid (v6V (dV6 s.data.toList) = .tuple #[.agg #[.int .u8 0, .int .u8 0, .int .u8 0, .int .u8 0, .int .u8 0, .int .u8 0, .int .u8 0, .int .u8 0, .int .u8 0, .int .u8 0, .int .u8 0, .int .u8 0, .int .u8 0, .int .u8 0, .int .u8 0, .int .u8 0], .agg #[.int .i64 82, .int .i64 (longest begins6 s.data.toList : Nat)]]) := by
      show _ = _
      unfold dV6
      rw [hw]
      rfl
    obtain ⟨V, hV⟩ : ∃ V : Array Value, V = #[.int .u8 0, .int .u8 0, .int .u8 0, .int .u8 0, .int .u8 0, .int .u8 0, .int .u8 0, .int .u8 0, .int .u8 0, .int .u8 0, .int .u8 0, .int .u8 0, .int .u8 0, .int .u8 0, .int .u8 0, .int .u8 0] := ⟨_, rfl⟩
    have hVz : V.size = 16 := by rw [hV]; rfl
    have hVo : V.all (·.oneCell') = true := by rw [hV]; simp [Value.oneCell']
    rw [← hV] at HV
    have HW : Hid (Calls Tryz.prog 67 #[.string s] v0 fun e w' => e = .returned (.tuple #[.agg V, .bool false]) ∧ Below v0.heap.size v0 w') := by
      have e1 : w6V s.data.toList = .tuple #[.agg V, .bool false] := by unfold w6V; rw [hw, hV]; rfl
      rw [e1] at HW0
      exact HW0
    clear HW0 hw hV
    have HL : Hid (∀ wx, Below w.heap.size w wx → Calls Tryz.prog 66 #[.string s, .bool true] wx fun e w' => e = .returned (.int .i64 (longest begins6 s.data.toList : Nat)) ∧ Below wx.heap.size wx w') := fun wx hx => rlong_six s wx (HT.out wx hx) (by omega)
    generalize longest begins6 s.data.toList = p at HV HL
    go_wp2_with fail
    refine HW.out.mono ?_
    rintro e y1 ⟨rfl, hy1⟩
    have R1n : Hid (Lies y1 w.heap.size #[.int .u8 0, .int .u8 0, .int .u8 0, .int .u8 0, .int .u8 0, .int .u8 0, .int .u8 0, .int .u8 0, .int .u8 0, .int .u8 0, .int .u8 0, .int .u8 0, .int .u8 0, .int .u8 0, .int .u8 0, .int .u8 0] 26) := R1.out.below hy1 R1.out.lt
    have R2n : Hid (Lies y1 (w.heap.size + 1) #[.int .i64 0, .int .i64 0] 30) := R2.out.below hy1 R2.out.lt
    have KXn : Hid (Below w.heap.size w y1) := KX.out.trans (hy1.mono KX.out.size)
    clear R1 R2 KX HW hy1
    have hg : w.heap.size + 1 < y1.heap.size := R2n.out.lt
    have HZ : Hid (Lies (y1.alloc (.cells #[.int .u8 0, .int .u8 0, .int .u8 0, .int .u8 0, .int .u8 0, .int .u8 0, .int .u8 0, .int .u8 0, .int .u8 0, .int .u8 0, .int .u8 0, .int .u8 0, .int .u8 0, .int .u8 0, .int .u8 0, .int .u8 0] 26)) y1.heap.size #[.int .u8 0, .int .u8 0, .int .u8 0, .int .u8 0, .int .u8 0, .int .u8 0, .int .u8 0, .int .u8 0, .int .u8 0, .int .u8 0, .int .u8 0, .int .u8 0, .int .u8 0, .int .u8 0, .int .u8 0, .int .u8 0] 26) := Lies.new y1 _ _
    have R1 : Hid (Lies ((y1.alloc (.cells #[.int .u8 0, .int .u8 0, .int .u8 0, .int .u8 0, .int .u8 0, .int .u8 0, .int .u8 0, .int .u8 0, .int .u8 0, .int .u8 0, .int .u8 0, .int .u8 0, .int .u8 0, .int .u8 0, .int .u8 0, .int .u8 0] 26)).setRow y1.heap.size V) w.heap.size #[.int .u8 0, .int .u8 0, .int .u8 0, .int .u8 0, .int .u8 0, .int .u8 0, .int .u8 0, .int .u8 0, .int .u8 0, .int .u8 0, .int .u8 0, .int .u8 0, .int .u8 0, .int .u8 0, .int .u8 0, .int .u8 0] 26) := (R1n.out.alloc _).row_other (by omega) _
    have R2 : Hid (Lies ((y1.alloc (.cells #[.int .u8 0, .int .u8 0, .int .u8 0, .int .u8 0, .int .u8 0, .int .u8 0, .int .u8 0, .int .u8 0, .int .u8 0, .int .u8 0, .int .u8 0, .int .u8 0, .int .u8 0, .int .u8 0, .int .u8 0, .int .u8 0] 26)).setRow y1.heap.size V) (w.heap.size + 1) #[.int .i64 0, .int .i64 0] 30) := (R2n.out.alloc _).row_other (by omega) _
    have R3 : Hid (Lies ((y1.alloc (.cells #[.int .u8 0, .int .u8 0, .int .u8 0, .int .u8 0, .int .u8 0, .int .u8 0, .int .u8 0, .int .u8 0, .int .u8 0, .int .u8 0, .int .u8 0, .int .u8 0, .int .u8 0, .int .u8 0, .int .u8 0, .int .u8 0] 26)).setRow y1.heap.size V) y1.heap.size V 26) := HZ.out.row _
    have KX : Hid (Below w.heap.size w ((y1.alloc (.cells #[.int .u8 0, .int .u8 0, .int .u8 0, .int .u8 0, .int .u8 0, .int .u8 0, .int .u8 0, .int .u8 0, .int .u8 0, .int .u8 0, .int .u8 0, .int .u8 0, .int .u8 0, .int .u8 0, .int .u8 0, .int .u8 0] 26)).setRow y1.heap.size V)) := below_row (KXn.out.alloc KXn.out.size _) (by omega) _
    clear R1n R2n KXn
    go_upto_region 2 with (refine wpList_store_row rfl 26 _ _ rfl y1.heap.size rfl _ V rfl 26 HZ.out (by rw [hVz]; exact info16) (by rw [hVz]; rfl) hVo rfl ?_)
    clear HZ
    generalize (y1.alloc (.cells #[.int .u8 0, .int .u8 0, .int .u8 0, .int .u8 0, .int .u8 0, .int .u8 0, .int .u8 0, .int .u8 0, .int .u8 0, .int .u8 0, .int .u8 0, .int .u8 0, .int .u8 0, .int .u8 0, .int .u8 0, .int .u8 0] 26)).setRow y1.heap.size V = y2 at R1 R2 R3 KX ⊢
    generalize y1.heap.size = g at hg R3 ⊢
    clear y1
    go_upto_region 3 with fail
    refine wp_region_late (fun wx => Lies wx g V 26) 6 (by kernel_rfl) (R3.out.drew) (fun hHeld => ?_)
    refine wpAnyE_tk (i := 0) (d := some 13) (v := .agg V) rfl (by kernel_rfl) (by kernel_rfl) (by kernel_rfl) rfl (fun _ _ _ h => h) rfl rfl ?hy (by assumption) ?_
    case hy =>
      intro w' hSw
      exact exec_load_row 26 _ rfl g rfl V 26 _ hSw Tryz.underlying26 rfl (by rw [hVz]; exact info16)
    simp only [Act.put, List.setIfInBounds_toArray, List.set_cons_zero, List.set_cons_succ]
    refine wpAnyE_tk (i := 1) (d := some 14) (v := ?_) rfl (by kernel_rfl) (by kernel_rfl) (by kernel_rfl) rfl (fun _ _ _ h => h) rfl rfl ?hy (by assumption) ?_
    case hy => (intro w' hSw; (try dsimp only at hSw); go_simp <;> (first | with_reducible rfl | omega | skip))
    simp only [Act.put, List.setIfInBounds_toArray, List.set_cons_zero, List.set_cons_succ]
    refine wpAnyE_on (i := 2) (by kernel_rfl) rfl rfl ?_
    go_simp
    refine (HL.out _ KX.out.drew).mono ?_
    rintro e y3 ⟨rfl, hy3⟩
    have S3 : Hid (Lies y3 g V 26) := R3.out.drew.below hy3 R3.out.lt
    have R1n : Hid (Lies y3 w.heap.size #[.int .u8 0, .int .u8 0, .int .u8 0, .int .u8 0, .int .u8 0, .int .u8 0, .int .u8 0, .int .u8 0, .int .u8 0, .int .u8 0, .int .u8 0, .int .u8 0, .int .u8 0, .int .u8 0, .int .u8 0, .int .u8 0] 26) := R1.out.drew.below hy3 R1.out.lt
    have R2n : Hid (Lies y3 (w.heap.size + 1) #[.int .i64 0, .int .i64 0] 30) := R2.out.drew.below hy3 R2.out.lt
    have KXn : Hid (Below w.heap.size w y3) := KX.out.drew.trans (hy3.mono KX.out.size)
    have hS3 := S3.out
    refine ⟨hS3, ?_⟩
    clear R1 R2 KX R3 HL hy3 hHeld
    refine wpAnyE_tk (i := 3) (d := some 16) (v := .agg #[.int .i64 82, .int .i64 (p : Nat)]) rfl (by kernel_rfl) (by kernel_rfl) (by kernel_rfl) rfl (fun _ _ _ h => h) rfl rfl ?hy (by assumption) ?_
    case hy => (intro w' hSw; (try dsimp only at hSw); go_simp <;> (first | with_reducible rfl | omega | skip))
    simp only [Act.put, List.setIfInBounds_toArray, List.set_cons_zero, List.set_cons_succ]
    refine wpAnyE_on (i := 4) (by kernel_rfl) rfl rfl ?_
    refine oper_store_row 26 _ _ rfl w.heap.size rfl #[.int .u8 0, .int .u8 0, .int .u8 0, .int .u8 0, .int .u8 0, .int .u8 0, .int .u8 0, .int .u8 0, .int .u8 0, .int .u8 0, .int .u8 0, .int .u8 0, .int .u8 0, .int .u8 0, .int .u8 0, .int .u8 0] V rfl 26 R1n.out (by first | exact info16 | (rw [hVz]; exact info16)) (by rw [hVz]; rfl) hVo rfl ?_
    refine ⟨Or.inr (S3.out.row_other (by omega) _), ?_⟩
    refine wpAnyE_on (i := 5) (by kernel_rfl) rfl rfl ?_
    refine oper_store_row 30 _ _ rfl (w.heap.size + 1) rfl #[.int .i64 0, .int .i64 0] #[.int .i64 82, .int .i64 (p : Nat)] rfl 30 (R2n.out.row_other (by omega) _) infoSp rfl (by simp [Value.oneCell']) rfl ?_
    refine ⟨Or.inr ((S3.out.row_other (by omega) _).row_other (by omega) _), ?_⟩
    refine wpAnyE_done (by kernel_rfl) ?_ _
    go_wp2
    refine bodyPost_ret (results_two (p := 2) (q := 3) (by kernel_rfl) _ _ w.heap.size (w.heap.size + 1) 26 30 _ _ (0, 0) (0, 0) _ _ rfl rfl ((R1n.out.row _).row_other (by omega) _) ((R2n.out.row_other (by omega) _).row _) Tryz.underlying26 rfl (by rw [hVz]; exact info16) Tryz.underlying30 rfl infoSp) rfl ⟨by rw [HV.out], below_two KXn.out (by omega)⟩
  | some x =>
    have HV : Hid (v6V (dV6 s.data.toList) = .tuple #[.agg (bytesV x), .agg #[.int .i64 0, .int .i64 0]]) := by
      show _ = _
      unfold dV6
      rw [hw]
      rfl
    obtain ⟨V, hV⟩ : ∃ V : Array Value, V = bytesV x := ⟨_, rfl⟩
    have hVz : V.size = 16 := by rw [hV, bytesV_size]; exact whole6_len hw
    have hVo : V.all (·.oneCell') = true := by
      rw [hV, Array.all_eq_true_iff_forall_mem]
      intro v hv
      exact cells8_one _ v (by unfold bytesV at hv; exact List.mem_toArray.1 hv)
    rw [← hV] at HV
    have HW : Hid (Calls Tryz.prog 67 #[.string s] v0 fun e w' => e = .returned (.tuple #[.agg V, .bool true]) ∧ Below v0.heap.size v0 w') := by
      have e1 : w6V s.data.toList = .tuple #[.agg V, .bool true] := by unfold w6V; rw [hw, hV]; rfl
      rw [e1] at HW0
      exact HW0
    clear HW0 hw hV
    go_wp2_with fail
    refine HW.out.mono ?_
    rintro e y1 ⟨rfl, hy1⟩
    have R1n : Hid (Lies y1 w.heap.size #[.int .u8 0, .int .u8 0, .int .u8 0, .int .u8 0, .int .u8 0, .int .u8 0, .int .u8 0, .int .u8 0, .int .u8 0, .int .u8 0, .int .u8 0, .int .u8 0, .int .u8 0, .int .u8 0, .int .u8 0, .int .u8 0] 26) := R1.out.below hy1 R1.out.lt
    have R2n : Hid (Lies y1 (w.heap.size + 1) #[.int .i64 0, .int .i64 0] 30) := R2.out.below hy1 R2.out.lt
    have KXn : Hid (Below w.heap.size w y1) := KX.out.trans (hy1.mono KX.out.size)
    clear R1 R2 KX HW hy1
    have hg : w.heap.size + 1 < y1.heap.size := R2n.out.lt
    have HZ : Hid (Lies (y1.alloc (.cells #[.int .u8 0, .int .u8 0, .int .u8 0, .int .u8 0, .int .u8 0, .int .u8 0, .int .u8 0, .int .u8 0, .int .u8 0, .int .u8 0, .int .u8 0, .int .u8 0, .int .u8 0, .int .u8 0, .int .u8 0, .int .u8 0] 26)) y1.heap.size #[.int .u8 0, .int .u8 0, .int .u8 0, .int .u8 0, .int .u8 0, .int .u8 0, .int .u8 0, .int .u8 0, .int .u8 0, .int .u8 0, .int .u8 0, .int .u8 0, .int .u8 0, .int .u8 0, .int .u8 0, .int .u8 0] 26) := Lies.new y1 _ _
    have R1 : Hid (Lies ((y1.alloc (.cells #[.int .u8 0, .int .u8 0, .int .u8 0, .int .u8 0, .int .u8 0, .int .u8 0, .int .u8 0, .int .u8 0, .int .u8 0, .int .u8 0, .int .u8 0, .int .u8 0, .int .u8 0, .int .u8 0, .int .u8 0, .int .u8 0] 26)).setRow y1.heap.size V) w.heap.size #[.int .u8 0, .int .u8 0, .int .u8 0, .int .u8 0, .int .u8 0, .int .u8 0, .int .u8 0, .int .u8 0, .int .u8 0, .int .u8 0, .int .u8 0, .int .u8 0, .int .u8 0, .int .u8 0, .int .u8 0, .int .u8 0] 26) := (R1n.out.alloc _).row_other (by omega) _
    have R2 : Hid (Lies ((y1.alloc (.cells #[.int .u8 0, .int .u8 0, .int .u8 0, .int .u8 0, .int .u8 0, .int .u8 0, .int .u8 0, .int .u8 0, .int .u8 0, .int .u8 0, .int .u8 0, .int .u8 0, .int .u8 0, .int .u8 0, .int .u8 0, .int .u8 0] 26)).setRow y1.heap.size V) (w.heap.size + 1) #[.int .i64 0, .int .i64 0] 30) := (R2n.out.alloc _).row_other (by omega) _
    have R3 : Hid (Lies ((y1.alloc (.cells #[.int .u8 0, .int .u8 0, .int .u8 0, .int .u8 0, .int .u8 0, .int .u8 0, .int .u8 0, .int .u8 0, .int .u8 0, .int .u8 0, .int .u8 0, .int .u8 0, .int .u8 0, .int .u8 0, .int .u8 0, .int .u8 0] 26)).setRow y1.heap.size V) y1.heap.size V 26) := HZ.out.row _
    have KX : Hid (Below w.heap.size w ((y1.alloc (.cells #[.int .u8 0, .int .u8 0, .int .u8 0, .int .u8 0, .int .u8 0, .int .u8 0, .int .u8 0, .int .u8 0, .int .u8 0, .int .u8 0, .int .u8 0, .int .u8 0, .int .u8 0, .int .u8 0, .int .u8 0, .int .u8 0] 26)).setRow y1.heap.size V)) := below_row (KXn.out.alloc KXn.out.size _) (by omega) _
    clear R1n R2n KXn
    go_upto_region 2 with (refine wpList_store_row rfl 26 _ _ rfl y1.heap.size rfl _ V rfl 26 HZ.out (by rw [hVz]; exact info16) (by rw [hVz]; rfl) hVo rfl ?_)
    clear HZ
    generalize (y1.alloc (.cells #[.int .u8 0, .int .u8 0, .int .u8 0, .int .u8 0, .int .u8 0, .int .u8 0, .int .u8 0, .int .u8 0, .int .u8 0, .int .u8 0, .int .u8 0, .int .u8 0, .int .u8 0, .int .u8 0, .int .u8 0, .int .u8 0] 26)).setRow y1.heap.size V = y2 at R1 R2 R3 KX ⊢
    generalize y1.heap.size = g at hg R3 ⊢
    clear y1
    go_wp2_with (first | (refine wpList_load_row rfl 26 _ rfl g rfl V 26 _ R3.out Tryz.underlying26 rfl (by rw [hVz]; exact info16) ?_) | (refine wpList_store_row rfl 26 _ _ rfl w.heap.size rfl _ V rfl 26 R1.out (by rw [hVz]; exact info16) (by rw [hVz]; rfl) hVo rfl ?_) | (refine wpList_store_row rfl 30 _ _ rfl (w.heap.size + 1) rfl _ #[.int .i64 0, .int .i64 0] rfl 30 (R2.out.row_other (by omega) _) infoSp rfl (by simp [Value.oneCell']) rfl ?_))
    refine bodyPost_ret (results_two (p := 2) (q := 3) (by kernel_rfl) _ _ w.heap.size (w.heap.size + 1) 26 30 _ _ (0, 0) (0, 0) _ _ rfl rfl ((R1.out.row _).row_other (by omega) _) ((R2.out.row_other (by omega) _).row _) Tryz.underlying26 rfl (by rw [hVz]; exact info16) Tryz.underlying30 rfl infoSp) rfl ⟨by rw [HV.out], below_two KX.out (by omega)⟩

end Go.Proofs.YtnlgbopdbihnjaaGreatDoor
