/-
  The contract of domain.Within.
-/
import Derived.Test.YtnlgbopdbihnjaaGreatDoorSw8
namespace Go.Proofs.YtnlgbopdbihnjaaGreatDoor
open Go.RowKit

theorem exec_eql16 {op : Oper} {a : Act} {w : World} (p q : Operand) (r : TypeId) (ho : op.op = .binOp .eql 26 p q r) (x y : List Nat) (hp : a.eval p = .agg (bytesV x)) (hq : a.eval q = .agg (bytesV y)) (hx : x.length = 16) (hy : y.length = 16) : (execOp a.eval op).run Tryz.prog w = .ok (.value (.bool (decide (x = y)))) w := by
  have hgu : Tryz.prog.eqGuardType Tryz.prog.depth 26 = false := by kernel_rfl
  have h := eql16 x y hx hy w
  have hg := run_eqGuard_agg (P := Tryz.prog) w .eql 26 p q (bytesV x) (bytesV y) hgu
  unfold execOp
  simp only [ho, hp, hq, Sem.run_bind, hg, Result.andThen_ok, h, Sem.run_pure]

set_option maxHeartbeats 4000000 in
set_option maxRecDepth 100000 in
theorem wth_any (a b : Ho) (oka : a.Ok) (okb : b.Ok) (n : Int) (hn0 : -9223372036854775808 ≤ n) (hn1 : n ≤ 9223372036854775807) (w : World) (hT : Tc w) (hna : a.n.length ≤ 140737488351232) (hnb : b.n.length ≤ 140737488351232) :
    Calls Tryz.prog 15 #[hostV a, hostV b, .int .i64 n] w fun e w' => e = .returned (.bool (within a b n)) ∧ Below w.heap.size w w' := by
  have ha := oka.len
  have hb := okb.len
  have HT : Hid (∀ wx, Below w.heap.size w wx → Tc wx) := fun wx hb => hT.below hb
  have hsa := hostC_size a ha
  have hsb := hostC_size b hb
  obtain ⟨HA, hHA⟩ : ∃ HA, HA = hostC a := ⟨_, rfl⟩
  obtain ⟨HB, hHB⟩ : ∃ HB, HB = hostC b := ⟨_, rfl⟩
  have e1 : hostV a = .agg HA := by rw [hHA]; rfl
  have e2 : hostV b = .agg HB := by rw [hHB]; rfl
  have HHA : Hid (HA = hostC a) := hHA
  have HHB : Hid (HB = hostC b) := hHB
  rw [← hHA] at hsa
  rw [← hHB] at hsb
  have L1 : Hid (Lies ((w.alloc (.cells HA 28)).alloc (.cells HB 28)) w.heap.size HA 28) := (Lies.new w _ _).alloc _
  have L2 : Hid (Lies ((w.alloc (.cells HA 28)).alloc (.cells HB 28)) (w.heap.size + 1) HB 28) := new_one w _ _ _
  have HBL : Hid (Below w.heap.size w ((w.alloc (.cells HA 28)).alloc (.cells HB 28))) := ((Below.refl _ _).alloc (Nat.le_refl _) _).alloc (by simp) _
  have HCA : Hid (∀ wx, Below w.heap.size w wx → Calls Tryz.prog 21 #[.agg HA, .bool false] wx fun e w' => e = .returned (.int .i64 (check a false : Nat)) ∧ Below wx.heap.size wx w') := fun wx hbx => by
    rw [← e1]
    exact chk_any a ha false wx (HT.out _ hbx).tb hna
  have HCB : Hid (∀ wx, Below w.heap.size w wx → Calls Tryz.prog 21 #[.agg HB, .bool false] wx fun e w' => e = .returned (.int .i64 (check b false : Nat)) ∧ Below wx.heap.size wx w') := fun wx hbx => by
    rw [← e2]
    exact chk_any b hb false wx (HT.out _ hbx).tb hnb
  rw [e1, e2]
  clear hT hHA hHB e1 e2
  go_enter Tryz.func15, Tryz.ntmps15
  go_upto_region 1 with fail
  generalize (w.alloc (.cells HA 28)).alloc (.cells HB 28) = wA at L1 L2 HBL ⊢
  have hzA := L2.out.lt
  have L1h : Lies wA w.heap.size (hostC a) 28 := by rw [← HHA.out]; exact L1.out
  have L2h : Lies wA (w.heap.size + 1) (hostC b) 28 := by rw [← HHB.out]; exact L2.out
  obtain ⟨c0, c1⟩ := host_cells L1h
  obtain ⟨d0, d1⟩ := host_cells L2h
  by_cases hk : a.k = b.k
  case neg =>
    have hk' : (a.k == b.k) = false := by rw [beq_eq_false_iff_ne]; exact hk
    have hk2 : (a.k != b.k) = true := by rw [bne, hk']; rfl
    have HV : Hid (within a b n = false) := by show _ = _; unfold within; rw [decide_eq_false hk]; rfl
    clear hk
    go_wp2_with fail
    go_ret
    exact ⟨by rw [HV.out]; rfl, HBL.out⟩
  have hk' : (a.k == b.k) = true := by rw [beq_iff_eq]; exact hk
  rw [← hk] at d0
  have hkk : (a.k == a.k) = true := by rw [beq_iff_eq]
  by_cases hca : check a false = 0
  case neg =>
    have hca' : ((check a false : Int) == 0) = false := by rw [beq_eq_false_iff_ne]; omega
    have HV : Hid (within a b n = false) := by show _ = _; unfold within; rw [decide_eq_false hca]; simp
    have hca2 : ((check a false : Int) != 0) = true := by rw [bne, hca']; rfl
    generalize check a false = ca at HCA hca' hca2
    clear hca hk
    go_wp2_with (first | (refine wpList_load_rowG (by rfl) 28 _ rfl w.heap.size rfl HA 28 _ L1.out Tryz.underlying28 rfl (by rw [hsa]; exact infoHo) ?_) | (refine wpList_load_rowG (by rfl) 28 _ rfl (w.heap.size + 1) rfl HB 28 _ L2.out Tryz.underlying28 rfl (by rw [hsb]; exact infoHo) ?_))
    refine (HCA.out _ HBL.out).mono ?_
    rintro e w1 ⟨rfl, hb1⟩
    have KB : Hid (Below w.heap.size w w1) := HBL.out.trans (hb1.mono (Nat.le_of_lt (Nat.lt_of_succ_lt hzA)))
    clear hb1
    go_wp2_with fail
    go_ret
    exact ⟨by rw [HV.out]; rfl, KB.out⟩
  by_cases hcb : check b false = 0
  case neg =>
    have hcb' : ((check b false : Int) == 0) = false := by rw [beq_eq_false_iff_ne]; omega
    have HV : Hid (within a b n = false) := by show _ = _; unfold within; rw [decide_eq_false hcb]; simp
    rw [hca] at HCA
    have hcb2 : ((check b false : Int) != 0) = true := by rw [bne, hcb']; rfl
    generalize check b false = cb at HCB hcb' hcb2
    clear hca hk hcb
    go_wp2_with (first | (refine wpList_load_rowG (by rfl) 28 _ rfl w.heap.size rfl HA 28 _ L1.out Tryz.underlying28 rfl (by rw [hsa]; exact infoHo) ?_) | (refine wpList_load_rowG (by rfl) 28 _ rfl (w.heap.size + 1) rfl HB 28 _ L2.out Tryz.underlying28 rfl (by rw [hsb]; exact infoHo) ?_))
    refine (HCA.out _ HBL.out).mono ?_
    rintro e w1 ⟨rfl, hb1⟩
    have K2 : Hid (Lies w1 (w.heap.size + 1) HB 28) := L2.out.below hb1 L2.out.lt
    have KB : Hid (Below w.heap.size w w1) := HBL.out.trans (hb1.mono (Nat.le_of_lt (Nat.lt_of_succ_lt hzA)))
    clear hb1
    go_wp2_with (first | (refine wpList_load_rowG (by rfl) 28 _ rfl w.heap.size rfl HA 28 _ L1.out Tryz.underlying28 rfl (by rw [hsa]; exact infoHo) ?_) | (refine wpList_load_rowG (by rfl) 28 _ rfl (w.heap.size + 1) rfl HB 28 _ K2.out Tryz.underlying28 rfl (by rw [hsb]; exact infoHo) ?_))
    refine (HCB.out _ KB.out).mono ?_
    rintro e w2 ⟨rfl, hb2⟩
    have KB2 : Hid (Below w.heap.size w w2) := KB.out.trans (hb2.mono KB.out.size)
    clear hb2
    go_wp2_with fail
    go_ret
    exact ⟨by rw [HV.out]; rfl, KB2.out⟩
  rw [hca] at HCA
  rw [hcb] at HCB
  have HDD : Hid (check a false = 0 ∧ check b false = 0 ∧ a.k = b.k) := ⟨hca, hcb, hk⟩
  clear hca hcb hk
  go_wp2_with (first | (refine wpList_load_rowG (by rfl) 28 _ rfl w.heap.size rfl HA 28 _ L1.out Tryz.underlying28 rfl (by rw [hsa]; exact infoHo) ?_) | (refine wpList_load_rowG (by rfl) 28 _ rfl (w.heap.size + 1) rfl HB 28 _ L2.out Tryz.underlying28 rfl (by rw [hsb]; exact infoHo) ?_))
  refine (HCA.out _ HBL.out).mono ?_
  rintro e w1 ⟨rfl, hb1⟩
  have K2 : Hid (Lies w1 (w.heap.size + 1) HB 28) := L2.out.below hb1 L2.out.lt
  have K1 : Hid (Lies w1 w.heap.size HA 28) := L1.out.below hb1 L1.out.lt
  have KB : Hid (Below w.heap.size w w1) := HBL.out.trans (hb1.mono (Nat.le_of_lt (Nat.lt_of_succ_lt hzA)))
  clear hb1 HCA L1 L2 HBL
  go_wp2_with (first | (refine wpList_load_rowG (by rfl) 28 _ rfl w.heap.size rfl HA 28 _ K1.out Tryz.underlying28 rfl (by rw [hsa]; exact infoHo) ?_) | (refine wpList_load_rowG (by rfl) 28 _ rfl (w.heap.size + 1) rfl HB 28 _ K2.out Tryz.underlying28 rfl (by rw [hsb]; exact infoHo) ?_))
  refine (HCB.out _ KB.out).mono ?_
  rintro e w2 ⟨rfl, hb2⟩
  have M1 : Hid (Lies w2 w.heap.size HA 28) := K1.out.below hb2 K1.out.lt
  have M2 : Hid (Lies w2 (w.heap.size + 1) HB 28) := K2.out.below hb2 K2.out.lt
  have MB : Hid (Below w.heap.size w w2) := KB.out.trans (hb2.mono KB.out.size)
  clear hb2 HCB K1 K2 KB c0 c1 d0 d1 L1h L2h hzA
  have hz2 := M2.out.lt
  have M1h : Lies w2 w.heap.size (hostC a) 28 := by rw [← HHA.out]; exact M1.out
  have M2h : Lies w2 (w.heap.size + 1) (hostC b) 28 := by rw [← HHB.out]; exact M2.out
  obtain ⟨c0, _⟩ := host_cells M1h
  by_cases hneg : n < 0
  · have HV : Hid (within a b n = false) := by show _ = _; unfold within; rw [decide_eq_false (show ¬ 0 ≤ n by omega)]; simp
    go_wp2_with fail
    go_ret
    exact ⟨by rw [HV.out]; rfl, MB.out⟩
  have HWI : Hid (Calls Tryz.prog 46 #[.int .i64 a.k] w2 fun e w' => e = .returned (.int .i64 (widthN a.k)) ∧ w' = w2) := width_any a.k w2
  have hw128 : widthN a.k ≤ 128 := by
    unfold widthN
    split
    · decide
    · split <;> decide
  have HWN : Hid (within a b n = (decide (n ≤ widthN a.k) && decide (cutGo 0 n a.a = cutGo 0 n b.a))) := by
    show _ = _
    unfold within
    rw [decide_eq_true HDD.out.1, decide_eq_true HDD.out.2.1, decide_eq_true HDD.out.2.2, decide_eq_true (show 0 ≤ n by omega)]
    rfl
  generalize widthN a.k = wn at HWI hw128 HWN
  by_cases hbig : wn < n
  · have HV : Hid (within a b n = false) := by show _ = _; rw [HWN.out, decide_eq_false (show ¬ n ≤ wn by omega)]; rfl
    clear HWN
    go_wp2_with fail
    refine HWI.out.mono ?_
    rintro e w3 ⟨rfl, rfl⟩
    go_wp2_with fail
    go_ret
    exact ⟨by rw [HV.out]; rfl, MB.out⟩
  obtain ⟨m, rfl⟩ : ∃ m : Nat, n = (m : Int) := ⟨n.toNat, by omega⟩
  have hm : m ≤ 128 := by omega
  have HV : Hid (within a b (m : Int) = decide (cutGo 0 m a.a = cutGo 0 m b.a)) := by show _ = _; rw [HWN.out, decide_eq_true (show (m : Int) ≤ wn by omega)]; rfl
  obtain ⟨A, hA⟩ : ∃ A, A = a.a.map fun n => Value.int .u8 (n : Nat) := ⟨_, rfl⟩
  obtain ⟨B, hB⟩ : ∃ B, B = b.a.map fun n => Value.int .u8 (n : Nat) := ⟨_, rfl⟩
  have hAl : A.length = 16 := by rw [hA, List.length_map, ha]
  have hBl : B.length = 16 := by rw [hB, List.length_map, hb]
  have HMA : Hid (w2.rangeAt w.heap.size 2 A) := by rw [hA]; exact host_mid M1h
  have HMB : Hid (w2.rangeAt (w.heap.size + 1) 2 B) := by rw [hB]; exact host_mid M2h
  have HQA : Hid (∀ wx, Calls Tryz.prog 47 #[.agg A.toArray, .int .i64 (m : Int)] wx fun e w' => e = .returned (.agg (bytesV (cutGo 0 m a.a))) ∧ Below wx.heap.size wx w') := fun wx => by rw [hA]; exact cut_any a.a m ha oka.byt hm wx
  have HQB : Hid (∀ wx, Calls Tryz.prog 47 #[.agg B.toArray, .int .i64 (m : Int)] wx fun e w' => e = .returned (.agg (bytesV (cutGo 0 m b.a))) ∧ Below wx.heap.size wx w') := fun wx => by rw [hB]; exact cut_any b.a m hb okb.byt hm wx
  have hla : (cutGo 0 (m : Int) a.a).length = 16 := by rw [cutGo_len, ha]
  have hlb : (cutGo 0 (m : Int) b.a).length = 16 := by rw [cutGo_len, hb]
  generalize cutGo 0 (m : Int) a.a = xa at HV HQA hla
  generalize cutGo 0 (m : Int) b.a = xb at HV HQB hlb
  have HEQ : Hid (∀ W, (binOp .eql 26 (.agg (bytesV xa)) (.agg (bytesV xb))).run Tryz.prog W = .ok (.bool (decide (xa = xb))) W) := fun W => eql16 xa xb hla hlb W
  clear HWN hA hB M1h M2h
  go_wp2_with fail
  refine HWI.out.mono ?_
  rintro e w3 ⟨rfl, rfl⟩
  clear HWI
  go_upto_region 5 with fail
  have hz3 := hz2
  refine wp_region_late (fun wx => Below w3.heap.size w3 wx) 10 (by kernel_rfl) (Below.refl _ w3).drew (fun hHeld => ?_)
  refine wpAnyE_tk (i := 0) (d := some 31) (v := ?_) rfl (by kernel_rfl) (by kernel_rfl) (by kernel_rfl) rfl (fun _ _ _ h => h) rfl rfl ?hy (by first | assumption | go_simp) ?_
  case hy => (intro w' hSw; (try dsimp only at hSw); go_simp <;> (first | with_reducible rfl | omega | skip))
  simp only [Act.put, List.setIfInBounds_toArray, List.set_cons_zero, List.set_cons_succ]
  refine wpAnyE_tk (i := 1) (d := some 32) (v := .agg A.toArray) rfl (by kernel_rfl) (by kernel_rfl) (by kernel_rfl) rfl (fun _ _ _ h => h) rfl rfl ?hy (by assumption) ?_
  case hy => exact fun w' hSw => exec_load_mid 26 _ rfl w.heap.size 2 rfl A _ (fun j v hv => (hSw.cell (p := ⟨w.heap.size, 2 + j, none⟩) (by show w.heap.size < w3.heap.size; omega)).trans (HMA.out j v hv)) Tryz.underlying26 rfl (by rw [hAl]; exact info16)
  simp only [Act.put, List.setIfInBounds_toArray, List.set_cons_zero, List.set_cons_succ]
  refine wpAnyE_tk (i := 2) (d := some 33) (v := ?_) rfl (by kernel_rfl) (by kernel_rfl) (by kernel_rfl) rfl (fun _ _ _ h => h) rfl rfl ?hy (by first | assumption | go_simp) ?_
  case hy => (intro w' hSw; (try dsimp only at hSw); go_simp <;> (first | with_reducible rfl | omega | skip))
  simp only [Act.put, List.setIfInBounds_toArray, List.set_cons_zero, List.set_cons_succ]
  refine wpAnyE_tk (i := 4) (d := some 35) (v := ?_) rfl (by kernel_rfl) (by kernel_rfl) (by kernel_rfl) rfl (fun _ _ _ h => h) rfl rfl ?hy (by first | assumption | go_simp) ?_
  case hy => (intro w' hSw; (try dsimp only at hSw); go_simp <;> (first | with_reducible rfl | omega | skip))
  simp only [Act.put, List.setIfInBounds_toArray, List.set_cons_zero, List.set_cons_succ]
  refine wpAnyE_tk (i := 5) (d := some 36) (v := .agg B.toArray) rfl (by kernel_rfl) (by kernel_rfl) (by kernel_rfl) rfl (fun _ _ _ h => h) rfl rfl ?hy (by assumption) ?_
  case hy => exact fun w' hSw => exec_load_mid 26 _ rfl (w.heap.size + 1) 2 rfl B _ (fun j v hv => (hSw.cell (p := ⟨w.heap.size + 1, 2 + j, none⟩) (by show w.heap.size + 1 < w3.heap.size; omega)).trans (HMB.out j v hv)) Tryz.underlying26 rfl (by rw [hBl]; exact info16)
  simp only [Act.put, List.setIfInBounds_toArray, List.set_cons_zero, List.set_cons_succ]
  refine wpAnyE_tk (i := 6) (d := some 37) (v := ?_) rfl (by kernel_rfl) (by kernel_rfl) (by kernel_rfl) rfl (fun _ _ _ h => h) rfl rfl ?hy (by first | assumption | go_simp) ?_
  case hy => (intro w' hSw; (try dsimp only at hSw); go_simp <;> (first | with_reducible rfl | omega | skip))
  simp only [Act.put, List.setIfInBounds_toArray, List.set_cons_zero, List.set_cons_succ]
  refine wpAnyE_on (i := 3) (by kernel_rfl) rfl rfl ?_
  go_simp
  refine Calls.mono (HQA.out _) ?_
  rintro e w4 ⟨rfl, hb4⟩
  have hb4' : Below w3.heap.size w3 w4 := (Below.refl _ w3).drew.trans hb4
  refine ⟨hb4', ?_⟩
  refine wpAnyE_on (i := 7) (by kernel_rfl) rfl rfl ?_
  go_simp
  refine Calls.mono (HQB.out _) ?_
  rintro e w5 ⟨rfl, hb5⟩
  have hb5' : Below w3.heap.size w3 w5 := hb4'.trans (hb5.mono hb4'.size)
  refine ⟨hb5', ?_⟩
  have JB : Hid (Below w.heap.size w w5) := MB.out.trans (hb5'.mono MB.out.size)
  refine wpAnyE_tk (i := 8) (d := some 39) (v := .bool (decide (xa = xb))) rfl (by kernel_rfl) (by kernel_rfl) (by kernel_rfl) rfl (fun _ _ _ h => h) rfl rfl ?hy (by assumption) ?_
  case hy =>
    intro w' _
    exact exec_eql16 _ _ _ rfl xa xb rfl rfl hla hlb
  simp only [Act.put, List.setIfInBounds_toArray, List.set_cons_zero, List.set_cons_succ]
  refine wpAnyE_tk (i := 9) (d := some 6) (v := ?_) rfl (by kernel_rfl) (by kernel_rfl) (by kernel_rfl) rfl (fun _ _ _ h => h) rfl rfl ?hy (by first | assumption | go_simp) ?_
  case hy => (intro w' hSw; (try dsimp only at hSw); go_simp <;> (first | with_reducible rfl | omega | skip))
  simp only [Act.put, List.setIfInBounds_toArray, List.set_cons_zero, List.set_cons_succ]
  refine wpAnyE_done (by kernel_rfl) ?_ _
  clear hHeld hb4 hb4' hb5 hb5' HQA HQB HEQ
  go_wp2
  go_ret
  exact ⟨by rw [HV.out]; rfl, JB.out⟩
end Go.Proofs.YtnlgbopdbihnjaaGreatDoor
/-
  The contract of wakes: a few answers that the document names.
-/
namespace Go.Proofs.YtnlgbopdbihnjaaGreatDoor
open Go.RowKit

set_option maxHeartbeats 1000000 in
set_option maxRecDepth 100000 in
theorem lv4_any (x y z u : Nat) (w : World) : Calls Tryz.prog 14 #[.int .u8 (x : Nat), .int .u8 (y : Nat), .int .u8 (z : Nat), .int .u8 (u : Nat)] w fun e w' => e = .returned (hostV (fourH [x, y, z, u])) ∧ Below w.heap.size w w' := by
  have HL0 : Hid (Lies (w.alloc (.cells #[.int .i64 0, .string ⟨#[]⟩, .int .u8 0, .int .u8 0, .int .u8 0, .int .u8 0, .int .u8 0, .int .u8 0, .int .u8 0, .int .u8 0, .int .u8 0, .int .u8 0, .int .u8 0, .int .u8 0, .int .u8 0, .int .u8 0, .int .u8 0, .int .u8 0] 28)) w.heap.size #[.int .i64 0, .string ⟨#[]⟩, .int .u8 0, .int .u8 0, .int .u8 0, .int .u8 0, .int .u8 0, .int .u8 0, .int .u8 0, .int .u8 0, .int .u8 0, .int .u8 0, .int .u8 0, .int .u8 0, .int .u8 0, .int .u8 0, .int .u8 0, .int .u8 0] 28) := Lies.new w _ _
  have HB : Hid (Below w.heap.size w (w.alloc (.cells #[.int .i64 0, .string ⟨#[]⟩, .int .u8 0, .int .u8 0, .int .u8 0, .int .u8 0, .int .u8 0, .int .u8 0, .int .u8 0, .int .u8 0, .int .u8 0, .int .u8 0, .int .u8 0, .int .u8 0, .int .u8 0, .int .u8 0, .int .u8 0, .int .u8 0] 28))) := (Below.refl _ _).alloc (Nat.le_refl _) _
  go_enter Tryz.func14, Tryz.ntmps14
  go_wp2_with (refine wpList_store_row rfl 28 _ _ rfl w.heap.size rfl _ (hostC (fourH [x, y, z, u])) rfl 28 HL0.out infoHo rfl (hostC_one _) rfl ?_)
  exact bodyPost_ret (results_row (p := 8) (by kernel_rfl) _ _ w.heap.size 28 _ (0, 0) _ rfl (HL0.out.row _) Tryz.underlying28 rfl infoHo) rfl ⟨rfl, below_row HB.out (Nat.le_refl _) _⟩
theorem exec_eql_host {op : Oper} {a : Act} {w : World} (p q : Operand) (r : TypeId) (ho : op.op = .binOp .eql 28 p q r) (x y : Ho) (hp : a.eval p = hostV x) (hq : a.eval q = hostV y) (hx : x.a.length = 16) (hy : y.a.length = 16) : (execOp a.eval op).run Tryz.prog w = .ok (.value (.bool (decide (x = y)))) w := by
  have hgu : Tryz.prog.eqGuardType Tryz.prog.depth 28 = false := by kernel_rfl
  have h := eqlHost x y hx hy w
  have hg := run_eqGuard_agg (P := Tryz.prog) w .eql 28 p q (hostC x) (hostC y) hgu
  unfold hostV at *
  unfold execOp
  simp only [ho, hp, hq, Sem.run_bind, hg, Result.andThen_ok, h, Sem.run_pure]
theorem host_row (x : Ho) (hx : x.a.length = 16) : (Tryz.prog.info? 28).map (·.size) = some (hostC x).size ∧ (#[.int .i64 0, .string ⟨#[]⟩, .int .u8 0, .int .u8 0, .int .u8 0, .int .u8 0, .int .u8 0, .int .u8 0, .int .u8 0, .int .u8 0, .int .u8 0, .int .u8 0, .int .u8 0, .int .u8 0, .int .u8 0, .int .u8 0, .int .u8 0, .int .u8 0] : Array Value).size = (hostC x).size ∧ (hostC x).all (·.oneCell') = true := ⟨by rw [hostC_size x hx]; exact infoHo, by rw [hostC_size x hx]; rfl, hostC_one x⟩
theorem six_row (l : List Nat) (hl : l.length = 16) : (Tryz.prog.info? 26).map (·.size) = some (bytesV l).size ∧ (#[.int .u8 0, .int .u8 0, .int .u8 0, .int .u8 0, .int .u8 0, .int .u8 0, .int .u8 0, .int .u8 0, .int .u8 0, .int .u8 0, .int .u8 0, .int .u8 0, .int .u8 0, .int .u8 0, .int .u8 0, .int .u8 0] : Array Value).size = (bytesV l).size ∧ (bytesV l).all (·.oneCell') = true := ⟨by rw [bytesV_size, hl]; exact info16, by rw [bytesV_size, hl]; rfl, bytesV_one l⟩
def mxH : Ho := ⟨1, [109, 120, 46, 101, 120, 97, 109, 112, 108, 101], z16⟩
def MXH : Ho := ⟨1, [77, 88, 46, 101, 120, 97, 109, 112, 108, 101], z16⟩
def fourK : Ho := fourH [1, 2, 3, 4]
theorem pw1 : parse [109, 120, 46, 101, 120, 97, 109, 112, 108, 101] false = (mxH, (0, 0)) := by decide +kernel
theorem pw2 : parse [91, 49, 46, 50, 46, 51, 46, 52, 93] false = (fourK, (0, 0)) := by decide +kernel
theorem pw3 : print fourK = ([91, 49, 46, 50, 46, 51, 46, 52, 93], 0) := by decide +kernel
theorem pw4 : parse [97, 46, 46, 98] true = (ho0, (80, 2)) := by decide +kernel
theorem pw5 : v6 [50, 48, 48, 49, 58, 68, 66, 56, 58, 58, 49, 58, 48, 58, 48, 58, 49] = .ok [32, 1, 13, 184, 0, 0, 0, 0, 0, 1, 0, 0, 0, 0, 0, 1] := by rfl
theorem pw6 : print6 [32, 1, 13, 184, 0, 0, 0, 0, 0, 1, 0, 0, 0, 0, 0, 1] = [50, 48, 48, 49, 58, 100, 98, 56, 58, 58, 49, 58, 48, 58, 48, 58, 49] := by decide +kernel
theorem pw7 : same asciiL mxH MXH = true := by decide +kernel
theorem pw8 : same asciiL mxH fourK = false := by decide +kernel
theorem mxH_ok : mxH.Ok := ⟨rfl, by decide⟩
theorem MXH_ok : MXH.Ok := ⟨rfl, by decide⟩
theorem fourK_ok : fourK.Ok := ⟨rfl, by decide⟩
end Go.Proofs.YtnlgbopdbihnjaaGreatDoor
