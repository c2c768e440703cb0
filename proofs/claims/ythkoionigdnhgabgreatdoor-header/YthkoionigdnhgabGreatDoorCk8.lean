/-
  The contract of domain.Check.
-/
import Derived.Test.YthkoionigdnhgabGreatDoorEq8
namespace Go.Proofs.YthkoionigdnhgabGreatDoor
open Go.RowKit

theorem array_at (g : Nat) (W : World) : (Instr.arrayAt 128 (.slice (some ⟨g, 2, none⟩) 4 16)).run Tryz.prog W = .ok (.pointer (some ⟨g, 2, none⟩)) W := by
  simp [Instr.arrayAt, run_underlying Tryz.underlying128]
theorem exec_neq_host {op : Oper} {a : Act} {w : World} (p q : Operand) (r : TypeId) (ho : op.op = .binOp .neq 27 p q r) (x y : Ho) (hp : a.eval p = hostV x) (hq : a.eval q = hostV y) (hx : x.a.length = 16) (hy : y.a.length = 16) : (execOp a.eval op).run Tryz.prog w = .ok (.value (.bool (!decide (x = y)))) w := by
  have hgu : Tryz.prog.eqGuardType Tryz.prog.depth 27 = false := by kernel_rfl
  have h := neqHost x y hx hy w
  have hg := run_eqGuard_agg (P := Tryz.prog) w .neq 27 p q (hostC x) (hostC y) hgu
  unfold hostV at *
  unfold execOp
  simp only [ho, hp, hq, Sem.run_bind, hg, Result.andThen_ok, h, Sem.run_pure]
theorem str_list (l : List UInt8) : (⟨l.toArray⟩ : ByteArray).data.toList = l := by simp
set_option maxHeartbeats 4000000 in
set_option maxRecDepth 100000 in
theorem chk_any (h : Ho) (ha : h.a.length = 16) (wide : Bool) (w : World) (hT : Tb w) (hn : h.n.length ≤ 140737488355328) :
    Calls Tryz.prog 46 #[hostV h, .bool wide] w fun e w' => e = .returned (.int .i64 (check h wide : Nat)) ∧ Below w.heap.size w w' := by
  have HT : Hid (∀ wx, Below w.heap.size w wx → Tb wx) := fun wx hb => hT.below hb
  have hsz := hostC_size h ha
  obtain ⟨HC, hHC⟩ : ∃ HC, HC = hostC h := ⟨_, rfl⟩
  have e1 : hostV h = .agg HC := by rw [hHC]; rfl
  have HHC : Hid (HC = hostC h) := hHC
  rw [← hHC] at hsz
  rw [e1]
  have L1 : Hid (Lies ((w.alloc (.cells HC 27)).alloc (.cells #[.int .u8 0, .int .u8 0, .int .u8 0, .int .u8 0, .int .u8 0, .int .u8 0, .int .u8 0, .int .u8 0, .int .u8 0, .int .u8 0, .int .u8 0, .int .u8 0, .int .u8 0, .int .u8 0, .int .u8 0, .int .u8 0] 25)) w.heap.size HC 27) := (Lies.new w _ _).alloc _
  have L2 : Hid (Lies ((w.alloc (.cells HC 27)).alloc (.cells #[.int .u8 0, .int .u8 0, .int .u8 0, .int .u8 0, .int .u8 0, .int .u8 0, .int .u8 0, .int .u8 0, .int .u8 0, .int .u8 0, .int .u8 0, .int .u8 0, .int .u8 0, .int .u8 0, .int .u8 0, .int .u8 0] 25)) (w.heap.size + 1) #[.int .u8 0, .int .u8 0, .int .u8 0, .int .u8 0, .int .u8 0, .int .u8 0, .int .u8 0, .int .u8 0, .int .u8 0, .int .u8 0, .int .u8 0, .int .u8 0, .int .u8 0, .int .u8 0, .int .u8 0, .int .u8 0] 25) := new_one w _ _ _
  have HB : Hid (Below w.heap.size w ((w.alloc (.cells HC 27)).alloc (.cells #[.int .u8 0, .int .u8 0, .int .u8 0, .int .u8 0, .int .u8 0, .int .u8 0, .int .u8 0, .int .u8 0, .int .u8 0, .int .u8 0, .int .u8 0, .int .u8 0, .int .u8 0, .int .u8 0, .int .u8 0, .int .u8 0] 25))) := ((Below.refl _ _).alloc (Nat.le_refl _) _).alloc (by simp) _
  clear hT hHC e1
  go_enter Tryz.func46, Tryz.ntmps46
  go_upto_region 2 with fail
  generalize (w.alloc (.cells HC 27)).alloc (.cells #[.int .u8 0, .int .u8 0, .int .u8 0, .int .u8 0, .int .u8 0, .int .u8 0, .int .u8 0, .int .u8 0, .int .u8 0, .int .u8 0, .int .u8 0, .int .u8 0, .int .u8 0, .int .u8 0, .int .u8 0, .int .u8 0] 25) = wA at L1 L2 HB ⊢
  have hzA := L2.out.lt
  have L1h : Lies wA w.heap.size (hostC h) 27 := by rw [← HHC.out]; exact L1.out
  obtain ⟨c0, c1⟩ := host_cells L1h
  obtain ⟨A, hA⟩ : ∃ A, A = h.a.map fun n => Value.int .u8 (n : Nat) := ⟨_, rfl⟩
  have hAl : A.length = 16 := by rw [hA, List.length_map, ha]
  have HMID : Hid (wA.rangeAt w.heap.size 2 A) := by rw [hA]; exact host_mid L1h
  have hneq : ∀ W, (binOp .neq 25 (.agg A.toArray) (.agg #[.int .u8 0, .int .u8 0, .int .u8 0, .int .u8 0, .int .u8 0, .int .u8 0, .int .u8 0, .int .u8 0, .int .u8 0, .int .u8 0, .int .u8 0, .int .u8 0, .int .u8 0, .int .u8 0, .int .u8 0, .int .u8 0])).run Tryz.prog W = .ok (.bool (!decide (h.a = z16))) W := fun W => by rw [hA]; exact neq16 h.a z16 ha rfl W
  have HTA : Hid (Tb wA) := HT.out _ HB.out
  by_cases k1 : h.k = 1
  · have k1' : (h.k == 1) = true := by rw [k1]; rfl
    rw [k1] at c0
    by_cases hz : h.a = z16
    · rw [decide_eq_true hz] at hneq
      have HV : Hid (check h wide = (wd wide h.n).1) := by show _ = _; unfold check; rw [if_pos k1, if_pos hz]
      have HWD : Hid (Calls Tryz.prog 75 #[.string ⟨h.n.toArray⟩, .bool wide] wA fun e w' => e = .returned (.agg #[.int .i64 ((wd wide h.n).1 : Nat), .int .i64 ((wd wide h.n).2 : Nat)]) ∧ Below wA.heap.size wA w') := by
        have := wd_any ⟨h.n.toArray⟩ wide wA HTA.out.cls HTA.out.gcl HTA.out.fst
        rw [str_list] at this
        exact this
      generalize wd wide h.n = ev at HV HWD
      have hfd := field_spot (ev.1 : Int) (ev.2 : Int)
      clear hz k1 hA
      go_wp2_with (first | (refine wpList_load_mid rfl 25 _ rfl w.heap.size 2 rfl A _ HMID.out Tryz.underlying25 rfl (by rw [hAl]; exact info16) ?_) | (refine wpList_load_row rfl 25 _ rfl (w.heap.size + 1) rfl #[.int .u8 0, .int .u8 0, .int .u8 0, .int .u8 0, .int .u8 0, .int .u8 0, .int .u8 0, .int .u8 0, .int .u8 0, .int .u8 0, .int .u8 0, .int .u8 0, .int .u8 0, .int .u8 0, .int .u8 0, .int .u8 0] 25 _ L2.out Tryz.underlying25 rfl info16 ?_))
      refine HWD.out.mono ?_
      rintro e w2 ⟨rfl, hb2⟩
      have KB : Hid (Below w.heap.size w w2) := HB.out.trans (hb2.mono (Nat.le_of_lt (Nat.lt_of_succ_lt hzA)))
      clear hb2 HWD c0 c1
      go_wp2_with fail
      go_ret
      exact ⟨by rw [HV.out]; rfl, KB.out⟩
    · rw [decide_eq_false hz] at hneq
      have HV : Hid (check h wide = 2) := by show _ = _; unfold check; rw [if_pos k1, if_neg hz]
      clear hz k1 hA
      go_wp2_with (first | (refine wpList_load_mid rfl 25 _ rfl w.heap.size 2 rfl A _ HMID.out Tryz.underlying25 rfl (by rw [hAl]; exact info16) ?_) | (refine wpList_load_row rfl 25 _ rfl (w.heap.size + 1) rfl #[.int .u8 0, .int .u8 0, .int .u8 0, .int .u8 0, .int .u8 0, .int .u8 0, .int .u8 0, .int .u8 0, .int .u8 0, .int .u8 0, .int .u8 0, .int .u8 0, .int .u8 0, .int .u8 0, .int .u8 0, .int .u8 0] 25 _ L2.out Tryz.underlying25 rfl info16 ?_))
      go_ret
      exact ⟨by rw [HV.out]; rfl, HB.out⟩
  have k1' : (h.k == 1) = false := by rw [beq_eq_false_iff_ne]; exact k1
  by_cases k2 : h.k = 2
  · have k2' : (h.k == 2) = true := by rw [k2]; rfl
    have HV : Hid (check h wide = if h = fourH (h.a.take 4) then 0 else 2) := by show _ = _; unfold check; rw [if_neg k1, if_pos k2]
    obtain ⟨q0, q1, q2, q3, hq⟩ : ∃ q0 q1 q2 q3, h.a.take 4 = [q0, q1, q2, q3] := by
      have : (h.a.take 4).length = 4 := by rw [List.length_take]; omega
      match h.a.take 4, this with
      | [q0, q1, q2, q3], _ => exact ⟨q0, q1, q2, q3, rfl⟩
    have HM4 := host_mid4 L1h
    rw [hq] at HM4 HV
    have HFH : Hid (Calls Tryz.prog 76 #[.agg #[.int .u8 (q0 : Nat), .int .u8 (q1 : Nat), .int .u8 (q2 : Nat), .int .u8 (q3 : Nat)]] wA.drew fun e w' => e = .returned (hostV (fourH [q0, q1, q2, q3])) ∧ Below wA.drew.heap.size wA.drew w') := fh_any q0 q1 q2 q3 wA.drew
    have hnq : ∀ W, (binOp .neq 27 (.agg HC) (hostV (fourH [q0, q1, q2, q3]))).run Tryz.prog W = .ok (.bool (!decide (h = fourH [q0, q1, q2, q3]))) W := fun W => by rw [HHC.out]; exact neqHost h (fourH [q0, q1, q2, q3]) ha rfl W
    have HNQ : Hid (∀ W, (binOp .neq 27 (.agg HC) (hostV (fourH [q0, q1, q2, q3]))).run Tryz.prog W = .ok (.bool (!decide (h = fourH [q0, q1, q2, q3]))) W) := hnq
    obtain ⟨H4, hH4⟩ : ∃ H4, H4 = hostC (fourH [q0, q1, q2, q3]) := ⟨_, rfl⟩
    have e4 : hostV (fourH [q0, q1, q2, q3]) = .agg H4 := by rw [hH4]; rfl
    rw [e4] at HFH HNQ
    have HH4 : Hid (H4 = hostC (fourH [q0, q1, q2, q3])) := hH4
    clear hnq e4 hH4
    obtain ⟨b, hb⟩ : ∃ b, b = decide (h = fourH [q0, q1, q2, q3]) := ⟨_, rfl⟩
    have HV2 : Hid (check h wide = if b = true then 0 else 2) := by
      show _ = _
      rw [HV.out, hb]
      by_cases hh : h = fourH [q0, q1, q2, q3]
      · rw [if_pos hh, if_pos (decide_eq_true hh)]
      · rw [if_neg hh, if_neg (by rw [decide_eq_false hh]; decide)]
    have HBB : Hid (b = decide (h = fourH [q0, q1, q2, q3])) := hb
    clear HNQ
    have HS4 : Hid (wA.rangeAt w.heap.size 2 [.int .u8 (q0 : Nat), .int .u8 (q1 : Nat), .int .u8 (q2 : Nat), .int .u8 (q3 : Nat)]) := HM4
    clear hb HV HM4 hq hneq hA
    rw [k2] at c0
    go_wp2_with fail
    have hat := array_at w.heap.size
    refine wp_region_late (fun wx => Below wA.heap.size wA wx) 7 (by kernel_rfl) (Below.refl _ wA).drew (fun hHeld => ?_)
    refine wpAnyE_tk (i := 0) (d := some 22) (v := .agg HC) rfl (by kernel_rfl) (by kernel_rfl) (by kernel_rfl) rfl (fun _ _ _ h => h) rfl rfl ?hy (by assumption) ?_
    case hy => exact fun w' hSw => exec_load_row 27 _ rfl w.heap.size rfl HC 27 _ (L1.out.below hSw L1.out.lt) Tryz.underlying27 rfl (by rw [hsz]; exact infoHo)
    simp only [Act.put, List.setIfInBounds_toArray, List.set_cons_zero, List.set_cons_succ]
    refine wpAnyE_tk (i := 1) (d := some 23) (v := ?_) rfl (by kernel_rfl) (by kernel_rfl) (by kernel_rfl) rfl (fun _ _ _ h => h) rfl rfl ?hy (by first | assumption | go_simp) ?_
    case hy => (intro w' hSw; (try dsimp only at hSw); go_simp <;> (first | with_reducible rfl | omega | skip))
    simp only [Act.put, List.setIfInBounds_toArray, List.set_cons_zero, List.set_cons_succ]
    refine wpAnyE_tk (i := 2) (d := some 24) (v := ?_) rfl (by kernel_rfl) (by kernel_rfl) (by kernel_rfl) rfl (fun _ _ _ h => h) rfl rfl ?hy (by first | assumption | go_simp) ?_
    case hy => (intro w' hSw; (try dsimp only at hSw); go_simp <;> (first | with_reducible rfl | omega | skip))
    simp only [Act.put, List.setIfInBounds_toArray, List.set_cons_zero, List.set_cons_succ]
    refine wpAnyE_tk (i := 3) (d := some 25) (v := ?_) rfl (by kernel_rfl) (by kernel_rfl) (by kernel_rfl) rfl (fun _ _ _ h => h) rfl rfl ?hy (by first | assumption | go_simp) ?_
    case hy => (intro w' hSw; (try dsimp only at hSw); go_simp <;> (first | with_reducible rfl | omega | skip))
    simp only [Act.put, List.setIfInBounds_toArray, List.set_cons_zero, List.set_cons_succ]
    refine wpAnyE_tk (i := 4) (d := some 26) (v := .agg #[.int .u8 (q0 : Nat), .int .u8 (q1 : Nat), .int .u8 (q2 : Nat), .int .u8 (q3 : Nat)]) rfl (by kernel_rfl) (by kernel_rfl) (by kernel_rfl) rfl (fun _ _ _ h => h) rfl rfl ?hy (by assumption) ?_
    case hy => exact fun w' hSw => exec_load_mid 128 _ rfl w.heap.size 2 rfl [.int .u8 (q0 : Nat), .int .u8 (q1 : Nat), .int .u8 (q2 : Nat), .int .u8 (q3 : Nat)] _ (fun j v hv => (hSw.cell (p := ⟨w.heap.size, 2 + j, none⟩) (by show w.heap.size < wA.heap.size; omega)).trans (HS4.out j v hv)) Tryz.underlying128 rfl info4
    simp only [Act.put, List.setIfInBounds_toArray, List.set_cons_zero, List.set_cons_succ]
    refine wpAnyE_on (i := 5) (by kernel_rfl) rfl rfl ?_
    go_simp
    refine Calls.mono HFH.out ?_
    rintro e w6 ⟨rfl, hb6⟩
    have hb6' : Below wA.heap.size wA w6 := (Below.refl _ wA).drew.trans hb6
    refine ⟨hb6', ?_⟩
    have KB : Hid (Below w.heap.size w w6) := HB.out.trans (hb6'.mono (Nat.le_of_lt (Nat.lt_of_succ_lt hzA)))
    refine wpAnyE_tk (i := 6) (d := some 28) (v := .bool (!b)) rfl (by kernel_rfl) (by kernel_rfl) (by kernel_rfl) rfl (fun _ _ _ h => h) rfl rfl ?hy (by assumption) ?_
    case hy =>
      intro w' _
      rw [HBB.out]
      exact exec_neq_host _ _ _ rfl h (fourH [q0, q1, q2, q3]) (by show Value.agg HC = _; rw [HHC.out]; rfl) (by show Value.agg H4 = _; rw [HH4.out]; rfl) ha rfl
    simp only [Act.put, List.setIfInBounds_toArray, List.set_cons_zero, List.set_cons_succ]
    refine wpAnyE_done (by kernel_rfl) ?_ _
    clear hHeld hb6 hb6' HFH HBB
    cases b
    · go_wp2
      go_ret
      exact ⟨by rw [HV2.out]; rfl, KB.out⟩
    · go_wp2
      go_ret
      exact ⟨by rw [HV2.out]; rfl, KB.out⟩
  have k2' : (h.k == 2) = false := by rw [beq_eq_false_iff_ne]; exact k2
  by_cases k3 : h.k = 3
  · have k3' : (h.k == 3) = true := by rw [k3]; rfl
    rw [k3] at c0
    by_cases hn0 : h.n = []
    · have HV : Hid (check h wide = 0) := by show _ = _; unfold check; rw [if_neg k1, if_neg k2, if_pos k3, if_pos hn0]
      have hne : (h.n == []) = true := by rw [hn0]; rfl
      rw [hn0] at c1
      clear k1 k2 k3 hneq hA
      go_wp2_with fail
      go_ret
      exact ⟨by rw [HV.out]; rfl, HB.out⟩
    · have HV : Hid (check h wide = 2) := by show _ = _; unfold check; rw [if_neg k1, if_neg k2, if_pos k3, if_neg hn0]
      have hne : (h.n == []) = false := by rw [beq_eq_false_iff_ne]; exact hn0
      obtain ⟨cc, rr, hcr⟩ : ∃ cc rr, h.n = cc :: rr := by
        cases hh : h.n with
        | nil => exact absurd hh hn0
        | cons cc rr => exact ⟨cc, rr, rfl⟩
      rw [hcr] at c1
      clear k1 k2 k3 hneq hA hn0 hne hcr
      go_wp2_with fail
      go_ret
      exact ⟨by rw [HV.out]; rfl, HB.out⟩
  have k3' : (h.k == 3) = false := by rw [beq_eq_false_iff_ne]; exact k3
  by_cases k4 : h.k = 4
  · have k4' : (h.k == 4) = true := by rw [k4]; rfl
    rw [k4] at c0
    by_cases hz : h.a = z16
    · rw [decide_eq_true hz] at hneq
      have HV : Hid (check h wide = chTag h.n) := by show _ = _; unfold check; rw [if_neg k1, if_neg k2, if_neg k3, if_pos k4, if_pos hz]
      have HCT : Hid (Calls Tryz.prog 77 #[.string ⟨h.n.toArray⟩] wA fun e w' => e = .returned (.int .i64 (chTag h.n : Nat)) ∧ Below wA.heap.size wA w') := by
        have := ct_any ⟨h.n.toArray⟩ wA HTA.out (by rw [← len_list, str_list]; exact hn)
        rw [str_list] at this
        exact this
      generalize chTag h.n = ev at HV HCT
      clear hz k1 k2 k3 k4 hA
      go_wp2_with (first | (refine wpList_load_mid rfl 25 _ rfl w.heap.size 2 rfl A _ HMID.out Tryz.underlying25 rfl (by rw [hAl]; exact info16) ?_) | (refine wpList_load_row rfl 25 _ rfl (w.heap.size + 1) rfl #[.int .u8 0, .int .u8 0, .int .u8 0, .int .u8 0, .int .u8 0, .int .u8 0, .int .u8 0, .int .u8 0, .int .u8 0, .int .u8 0, .int .u8 0, .int .u8 0, .int .u8 0, .int .u8 0, .int .u8 0, .int .u8 0] 25 _ L2.out Tryz.underlying25 rfl info16 ?_))
      refine HCT.out.mono ?_
      rintro e w2 ⟨rfl, hb2⟩
      have KB : Hid (Below w.heap.size w w2) := HB.out.trans (hb2.mono (Nat.le_of_lt (Nat.lt_of_succ_lt hzA)))
      clear hb2 HCT c0 c1
      go_wp2_with fail
      go_ret
      exact ⟨by rw [HV.out]; rfl, KB.out⟩
    · rw [decide_eq_false hz] at hneq
      have HV : Hid (check h wide = 2) := by show _ = _; unfold check; rw [if_neg k1, if_neg k2, if_neg k3, if_pos k4, if_neg hz]
      clear hz k1 k2 k3 k4 hA
      go_wp2_with (first | (refine wpList_load_mid rfl 25 _ rfl w.heap.size 2 rfl A _ HMID.out Tryz.underlying25 rfl (by rw [hAl]; exact info16) ?_) | (refine wpList_load_row rfl 25 _ rfl (w.heap.size + 1) rfl #[.int .u8 0, .int .u8 0, .int .u8 0, .int .u8 0, .int .u8 0, .int .u8 0, .int .u8 0, .int .u8 0, .int .u8 0, .int .u8 0, .int .u8 0, .int .u8 0, .int .u8 0, .int .u8 0, .int .u8 0, .int .u8 0] 25 _ L2.out Tryz.underlying25 rfl info16 ?_))
      go_ret
      exact ⟨by rw [HV.out]; rfl, HB.out⟩
  have k4' : (h.k == 4) = false := by rw [beq_eq_false_iff_ne]; exact k4
  have HV : Hid (check h wide = 2) := by show _ = _; unfold check; rw [if_neg k1, if_neg k2, if_neg k3, if_neg k4]
  clear k1 k2 k3 k4 hA hneq
  go_wp2_with fail
  go_ret
  exact ⟨by rw [HV.out]; rfl, HB.out⟩
end Go.Proofs.YthkoionigdnhgabGreatDoor
