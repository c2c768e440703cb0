/-
  The program's wrongBox.
-/
import Derived.Test.YthkoionigdnhgabGreatDoorXr9
import Derived.Test.YthkoionigdnhgabGreatDoorCk8
import Derived.Test.YthkoionigdnhgabGreatDoorPureUp
namespace Go.Proofs.YthkoionigdnhgabGreatDoor
open Go.RowKit

/-- What is wrong with a mailbox. -/
def ckM (l : List UInt8) (h : Ho) (wide : Bool) : Nat := if ckL l wide ≠ 0 then ckL l wide else check h wide
theorem ckL_bad {l : List UInt8} {wide : Bool} (h : ¬ l.all mayB = true) : ckL l wide = 90 := by
  unfold ckL
  rw [if_pos (Or.inl (by simpa [mayB] using h))]
theorem ckL_long {l : List UInt8} {wide : Bool} (h : 64 < (wrL l).length) : ckL l wide = 90 := by
  unfold ckL
  rw [if_pos (Or.inr h)]
theorem fw_iff (l : List UInt8) (wide : Bool) : fwN wide l < l.length ↔ ((spB loB l < l.length ∧ wide = false) ∨ badU l < l.length) := by
  unfold fwN
  cases wide
  · rw [if_neg (by simp)]
    constructor
    · exact fun h => Or.inl ⟨h, rfl⟩
    · rintro (⟨h, _⟩ | h)
      · exact h
      · rcases Nat.lt_or_ge (spB loB l) l.length with h' | h'
        · exact h'
        · have := badU_lows l (Nat.le_antisymm (spB_le loB l) h')
          omega
  · rw [if_pos rfl]
    constructor
    · exact fun h => Or.inr h
    · rintro (⟨_, h⟩ | h)
      · cases h
      · exact h
theorem ckL_wide {l : List UInt8} {wide : Bool} (h1 : l.all mayB = true) (h2 : ¬ 64 < (wrL l).length) (h3 : fwN wide l < l.length) : ckL l wide = 94 := by
  unfold ckL
  rw [if_neg (by rintro (h | h); · rw [show (l.all fun c => decide (32 ≤ c.toNat) && !decide (c.toNat = 127)) = l.all mayB from rfl, h1] at h; cases h
                 · exact h2 h), if_pos ((fw_iff l wide).1 h3)]
theorem ckL_ok {l : List UInt8} {wide : Bool} (h1 : l.all mayB = true) (h2 : ¬ 64 < (wrL l).length) (h3 : ¬ fwN wide l < l.length) : ckL l wide = 0 := by
  unfold ckL
  rw [if_neg (by rintro (h | h); · rw [show (l.all fun c => decide (32 ≤ c.toNat) && !decide (c.toNat = 127)) = l.all mayB from rfl, h1] at h; cases h
                 · exact h2 h), if_neg (fun h => h3 ((fw_iff l wide).2 h))]
theorem ckM_bad {l : List UInt8} {h : Ho} {wide : Bool} {n : Nat} (hn : n ≠ 0) (e : ckL l wide = n) : ckM l h wide = n := by
  unfold ckM
  rw [e, if_pos hn]

set_option maxHeartbeats 4000000 in
set_option maxRecDepth 100000 in
theorem wrb_any (l : List UInt8) (h : Ho) (ha : h.a.length = 16) (hn : h.n.length ≤ 140737488355328) (hl : l.length ≤ 140737488355328) (wide : Bool) (w : World) (hT : Td w) (hr : RepOk (txt l) w) :
    Calls Tryz.prog 79 #[.agg (boxC l h), .bool wide] w fun e w' => e = .returned (.int .i64 (ckM l h wide : Nat)) ∧ Below w.heap.size w w' := by
  have hB0 := boxC_0 l h
  have hB1 := boxC_1 l h
  have hBz := boxC_size l h ha
  have hsz := hostC_size h ha
  obtain ⟨B, hB⟩ : ∃ B, B = boxC l h := ⟨_, rfl⟩
  rw [← hB] at hB0 hB1 hBz ⊢
  obtain ⟨HC, hHC⟩ : ∃ HC, HC = hostC h := ⟨_, rfl⟩
  rw [← hHC] at hB1 hsz
  obtain ⟨M, hM⟩ : ∃ M, M = txt l := ⟨_, rfl⟩
  rw [← hM] at hB0 hr
  have hMl : M.data.toList = l := by rw [hM, txt_list]
  have hMz : M.size ≤ 140737488355328 := by rw [hM, txt_size]; exact hl
  have hMs : M.size = l.length := by rw [hM, txt_size]
  have L1 : Hid (Lies (w.alloc (.cells B 30)) w.heap.size B 30) := Lies.new w _ _
  have KB : Hid (Below w.heap.size w (w.alloc (.cells B 30))) := (Below.refl _ w).alloc (Nat.le_refl _) _
  have HCK : Hid (∀ wx, Below w.heap.size w wx → Calls Tryz.prog 46 #[.agg HC, .bool wide] wx fun e w' => e = .returned (.int .i64 (check h wide : Nat)) ∧ Below wx.heap.size wx w') := fun wx hx => by
    have := chk_any h ha wide wx (hT.below hx).tb hn
    unfold hostV at this
    rw [← hHC] at this
    exact this
  have HWL : Hid (∀ wx, Below w.heap.size w wx → Calls Tryz.prog 121 #[.string M] wx fun e w' => e = .returned (.string (txt (wrL l))) ∧ Below wx.heap.size wx w') := fun wx hx => by
    have := wloc_any M hMz wx (hT.below hx).tb (hr.later hx)
    rw [hMl] at this
    exact this
  have HFW : Hid (∀ wx, Below w.heap.size w wx → Calls Tryz.prog 122 #[.string M, .bool wide] wx fun e w' => e = .returned (.int .i64 (fwN wide l : Nat)) ∧ Below wx.heap.size wx w') := fun wx hx => by
    have := fw_any M wide hMz wx (hT.below hx).tb.cls (hT.below hx).tb.fst
    rw [hMl] at this
    exact this
  have HMY : Hid (∀ (c : UInt8) (wx : World), Below w.heap.size w wx → Calls Tryz.prog 120 #[.int .u8 (c.toNat : Int)] wx fun e w' => e = .returned (.bool (mayB c)) ∧ w' = wx) := fun c wx hx => may_any c wx (hT.below hx).tb.cls
  obtain ⟨T1, hT1⟩ : ∃ T1, T1 = txt (wrL l) := ⟨_, rfl⟩
  have zt : T1.size = (wrL l).length := by rw [hT1, txt_size]
  have z1 : T1.size ≤ 281474976710658 := by
    rw [zt]
    unfold wrL
    split
    · omega
    · have := escL_two l
      simp only [List.length_cons, List.length_append, List.length_nil]
      omega
  rw [← hT1] at HWL
  have HB0 : Hid (B[0]? = some (.string M)) := hB0
  have HB1 : Hid (∀ j v, HC.toList[j]? = some v → B[1 + j]? = some v) := hB1
  have HML : Hid (M.data.toList = l) := hMl
  have HTZ : Hid (T1.size = (wrL l).length) := zt
  have HMS : Hid (M.size = l.length) := hMs
  clear hB hHC hM hT hr hT1 hB0 hB1 hMl zt hMs hl hn
  go_enter Tryz.func79, Tryz.ntmps79
  go_upto_region 1 with fail
  generalize w.alloc (.cells B 30) = w1 at L1 KB ⊢
  have c0 : w1.cell? ⟨w.heap.size, 0, none⟩ = some (.string M) := (L1.out.cell 0).trans HB0.out
  go_wp2_with fail
  go_loop [9] (fun ci => ∃ i : Nat, i ≤ M.size ∧ ci = .int .i64 i ∧ Hid (∀ j, j < i → ∃ c, l[j]? = some c ∧ mayB c = true)) (fun ci => M.size - (intOf ci).toNat)
  case atStart => exact ⟨0, Nat.zero_le _, rfl, fun j hj => absurd hj (Nat.not_lt_zero _)⟩
  case round =>
    obtain ⟨i, hi, rfl, HI⟩ := hrel
    by_cases hlt : i < M.size
    · have hlt' : (i : Int) < (M.size : Int) := by omega
      have hil : i < l.length := by rw [← HMS.out]; exact hlt
      have HMI : Hid (l[i]? = some M[i]) := by
        show _ = _
        rw [← HML.out]
        exact (Array.getElem?_toList).trans (Array.getElem?_eq_getElem hlt)
      by_cases hb : mayB M[i] = true
      · have HX : Hid (Calls Tryz.prog 120 #[.int .u8 (M[i].toNat : Int)] w1 fun e w' => e = .returned (.bool true) ∧ w' = w1) := by
          have := HMY.out M[i] w1 KB.out
          rw [hb] at this
          exact this
        have HN : Hid (∀ j, j < i + 1 → ∃ c, l[j]? = some c ∧ mayB c = true) := fun j hj => by
          rcases Nat.lt_succ_iff_lt_or_eq.1 hj with h' | rfl
          · exact HI.out j h'
          · exact ⟨_, HMI.out, hb⟩
        clear hb HMI HI HMY
        go_wp2_with fail
        refine HX.out.mono ?_
        rintro e w2 ⟨rfl, rfl⟩
        go_wp2_with fail
        go_round
        case rel => exact ⟨i + 1, hlt, by go_num, HN⟩
        case measure => simp [intOf]; omega
      · have HX : Hid (Calls Tryz.prog 120 #[.int .u8 (M[i].toNat : Int)] w1 fun e w' => e = .returned (.bool false) ∧ w' = w1) := by
          have := HMY.out M[i] w1 KB.out
          rw [Bool.not_eq_true] at hb
          rw [hb] at this
          exact this
        have HE : Hid (ckM l h wide = 90) := ckM_bad (by omega) (ckL_bad (fun hall => hb (List.all_eq_true.1 hall _ (List.mem_of_getElem? HMI.out))))
        clear hb HMI HI HMY
        go_wp2_with fail
        refine HX.out.mono ?_
        rintro e w2 ⟨rfl, rfl⟩
        go_wp2_with fail
        go_ret
        exact ⟨by rw [HE.out]; rfl, KB.out⟩
    · have hlt' : ¬ (i : Int) < (M.size : Int) := by omega
      have HA : Hid (l.all mayB = true) := by
        show _ = _
        rw [List.all_eq_true]
        intro c hc
        obtain ⟨j, hj, rfl⟩ := List.getElem_of_mem hc
        obtain ⟨c, e1, e2⟩ := HI.out j (by have := HMS.out; omega)
        rw [List.getElem?_eq_getElem hj] at e1
        injection e1 with e1
        rw [e1]
        exact e2
      clear HI HMY
      go_wp2_with fail
      refine (HWL.out _ KB.out).mono ?_
      rintro e v0 ⟨rfl, hb2⟩
      have L2 : Hid (Lies v0 w.heap.size B 30) := L1.out.below hb2 L1.out.lt
      have K2 : Hid (Below w.heap.size w v0) := KB.out.trans (hb2.mono KB.out.size)
      clear hb2 c0 L1 KB HWL
      by_cases h64 : 64 < T1.size
      · have h64' : (64 : Int) < (T1.size : Int) := by omega
        have HE : Hid (ckM l h wide = 90) := ckM_bad (by omega) (ckL_long (by rw [← HTZ.out]; exact h64))
        go_wp2_with fail
        go_ret
        exact ⟨by rw [HE.out]; rfl, K2.out⟩
      · have h64' : ¬ (64 : Int) < (T1.size : Int) := by omega
        go_upto_region 9 with fail
        by_cases hf : fwN wide l < l.length
        · have hf' : ((fwN wide l : Nat) : Int) < (M.size : Int) := by have := HMS.out; omega
          have HE : Hid (ckM l h wide = 94) := ckM_bad (by omega) (ckL_wide HA.out (by rw [← HTZ.out]; exact h64) hf)
          refine wp_region_late (fun wx => Below v0.heap.size v0 wx) 8 (by kernel_rfl) (Below.refl _ v0).drew (fun hHeld => ?_)
          refine wpAnyE_tk (i := 0) (d := some 24) (v := .pointer (some ⟨w.heap.size, 0, none⟩)) rfl (by kernel_rfl) (by kernel_rfl) (by kernel_rfl) rfl (fun _ _ _ h => h) rfl rfl ?hy (by assumption) ?_
          case hy => (intro w' hSw; (try dsimp only at hSw); go_simp <;> (first | with_reducible rfl | omega | skip))
          simp only [Act.put, List.setIfInBounds_toArray, List.set_cons_zero, List.set_cons_succ]
          refine wpAnyE_tk (i := 1) (d := some 25) (v := .string M) rfl (by kernel_rfl) (by kernel_rfl) (by kernel_rfl) rfl (fun _ _ _ h => h) rfl rfl ?hy (by assumption) ?_
          case hy => (intro w' hSw; have hq1 := ((L2.out.below hSw L2.out.lt).cell 0).trans HB0.out; go_simp <;> (first | with_reducible rfl | omega | skip))
          simp only [Act.put, List.setIfInBounds_toArray, List.set_cons_zero, List.set_cons_succ]
          refine wpAnyE_tk (i := 2) (d := some 26) (v := .bool wide) rfl (by kernel_rfl) (by kernel_rfl) (by kernel_rfl) rfl (fun _ _ _ h => h) rfl rfl ?hy (by assumption) ?_
          case hy => (intro w' hSw; (try dsimp only at hSw); go_simp <;> (first | with_reducible rfl | omega | skip))
          simp only [Act.put, List.setIfInBounds_toArray, List.set_cons_zero, List.set_cons_succ]
          refine wpAnyE_tk (i := 4) (d := some 28) (v := .pointer (some ⟨w.heap.size, 0, none⟩)) rfl (by kernel_rfl) (by kernel_rfl) (by kernel_rfl) rfl (fun _ _ _ h => h) rfl rfl ?hy (by assumption) ?_
          case hy => (intro w' hSw; (try dsimp only at hSw); go_simp <;> (first | with_reducible rfl | omega | skip))
          simp only [Act.put, List.setIfInBounds_toArray, List.set_cons_zero, List.set_cons_succ]
          refine wpAnyE_tk (i := 5) (d := some 29) (v := .string M) rfl (by kernel_rfl) (by kernel_rfl) (by kernel_rfl) rfl (fun _ _ _ h => h) rfl rfl ?hy (by assumption) ?_
          case hy => (intro w' hSw; have hq1 := ((L2.out.below hSw L2.out.lt).cell 0).trans HB0.out; go_simp <;> (first | with_reducible rfl | omega | skip))
          simp only [Act.put, List.setIfInBounds_toArray, List.set_cons_zero, List.set_cons_succ]
          refine wpAnyE_tk (i := 6) (d := some 30) (v := .int .i64 (M.size : Int)) rfl (by kernel_rfl) (by kernel_rfl) (by kernel_rfl) rfl (fun _ _ _ h => h) rfl rfl ?hy (by assumption) ?_
          case hy => (intro w' hSw; (try dsimp only at hSw); go_simp <;> (first | with_reducible rfl | omega | skip))
          simp only [Act.put, List.setIfInBounds_toArray, List.set_cons_zero, List.set_cons_succ]
          refine wpAnyE_on (i := 3) (by kernel_rfl) rfl rfl ?_
          refine oper_call (some 27) 122 #[.string M, .bool wide] (fun v w' => v = .int .i64 (fwN wide l : Nat) ∧ Below v0.heap.size v0 w') rfl (by go_simp) ((HFW.out _ (K2.out.trans ((Below.refl _ v0).drew.mono K2.out.size))).mono (fun e w' q => ⟨_, q.1, rfl, (Below.refl _ v0).drew.trans q.2⟩)) ?_
          rintro v y1 ⟨rfl, hy1⟩
          refine ⟨Or.inr hy1, ?_⟩
          simp only [Act.put, List.setIfInBounds_toArray, List.set_cons_zero, List.set_cons_succ]
          refine wpAnyE_tk (i := 7) (d := some 31) (v := .bool true) rfl (by kernel_rfl) (by kernel_rfl) (by kernel_rfl) rfl (fun _ _ _ h => h) rfl rfl ?hy (by assumption) ?_
          case hy => (intro w' hSw; (try dsimp only at hSw); go_simp <;> (first | with_reducible rfl | omega | skip))
          simp only [Act.put, List.setIfInBounds_toArray, List.set_cons_zero, List.set_cons_succ]
          refine wpAnyE_done (by kernel_rfl) ?_ _
          clear hHeld
          have K3 : Hid (Below w.heap.size w y1) := K2.out.trans (hy1.mono K2.out.size)
          go_wp2_with fail
          go_ret
          exact ⟨by rw [HE.out]; rfl, K3.out⟩
        · have hf' : ¬ ((fwN wide l : Nat) : Int) < (M.size : Int) := by have := HMS.out; omega
          have HE : Hid (ckM l h wide = check h wide) := by
            show _ = _
            unfold ckM
            rw [ckL_ok HA.out (by rw [← HTZ.out]; exact h64) hf, if_neg (by simp)]
          refine wp_region_late (fun wx => Below v0.heap.size v0 wx) 8 (by kernel_rfl) (Below.refl _ v0).drew (fun hHeld => ?_)
          refine wpAnyE_tk (i := 0) (d := some 24) (v := .pointer (some ⟨w.heap.size, 0, none⟩)) rfl (by kernel_rfl) (by kernel_rfl) (by kernel_rfl) rfl (fun _ _ _ h => h) rfl rfl ?hy (by assumption) ?_
          case hy => (intro w' hSw; (try dsimp only at hSw); go_simp <;> (first | with_reducible rfl | omega | skip))
          simp only [Act.put, List.setIfInBounds_toArray, List.set_cons_zero, List.set_cons_succ]
          refine wpAnyE_tk (i := 1) (d := some 25) (v := .string M) rfl (by kernel_rfl) (by kernel_rfl) (by kernel_rfl) rfl (fun _ _ _ h => h) rfl rfl ?hy (by assumption) ?_
          case hy => (intro w' hSw; have hq1 := ((L2.out.below hSw L2.out.lt).cell 0).trans HB0.out; go_simp <;> (first | with_reducible rfl | omega | skip))
          simp only [Act.put, List.setIfInBounds_toArray, List.set_cons_zero, List.set_cons_succ]
          refine wpAnyE_tk (i := 2) (d := some 26) (v := .bool wide) rfl (by kernel_rfl) (by kernel_rfl) (by kernel_rfl) rfl (fun _ _ _ h => h) rfl rfl ?hy (by assumption) ?_
          case hy => (intro w' hSw; (try dsimp only at hSw); go_simp <;> (first | with_reducible rfl | omega | skip))
          simp only [Act.put, List.setIfInBounds_toArray, List.set_cons_zero, List.set_cons_succ]
          refine wpAnyE_tk (i := 4) (d := some 28) (v := .pointer (some ⟨w.heap.size, 0, none⟩)) rfl (by kernel_rfl) (by kernel_rfl) (by kernel_rfl) rfl (fun _ _ _ h => h) rfl rfl ?hy (by assumption) ?_
          case hy => (intro w' hSw; (try dsimp only at hSw); go_simp <;> (first | with_reducible rfl | omega | skip))
          simp only [Act.put, List.setIfInBounds_toArray, List.set_cons_zero, List.set_cons_succ]
          refine wpAnyE_tk (i := 5) (d := some 29) (v := .string M) rfl (by kernel_rfl) (by kernel_rfl) (by kernel_rfl) rfl (fun _ _ _ h => h) rfl rfl ?hy (by assumption) ?_
          case hy => (intro w' hSw; have hq1 := ((L2.out.below hSw L2.out.lt).cell 0).trans HB0.out; go_simp <;> (first | with_reducible rfl | omega | skip))
          simp only [Act.put, List.setIfInBounds_toArray, List.set_cons_zero, List.set_cons_succ]
          refine wpAnyE_tk (i := 6) (d := some 30) (v := .int .i64 (M.size : Int)) rfl (by kernel_rfl) (by kernel_rfl) (by kernel_rfl) rfl (fun _ _ _ h => h) rfl rfl ?hy (by assumption) ?_
          case hy => (intro w' hSw; (try dsimp only at hSw); go_simp <;> (first | with_reducible rfl | omega | skip))
          simp only [Act.put, List.setIfInBounds_toArray, List.set_cons_zero, List.set_cons_succ]
          refine wpAnyE_on (i := 3) (by kernel_rfl) rfl rfl ?_
          refine oper_call (some 27) 122 #[.string M, .bool wide] (fun v w' => v = .int .i64 (fwN wide l : Nat) ∧ Below v0.heap.size v0 w') rfl (by go_simp) ((HFW.out _ (K2.out.trans ((Below.refl _ v0).drew.mono K2.out.size))).mono (fun e w' q => ⟨_, q.1, rfl, (Below.refl _ v0).drew.trans q.2⟩)) ?_
          rintro v y1 ⟨rfl, hy1⟩
          refine ⟨Or.inr hy1, ?_⟩
          simp only [Act.put, List.setIfInBounds_toArray, List.set_cons_zero, List.set_cons_succ]
          refine wpAnyE_tk (i := 7) (d := some 31) (v := .bool false) rfl (by kernel_rfl) (by kernel_rfl) (by kernel_rfl) rfl (fun _ _ _ h => h) rfl rfl ?hy (by assumption) ?_
          case hy => (intro w' hSw; (try dsimp only at hSw); go_simp <;> (first | with_reducible rfl | omega | skip))
          simp only [Act.put, List.setIfInBounds_toArray, List.set_cons_zero, List.set_cons_succ]
          refine wpAnyE_done (by kernel_rfl) ?_ _
          clear hHeld
          have K3 : Hid (Below w.heap.size w y1) := K2.out.trans (hy1.mono K2.out.size)
          have HRG : Hid (y1.rangeAt w.heap.size 1 HC.toList) := fun j v hv => ((L2.out.below hy1 L2.out.lt).cell (1 + j)).trans (HB1.out j v hv)
          clear hy1
          go_wp2_with (refine wpList_load_mid rfl 27 _ rfl w.heap.size 1 rfl HC.toList _ HRG.out Tryz.underlying27 rfl (by rw [Array.length_toList, hsz]; exact infoHo) ?_)
          refine (HCK.out _ K3.out).mono ?_
          rintro e w5 ⟨rfl, hb5⟩
          go_wp2_with fail
          go_ret
          exact ⟨by rw [HE.out]; rfl, K3.out.trans (hb5.mono K3.out.size)⟩
end Go.Proofs.YthkoionigdnhgabGreatDoor
