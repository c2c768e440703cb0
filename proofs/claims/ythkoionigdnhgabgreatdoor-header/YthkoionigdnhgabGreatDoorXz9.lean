/-
  The program's Check, Print, PrintBox.
-/
import Derived.Test.YthkoionigdnhgabGreatDoorXw9
namespace Go.Proofs.YthkoionigdnhgabGreatDoor
open Go.RowKit

theorem check_len {h : Ho} {wide : Bool} (hc : check h wide = 0) : h.n.length ≤ 255 := by
  unfold check at hc
  split at hc
  · split at hc
    · unfold wd at hc
      split at hc
      · cases hc
      · omega
    · cases hc
  · split at hc
    · split at hc
      · rename_i h2
        rw [show h.n = [] from congrArg Ho.n h2]
        simp
      · cases hc
    · split at hc
      · split at hc
        · rename_i h2
          rw [h2]
          simp
        · cases hc
      · split at hc
        · split at hc
          · unfold chTag at hc
            split at hc
            · cases hc
            · omega
          · cases hc
        · cases hc
theorem wpList_load_mid9 {P : Program} {ops : Array Oper} {rest : List Oper} {op : Oper} {a : Act} {w : World} {Q : Exit → Act → World → Prop} (hw : Region.wanted op (yielded ops a.tmps) = true) (ty : TypeId) (x : Operand) (ho : op.op = .load ty x)
    (g o : Nat) (hx : a.eval x = .pointer (some ⟨g, o, none⟩)) (cs : List Value) (d : TypeDesc) (hc : w.rangeAt g o cs)
    (hu : P.underlying ty = some d) (hd : d.isRow = true) (hi : (P.info? ty).map (·.size) = some cs.length)
    (h : wpList P ops Q rest (a.put op.dst (.agg cs.toArray)) w) : wpList P ops Q (op :: rest) a w := by
  unfold wpList
  rw [if_pos hw]
  left
  unfold Oper.wp
  rw [exec_mid9 ty x ho g o hx cs d hc hu hd hi]
  exact h
theorem exec_neq_box {op : Oper} {a : Act} {w : World} (p q : Operand) (r : TypeId) (ho : op.op = .binOp .neq 30 p q r) (l m : List UInt8) (x y : Ho) (hp : a.eval p = .agg (boxC l x)) (hq : a.eval q = .agg (boxC m y)) (hx : x.a.length = 16) (hy : y.a.length = 16) : (execOp a.eval op).run Tryz.prog w = .ok (.value (.bool (!(decide (l = m) && decide (x = y))))) w := by
  have hgu : Tryz.prog.eqGuardType Tryz.prog.depth 30 = false := by kernel_rfl
  have h := eqBox 9996 l m x y hx hy w
  have hg := run_eqGuard_agg (P := Tryz.prog) w .neq 30 p q (boxC l x) (boxC m y) hgu
  unfold execOp
  simp only [ho, hp, hq, Sem.run_bind, hg, Result.andThen_ok, run_neq_struct, h, Sem.run_pure]
theorem ckR_all : ∀ {r : List Ho} {wide : Bool}, ckR r wide = 0 → ∀ x ∈ r, check x wide = 0
  | [], _, _, x, hx => by cases hx
  | y :: r, wide, h, x, hx => by
    rw [ckR] at h
    by_cases hy : check y wide = 0
    · rw [if_pos hy] at h
      rcases List.mem_cons.1 hx with rfl | hx
      · exact hy
      · exact ckR_all h x hx
    · rw [if_neg hy] at h
      exact absurd h hy
theorem ckT_zero {r : List Ho} {wide : Bool} (h : ckT r wide = 0) : r.length ≤ 16 ∧ (∀ x ∈ r, x.k = 1) ∧ ∀ x ∈ r, check x wide = 0 := by
  unfold ckT at h
  split at h
  · cases h
  · rename_i hn
    refine ⟨Nat.le_of_not_lt fun h' => hn (Or.inl h'), fun x hx => ?_, ckR_all h⟩
    have ha : r.all (fun h => decide (h.k = 1)) = true := by
      cases hq : r.all (fun h => decide (h.k = 1))
      · exact absurd (Or.inr hq) hn
      · rfl
    exact of_decide_eq_true (List.all_eq_true.1 ha x hx)
theorem ckM_zero {l : List UInt8} {h : Ho} {wide : Bool} (hm : ckM l h wide = 0) : ckL l wide = 0 ∧ check h wide = 0 := by
  unfold ckM at hm
  split at hm
  · rename_i h'
    exact absurd hm h'
  · rename_i h'
    exact ⟨Decidable.of_not_not h', hm⟩
theorem wrH_nm {x : Ho} {wide : Bool} (ok : x.Ok) (hk : x.k = 1) (hc : check x wide = 0) : wrH x = x.n := by
  obtain ⟨_, _, _, _, ht⟩ := back_host x wide ok hc
  unfold wrH print
  rw [if_pos ht, if_neg (by rw [hk]; decide), if_neg (by rw [hk]; decide), if_neg (by rw [hk]; decide)]
theorem wrH_len {x : Ho} {wide : Bool} (ok : x.Ok) (hc : check x wide = 0) : (wrH x).length ≤ 255 := by
  obtain ⟨t, ht, _, hl, _⟩ := back_host x wide ok hc
  unfold wrH
  rw [ht]
  exact hl
theorem ckP_three {r : List Ho} {l : List UInt8} {h : Ho} {wide : Bool} : ckP ⟨3, r, l, h⟩ wide = if ckT r wide ≠ 0 then ckT r wide else if ckM l h wide ≠ 0 then ckM l h wide else if 256 < (wrP ⟨3, r, l, h⟩).length then 93 else 0 := by
  have e : ckB ⟨3, r, l, h⟩ wide = if ckT r wide ≠ 0 then ckT r wide else ckM l h wide := by
    unfold ckB ckT ckM
    rw [if_neg (by simp), if_pos rfl]
    dsimp only
    by_cases h1 : 16 < r.length ∨ r.all (fun h => decide (h.k = 1)) = false
    · rw [if_pos h1, if_pos h1, if_pos (by decide)]
    · rw [if_neg h1, if_neg h1]
  unfold ckP
  rw [e]
  by_cases h1 : ckT r wide ≠ 0
  · rw [if_pos h1, if_pos h1, if_neg (fun h => h1 h.1)]
  · rw [if_neg h1, if_neg h1]
    by_cases h2 : ckM l h wide ≠ 0
    · rw [if_pos h2, if_neg (fun h => h2 h.1)]
    · rw [if_neg h2, Decidable.of_not_not h2]
      by_cases h3 : 256 < (wrP ⟨3, r, l, h⟩).length
      · rw [if_pos ⟨rfl, h3⟩, if_pos h3]
      · rw [if_neg (fun h => h3 h.2), if_neg h3]
theorem ckP_small {k : Int} {r : List Ho} {l : List UInt8} {h : Ho} {wide : Bool} (hk : k = 1 ∨ k = 2) : ckP ⟨k, r, l, h⟩ wide = if r = [] ∧ l = [] ∧ h = ho0 then 0 else 93 := by
  have e : ckB ⟨k, r, l, h⟩ wide = if r = [] ∧ l = [] ∧ h = ho0 then 0 else 93 := by
    unfold ckB
    rw [if_pos hk]
  unfold ckP
  rw [e]
  by_cases h1 : r = [] ∧ l = [] ∧ h = ho0
  · rw [if_pos h1, if_neg]
    rintro ⟨_, h2⟩
    obtain ⟨rfl, rfl, rfl⟩ := h1
    rcases hk with rfl | rfl
    · revert h2; decide
    · revert h2; decide
  · rw [if_neg h1, if_neg (fun h => by cases h.1)]
theorem ckP_no {k : Int} {r : List Ho} {l : List UInt8} {h : Ho} {wide : Bool} (k1 : k ≠ 1) (k2 : k ≠ 2) (k3 : k ≠ 3) : ckP ⟨k, r, l, h⟩ wide = 93 := by
  have e : ckB ⟨k, r, l, h⟩ wide = 93 := by
    unfold ckB
    rw [if_neg (by rintro (h | h); exact k1 h; exact k2 h), if_neg k3]
  unfold ckP
  rw [e, if_neg (fun h => by cases h.1)]

set_option maxHeartbeats 8000000 in
set_option maxRecDepth 100000 in
theorem pchk_any (k : Int) (sp : Option Addr) (c : Nat) (r : List Ho) (l : List UInt8) (h : Ho) (w : World) (hr : RtM w sp r) (hm : r.length ≤ maxLen) (okr : ∀ x ∈ r, x.Ok ∧ x.n.length ≤ 140737488355328) (ok : h.Ok) (hn : h.n.length ≤ 140737488355328) (hl : l.length ≤ 140737488355328) (hT : Td w) (hrep : RepOk (txt l) w) (wide : Bool) :
    Calls Tryz.prog 47 #[.agg (pthC k (.slice sp r.length c) l h), .bool wide] w fun e w' => e = .returned (.int .i64 (ckP ⟨k, r, l, h⟩ wide : Nat)) ∧ Below w.heap.size w w' := by
  have ha := ok.len
  have hPz := pthC_size k (.slice sp r.length c) l h ok.len
  have hBz := boxC_size l h ok.len
  obtain ⟨B, hB⟩ : ∃ B, B = boxC l h := ⟨_, rfl⟩
  obtain ⟨P, hP⟩ : ∃ P, P = pthC k (.slice sp r.length c) l h := ⟨_, rfl⟩
  rw [← hP] at hPz ⊢
  rw [← hB] at hBz
  have p0 : Hid (P[0]? = some (.int .i64 k)) := by show _ = _; rw [hP]; exact (pthC_024 _ _ _ _).1
  have p1 : Hid (P[1]? = some (.slice sp r.length c)) := by show _ = _; rw [hP]; exact (pthC_024 _ _ _ _).2.1
  have p2 : Hid (∀ j v, B.toList[j]? = some v → P[2 + j]? = some v) := fun j v hv => by
    have e : P = #[.int .i64 k, .slice sp r.length c] ++ B := by
      rw [hP, hB]
      unfold pthC boxC
      rw [← Array.append_assoc]
      rfl
    rw [e, Array.getElem?_append_right (by simp)]
    simp only [List.size_toArray, List.length_cons, List.length_nil]
    rw [show 2 + j - (0 + 1 + 1) = j from by omega]
    simpa using hv
  have eB : B.toList.toArray = B := by simp
  have L1 : Hid (Lies (w.alloc (.cells P 32)) w.heap.size P 32) := Lies.new w _ _
  have KB : Hid (Below w.heap.size w (w.alloc (.cells P 32))) := (Below.refl _ _).alloc (Nat.le_refl _) _
  have HRR : Hid (∀ wx, Below w.heap.size w wx → Calls Tryz.prog 78 #[.slice sp r.length c, .bool wide] wx fun e w' => e = .returned (.int .i64 (ckT r wide : Nat)) ∧ Below wx.heap.size wx w') := fun wx hx => wrr_any sp c r wx (hr.below hx) (hT.below hx) hm (fun x hxr => ⟨(okr x hxr).1.len, (okr x hxr).2⟩) wide
  have HBB : Hid (∀ wx, Below w.heap.size w wx → Calls Tryz.prog 79 #[.agg B, .bool wide] wx fun e w' => e = .returned (.int .i64 (ckM l h wide : Nat)) ∧ Below wx.heap.size wx w') := fun wx hx => by
    rw [hB]
    exact wrb_any l h ok.len hn hl wide wx (hT.below hx) (hrep.later hx)
  have HWW : Hid (k = 3 → ckT r wide = 0 → ckM l h wide = 0 → ∀ wx, Below w.heap.size w wx → Calls Tryz.prog 55 #[.agg P] wx fun e w' => e = .returned (.string (txt (wrP ⟨3, r, l, h⟩))) ∧ Below wx.heap.size wx w') := fun hk h1 h2 wx hx => by
    obtain ⟨t1, t2, t3⟩ := ckT_zero h1
    obtain ⟨m1, m2⟩ := ckM_zero h2
    rw [hP, hk]
    exact written_any 3 sp c r l h wx (hr.below hx) (by omega) (fun x hxr => ⟨(okr x hxr).1.len, Nat.le_trans (check_len (t3 x hxr)) (by omega), wrH_nm (okr x hxr).1 (t2 x hxr) (t3 x hxr)⟩) ok hn hl (Nat.le_trans (wrH_len ok m2) (by omega)) (hT.below hx) (hrep.later hx)
  have HZZ : Hid (k = 3 → ckT r wide = 0 → ckM l h wide = 0 → (wrP ⟨3, r, l, h⟩).length ≤ 4611686018427387904) := fun hk h1 h2 => by
    obtain ⟨t1, t2, t3⟩ := ckT_zero h1
    obtain ⟨m1, m2⟩ := ckM_zero h2
    have q1 := nms_len r (by omega) (fun x hx => Nat.le_trans (check_len (t3 x hx)) (by omega))
    rw [nms_wr r (fun x hx => wrH_nm (okr x hx).1 (t2 x hx) (t3 x hx))] at q1
    have q2 := wrH_len ok m2
    have q3 := wrL_len l
    unfold wrP
    rw [if_neg (by simp), if_neg (by simp)]
    dsimp only
    unfold wrB
    simp only [List.length_cons, List.length_append, List.length_nil]
    omega
  have HRM : Hid (r = [] ∨ 0 < r.length) := by
    cases r
    · exact Or.inl rfl
    · exact Or.inr (by simp)
  have hB' : Hid (B = boxC l h) := hB
  clear hP hB hr okr hT hrep
  have hB := hB'
  clear hB'
  unfold maxLen at hm
  obtain ⟨X, hX⟩ : ∃ X, X = ckP ⟨k, r, l, h⟩ wide := ⟨_, rfl⟩
  rw [← hX]
  have HX : Hid (X = ckP ⟨k, r, l, h⟩ wide) := hX
  clear hX
  go_enter Tryz.func47, Tryz.ntmps47
  go_upto_region 1 with fail
  generalize w.alloc (.cells P 32) = v0 at L1 KB ⊢
  have c0 : v0.cell? ⟨w.heap.size, 0, none⟩ = some (.int .i64 k) := (L1.out.cell 0).trans p0.out
  have c1 : v0.cell? ⟨w.heap.size, 1, none⟩ = some (.slice sp r.length c) := (L1.out.cell 1).trans p1.out
  by_cases k1 : k = 1
  · have k1b : (k == 1) = true := by rw [k1]; rfl
    have HX2 : Hid (X = if r = [] ∧ l = [] ∧ h = ho0 then 0 else 93) := by show _ = _; rw [HX.out, ckP_small (by omega)]
    clear HX HRR HBB HWW HZZ
    rcases HRM.out with h0 | h0
    · subst h0
      clear HRM
      go_upto_region 4 with fail
      refine wp_region_lit ?_
      refine wpList_yieldG (.pointer (some ⟨w.heap.size, 1, none⟩)) (by rfl) ?hy ?_
      case hy => (go_simp <;> (first | with_reducible rfl | omega | skip))
      simp only [Act.put, List.setIfInBounds_toArray, List.set_cons_zero, List.set_cons_succ]
      refine wpList_yieldG (.slice sp 0 c) (by rfl) ?hy ?_
      case hy => (go_simp <;> (first | with_reducible rfl | omega | skip))
      simp only [Act.put, List.setIfInBounds_toArray, List.set_cons_zero, List.set_cons_succ]
      refine wpList_yieldG (.int .i64 0) (by rfl) ?hy ?_
      case hy => (go_simp <;> (first | with_reducible rfl | omega | skip))
      simp only [Act.put, List.setIfInBounds_toArray, List.set_cons_zero, List.set_cons_succ]
      refine wpList_yieldG (.bool false) (by rfl) ?hy ?_
      case hy => (go_simp <;> (first | with_reducible rfl | omega | skip))
      simp only [Act.put, List.setIfInBounds_toArray, List.set_cons_zero, List.set_cons_succ]
      refine wpList_yieldG (.bool false) (by rfl) ?hy ?_
      case hy => (go_simp <;> (first | with_reducible rfl | omega | skip))
      simp only [Act.put, List.setIfInBounds_toArray, List.set_cons_zero, List.set_cons_succ]
      refine wpList_yieldG (.pointer (some ⟨w.heap.size, 2, none⟩)) (by rfl) ?hy ?_
      case hy => (go_simp <;> (first | with_reducible rfl | omega | skip))
      simp only [Act.put, List.setIfInBounds_toArray, List.set_cons_zero, List.set_cons_succ]
      refine wpList_load_mid9 (by rfl) 30 _ rfl w.heap.size 2 rfl B.toList _ (fun j v hv => (L1.out.cell (2 + j)).trans (p2.out j v hv)) Tryz.underlying30 rfl (by rw [Array.length_toList, hBz]; exact infoBx) ?_
      rw [eB]
      simp only [Act.put, List.setIfInBounds_toArray, List.set_cons_zero, List.set_cons_succ]
      refine wpList_yieldG (.agg (boxC [] ho0)) (by rfl) ?hy ?_
      case hy => (go_simp; rfl)
      simp only [Act.put, List.setIfInBounds_toArray, List.set_cons_zero, List.set_cons_succ]
      refine wpList_yieldG (.bool (!(decide (l = []) && decide (h = ho0)))) (by rfl) ?hy ?_
      case hy => 
        refine exec_neq_box _ _ _ rfl l [] h ho0 ?_ rfl ha rfl
        show Value.agg B = _
        rw [hB.out]
      simp only [Act.put, List.setIfInBounds_toArray, List.set_cons_zero, List.set_cons_succ]
      refine wpList_yieldG (.bool (!(decide (l = []) && decide (h = ho0)))) (by rfl) ?hy ?_
      case hy => (go_simp <;> (first | with_reducible rfl | omega | skip))
      simp only [Act.put, List.setIfInBounds_toArray, List.set_cons_zero, List.set_cons_succ]
      refine wpList_nil ?_
      by_cases hz : l = [] ∧ h = ho0
      · have HE : Hid (X = 0) := by show _ = _; rw [HX2.out, if_pos ⟨rfl, hz⟩]
        rw [decide_eq_true hz.1, decide_eq_true hz.2]
        clear HX2 hz
        go_wp2_with fail
        go_ret
        exact ⟨by rw [HE.out]; rfl, KB.out⟩
      · have HE : Hid (X = 93) := by show _ = _; rw [HX2.out, if_neg (fun h => hz h.2)]
        have e : (!(decide (l = []) && decide (h = ho0))) = true := by
          by_cases h1 : l = []
          · have h2 : ¬ h = ho0 := fun h => hz ⟨h1, h⟩
            rw [decide_eq_false h2, Bool.and_false]
            rfl
          · rw [decide_eq_false h1]
            rfl
        rw [e]
        clear HX2 hz e
        go_wp2_with fail
        go_ret
        exact ⟨by rw [HE.out]; rfl, KB.out⟩
    · have HE : Hid (X = 93) := by show _ = _; rw [HX2.out, if_neg (fun h => by rw [h.1] at h0; exact absurd h0 (Nat.lt_irrefl 0))]
      have h0' : (0 : Int) < (r.length : Int) := by omega
      clear HX2 HRM
      go_wp2_with fail
      go_ret
      exact ⟨by rw [HE.out]; rfl, KB.out⟩
  have k1b : (k == 1) = false := by rw [beq_eq_false_iff_ne]; exact k1
  by_cases k2 : k = 2
  · have k2b : (k == 2) = true := by rw [k2]; rfl
    have HX2 : Hid (X = if r = [] ∧ l = [] ∧ h = ho0 then 0 else 93) := by show _ = _; rw [HX.out, ckP_small (by omega)]
    clear HX HRR HBB HWW HZZ
    rcases HRM.out with h0 | h0
    · subst h0
      clear HRM
      go_upto_region 4 with fail
      refine wp_region_lit ?_
      refine wpList_yieldG (.pointer (some ⟨w.heap.size, 1, none⟩)) (by rfl) ?hy ?_
      case hy => (go_simp <;> (first | with_reducible rfl | omega | skip))
      simp only [Act.put, List.setIfInBounds_toArray, List.set_cons_zero, List.set_cons_succ]
      refine wpList_yieldG (.slice sp 0 c) (by rfl) ?hy ?_
      case hy => (go_simp <;> (first | with_reducible rfl | omega | skip))
      simp only [Act.put, List.setIfInBounds_toArray, List.set_cons_zero, List.set_cons_succ]
      refine wpList_yieldG (.int .i64 0) (by rfl) ?hy ?_
      case hy => (go_simp <;> (first | with_reducible rfl | omega | skip))
      simp only [Act.put, List.setIfInBounds_toArray, List.set_cons_zero, List.set_cons_succ]
      refine wpList_yieldG (.bool false) (by rfl) ?hy ?_
      case hy => (go_simp <;> (first | with_reducible rfl | omega | skip))
      simp only [Act.put, List.setIfInBounds_toArray, List.set_cons_zero, List.set_cons_succ]
      refine wpList_yieldG (.bool false) (by rfl) ?hy ?_
      case hy => (go_simp <;> (first | with_reducible rfl | omega | skip))
      simp only [Act.put, List.setIfInBounds_toArray, List.set_cons_zero, List.set_cons_succ]
      refine wpList_yieldG (.pointer (some ⟨w.heap.size, 2, none⟩)) (by rfl) ?hy ?_
      case hy => (go_simp <;> (first | with_reducible rfl | omega | skip))
      simp only [Act.put, List.setIfInBounds_toArray, List.set_cons_zero, List.set_cons_succ]
      refine wpList_load_mid9 (by rfl) 30 _ rfl w.heap.size 2 rfl B.toList _ (fun j v hv => (L1.out.cell (2 + j)).trans (p2.out j v hv)) Tryz.underlying30 rfl (by rw [Array.length_toList, hBz]; exact infoBx) ?_
      rw [eB]
      simp only [Act.put, List.setIfInBounds_toArray, List.set_cons_zero, List.set_cons_succ]
      refine wpList_yieldG (.agg (boxC [] ho0)) (by rfl) ?hy ?_
      case hy => (go_simp; rfl)
      simp only [Act.put, List.setIfInBounds_toArray, List.set_cons_zero, List.set_cons_succ]
      refine wpList_yieldG (.bool (!(decide (l = []) && decide (h = ho0)))) (by rfl) ?hy ?_
      case hy => 
        refine exec_neq_box _ _ _ rfl l [] h ho0 ?_ rfl ha rfl
        show Value.agg B = _
        rw [hB.out]
      simp only [Act.put, List.setIfInBounds_toArray, List.set_cons_zero, List.set_cons_succ]
      refine wpList_yieldG (.bool (!(decide (l = []) && decide (h = ho0)))) (by rfl) ?hy ?_
      case hy => (go_simp <;> (first | with_reducible rfl | omega | skip))
      simp only [Act.put, List.setIfInBounds_toArray, List.set_cons_zero, List.set_cons_succ]
      refine wpList_nil ?_
      by_cases hz : l = [] ∧ h = ho0
      · have HE : Hid (X = 0) := by show _ = _; rw [HX2.out, if_pos ⟨rfl, hz⟩]
        rw [decide_eq_true hz.1, decide_eq_true hz.2]
        clear HX2 hz
        go_wp2_with fail
        go_ret
        exact ⟨by rw [HE.out]; rfl, KB.out⟩
      · have HE : Hid (X = 93) := by show _ = _; rw [HX2.out, if_neg (fun h => hz h.2)]
        have e : (!(decide (l = []) && decide (h = ho0))) = true := by
          by_cases h1 : l = []
          · have h2 : ¬ h = ho0 := fun h => hz ⟨h1, h⟩
            rw [decide_eq_false h2, Bool.and_false]
            rfl
          · rw [decide_eq_false h1]
            rfl
        rw [e]
        clear HX2 hz e
        go_wp2_with fail
        go_ret
        exact ⟨by rw [HE.out]; rfl, KB.out⟩
    · have HE : Hid (X = 93) := by show _ = _; rw [HX2.out, if_neg (fun h => by rw [h.1] at h0; exact absurd h0 (Nat.lt_irrefl 0))]
      have h0' : (0 : Int) < (r.length : Int) := by omega
      clear HX2 HRM
      go_wp2_with fail
      go_ret
      exact ⟨by rw [HE.out]; rfl, KB.out⟩
  have k2b : (k == 2) = false := by rw [beq_eq_false_iff_ne]; exact k2
  by_cases k3 : k = 3
  · have k3b : (k == 3) = true := by rw [k3]; rfl
    have HXE : Hid (X = if ckT r wide ≠ 0 then ckT r wide else if ckM l h wide ≠ 0 then ckM l h wide else if 256 < (wrP ⟨3, r, l, h⟩).length then 93 else 0) := by show _ = _; rw [HX.out, k3, ckP_three]
    have HWX := HWW.out k3
    have HZX := HZZ.out k3
    generalize ckT r wide = t at HXE HRR HWX HZX
    generalize ckM l h wide = m at HXE HBB HWX HZX
    have HW2 : Hid (t = 0 → m = 0 → ∀ wx, Below w.heap.size w wx → Calls Tryz.prog 55 #[.agg P] wx fun e w' => e = .returned (.string (txt (wrP ⟨3, r, l, h⟩))) ∧ Below wx.heap.size wx w') := HWX
    have HZ2 : Hid (t = 0 → m = 0 → (wrP ⟨3, r, l, h⟩).length ≤ 4611686018427387904) := HZX
    clear HX HWW HZZ HWX HZX HRM k3
    go_wp2_with fail
    refine (HRR.out _ KB.out).mono ?_
    rintro e w2 ⟨rfl, hb2⟩
    have K2 : Hid (Below w.heap.size w w2) := KB.out.trans (hb2.mono KB.out.size)
    have L2 : Hid (Lies w2 w.heap.size P 32) := L1.out.below hb2 L1.out.lt
    have HRG : Hid (w2.rangeAt w.heap.size 2 B.toList) := fun j v hv => (L2.out.cell (2 + j)).trans (p2.out j v hv)
    clear hb2 L1 KB c0 c1 HRR
    by_cases ht : t = 0
    · subst ht
      have HW2b : Hid (m = 0 → ∀ wx, Below w.heap.size w wx → Calls Tryz.prog 55 #[.agg P] wx fun e w' => e = .returned (.string (txt (wrP ⟨3, r, l, h⟩))) ∧ Below wx.heap.size wx w') := HW2.out rfl
      have HZ2b : Hid (m = 0 → (wrP ⟨3, r, l, h⟩).length ≤ 4611686018427387904) := HZ2.out rfl
      clear HW2 HZ2
      go_wp2_with (refine wpList_load_mid rfl 30 _ rfl w.heap.size 2 rfl B.toList _ HRG.out Tryz.underlying30 rfl (by rw [Array.length_toList, hBz]; exact infoBx) ?_)
      refine (HBB.out _ K2.out).mono ?_
      rintro e w3 ⟨rfl, hb3⟩
      have K3 : Hid (Below w.heap.size w w3) := K2.out.trans (hb3.mono K2.out.size)
      have L3 : Hid (Lies w3 w.heap.size P 32) := L2.out.below hb3 L2.out.lt
      clear hb3 K2 L2 HBB HRG
      by_cases hm0 : m = 0
      · subst hm0
        have HW3 : Hid (∀ wx, Below w.heap.size w wx → Calls Tryz.prog 55 #[.agg P] wx fun e w' => e = .returned (.string (txt (wrP ⟨3, r, l, h⟩))) ∧ Below wx.heap.size wx w') := HW2b.out rfl
        have hz3 := HZ2b.out rfl
        have HXF : Hid (X = if 256 < (wrP ⟨3, r, l, h⟩).length then 93 else 0) := by show _ = _; rw [HXE.out, if_neg (by simp), if_neg (by simp)]
        obtain ⟨T, hT⟩ : ∃ T, T = txt (wrP ⟨3, r, l, h⟩) := ⟨_, rfl⟩
        have hTz : T.size = (wrP ⟨3, r, l, h⟩).length := by rw [hT, txt_size]
        rw [← hT] at HW3
        rw [← hTz] at HXF hz3
        clear HW2b HZ2b HXE hT hTz
        go_wp2_with (refine wpList_load_row rfl 32 _ rfl w.heap.size rfl P 32 _ L3.out Tryz.underlying32 rfl (by rw [hPz]; exact infoPt) ?_)
        refine (HW3.out _ K3.out).mono ?_
        rintro e w4 ⟨rfl, hb4⟩
        have K4 : Hid (Below w.heap.size w w4) := K3.out.trans (hb4.mono K3.out.size)
        clear hb4 K3 L3 HW3
        by_cases h256 : 256 < T.size
        · have h256' : (256 : Int) < (T.size : Int) := by omega
          have HE : Hid (X = 93) := by show _ = _; rw [HXF.out, if_pos h256]
          clear HXF
          go_wp2_with fail
          go_ret
          exact ⟨by rw [HE.out]; rfl, K4.out⟩
        · have h256' : ¬ (256 : Int) < (T.size : Int) := by omega
          have HE : Hid (X = 0) := by show _ = _; rw [HXF.out, if_neg h256]
          clear HXF
          go_wp2_with fail
          go_ret
          exact ⟨by rw [HE.out]; rfl, K4.out⟩
      · have hm0' : ¬ (m : Int) = 0 := by omega
        have HE : Hid (X = m) := by show _ = _; rw [HXE.out, if_neg (by simp), if_pos hm0]
        clear HXE HW2b HZ2b
        go_wp2_with fail
        go_ret
        exact ⟨by rw [HE.out]; rfl, K3.out⟩
    · have ht0' : ¬ (t : Int) = 0 := by omega
      have HE : Hid (X = t) := by show _ = _; rw [HXE.out, if_pos ht]
      clear HXE HW2 HZ2
      go_wp2_with fail
      go_ret
      exact ⟨by rw [HE.out]; rfl, K2.out⟩
  have k3b : (k == 3) = false := by rw [beq_eq_false_iff_ne]; exact k3
  have HE : Hid (X = 93) := by show _ = _; rw [HX.out, ckP_no k1 k2 k3]
  clear HX HRR HBB HWW HZZ HRM
  go_wp2_with fail
  go_ret
  exact ⟨by rw [HE.out]; rfl, KB.out⟩

theorem printP_ok {p : Pt} (h : ckP p true = 0) : printP p = (wrP p, 0) := if_pos h
theorem printP_no {p : Pt} (h : ckP p true ≠ 0) : printP p = ([], ckP p true) := if_neg h
theorem ckP_ok3 {k : Int} {r : List Ho} {l : List UInt8} {h : Ho} {wide : Bool} (hc : ckP ⟨k, r, l, h⟩ wide = 0) : (r = [] ∧ l = [] ∧ h = ho0) ∨ (ckT r wide = 0 ∧ ckM l h wide = 0) := by
  by_cases k12 : k = 1 ∨ k = 2
  · rw [ckP_small k12] at hc
    split at hc
    · rename_i hz
      exact Or.inl hz
    · cases hc
  · by_cases k3 : k = 3
    · subst k3
      rw [ckP_three] at hc
      by_cases h1 : ckT r wide ≠ 0
      · rw [if_pos h1] at hc
        exact absurd hc h1
      · rw [if_neg h1] at hc
        by_cases h2 : ckM l h wide ≠ 0
        · rw [if_pos h2] at hc
          exact absurd hc h2
        · exact Or.inr ⟨Decidable.of_not_not h1, Decidable.of_not_not h2⟩
    · rw [ckP_no (fun h => k12 (Or.inl h)) (fun h => k12 (Or.inr h)) k3] at hc
      cases hc
end Go.Proofs.YthkoionigdnhgabGreatDoor
