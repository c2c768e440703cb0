/-
  Whether a status may stand beside a code; what stands ahead of a text.
-/
import Derived.Test.YtbfgefgadplcjaaDoorPr12
namespace Go.Proofs.YtbfgefgadplcjaaDoor
open Go.RowKit

set_option maxHeartbeats 2000000 in
set_option maxRecDepth 20000 in
theorem may_any (code : Int) (s : Stt) (h0 : 0 ≤ code) (h1 : code ≤ 999) (w : World) : Calls Tryd.prog 35 #[.int .i64 code, stV s] w fun e w' => e = .returned (.bool (mayB code s)) ∧ Below w.heap.size w w' := by
  obtain ⟨W, hW⟩ : ∃ W, W = w.alloc (.cells (stC s) 48) := ⟨_, rfl⟩
  have hB : Below w.heap.size w W := by subst hW; exact (Below.refl _ _).alloc (Nat.le_refl _) _
  have hL : Lies W w.heap.size (stC s) 48 := by subst hW; exact Lies.new w _ _
  have HSS : Hid (∀ wx, Below W.heap.size W wx → wx.cell? ⟨w.heap.size, 0, none⟩ = some (.int .i64 s.1) ∧ wx.cell? ⟨w.heap.size, 1, none⟩ = some (.int .i64 s.2.1) ∧ wx.cell? ⟨w.heap.size, 2, none⟩ = some (.int .i64 s.2.2)) := fun wx hb => by
    have := hL.below hb hL.lt
    exact ⟨this.cell 0, this.cell 1, this.cell 2⟩
  have HFB : Hid (∀ wx, Below W.heap.size W wx → Below w.heap.size w wx) := fun wx hb => hB.trans (hb.mono hB.size)
  have HWW : Hid (w.alloc (.cells #[.int .i64 s.1, .int .i64 s.2.1, .int .i64 s.2.2] 48) = W) := hW.symm
  have HIS : Hid (∀ w', Calls Tryd.prog 50 #[.agg #[.int .i64 s.1, .int .i64 s.2.1, .int .i64 s.2.2]] w' fun e w2 => e = .returned (.bool (isSt s)) ∧ Below w'.heap.size w' w2) := fun w' => isst_any s w'
  have HCL : Hid (∀ w', Calls Tryd.prog 51 #[.int .i64 code] w' fun e w2 => e = .returned (.int .i64 (code / 100)) ∧ w2 = w') := fun w' => class_any code h0 (by omega) w'
  have hgq := grdStt
  have heq := eqStt' s (0, 0, 0)
  have hS0 := HSS.out W (Below.refl _ _)
  clear hL hB hW
  unfold stV
  go_enter Tryd.func35, Tryd.ntmps35
  go_wp2_with fail
  rw [HWW.out]
  by_cases hs : s = (0, 0, 0)
  · have HXX : Hid (mayB code s = true) := by show _ = _; unfold mayB; rw [decide_eq_true hs]; rfl
    rw [decide_eq_true hs] at heq
    clear hs
    refine wp_region_late (fun wx => wx.cell? ⟨w.heap.size, 0, none⟩ = some (.int .i64 s.1) ∧ wx.cell? ⟨w.heap.size, 1, none⟩ = some (.int .i64 s.2.1) ∧ wx.cell? ⟨w.heap.size, 2, none⟩ = some (.int .i64 s.2.2)) 15 (by kernel_rfl) hS0 (fun hHeld => ?_)
    refine wpAnyE_tk (i := 0) (d := some 5) (v := ?_) rfl (by kernel_rfl) (by kernel_rfl) (by kernel_rfl) rfl (fun _ _ _ h => h) rfl rfl ?hy (by first | assumption | go_simp) ?_
    case hy => (intro w' hSw; (try dsimp only at hSw); go_simp <;> (first | with_reducible rfl | omega | skip))
    simp only [Act.put, List.setIfInBounds_toArray, List.set_cons_zero, List.set_cons_succ]
    refine wpAnyE_on (i := 1) (by kernel_rfl) rfl rfl ?_
    go_simp
    refine Calls.mono (none_any W.drew) ?_
    rintro e w1 ⟨rfl, hB1⟩
    have HB1 : Hid (Below W.heap.size W w1) := (Below.refl _ W).drew.trans hB1
    have hS1 := HSS.out _ HB1.out
    clear hB1
    refine ⟨hS1, ?_⟩
    unfold stV
    refine wpAnyE_tk (i := 2) (d := some 7) (v := .bool true) rfl (by kernel_rfl) (by kernel_rfl) (by kernel_rfl) rfl (fun _ _ _ h => h) rfl rfl ?hy (by first | assumption | go_simp) ?_
    case hy => (intro w' hSw; (try dsimp only at hSw); go_simp <;> (first | with_reducible rfl | omega | skip))
    simp only [Act.put, List.setIfInBounds_toArray, List.set_cons_zero, List.set_cons_succ]
    refine wpAnyE_tk (i := 3) (d := some 8) (v := .bool true) rfl (by kernel_rfl) (by kernel_rfl) (by kernel_rfl) rfl (fun _ _ _ h => h) rfl rfl ?hy (by first | assumption | go_simp) ?_
    case hy => (intro w' hSw; (try dsimp only at hSw); go_simp <;> (first | with_reducible rfl | omega | skip))
    simp only [Act.put, List.setIfInBounds_toArray, List.set_cons_zero, List.set_cons_succ]
    refine wpAnyE_sk (i := 4) (d := some 9) rfl (by kernel_rfl) (by kernel_rfl) (by kernel_rfl) rfl (fun _ _ _ h => h) rfl rfl (by first | assumption | go_simp) ?_
    simp only [Act.put, List.setIfInBounds_toArray, List.set_cons_zero, List.set_cons_succ]
    refine wpAnyE_sk (i := 5) (d := some 10) rfl (by kernel_rfl) (by kernel_rfl) (by kernel_rfl) rfl (fun _ _ _ h => h) rfl rfl (by first | assumption | go_simp) ?_
    simp only [Act.put, List.setIfInBounds_toArray, List.set_cons_zero, List.set_cons_succ]
    refine wpAnyE_sk (i := 6) (d := some 11) rfl (by kernel_rfl) (by kernel_rfl) (by kernel_rfl) rfl (fun _ _ _ h => h) rfl rfl (by first | assumption | go_simp) ?_
    simp only [Act.put, List.setIfInBounds_toArray, List.set_cons_zero, List.set_cons_succ]
    refine wpAnyE_sk (i := 7) (d := some 12) rfl (by kernel_rfl) (by kernel_rfl) (by kernel_rfl) rfl (fun _ _ _ h => h) rfl rfl (by first | assumption | go_simp) ?_
    simp only [Act.put, List.setIfInBounds_toArray, List.set_cons_zero, List.set_cons_succ]
    refine wpAnyE_sk (i := 8) (d := some 13) rfl (by kernel_rfl) (by kernel_rfl) (by kernel_rfl) rfl (fun _ _ _ h => h) rfl rfl (by first | assumption | go_simp) ?_
    simp only [Act.put, List.setIfInBounds_toArray, List.set_cons_zero, List.set_cons_succ]
    refine wpAnyE_sk (i := 9) (d := some 14) rfl (by kernel_rfl) (by kernel_rfl) (by kernel_rfl) rfl (fun _ _ _ h => h) rfl rfl (by first | assumption | go_simp) ?_
    simp only [Act.put, List.setIfInBounds_toArray, List.set_cons_zero, List.set_cons_succ]
    refine wpAnyE_sk (i := 10) (d := some 15) rfl (by kernel_rfl) (by kernel_rfl) (by kernel_rfl) rfl (fun _ _ _ h => h) rfl rfl (by first | assumption | go_simp) ?_
    simp only [Act.put, List.setIfInBounds_toArray, List.set_cons_zero, List.set_cons_succ]
    refine wpAnyE_sk (i := 11) (d := some 16) rfl (by kernel_rfl) (by kernel_rfl) (by kernel_rfl) rfl (fun _ _ _ h => h) rfl rfl (by first | assumption | go_simp) ?_
    simp only [Act.put, List.setIfInBounds_toArray, List.set_cons_zero, List.set_cons_succ]
    refine wpAnyE_sk (i := 12) (d := some 17) rfl (by kernel_rfl) (by kernel_rfl) (by kernel_rfl) rfl (fun _ _ _ h => h) rfl rfl (by first | assumption | go_simp) ?_
    simp only [Act.put, List.setIfInBounds_toArray, List.set_cons_zero, List.set_cons_succ]
    refine wpAnyE_tk (i := 13) (d := some 18) (v := .bool true) rfl (by kernel_rfl) (by kernel_rfl) (by kernel_rfl) rfl (fun _ _ _ h => h) rfl rfl ?hy (by first | assumption | go_simp) ?_
    case hy => (intro w' hSw; (try dsimp only at hSw); go_simp <;> (first | with_reducible rfl | omega | skip))
    simp only [Act.put, List.setIfInBounds_toArray, List.set_cons_zero, List.set_cons_succ]
    refine wpAnyE_tk (i := 14) (d := some 4) (v := .bool true) rfl (by kernel_rfl) (by kernel_rfl) (by kernel_rfl) rfl (fun _ _ _ h => h) rfl rfl ?hy (by first | assumption | go_simp) ?_
    case hy => (intro w' hSw; (try dsimp only at hSw); go_simp <;> (first | with_reducible rfl | omega | skip))
    simp only [Act.put, List.setIfInBounds_toArray, List.set_cons_zero, List.set_cons_succ]
    refine wpAnyE_done (by kernel_rfl) ?_ _
    clear hHeld
    go_wp2
    go_ret
    exact ⟨by rw [HXX.out]; rfl, HFB.out _ HB1.out⟩
  · rw [decide_eq_false hs] at heq
    have HNS : Hid (s ≠ (0, 0, 0)) := hs
    clear hs
    cases hi : isSt s with
    | false =>
      have HXX : Hid (mayB code s = false) := by show _ = _; unfold mayB; rw [decide_eq_false HNS.out, hi]; rfl
      rw [hi] at HIS
      refine wp_region_late (fun wx => wx.cell? ⟨w.heap.size, 0, none⟩ = some (.int .i64 s.1) ∧ wx.cell? ⟨w.heap.size, 1, none⟩ = some (.int .i64 s.2.1) ∧ wx.cell? ⟨w.heap.size, 2, none⟩ = some (.int .i64 s.2.2)) 15 (by kernel_rfl) hS0 (fun hHeld => ?_)
      refine wpAnyE_tk (i := 0) (d := some 5) (v := ?_) rfl (by kernel_rfl) (by kernel_rfl) (by kernel_rfl) rfl (fun _ _ _ h => h) rfl rfl ?hy (by first | assumption | go_simp) ?_
      case hy => (intro w' hSw; (try dsimp only at hSw); go_simp <;> (first | with_reducible rfl | omega | skip))
      simp only [Act.put, List.setIfInBounds_toArray, List.set_cons_zero, List.set_cons_succ]
      refine wpAnyE_on (i := 1) (by kernel_rfl) rfl rfl ?_
      go_simp
      refine Calls.mono (none_any W.drew) ?_
      rintro e w1 ⟨rfl, hB1⟩
      have HB1 : Hid (Below W.heap.size W w1) := (Below.refl _ W).drew.trans hB1
      have hS1 := HSS.out _ HB1.out
      clear hB1
      refine ⟨hS1, ?_⟩
      unfold stV
      refine wpAnyE_tk (i := 2) (d := some 7) (v := .bool false) rfl (by kernel_rfl) (by kernel_rfl) (by kernel_rfl) rfl (fun _ _ _ h => h) rfl rfl ?hy (by first | assumption | go_simp) ?_
      case hy => (intro w' hSw; (try dsimp only at hSw); go_simp <;> (first | with_reducible rfl | omega | skip))
      simp only [Act.put, List.setIfInBounds_toArray, List.set_cons_zero, List.set_cons_succ]
      refine wpAnyE_tk (i := 3) (d := some 8) (v := .bool false) rfl (by kernel_rfl) (by kernel_rfl) (by kernel_rfl) rfl (fun _ _ _ h => h) rfl rfl ?hy (by first | assumption | go_simp) ?_
      case hy => (intro w' hSw; (try dsimp only at hSw); go_simp <;> (first | with_reducible rfl | omega | skip))
      simp only [Act.put, List.setIfInBounds_toArray, List.set_cons_zero, List.set_cons_succ]
      refine wpAnyE_tk (i := 4) (d := some 9) (v := .agg #[.int .i64 s.1, .int .i64 s.2.1, .int .i64 s.2.2]) rfl (by kernel_rfl) (by kernel_rfl) (by kernel_rfl) rfl (fun _ _ _ h => h) rfl rfl ?hy (by first | assumption | go_simp) ?_
      case hy => (intro w' hSw; (try dsimp only at hSw); go_simp <;> (first | with_reducible rfl | omega | skip))
      simp only [Act.put, List.setIfInBounds_toArray, List.set_cons_zero, List.set_cons_succ]
      refine wpAnyE_on (i := 5) (by kernel_rfl) rfl rfl ?_
      go_simp
      refine Calls.mono (HIS.out w1) ?_
      rintro e w2 ⟨rfl, hB2⟩
      have HB2 : Hid (Below W.heap.size W w2) := HB1.out.trans (hB2.mono HB1.out.size)
      have hS2 := HSS.out _ HB2.out
      clear hB2 hS1
      refine ⟨hS2, ?_⟩
      refine wpAnyE_tk (i := 6) (d := some 11) (v := .bool false) rfl (by kernel_rfl) (by kernel_rfl) (by kernel_rfl) rfl (fun _ _ _ h => h) rfl rfl ?hy (by first | assumption | go_simp) ?_
      case hy => (intro w' hSw; (try dsimp only at hSw); go_simp <;> (first | with_reducible rfl | omega | skip))
      simp only [Act.put, List.setIfInBounds_toArray, List.set_cons_zero, List.set_cons_succ]
      refine wpAnyE_sk (i := 7) (d := some 12) rfl (by kernel_rfl) (by kernel_rfl) (by kernel_rfl) rfl (fun _ _ _ h => h) rfl rfl (by first | assumption | go_simp) ?_
      simp only [Act.put, List.setIfInBounds_toArray, List.set_cons_zero, List.set_cons_succ]
      refine wpAnyE_sk (i := 8) (d := some 13) rfl (by kernel_rfl) (by kernel_rfl) (by kernel_rfl) rfl (fun _ _ _ h => h) rfl rfl (by first | assumption | go_simp) ?_
      simp only [Act.put, List.setIfInBounds_toArray, List.set_cons_zero, List.set_cons_succ]
      refine wpAnyE_sk (i := 9) (d := some 14) rfl (by kernel_rfl) (by kernel_rfl) (by kernel_rfl) rfl (fun _ _ _ h => h) rfl rfl (by first | assumption | go_simp) ?_
      simp only [Act.put, List.setIfInBounds_toArray, List.set_cons_zero, List.set_cons_succ]
      refine wpAnyE_sk (i := 10) (d := some 15) rfl (by kernel_rfl) (by kernel_rfl) (by kernel_rfl) rfl (fun _ _ _ h => h) rfl rfl (by first | assumption | go_simp) ?_
      simp only [Act.put, List.setIfInBounds_toArray, List.set_cons_zero, List.set_cons_succ]
      refine wpAnyE_sk (i := 11) (d := some 16) rfl (by kernel_rfl) (by kernel_rfl) (by kernel_rfl) rfl (fun _ _ _ h => h) rfl rfl (by first | assumption | go_simp) ?_
      simp only [Act.put, List.setIfInBounds_toArray, List.set_cons_zero, List.set_cons_succ]
      refine wpAnyE_tk (i := 12) (d := some 17) (v := .bool false) rfl (by kernel_rfl) (by kernel_rfl) (by kernel_rfl) rfl (fun _ _ _ h => h) rfl rfl ?hy (by first | assumption | go_simp) ?_
      case hy => (intro w' hSw; (try dsimp only at hSw); go_simp <;> (first | with_reducible rfl | omega | skip))
      simp only [Act.put, List.setIfInBounds_toArray, List.set_cons_zero, List.set_cons_succ]
      refine wpAnyE_tk (i := 13) (d := some 18) (v := .bool false) rfl (by kernel_rfl) (by kernel_rfl) (by kernel_rfl) rfl (fun _ _ _ h => h) rfl rfl ?hy (by first | assumption | go_simp) ?_
      case hy => (intro w' hSw; (try dsimp only at hSw); go_simp <;> (first | with_reducible rfl | omega | skip))
      simp only [Act.put, List.setIfInBounds_toArray, List.set_cons_zero, List.set_cons_succ]
      refine wpAnyE_tk (i := 14) (d := some 4) (v := .bool false) rfl (by kernel_rfl) (by kernel_rfl) (by kernel_rfl) rfl (fun _ _ _ h => h) rfl rfl ?hy (by first | assumption | go_simp) ?_
      case hy => (intro w' hSw; (try dsimp only at hSw); go_simp <;> (first | with_reducible rfl | omega | skip))
      simp only [Act.put, List.setIfInBounds_toArray, List.set_cons_zero, List.set_cons_succ]
      refine wpAnyE_done (by kernel_rfl) ?_ _
      clear hHeld
      go_wp2
      go_ret
      exact ⟨by rw [HXX.out]; rfl, HFB.out _ HB2.out⟩
    | true =>
      have HXX : Hid (mayB code s = (s.1 == code / 100)) := by show _ = _; unfold mayB; rw [decide_eq_false HNS.out, hi, Bool.false_or, Bool.true_and]; rfl
      rw [hi] at HIS
      refine wp_region_late (fun wx => wx.cell? ⟨w.heap.size, 0, none⟩ = some (.int .i64 s.1) ∧ wx.cell? ⟨w.heap.size, 1, none⟩ = some (.int .i64 s.2.1) ∧ wx.cell? ⟨w.heap.size, 2, none⟩ = some (.int .i64 s.2.2)) 15 (by kernel_rfl) hS0 (fun hHeld => ?_)
      refine wpAnyE_tk (i := 0) (d := some 5) (v := ?_) rfl (by kernel_rfl) (by kernel_rfl) (by kernel_rfl) rfl (fun _ _ _ h => h) rfl rfl ?hy (by first | assumption | go_simp) ?_
      case hy => (intro w' hSw; (try dsimp only at hSw); go_simp <;> (first | with_reducible rfl | omega | skip))
      simp only [Act.put, List.setIfInBounds_toArray, List.set_cons_zero, List.set_cons_succ]
      refine wpAnyE_on (i := 1) (by kernel_rfl) rfl rfl ?_
      go_simp
      refine Calls.mono (none_any W.drew) ?_
      rintro e w1 ⟨rfl, hB1⟩
      have HB1 : Hid (Below W.heap.size W w1) := (Below.refl _ W).drew.trans hB1
      have hS1 := HSS.out _ HB1.out
      clear hB1
      refine ⟨hS1, ?_⟩
      unfold stV
      refine wpAnyE_tk (i := 2) (d := some 7) (v := .bool false) rfl (by kernel_rfl) (by kernel_rfl) (by kernel_rfl) rfl (fun _ _ _ h => h) rfl rfl ?hy (by first | assumption | go_simp) ?_
      case hy => (intro w' hSw; (try dsimp only at hSw); go_simp <;> (first | with_reducible rfl | omega | skip))
      simp only [Act.put, List.setIfInBounds_toArray, List.set_cons_zero, List.set_cons_succ]
      refine wpAnyE_tk (i := 3) (d := some 8) (v := .bool false) rfl (by kernel_rfl) (by kernel_rfl) (by kernel_rfl) rfl (fun _ _ _ h => h) rfl rfl ?hy (by first | assumption | go_simp) ?_
      case hy => (intro w' hSw; (try dsimp only at hSw); go_simp <;> (first | with_reducible rfl | omega | skip))
      simp only [Act.put, List.setIfInBounds_toArray, List.set_cons_zero, List.set_cons_succ]
      refine wpAnyE_tk (i := 4) (d := some 9) (v := .agg #[.int .i64 s.1, .int .i64 s.2.1, .int .i64 s.2.2]) rfl (by kernel_rfl) (by kernel_rfl) (by kernel_rfl) rfl (fun _ _ _ h => h) rfl rfl ?hy (by first | assumption | go_simp) ?_
      case hy => (intro w' hSw; (try dsimp only at hSw); go_simp <;> (first | with_reducible rfl | omega | skip))
      simp only [Act.put, List.setIfInBounds_toArray, List.set_cons_zero, List.set_cons_succ]
      refine wpAnyE_on (i := 5) (by kernel_rfl) rfl rfl ?_
      go_simp
      refine Calls.mono (HIS.out w1) ?_
      rintro e w2 ⟨rfl, hB2⟩
      have HB2 : Hid (Below W.heap.size W w2) := HB1.out.trans (hB2.mono HB1.out.size)
      have hS2 := HSS.out _ HB2.out
      clear hB2 hS1
      refine ⟨hS2, ?_⟩
      refine wpAnyE_tk (i := 6) (d := some 11) (v := .bool true) rfl (by kernel_rfl) (by kernel_rfl) (by kernel_rfl) rfl (fun _ _ _ h => h) rfl rfl ?hy (by first | assumption | go_simp) ?_
      case hy => (intro w' hSw; (try dsimp only at hSw); go_simp <;> (first | with_reducible rfl | omega | skip))
      simp only [Act.put, List.setIfInBounds_toArray, List.set_cons_zero, List.set_cons_succ]
      refine wpAnyE_tk (i := 7) (d := some 12) (v := ?_) rfl (by kernel_rfl) (by kernel_rfl) (by kernel_rfl) rfl (fun _ _ _ h => h) rfl rfl ?hy (by first | assumption | go_simp) ?_
      case hy => (intro w' hSw; (try dsimp only at hSw); go_simp <;> (first | with_reducible rfl | omega | skip))
      simp only [Act.put, List.setIfInBounds_toArray, List.set_cons_zero, List.set_cons_succ]
      refine wpAnyE_tk (i := 8) (d := some 13) (v := ?_) rfl (by kernel_rfl) (by kernel_rfl) (by kernel_rfl) rfl (fun _ _ _ h => h) rfl rfl ?hy (by first | assumption | go_simp) ?_
      case hy => (intro w' hSw; (try dsimp only at hSw); go_simp <;> (first | with_reducible rfl | omega | skip))
      simp only [Act.put, List.setIfInBounds_toArray, List.set_cons_zero, List.set_cons_succ]
      refine wpAnyE_tk (i := 9) (d := some 14) (v := ?_) rfl (by kernel_rfl) (by kernel_rfl) (by kernel_rfl) rfl (fun _ _ _ h => h) rfl rfl ?hy (by first | assumption | go_simp) ?_
      case hy => (intro w' hSw; (try dsimp only at hSw); go_simp <;> (first | with_reducible rfl | omega | skip))
      simp only [Act.put, List.setIfInBounds_toArray, List.set_cons_zero, List.set_cons_succ]
      refine wpAnyE_on (i := 10) (by kernel_rfl) rfl rfl ?_
      go_simp
      refine Calls.mono (HCL.out w2) ?_
      rintro e w3 ⟨rfl, rfl⟩
      refine ⟨hS2, ?_⟩
      refine wpAnyE_tk (i := 11) (d := some 16) (v := .bool (s.1 == code / 100)) rfl (by kernel_rfl) (by kernel_rfl) (by kernel_rfl) rfl (fun _ _ _ h => h) rfl rfl ?hy (by first | assumption | go_simp) ?_
      case hy => (intro w' hSw; (try dsimp only at hSw); go_simp <;> (first | with_reducible rfl | omega | skip))
      simp only [Act.put, List.setIfInBounds_toArray, List.set_cons_zero, List.set_cons_succ]
      refine wpAnyE_tk (i := 12) (d := some 17) (v := .bool (s.1 == code / 100)) rfl (by kernel_rfl) (by kernel_rfl) (by kernel_rfl) rfl (fun _ _ _ h => h) rfl rfl ?hy (by first | assumption | go_simp) ?_
      case hy => (intro w' hSw; (try dsimp only at hSw); go_simp <;> (first | with_reducible rfl | omega | skip))
      simp only [Act.put, List.setIfInBounds_toArray, List.set_cons_zero, List.set_cons_succ]
      refine wpAnyE_tk (i := 13) (d := some 18) (v := .bool (s.1 == code / 100)) rfl (by kernel_rfl) (by kernel_rfl) (by kernel_rfl) rfl (fun _ _ _ h => h) rfl rfl ?hy (by first | assumption | go_simp) ?_
      case hy => (intro w' hSw; (try dsimp only at hSw); go_simp <;> (first | with_reducible rfl | omega | skip))
      simp only [Act.put, List.setIfInBounds_toArray, List.set_cons_zero, List.set_cons_succ]
      refine wpAnyE_tk (i := 14) (d := some 4) (v := .bool (s.1 == code / 100)) rfl (by kernel_rfl) (by kernel_rfl) (by kernel_rfl) rfl (fun _ _ _ h => h) rfl rfl ?hy (by first | assumption | go_simp) ?_
      case hy => (intro w' hSw; (try dsimp only at hSw); go_simp <;> (first | with_reducible rfl | omega | skip))
      simp only [Act.put, List.setIfInBounds_toArray, List.set_cons_zero, List.set_cons_succ]
      refine wpAnyE_done (by kernel_rfl) ?_ _
      clear hHeld
      go_wp2
      go_ret
      exact ⟨by rw [HXX.out]; rfl, HFB.out _ HB2.out⟩

theorem wr_len (s : Stt) (h : isSt s = true) : (wrSt s).length ≤ 11 := by
  have hb : (s.1 = 2 ∨ s.1 = 4 ∨ s.1 = 5) ∧ (0 ≤ s.2.1 ∧ s.2.1 ≤ 999) ∧ (0 ≤ s.2.2 ∧ s.2.2 ≤ 999) := by
    unfold isSt at h
    simp at h
    omega
  have l1 := dc_len s.1 (by omega)
  have l2 := dc_len s.2.1 (by omega)
  have l3 := dc_len s.2.2 (by omega)
  unfold wrSt
  simp only [List.length_append, List.length_singleton]
  omega
set_option maxHeartbeats 2000000 in
set_option maxRecDepth 20000 in
theorem head_any (x : Rx) (last : Bool) (h0 : 0 ≤ x.c) (h1 : x.c ≤ 999) (hsx : x.s = (0, 0, 0) ∨ isSt x.s = true) (w : World) (ht : Tb w) : Calls Tryd.prog 39 #[rxV x, .bool last] w fun e w' => e = .returned (.string (tx (hdL x.c x.s last))) ∧ Below w.heap.size w w' := by
  obtain ⟨W, hW⟩ : ∃ W, W = w.alloc (.cells (rxC x) 50) := ⟨_, rfl⟩
  have hB : Below w.heap.size w W := by subst hW; exact (Below.refl _ _).alloc (Nat.le_refl _) _
  have hL : Lies W w.heap.size (rxC x) 50 := by subst hW; exact Lies.new w _ _
  have HSS : Hid (∀ wx, Below W.heap.size W wx → wx.cell? ⟨w.heap.size, 1, none⟩ = some (.int .i64 x.s.1) ∧ wx.cell? ⟨w.heap.size, 2, none⟩ = some (.int .i64 x.s.2.1) ∧ wx.cell? ⟨w.heap.size, 3, none⟩ = some (.int .i64 x.s.2.2)) := fun wx hb => by
    have := hL.below hb hL.lt
    exact ⟨this.cell 1, this.cell 2, this.cell 3⟩
  have HFB : Hid (∀ wx, Below W.heap.size W wx → Below w.heap.size w wx) := fun wx hb => hB.trans (hb.mono hB.size)
  have HWW : Hid (w.alloc (.cells #[.int .i64 x.c, .int .i64 x.s.1, .int .i64 x.s.2.1, .int .i64 x.s.2.2, .slice x.a x.n x.k] 50) = W) := hW.symm
  have HDC : Hid (∀ w', w' = W → Calls Tryd.prog 48 #[.int .u64 x.c] w' fun e w2 => e = .returned (.string (tx (dcI x.c))) ∧ Below W.heap.size W w2) := fun w' e => by subst e; exact dc_any x.c h0 (by omega) _ (ht.on hB)
  have HWR : Hid (isSt x.s = true → ∀ w', Below W.heap.size W w' → Calls Tryd.prog 55 #[.agg #[.int .i64 x.s.1, .int .i64 x.s.2.1, .int .i64 x.s.2.2]] w' fun e w2 => e = .returned (.string (tx (wrSt x.s))) ∧ Below w'.heap.size w' w2) := fun h w' hb => writ_any x.s h w' ((ht.on hB).on hb)
  have hgq := grdStt
  have heq := eqStt' x.s (0, 0, 0)
  have hdl := dc_len x.c h1
  have hwr := wrap_u64 x.c h0 (by omega)
  clear hL hB hW ht
  unfold rxV
  cases last with
  | true =>
    have HMK : Hid (hdL x.c x.s true = dcI x.c ++ [32] ++ (if x.s = (0, 0, 0) then [] else wrSt x.s ++ [32])) := rfl
    have a1 := sadd (tx (dcI x.c)) ⟨#[32]⟩ (by rw [tx_size, show (⟨#[32]⟩ : ByteArray).size = 1 from rfl]; omega)
    have e1 : tx (dcI x.c) ++ ⟨#[32]⟩ = tx (dcI x.c ++ [32]) := tx_cat (dcI x.c) [32]
    rw [e1] at a1
    have enc : Utf8.encode 32 = ⟨#[32]⟩ := by rfl
    have hl1 : (tx (dcI x.c ++ [32])).size ≤ 4 := by rw [tx_size, List.length_append]; simp; omega
    go_enter Tryd.func39, Tryd.ntmps39
    go_wp2_with fail
    rw [HWW.out]
    refine (HDC.out W rfl).mono ?_
    rintro e w1 ⟨rfl, hB1⟩
    have HB1 : Hid (Below W.heap.size W w1) := hB1
    have hS1 := HSS.out _ HB1.out
    clear hB1 HDC
    go_wp2_with fail
    by_cases hs : x.s = (0, 0, 0)
    · have HXX : Hid (hdL x.c x.s true = dcI x.c ++ [32]) := by show _ = _; rw [HMK.out, if_pos hs, List.append_nil]
      rw [decide_eq_true hs] at heq
      clear HMK hs hsx
      refine wp_region_late (fun wx => wx.cell? ⟨w.heap.size, 1, none⟩ = some (.int .i64 x.s.1) ∧ wx.cell? ⟨w.heap.size, 2, none⟩ = some (.int .i64 x.s.2.1) ∧ wx.cell? ⟨w.heap.size, 3, none⟩ = some (.int .i64 x.s.2.2)) 4 (by kernel_rfl) hS1 (fun hHeld => ?_)
      refine wpAnyE_tk (i := 0) (d := some 15) (v := ?_) rfl (by kernel_rfl) (by kernel_rfl) (by kernel_rfl) rfl (fun _ _ _ h => h) rfl rfl ?hy (by first | assumption | go_simp) ?_
      case hy => (intro w' hSw; (try dsimp only at hSw); go_simp <;> (first | with_reducible rfl | omega | skip))
      simp only [Act.put, List.setIfInBounds_toArray, List.set_cons_zero, List.set_cons_succ]
      refine wpAnyE_tk (i := 1) (d := some 16) (v := ?_) rfl (by kernel_rfl) (by kernel_rfl) (by kernel_rfl) rfl (fun _ _ _ h => h) rfl rfl ?hy (by first | assumption | go_simp) ?_
      case hy => (intro w' hSw; (try dsimp only at hSw); go_simp <;> (first | with_reducible rfl | omega | skip))
      simp only [Act.put, List.setIfInBounds_toArray, List.set_cons_zero, List.set_cons_succ]
      refine wpAnyE_on (i := 2) (by kernel_rfl) rfl rfl ?_
      go_simp
      refine Calls.mono (none_any w1.drew) ?_
      rintro e w2 ⟨rfl, hB2⟩
      have HB2 : Hid (Below W.heap.size W w2) := HB1.out.trans (((Below.refl _ w1).drew.trans hB2).mono HB1.out.size)
      have hS2 := HSS.out _ HB2.out
      clear hB2 hS1
      refine ⟨hS2, ?_⟩
      unfold stV
      refine wpAnyE_tk (i := 3) (d := some 18) (v := .bool false) rfl (by kernel_rfl) (by kernel_rfl) (by kernel_rfl) rfl (fun _ _ _ h => h) rfl rfl ?hy (by first | assumption | go_simp) ?_
      case hy => (intro w' hSw; (try dsimp only at hSw); go_simp <;> (first | with_reducible rfl | omega | skip))
      simp only [Act.put, List.setIfInBounds_toArray, List.set_cons_zero, List.set_cons_succ]
      refine wpAnyE_done (by kernel_rfl) ?_ _
      clear hHeld
      clear hS2
      go_wp2
      go_ret
      exact ⟨by rw [HXX.out]; rfl, HFB.out _ HB2.out⟩
    · have hst : isSt x.s = true := by rcases hsx with h | h; exact absurd h hs; exact h
      have HXX : Hid (hdL x.c x.s true = dcI x.c ++ [32] ++ (wrSt x.s ++ [32])) := by show _ = _; rw [HMK.out, if_neg hs]
      have HWR1 := HWR.out hst
      have hw1 := wr_len x.s hst
      have a2 := sadd (tx (wrSt x.s)) ⟨#[32]⟩ (by rw [tx_size, show (⟨#[32]⟩ : ByteArray).size = 1 from rfl]; omega)
      have e2 : tx (wrSt x.s) ++ ⟨#[32]⟩ = tx (wrSt x.s ++ [32]) := tx_cat _ [32]
      rw [e2] at a2
      have a3 := sadd (tx (dcI x.c ++ [32])) (tx (wrSt x.s ++ [32])) (by rw [tx_size (wrSt x.s ++ [32]), List.length_append]; simp; omega)
      rw [tx_cat] at a3
      rw [decide_eq_false hs] at heq
      clear HMK hw1 e2 hs hsx
      refine wp_region_late (fun wx => wx.cell? ⟨w.heap.size, 1, none⟩ = some (.int .i64 x.s.1) ∧ wx.cell? ⟨w.heap.size, 2, none⟩ = some (.int .i64 x.s.2.1) ∧ wx.cell? ⟨w.heap.size, 3, none⟩ = some (.int .i64 x.s.2.2)) 4 (by kernel_rfl) hS1 (fun hHeld => ?_)
      refine wpAnyE_tk (i := 0) (d := some 15) (v := ?_) rfl (by kernel_rfl) (by kernel_rfl) (by kernel_rfl) rfl (fun _ _ _ h => h) rfl rfl ?hy (by first | assumption | go_simp) ?_
      case hy => (intro w' hSw; (try dsimp only at hSw); go_simp <;> (first | with_reducible rfl | omega | skip))
      simp only [Act.put, List.setIfInBounds_toArray, List.set_cons_zero, List.set_cons_succ]
      refine wpAnyE_tk (i := 1) (d := some 16) (v := ?_) rfl (by kernel_rfl) (by kernel_rfl) (by kernel_rfl) rfl (fun _ _ _ h => h) rfl rfl ?hy (by first | assumption | go_simp) ?_
      case hy => (intro w' hSw; (try dsimp only at hSw); go_simp <;> (first | with_reducible rfl | omega | skip))
      simp only [Act.put, List.setIfInBounds_toArray, List.set_cons_zero, List.set_cons_succ]
      refine wpAnyE_on (i := 2) (by kernel_rfl) rfl rfl ?_
      go_simp
      refine Calls.mono (none_any w1.drew) ?_
      rintro e w2 ⟨rfl, hB2⟩
      have HB2 : Hid (Below W.heap.size W w2) := HB1.out.trans (((Below.refl _ w1).drew.trans hB2).mono HB1.out.size)
      have hS2 := HSS.out _ HB2.out
      clear hB2 hS1
      refine ⟨hS2, ?_⟩
      unfold stV
      refine wpAnyE_tk (i := 3) (d := some 18) (v := .bool true) rfl (by kernel_rfl) (by kernel_rfl) (by kernel_rfl) rfl (fun _ _ _ h => h) rfl rfl ?hy (by first | assumption | go_simp) ?_
      case hy => (intro w' hSw; (try dsimp only at hSw); go_simp <;> (first | with_reducible rfl | omega | skip))
      simp only [Act.put, List.setIfInBounds_toArray, List.set_cons_zero, List.set_cons_succ]
      refine wpAnyE_done (by kernel_rfl) ?_ _
      clear hHeld
      obtain ⟨r1, r2, r3⟩ := hS2
      go_wp2_with fail
      refine (HWR1 w2 HB2.out).mono ?_
      rintro e w3 ⟨rfl, hB3⟩
      have HB3 : Hid (Below W.heap.size W w3) := HB2.out.trans (hB3.mono HB2.out.size)
      clear hB3
      go_wp2
      go_ret
      exact ⟨by rw [HXX.out, List.append_assoc]; rfl, HFB.out _ HB3.out⟩
  | false =>
    have HMK : Hid (hdL x.c x.s false = dcI x.c ++ [45] ++ (if x.s = (0, 0, 0) then [] else wrSt x.s ++ [32])) := rfl
    have a1 := sadd (tx (dcI x.c)) ⟨#[45]⟩ (by rw [tx_size, show (⟨#[45]⟩ : ByteArray).size = 1 from rfl]; omega)
    have e1 : tx (dcI x.c) ++ ⟨#[45]⟩ = tx (dcI x.c ++ [45]) := tx_cat (dcI x.c) [45]
    rw [e1] at a1
    have enc : Utf8.encode 45 = ⟨#[45]⟩ := by rfl
    have hl1 : (tx (dcI x.c ++ [45])).size ≤ 4 := by rw [tx_size, List.length_append]; simp; omega
    go_enter Tryd.func39, Tryd.ntmps39
    go_wp2_with fail
    rw [HWW.out]
    refine (HDC.out W rfl).mono ?_
    rintro e w1 ⟨rfl, hB1⟩
    have HB1 : Hid (Below W.heap.size W w1) := hB1
    have hS1 := HSS.out _ HB1.out
    clear hB1 HDC
    go_wp2_with fail
    by_cases hs : x.s = (0, 0, 0)
    · have HXX : Hid (hdL x.c x.s false = dcI x.c ++ [45]) := by show _ = _; rw [HMK.out, if_pos hs, List.append_nil]
      rw [decide_eq_true hs] at heq
      clear HMK hs hsx
      refine wp_region_late (fun wx => wx.cell? ⟨w.heap.size, 1, none⟩ = some (.int .i64 x.s.1) ∧ wx.cell? ⟨w.heap.size, 2, none⟩ = some (.int .i64 x.s.2.1) ∧ wx.cell? ⟨w.heap.size, 3, none⟩ = some (.int .i64 x.s.2.2)) 4 (by kernel_rfl) hS1 (fun hHeld => ?_)
      refine wpAnyE_tk (i := 0) (d := some 15) (v := ?_) rfl (by kernel_rfl) (by kernel_rfl) (by kernel_rfl) rfl (fun _ _ _ h => h) rfl rfl ?hy (by first | assumption | go_simp) ?_
      case hy => (intro w' hSw; (try dsimp only at hSw); go_simp <;> (first | with_reducible rfl | omega | skip))
      simp only [Act.put, List.setIfInBounds_toArray, List.set_cons_zero, List.set_cons_succ]
      refine wpAnyE_tk (i := 1) (d := some 16) (v := ?_) rfl (by kernel_rfl) (by kernel_rfl) (by kernel_rfl) rfl (fun _ _ _ h => h) rfl rfl ?hy (by first | assumption | go_simp) ?_
      case hy => (intro w' hSw; (try dsimp only at hSw); go_simp <;> (first | with_reducible rfl | omega | skip))
      simp only [Act.put, List.setIfInBounds_toArray, List.set_cons_zero, List.set_cons_succ]
      refine wpAnyE_on (i := 2) (by kernel_rfl) rfl rfl ?_
      go_simp
      refine Calls.mono (none_any w1.drew) ?_
      rintro e w2 ⟨rfl, hB2⟩
      have HB2 : Hid (Below W.heap.size W w2) := HB1.out.trans (((Below.refl _ w1).drew.trans hB2).mono HB1.out.size)
      have hS2 := HSS.out _ HB2.out
      clear hB2 hS1
      refine ⟨hS2, ?_⟩
      unfold stV
      refine wpAnyE_tk (i := 3) (d := some 18) (v := .bool false) rfl (by kernel_rfl) (by kernel_rfl) (by kernel_rfl) rfl (fun _ _ _ h => h) rfl rfl ?hy (by first | assumption | go_simp) ?_
      case hy => (intro w' hSw; (try dsimp only at hSw); go_simp <;> (first | with_reducible rfl | omega | skip))
      simp only [Act.put, List.setIfInBounds_toArray, List.set_cons_zero, List.set_cons_succ]
      refine wpAnyE_done (by kernel_rfl) ?_ _
      clear hHeld
      clear hS2
      go_wp2
      go_ret
      exact ⟨by rw [HXX.out]; rfl, HFB.out _ HB2.out⟩
    · have hst : isSt x.s = true := by rcases hsx with h | h; exact absurd h hs; exact h
      have HXX : Hid (hdL x.c x.s false = dcI x.c ++ [45] ++ (wrSt x.s ++ [32])) := by show _ = _; rw [HMK.out, if_neg hs]
      have HWR1 := HWR.out hst
      have hw1 := wr_len x.s hst
      have a2 := sadd (tx (wrSt x.s)) ⟨#[32]⟩ (by rw [tx_size, show (⟨#[32]⟩ : ByteArray).size = 1 from rfl]; omega)
      have e2 : tx (wrSt x.s) ++ ⟨#[32]⟩ = tx (wrSt x.s ++ [32]) := tx_cat _ [32]
      rw [e2] at a2
      have a3 := sadd (tx (dcI x.c ++ [45])) (tx (wrSt x.s ++ [32])) (by rw [tx_size (wrSt x.s ++ [32]), List.length_append]; simp; omega)
      rw [tx_cat] at a3
      rw [decide_eq_false hs] at heq
      clear HMK hw1 e2 hs hsx
      refine wp_region_late (fun wx => wx.cell? ⟨w.heap.size, 1, none⟩ = some (.int .i64 x.s.1) ∧ wx.cell? ⟨w.heap.size, 2, none⟩ = some (.int .i64 x.s.2.1) ∧ wx.cell? ⟨w.heap.size, 3, none⟩ = some (.int .i64 x.s.2.2)) 4 (by kernel_rfl) hS1 (fun hHeld => ?_)
      refine wpAnyE_tk (i := 0) (d := some 15) (v := ?_) rfl (by kernel_rfl) (by kernel_rfl) (by kernel_rfl) rfl (fun _ _ _ h => h) rfl rfl ?hy (by first | assumption | go_simp) ?_
      case hy => (intro w' hSw; (try dsimp only at hSw); go_simp <;> (first | with_reducible rfl | omega | skip))
      simp only [Act.put, List.setIfInBounds_toArray, List.set_cons_zero, List.set_cons_succ]
      refine wpAnyE_tk (i := 1) (d := some 16) (v := ?_) rfl (by kernel_rfl) (by kernel_rfl) (by kernel_rfl) rfl (fun _ _ _ h => h) rfl rfl ?hy (by first | assumption | go_simp) ?_
      case hy => (intro w' hSw; (try dsimp only at hSw); go_simp <;> (first | with_reducible rfl | omega | skip))
      simp only [Act.put, List.setIfInBounds_toArray, List.set_cons_zero, List.set_cons_succ]
      refine wpAnyE_on (i := 2) (by kernel_rfl) rfl rfl ?_
      go_simp
      refine Calls.mono (none_any w1.drew) ?_
      rintro e w2 ⟨rfl, hB2⟩
      have HB2 : Hid (Below W.heap.size W w2) := HB1.out.trans (((Below.refl _ w1).drew.trans hB2).mono HB1.out.size)
      have hS2 := HSS.out _ HB2.out
      clear hB2 hS1
      refine ⟨hS2, ?_⟩
      unfold stV
      refine wpAnyE_tk (i := 3) (d := some 18) (v := .bool true) rfl (by kernel_rfl) (by kernel_rfl) (by kernel_rfl) rfl (fun _ _ _ h => h) rfl rfl ?hy (by first | assumption | go_simp) ?_
      case hy => (intro w' hSw; (try dsimp only at hSw); go_simp <;> (first | with_reducible rfl | omega | skip))
      simp only [Act.put, List.setIfInBounds_toArray, List.set_cons_zero, List.set_cons_succ]
      refine wpAnyE_done (by kernel_rfl) ?_ _
      clear hHeld
      obtain ⟨r1, r2, r3⟩ := hS2
      go_wp2_with fail
      refine (HWR1 w2 HB2.out).mono ?_
      rintro e w3 ⟨rfl, hB3⟩
      have HB3 : Hid (Below W.heap.size W w3) := HB2.out.trans (hB3.mono HB2.out.size)
      clear hB3
      go_wp2
      go_ret
      exact ⟨by rw [HXX.out, List.append_assoc]; rfl, HFB.out _ HB3.out⟩
end Go.Proofs.YtbfgefgadplcjaaDoor
