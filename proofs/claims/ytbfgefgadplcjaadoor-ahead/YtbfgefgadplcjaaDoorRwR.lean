/-
  A ring's places laid anew, more of them.
-/
import Derived.Test.YtbfgefgadplcjaaDoorRpR
import Derived.Test.YtbfgefgadplcjaaDoorCpy
namespace Go.Proofs.YtbfgefgadplcjaaDoor
open Go.RowKit

theorem oneR : ∀ x, ∀ v ∈ celR x, v.oneCell' = true := by
  intro x v hv
  unfold celR at hv
  simp at hv
  rcases hv with rfl | rfl | rfl | rfl | rfl <;> rfl
theorem infoER : (Tryd.prog.info? 50).map (fun i => (i.zero, i.size, i.bytes)) = some (some (Value.agg #[.int .i64 0, .int .i64 0, .int .i64 0, .int .i64 0, .slice none 0 0]), 5, 56) := by kernel_rfl
theorem sizeER : (Tryd.prog.info? 50).map (·.size) = some 5 := by kernel_rfl
theorem zeroR_run (w : World) : (zeroValue 50).run Tryd.prog w = .ok (Value.agg #[.int .i64 0, .int .i64 0, .int .i64 0, .int .i64 0, .slice none 0 0]) w := by kernel_rfl
/-- What make lays. -/
def zerR (n : Nat) : Array Value := ((List.replicate n (Rx.nil : Rx)).flatMap celR).toArray
theorem makeR_run (n : Nat) (hn : n ≤ 1048576) (w : World) : (Instr.makeSlice 29 (.int .i64 (n : Int)) (.int .i64 (n : Int))).run Tryd.prog w = .ok (.slice (some ⟨w.heap.size, 0, none⟩) n n) (w.alloc (.cells (zerR n) 50)) := by
  obtain ⟨i, hi, hz0, hz1, hz2⟩ := info_parts infoER
  have := run_makeSlice w 29 50 i _ Tryd.underlying29 hi hz0 .i64 .i64 (n : Int) (n : Int) (by omega) (Int.le_refl _) (by rw [hz1]; simp; omega) (by rw [hz2]; omega) (by omega)
  rw [this, hz1]
  have e := made_flat celR_length (by decide) (Rx.nil : Rx) n
  simp only [Int.toNat_natCast]
  unfold zerR
  rw [← e]
  rfl

set_option maxRecDepth 20000 in
set_option maxHeartbeats 2000000 in
theorem growR_none (b most : Nat) (w : World) (h : GdR w b none most [] 0 0) :
    Calls Tryd.prog 59 #[.pointer (some ⟨b, 0, none⟩)] w fun e w' => e = .returned (.tuple #[]) ∧ GdR w' b (some w.heap.size) most [Rx.nil] 0 0 ∧ Chg (· = b) w w' := by
  have hlt := h.lies.lt
  have c0 := h.cells.1
  have c1 := h.cells.2.1
  have hl := h.lid
  have hpos := h.pos
  unfold plc at c1
  dsimp only at c1
  obtain ⟨w1, hw1⟩ : ∃ w1, w1 = (w.alloc (.cells (zerR 1) 50)).drew := ⟨_, rfl⟩
  have hmk : ∀ w, (Instr.makeSlice 29 (.int .i64 (1 : Int)) (.int .i64 (1 : Int))).run Tryd.prog w = .ok (.slice (some ⟨w.heap.size, 0, none⟩) 1 1) (w.alloc (.cells (zerR 1) 50)) := makeR_run 1 (by omega)
  have h1 : GdR w1 b none most [] 0 0 := by subst hw1; exact h.of (Below.heap_alloc _ _ _ hlt) (fun g e => by cases e)
  have hG1 : Lies w1 w.heap.size ((List.replicate 1 (Rx.nil : Rx)).flatMap celR).toArray 50 := by subst hw1; exact Lies.new w (zerR 1) _
  have HC : Hid (Chg (· = b) w w1) := by subst hw1; exact ((Chg.refl _ _).alloc _).drew
  have hne : Hid (b ≠ w.heap.size) := Nat.ne_of_lt hlt
  have HZ : Hid (w1.heap.size = w.heap.size + 1) := by subst hw1; exact World.size_alloc _ _
  have HP : Hid (Calls Tryd.prog 68 #[.pointer (some ⟨b, 0, none⟩), .int .i64 0] w1 fun e w' => e = .returned (.tuple #[.slice none 0 0, .slice none 0 0]) ∧ ∃ n, w' = w1.drewN n) := piecesR_none b most 0 0 _ h1
  have hm : min (1 : Int) (most : Int) = 1 := by omega
  have hm3 : (if (1 : Int) < (most : Int) then (1 : Int) else (most : Int)) = 1 := by split <;> omega
  have hm2 : (if (most : Int) < (1 : Int) then (most : Int) else (1 : Int)) = 1 := by split <;> omega
  have hw0 : IntKind.i64.wrap 0 = 0 := rfl
  have HG1 : Hid (Lies w1 w.heap.size ((List.replicate 1 (Rx.nil : Rx)).flatMap celR).toArray 50) := hG1
  have C01 : w1.cell? ⟨b, 1, none⟩ = some (plc none [].length) ∧ w1.cell? ⟨b, 0, none⟩ = some (.int .i64 (most : Int)) := ⟨h1.cells.2.1, h1.cells.1⟩
  unfold plc at C01
  dsimp only at C01
  have C3 : w1.cell? ⟨b, 3, none⟩ = some (.int .i64 0) := h1.cells.2.2.2
  have HB1 : Hid (Lies w1 b #[.int .i64 (most : Int), plc none [].length, .int .i64 (0 : Int), .int .i64 0] 87) := h1.lies
  clear h h1 hG1
  go_enter Tryd.func59, Tryd.ntmps59
  go_wp2_with fail
  refine wp_region_late (fun wx => wx.cell? ⟨b, 1, none⟩ = some (.slice none 0 0) ∧ wx.cell? ⟨b, 0, none⟩ = some (.int .i64 (most : Int))) 14 (by kernel_rfl) ⟨c1, c0⟩ (fun hHeld => ?_)
  refine wpAnyE_tk (i := 0) (d := some 5) (v := ?_) rfl (by kernel_rfl) (by kernel_rfl) (by kernel_rfl) rfl (fun _ _ _ h => h) rfl rfl ?hy (by first | assumption | go_simp) ?_
  case hy => (intro w' hSw; (try dsimp only at hSw); go_simp <;> (first | with_reducible rfl | omega | skip))
  simp only [Act.put, List.setIfInBounds_toArray, List.set_cons_zero, List.set_cons_succ]
  refine wpAnyE_tk (i := 1) (d := some 6) (v := ?_) rfl (by kernel_rfl) (by kernel_rfl) (by kernel_rfl) rfl (fun _ _ _ h => h) rfl rfl ?hy (by first | assumption | go_simp) ?_
  case hy => (intro w' hSw; (try dsimp only at hSw); go_simp <;> (first | with_reducible rfl | omega | skip))
  simp only [Act.put, List.setIfInBounds_toArray, List.set_cons_zero, List.set_cons_succ]
  refine wpAnyE_tk (i := 2) (d := some 7) (v := ?_) rfl (by kernel_rfl) (by kernel_rfl) (by kernel_rfl) rfl (fun _ _ _ h => h) rfl rfl ?hy (by first | assumption | go_simp) ?_
  case hy => (intro w' hSw; (try dsimp only at hSw); go_simp <;> (first | with_reducible rfl | omega | skip))
  simp only [Act.put, List.setIfInBounds_toArray, List.set_cons_zero, List.set_cons_succ]
  refine wpAnyE_tk (i := 3) (d := some 8) (v := ?_) rfl (by kernel_rfl) (by kernel_rfl) (by kernel_rfl) rfl (fun _ _ _ h => h) rfl rfl ?hy (by first | assumption | go_simp) ?_
  case hy => (intro w' hSw; (try dsimp only at hSw); go_simp <;> (first | with_reducible rfl | omega | skip))
  simp only [Act.put, List.setIfInBounds_toArray, List.set_cons_zero, List.set_cons_succ]
  refine wpAnyE_tk (i := 4) (d := some 9) (v := ?_) rfl (by kernel_rfl) (by kernel_rfl) (by kernel_rfl) rfl (fun _ _ _ h => h) rfl rfl ?hy (by first | assumption | go_simp) ?_
  case hy => (intro w' hSw; (try dsimp only at hSw); go_simp <;> (first | with_reducible rfl | omega | skip))
  simp only [Act.put, List.setIfInBounds_toArray, List.set_cons_zero, List.set_cons_succ]
  refine wpAnyE_tk (i := 5) (d := some 10) (v := .int .i64 (0 : Int)) rfl (by kernel_rfl) (by kernel_rfl) (by kernel_rfl) rfl (fun _ _ _ h => h) rfl rfl ?hy (by first | assumption | go_simp) ?_
  case hy => (intro w' hSw; (try dsimp only at hSw); go_simp <;> (first | with_reducible rfl | omega | skip))
  simp only [Act.put, List.setIfInBounds_toArray, List.set_cons_zero, List.set_cons_succ]
  refine wpAnyE_tk (i := 6) (d := some 11) (v := .int .i64 (1 : Int)) rfl (by kernel_rfl) (by kernel_rfl) (by kernel_rfl) rfl (fun _ _ _ h => h) rfl rfl ?hy (by first | assumption | go_simp) ?_
  case hy => (intro w' hSw; (try dsimp only at hSw); go_simp <;> (first | with_reducible rfl | omega | skip))
  simp only [Act.put, List.setIfInBounds_toArray, List.set_cons_zero, List.set_cons_succ]
  refine wpAnyE_tk (i := 7) (d := some 12) (v := ?_) rfl (by kernel_rfl) (by kernel_rfl) (by kernel_rfl) rfl (fun _ _ _ h => h) rfl rfl ?hy (by first | assumption | go_simp) ?_
  case hy => (intro w' hSw; (try dsimp only at hSw); go_simp <;> (first | with_reducible rfl | omega | skip))
  simp only [Act.put, List.setIfInBounds_toArray, List.set_cons_zero, List.set_cons_succ]
  refine wpAnyE_tk (i := 8) (d := some 13) (v := ?_) rfl (by kernel_rfl) (by kernel_rfl) (by kernel_rfl) rfl (fun _ _ _ h => h) rfl rfl ?hy (by first | assumption | go_simp) ?_
  case hy => (intro w' hSw; (try dsimp only at hSw); go_simp <;> (first | with_reducible rfl | omega | skip))
  simp only [Act.put, List.setIfInBounds_toArray, List.set_cons_zero, List.set_cons_succ]
  refine wpAnyE_tk (i := 9) (d := some 14) (v := ?_) rfl (by kernel_rfl) (by kernel_rfl) (by kernel_rfl) rfl (fun _ _ _ h => h) rfl rfl ?hy (by first | assumption | go_simp) ?_
  case hy => (intro w' hSw; (try dsimp only at hSw); go_simp <;> (first | with_reducible rfl | omega | skip))
  simp only [Act.put, List.setIfInBounds_toArray, List.set_cons_zero, List.set_cons_succ]
  refine wpAnyE_tk (i := 10) (d := some 15) (v := ?_) rfl (by kernel_rfl) (by kernel_rfl) (by kernel_rfl) rfl (fun _ _ _ h => h) rfl rfl ?hy (by first | assumption | go_simp) ?_
  case hy => (intro w' hSw; (try dsimp only at hSw); go_simp <;> (first | with_reducible rfl | omega | skip))
  simp only [Act.put, List.setIfInBounds_toArray, List.set_cons_zero, List.set_cons_succ]
  refine wpAnyE_tk (i := 11) (d := some 16) (v := .int .i64 (1 : Int)) rfl (by kernel_rfl) (by kernel_rfl) (by kernel_rfl) rfl (fun _ _ _ h => h) rfl rfl ?hy (by first | assumption | go_simp) ?_
  case hy => (intro w' hSw; (try dsimp only at hSw); go_simp <;> (first | with_reducible rfl | omega | skip))
  simp only [Act.put, List.setIfInBounds_toArray, List.set_cons_zero, List.set_cons_succ]
  refine wpAnyE_on (i := 12) (by kernel_rfl) rfl rfl ?_
  go_simp
  rw [← hw1]
  clear hHeld hmk c0 c1 hw1
  refine wpAnyE_tk (i := 13) (d := some 2) (v := ?_) rfl (by kernel_rfl) (by kernel_rfl) (by kernel_rfl) rfl (fun _ _ _ h => h) rfl rfl ?hy (by first | assumption | go_simp) ?_
  case hy => (intro w' hSw; (try dsimp only at hSw); go_simp <;> (first | with_reducible rfl | omega | skip))
  simp only [Act.put, List.setIfInBounds_toArray, List.set_cons_zero, List.set_cons_succ]
  refine wpAnyE_done (by kernel_rfl) ?_ _
  clear C01
  go_wp2_with (first
    | (go_at_call 68; refine HP.out.mono ?_; rintro e w2 ⟨rfl, nd, rfl⟩)
    | (refine wpList_copy_k celR_length oneR rfl _ _ 29 29 50 rfl Tryd.underlying29 sizeER w.heap.size 0 0 1 1 (List.replicate 1 Rx.nil) 50 rfl rfl (Lies.drewN HG1.out _) none 0 0 [] rfl rfl (by decide) (by decide) (.inl rfl) ?_; intro w3 HG2 HC2; clear HG1)
    | (refine wpList_copy_k celR_length oneR rfl _ _ 29 29 50 rfl Tryd.underlying29 sizeER w.heap.size 0 0 1 1 _ 50 rfl rfl HG2 none 0 0 [] rfl rfl (by decide) (by decide) (.inl rfl) ?_; intro w4 HG3 HC3; clear HG2; have HG4 : Hid (Lies w4 w.heap.size _ 50) := HG3; clear HG3; have HB4 : Hid (Lies w4 b #[.int .i64 (most : Int), plc none 0, .int .i64 (0 : Int), .int .i64 0] 87) := HC3.lies (HC2.lies (HB1.out.drewN _) hne.out) hne.out; have HC4 : Hid (Chg (· = b) w w4) := ((HC.out.drewN nd).then HC2 (fun i e => .inr (by omega))).then HC3 (fun i e => .inr (by omega)); clear HC2 HC3; have d1 := HB4.out.cell 1; have d2 := HB4.out.cell 2; have z1 := HB4.out.frozen 1; have z2 := HB4.out.frozen 2; simp only [List.getElem?_toArray, List.getElem?_cons_zero, List.getElem?_cons_succ] at d1 d2))
  go_end0
  refine ⟨rfl, ⟨((HB4.out.set 1 _).set 2 _), hpos, hl, hpos, Nat.zero_le _, .inl (Nat.zero_lt_one), (fun e => by cases e), fun _ => ⟨_, rfl, (HG4.out.set_other (Ne.symm hne.out) _).set_other (Ne.symm hne.out) _⟩⟩, (HC4.out.set (.inl rfl) _).set (.inl rfl) _⟩
end Go.Proofs.YtbfgefgadplcjaaDoor
