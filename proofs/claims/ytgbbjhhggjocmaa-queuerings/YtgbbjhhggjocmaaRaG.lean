/-
  The thing at a place.
-/
import Derived.Test.YtgbbjhhggjocmaaRwG
namespace Go.Proofs.Ytgbbjhhggjocmaa
open Go.RowKit

/-- What At tells of a row. -/
def atXG (l : List (Int × Int)) (i : Int) : (Int × Int) := if 0 ≤ i then l.getD i.toNat (0, 0) else (0, 0)
theorem atXG_out (l : List (Int × Int)) (i : Int) (h : ¬ (0 ≤ i ∧ i < (l.length : Int))) : atXG l i = (0, 0) := by
  unfold atXG
  split
  · rw [List.getD_eq_getElem?_getD, List.getElem?_eq_none (by omega)]
    rfl
  · rfl
set_option maxRecDepth 20000 in
set_option maxHeartbeats 2000000 in
theorem atG_any (p q : Option Nat) (most : Nat) (l : List (Int × Int)) (i : Int) (w : World) (h : RgG w p q most l) :
    Calls Try.prog 47 #[ptr p, .int .i64 i] w fun e w' => e = .returned (.tuple #[valG (atXG l i), .bool (atB l.length i)]) ∧ Below w.heap.size w w' := by
  have hszE : (Try.prog.info? 31).map (·.size) = some (#[Value.int .i64 0, .int .i64 0] : Array Value).size := sizeEG
  have HW : Hid (∀ (v0 v1 : Value), Lies ((w.alloc (.cells #[.int .i64 0, .int .i64 0] 31)).alloc (.cells #[.int .i64 0, .int .i64 0] 31)) w.heap.size #[.int .i64 0, .int .i64 0] 31) := fun _ _ => (Lies.new w _ _).alloc _
  have HB : Hid (Below w.heap.size w ((w.alloc (.cells #[.int .i64 0, .int .i64 0] 31)).alloc (.cells #[.int .i64 0, .int .i64 0] 31))) := ((Below.refl _ w).alloc (Nat.le_refl _) _).alloc (by simp) _
  have hln := lenG_any p q most l (w.alloc (.cells #[.int .i64 0, .int .i64 0] 31)) (h.below ((Below.refl _ _).alloc (Nat.le_refl _) _))
  by_cases h0 : i < 0
  · have e1 : atXG l i = (0, 0) := atXG_out l i (by omega)
    have e2 : atB l.length i = false := decide_eq_false (by omega)
    rw [e1, e2]
    clear h hln e1 e2
    unfold valG
    go_enter Try.func47, Try.ntmps47
    go_wp2
    refine ret_cell rfl w.heap.size 31 #[.int .i64 0, .int .i64 0] (0, 0) _ (.bool false) rfl rfl (HW.out undef undef) Try.underlying31 rfl hszE ⟨rfl, HB.out⟩
  · by_cases h1 : (l.length : Int) ≤ i
    · have e1 : atXG l i = (0, 0) := atXG_out l i (by omega)
      have e2 : atB l.length i = false := decide_eq_false (by omega)
      rw [e1, e2]
      clear h e1 e2
      generalize l.length = n at *
      unfold valG
      go_enter Try.func47, Try.ntmps47
      go_wp2_with (go_at_call 18; refine hln.mono ?_; clear hln; rintro e w2 ⟨rfl, hw2⟩; subst hw2)
      refine ret_cell rfl w.heap.size 31 #[.int .i64 0, .int .i64 0] (0, 0) _ (.bool false) rfl rfl (HW.out undef undef) Try.underlying31 rfl hszE ⟨rfl, HB.out⟩
    · obtain ⟨j, rfl⟩ : ∃ j : Nat, i = (j : Int) := ⟨i.toNat, by omega⟩
      have hj : j < l.length := by omega
      obtain ⟨w1, hw1⟩ : ∃ w1, w1 = w.alloc (.cells #[.int .i64 0, .int .i64 0] 31) := ⟨_, rfl⟩
      have hR := h.below ((Below.refl _ w).alloc (Nat.le_refl _) (.cells #[.int .i64 0, .int .i64 0] 31))
      rw [← hw1] at hR hln
      have HL1 : Hid (Lies w1 w.heap.size #[.int .i64 0, .int .i64 0] 31) := by subst hw1; exact Lies.new w _ _
      have HB1 : Hid (Below w.heap.size w w1) := by subst hw1; exact (Below.refl _ w).alloc (Nat.le_refl _) _
      have hlt1 : ∀ k, Fq p q k → k < w.heap.size := h.lt
      clear h
      cases hR with
      | no => cases hj
      | zero b h => cases hj
      | made b q most A f c h =>
        rw [rwA_length] at *
        have hcA := h.cnt
        have hA : A ≠ [] := fun e => by rw [e] at hcA; simp at hcA; omega
        obtain ⟨g, rfl, hg⟩ := h.som hA
        have e2 : atB c (j : Int) = true := decide_eq_true (by omega)
        have hlt : (f + j) % A.length < A.length := Nat.mod_lt _ (by omega)
        have e1 : atXG (rwA (0, 0) A f c) (j : Int) = A[(f + j) % A.length] := by
          unfold atXG
          rw [if_pos (by omega), Int.toNat_natCast, List.getD_eq_getElem?_getD, rwA_at _ _ _ _ _ hj, Option.getD_some, List.getD_eq_getElem?_getD, List.getElem?_eq_getElem hlt, Option.getD_some]
        rw [e1, e2]
        have HPL : Hid (∀ m, Calls Try.prog 62 #[.pointer (some ⟨b, 0, none⟩), .int .i64 (j : Int)] (w1.drewN m) fun e w' => e = .returned (.int .i64 (((f + j) % A.length : Nat) : Int)) ∧ ∃ k, w' = (w1.drewN m).drewN k) := fun m => placeG_any b (some g) most A f c j _ (h.drewN m) hA (by have := h.lid; have := h.room; omega)
        have c1 := h.cells.2.1
        unfold plc at c1
        dsimp only at c1
        have g1 : w1.cell? ⟨g, (f + j) % A.length * 2, none⟩ = some (.int .i64 A[(f + j) % A.length].1) := by have := flat_at celG_length A ((f + j) % A.length) 0 hlt (by decide); rw [hg.cell, List.getElem?_toArray]; exact this
        have g2 : w1.cell? ⟨g, (f + j) % A.length * 2 + 1, none⟩ = some (.int .i64 A[(f + j) % A.length].2) := by have := flat_at celG_length A ((f + j) % A.length) 1 hlt (by decide); rw [hg.cell, List.getElem?_toArray]; exact this
        unfold valG ptr at *
        have hjc : (j : Int) < (c : Int) := by omega
        have hne : w.heap.size ≠ b := by have := hlt1 b (.inl rfl); omega
        have hne2 : b ≠ w.heap.size := Ne.symm hne
        have hne3 : w.heap.size ≠ g := by have := hlt1 g (.inr rfl); omega
        have hne4 : g ≠ w.heap.size := Ne.symm hne3
        have y0 := HL1.out.cell 0
        have y1 := HL1.out.cell 1
        have z0 := HL1.out.frozen 0
        have z1 := HL1.out.frozen 1
        simp only [List.getElem?_toArray, List.getElem?_cons_zero, List.getElem?_cons_succ] at y0 y1
        have HFIN : Hid (∀ m, Lies (((w1.drewN m).setCell ⟨w.heap.size, 0, none⟩ (.int .i64 A[(f + j) % A.length].1)).setCell ⟨w.heap.size, 1, none⟩ (.int .i64 A[(f + j) % A.length].2)) w.heap.size #[.int .i64 A[(f + j) % A.length].1, .int .i64 A[(f + j) % A.length].2] 31 ∧ Below w.heap.size w (((w1.drewN m).setCell ⟨w.heap.size, 0, none⟩ (.int .i64 A[(f + j) % A.length].1)).setCell ⟨w.heap.size, 1, none⟩ (.int .i64 A[(f + j) % A.length].2))) := fun m => ⟨((HL1.out.drewN m).set 0 _).set 1 _, ((HB1.out.trans ((below_drewN w1 m).mono (HB1.out.size))).setCell (p := ⟨w.heap.size, 0, none⟩) (Nat.le_refl _) _).setCell (p := ⟨w.heap.size, 1, none⟩) (Nat.le_refl _) _⟩
        have HW1 : Hid (w1 = w.alloc (.cells #[.int .i64 0, .int .i64 0] 31)) := hw1
        clear h hg e1 e2 h0 h1 HW HB hw1
        generalize A[(f + j) % A.length] = y at *
        generalize (f + j) % A.length = J at *
        clear hA hcA hlt1
        generalize A.length = N at *
        go_enter Try.func47, Try.ntmps47
        go_wp2_with (go_at_call 18; rw [← HW1.out]; refine hln.mono ?_; clear hln HW1; rintro e w2 ⟨rfl, hw2⟩; subst hw2)
        refine wp_region_late (fun wx => wx.cell? ⟨b, 1, none⟩ = some (.slice (some ⟨g, 0, none⟩) N N) ∧ wx.cell? ⟨g, J * 2, none⟩ = some (.int .i64 y.1) ∧ wx.cell? ⟨g, J * 2 + 1, none⟩ = some (.int .i64 y.2)) 11 (by kernel_rfl) ⟨c1, g1, g2⟩ (fun hHeld => ?_)
        refine wpAnyE_tk (i := 0) (d := some 16) (v := ?_) rfl (by kernel_rfl) (by kernel_rfl) (by kernel_rfl) rfl (fun _ _ _ h => h) rfl rfl ?hy (by first | assumption | go_simp) ?_
        case hy => (intro w' hSw; (try dsimp only at hSw); go_simp <;> (first | with_reducible rfl | omega | skip))
        simp only [Act.put, List.setIfInBounds_toArray, List.set_cons_zero, List.set_cons_succ]
        refine wpAnyE_tk (i := 1) (d := some 17) (v := ?_) rfl (by kernel_rfl) (by kernel_rfl) (by kernel_rfl) rfl (fun _ _ _ h => h) rfl rfl ?hy (by first | assumption | go_simp) ?_
        case hy => (intro w' hSw; (try dsimp only at hSw); go_simp <;> (first | with_reducible rfl | omega | skip))
        simp only [Act.put, List.setIfInBounds_toArray, List.set_cons_zero, List.set_cons_succ]
        refine wpAnyE_tk (i := 2) (d := some 18) (v := ?_) rfl (by kernel_rfl) (by kernel_rfl) (by kernel_rfl) rfl (fun _ _ _ h => h) rfl rfl ?hy (by first | assumption | go_simp) ?_
        case hy => (intro w' hSw; (try dsimp only at hSw); go_simp <;> (first | with_reducible rfl | omega | skip))
        simp only [Act.put, List.setIfInBounds_toArray, List.set_cons_zero, List.set_cons_succ]
        refine wpAnyE_tk (i := 3) (d := some 19) (v := ?_) rfl (by kernel_rfl) (by kernel_rfl) (by kernel_rfl) rfl (fun _ _ _ h => h) rfl rfl ?hy (by first | assumption | go_simp) ?_
        case hy => (intro w' hSw; (try dsimp only at hSw); go_simp <;> (first | with_reducible rfl | omega | skip))
        simp only [Act.put, List.setIfInBounds_toArray, List.set_cons_zero, List.set_cons_succ]
        refine wpAnyE_tk (i := 4) (d := some 20) (v := ?_) rfl (by kernel_rfl) (by kernel_rfl) (by kernel_rfl) rfl (fun _ _ _ h => h) rfl rfl ?hy (by first | assumption | go_simp) ?_
        case hy => (intro w' hSw; (try dsimp only at hSw); go_simp <;> (first | with_reducible rfl | omega | skip))
        simp only [Act.put, List.setIfInBounds_toArray, List.set_cons_zero, List.set_cons_succ]
        refine wpAnyE_tk (i := 5) (d := some 21) (v := ?_) rfl (by kernel_rfl) (by kernel_rfl) (by kernel_rfl) rfl (fun _ _ _ h => h) rfl rfl ?hy (by first | assumption | go_simp) ?_
        case hy => (intro w' hSw; (try dsimp only at hSw); go_simp <;> (first | with_reducible rfl | omega | skip))
        simp only [Act.put, List.setIfInBounds_toArray, List.set_cons_zero, List.set_cons_succ]
        refine wpAnyE_on (i := 6) (by kernel_rfl) rfl rfl ?_
        go_simp
        refine Calls.mono (HPL.out _) ?_
        rintro e wq ⟨rfl, nq, rfl⟩
        refine ⟨⟨c1, g1, g2⟩, ?_⟩
        refine wpAnyE_tk (i := 7) (d := some 23) (v := .pointer (some ⟨g, J * 2, none⟩)) rfl (by kernel_rfl) (by kernel_rfl) (by kernel_rfl) rfl (fun _ _ _ h => h) rfl rfl ?hy (by first | assumption | go_simp) ?_
        case hy => (intro w' hSw; (try dsimp only at hSw); go_simp <;> (first | with_reducible rfl | omega | skip))
        simp only [Act.put, List.setIfInBounds_toArray, List.set_cons_zero, List.set_cons_succ]
        refine wpAnyE_tk (i := 8) (d := some 24) (v := .agg #[.int .i64 y.1, .int .i64 y.2]) rfl (by kernel_rfl) (by kernel_rfl) (by kernel_rfl) rfl (fun _ _ _ h => h) rfl rfl ?hy (by first | assumption | go_simp) ?_
        case hy => (intro w' hSw; (try dsimp only at hSw); go_simp <;> (first | with_reducible rfl | omega | skip))
        simp only [Act.put, List.setIfInBounds_toArray, List.set_cons_zero, List.set_cons_succ]
        refine wpAnyE_on (i := 9) (by kernel_rfl) rfl rfl ?_
        go_simp
        refine wpAnyE_tk (i := 10) (d := some 5) (v := ?_) rfl (by kernel_rfl) (by kernel_rfl) (by kernel_rfl) rfl (fun _ _ _ h => h) rfl rfl ?hy (by first | assumption | go_simp) ?_
        case hy => (intro w' hSw; (try dsimp only at hSw); go_simp <;> (first | with_reducible rfl | omega | skip))
        simp only [Act.put, List.setIfInBounds_toArray, List.set_cons_zero, List.set_cons_succ]
        refine wpAnyE_done (by kernel_rfl) ?_ _
        clear hHeld
        go_wp2
        refine ret_cell rfl w.heap.size 31 #[.int .i64 y.1, .int .i64 y.2] (0, 0) _ (.bool true) rfl rfl (HFIN.out _).1 Try.underlying31 rfl sizeEG ⟨rfl, (HFIN.out _).2⟩
end Go.Proofs.Ytgbbjhhggjocmaa
