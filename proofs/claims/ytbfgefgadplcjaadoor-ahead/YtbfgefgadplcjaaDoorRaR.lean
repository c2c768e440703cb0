/-
  The thing at a place.
-/
import Derived.Test.YtbfgefgadplcjaaDoorRwR
namespace Go.Proofs.YtbfgefgadplcjaaDoor
open Go.RowKit

/-- What At tells of a row. -/
def atXR (l : List Rx) (i : Int) : Rx := if 0 ≤ i then l.getD i.toNat Rx.nil else Rx.nil
theorem atXR_out (l : List Rx) (i : Int) (h : ¬ (0 ≤ i ∧ i < (l.length : Int))) : atXR l i = Rx.nil := by
  unfold atXR
  split
  · rw [List.getD_eq_getElem?_getD, List.getElem?_eq_none (by omega)]
    rfl
  · rfl
set_option maxRecDepth 20000 in
set_option maxHeartbeats 2000000 in
theorem atR_any (p q : Option Nat) (most : Nat) (l : List Rx) (i : Int) (w : World) (h : RgR w p q most l) :
    Calls Tryd.prog 46 #[ptr p, .int .i64 i] w fun e w' => e = .returned (.tuple #[valR (atXR l i), .bool (atB l.length i)]) ∧ Below w.heap.size w w' := by
  have hszE : (Tryd.prog.info? 50).map (·.size) = some (#[Value.int .i64 0, .int .i64 0, .int .i64 0, .int .i64 0, .slice none 0 0] : Array Value).size := sizeER
  have HW : Hid (∀ (v0 v1 : Value), Lies ((w.alloc (.cells #[.int .i64 0, .int .i64 0, .int .i64 0, .int .i64 0, .slice none 0 0] 50)).alloc (.cells #[.int .i64 0, .int .i64 0, .int .i64 0, .int .i64 0, .slice none 0 0] 50)) w.heap.size #[.int .i64 0, .int .i64 0, .int .i64 0, .int .i64 0, .slice none 0 0] 50) := fun _ _ => (Lies.new w _ _).alloc _
  have HB : Hid (Below w.heap.size w ((w.alloc (.cells #[.int .i64 0, .int .i64 0, .int .i64 0, .int .i64 0, .slice none 0 0] 50)).alloc (.cells #[.int .i64 0, .int .i64 0, .int .i64 0, .int .i64 0, .slice none 0 0] 50))) := ((Below.refl _ w).alloc (Nat.le_refl _) _).alloc (by simp) _
  have hln := lenR_any p q most l (w.alloc (.cells #[.int .i64 0, .int .i64 0, .int .i64 0, .int .i64 0, .slice none 0 0] 50)) (h.below ((Below.refl _ _).alloc (Nat.le_refl _) _))
  by_cases h0 : i < 0
  · have e1 : atXR l i = Rx.nil := atXR_out l i (by omega)
    have e2 : atB l.length i = false := decide_eq_false (by omega)
    rw [e1, e2]
    clear h hln e1 e2
    unfold valR
    go_enter Tryd.func46, Tryd.ntmps46
    go_wp2
    refine ret_cell rfl w.heap.size 50 #[.int .i64 0, .int .i64 0, .int .i64 0, .int .i64 0, .slice none 0 0] (0, 0) _ (.bool false) rfl rfl (HW.out undef undef) Tryd.underlying50 rfl hszE ⟨rfl, HB.out⟩
  · by_cases h1 : (l.length : Int) ≤ i
    · have e1 : atXR l i = Rx.nil := atXR_out l i (by omega)
      have e2 : atB l.length i = false := decide_eq_false (by omega)
      rw [e1, e2]
      clear h e1 e2
      generalize l.length = n at *
      unfold valR
      go_enter Tryd.func46, Tryd.ntmps46
      go_wp2_with (go_at_call 67; refine hln.mono ?_; clear hln; rintro e w2 ⟨rfl, hw2⟩; subst hw2)
      refine ret_cell rfl w.heap.size 50 #[.int .i64 0, .int .i64 0, .int .i64 0, .int .i64 0, .slice none 0 0] (0, 0) _ (.bool false) rfl rfl (HW.out undef undef) Tryd.underlying50 rfl hszE ⟨rfl, HB.out⟩
    · obtain ⟨j, rfl⟩ : ∃ j : Nat, i = (j : Int) := ⟨i.toNat, by omega⟩
      have hj : j < l.length := by omega
      obtain ⟨w1, hw1⟩ : ∃ w1, w1 = w.alloc (.cells #[.int .i64 0, .int .i64 0, .int .i64 0, .int .i64 0, .slice none 0 0] 50) := ⟨_, rfl⟩
      have hR := h.below ((Below.refl _ w).alloc (Nat.le_refl _) (.cells #[.int .i64 0, .int .i64 0, .int .i64 0, .int .i64 0, .slice none 0 0] 50))
      rw [← hw1] at hR hln
      have HL1 : Hid (Lies w1 w.heap.size #[.int .i64 0, .int .i64 0, .int .i64 0, .int .i64 0, .slice none 0 0] 50) := by subst hw1; exact Lies.new w _ _
      have HB1 : Hid (Below w.heap.size w w1) := by subst hw1; exact (Below.refl _ w).alloc (Nat.le_refl _) _
      have hlt1 : ∀ k, Fq p q k → k < w.heap.size := h.lt
      clear h
      cases hR with
      | no => cases hj
      | zero b h => cases hj
      | made b q most A f c h =>
        rw [rwA_length] at *
        have hcA := h.cnt
        have hA : A ≠ [] := fun e => by rw [e] at hcA; simp at hcA; omega
        obtain ⟨g, rfl, hg⟩ := h.som hA
        have e2 : atB c (j : Int) = true := decide_eq_true (by omega)
        have hlt : (f + j) % A.length < A.length := Nat.mod_lt _ (by omega)
        have e1 : atXR (rwA Rx.nil A f c) (j : Int) = A[(f + j) % A.length] := by
          unfold atXR
          rw [if_pos (by omega), Int.toNat_natCast, List.getD_eq_getElem?_getD, rwA_at _ _ _ _ _ hj, Option.getD_some, List.getD_eq_getElem?_getD, List.getElem?_eq_getElem hlt, Option.getD_some]
        rw [e1, e2]
        have HPL : Hid (∀ m, Calls Tryd.prog 60 #[.pointer (some ⟨b, 0, none⟩), .int .i64 (j : Int)] (w1.drewN m) fun e w' => e = .returned (.int .i64 (((f + j) % A.length : Nat) : Int)) ∧ ∃ k, w' = (w1.drewN m).drewN k) := fun m => placeR_any b (some g) most A f c j _ (h.drewN m) hA (by have := h.lid; have := h.room; omega)
        have c1 := h.cells.2.1
        unfold plc at c1
        dsimp only at c1
        have g1 : w1.cell? ⟨g, (f + j) % A.length * 5, none⟩ = some (.int .i64 A[(f + j) % A.length].c) := by have := flat_at celR_length A ((f + j) % A.length) 0 hlt (by decide); rw [hg.cell, List.getElem?_toArray]; exact this
        have g2 : w1.cell? ⟨g, (f + j) % A.length * 5 + 1, none⟩ = some (.int .i64 A[(f + j) % A.length].s.1) := by have := flat_at celR_length A ((f + j) % A.length) 1 hlt (by decide); rw [hg.cell, List.getElem?_toArray]; exact this
        have g3 : w1.cell? ⟨g, (f + j) % A.length * 5 + 2, none⟩ = some (.int .i64 A[(f + j) % A.length].s.2.1) := by have := flat_at celR_length A ((f + j) % A.length) 2 hlt (by decide); rw [hg.cell, List.getElem?_toArray]; exact this
        have g4 : w1.cell? ⟨g, (f + j) % A.length * 5 + 3, none⟩ = some (.int .i64 A[(f + j) % A.length].s.2.2) := by have := flat_at celR_length A ((f + j) % A.length) 3 hlt (by decide); rw [hg.cell, List.getElem?_toArray]; exact this
        have g5 : w1.cell? ⟨g, (f + j) % A.length * 5 + 4, none⟩ = some (.slice A[(f + j) % A.length].a A[(f + j) % A.length].n A[(f + j) % A.length].k) := by have := flat_at celR_length A ((f + j) % A.length) 4 hlt (by decide); rw [hg.cell, List.getElem?_toArray]; exact this
        unfold valR ptr at *
        have hjc : (j : Int) < (c : Int) := by omega
        have hne : w.heap.size ≠ b := by have := hlt1 b (.inl rfl); omega
        have hne2 : b ≠ w.heap.size := Ne.symm hne
        have hne3 : w.heap.size ≠ g := by have := hlt1 g (.inr rfl); omega
        have hne4 : g ≠ w.heap.size := Ne.symm hne3
        have y0 := HL1.out.cell 0
        have y1 := HL1.out.cell 1
        have y2 := HL1.out.cell 2
        have y3 := HL1.out.cell 3
        have y4 := HL1.out.cell 4
        have z0 := HL1.out.frozen 0
        have z1 := HL1.out.frozen 1
        have z2 := HL1.out.frozen 2
        have z3 := HL1.out.frozen 3
        have z4 := HL1.out.frozen 4
        simp only [List.getElem?_toArray, List.getElem?_cons_zero, List.getElem?_cons_succ] at y0 y1 y2 y3 y4
        have HFIN : Hid (∀ m, Lies (((((((w1.drewN m)).setCell ⟨w.heap.size, 0, none⟩ (.int .i64 A[(f + j) % A.length].c)).setCell ⟨w.heap.size, 1, none⟩ (.int .i64 A[(f + j) % A.length].s.1)).setCell ⟨w.heap.size, 2, none⟩ (.int .i64 A[(f + j) % A.length].s.2.1)).setCell ⟨w.heap.size, 3, none⟩ (.int .i64 A[(f + j) % A.length].s.2.2)).setCell ⟨w.heap.size, 4, none⟩ (.slice A[(f + j) % A.length].a A[(f + j) % A.length].n A[(f + j) % A.length].k)) w.heap.size #[.int .i64 A[(f + j) % A.length].c, .int .i64 A[(f + j) % A.length].s.1, .int .i64 A[(f + j) % A.length].s.2.1, .int .i64 A[(f + j) % A.length].s.2.2, .slice A[(f + j) % A.length].a A[(f + j) % A.length].n A[(f + j) % A.length].k] 50 ∧ Below w.heap.size w (((((((w1.drewN m)).setCell ⟨w.heap.size, 0, none⟩ (.int .i64 A[(f + j) % A.length].c)).setCell ⟨w.heap.size, 1, none⟩ (.int .i64 A[(f + j) % A.length].s.1)).setCell ⟨w.heap.size, 2, none⟩ (.int .i64 A[(f + j) % A.length].s.2.1)).setCell ⟨w.heap.size, 3, none⟩ (.int .i64 A[(f + j) % A.length].s.2.2)).setCell ⟨w.heap.size, 4, none⟩ (.slice A[(f + j) % A.length].a A[(f + j) % A.length].n A[(f + j) % A.length].k))) := fun m => ⟨(((((HL1.out.drewN m).set 0 _).set 1 _).set 2 _).set 3 _).set 4 _, ((((((HB1.out.trans ((below_drewN w1 m).mono (HB1.out.size))).setCell (p := ⟨w.heap.size, 0, none⟩) (Nat.le_refl _) _).setCell (p := ⟨w.heap.size, 1, none⟩) (Nat.le_refl _) _).setCell (p := ⟨w.heap.size, 2, none⟩) (Nat.le_refl _) _).setCell (p := ⟨w.heap.size, 3, none⟩) (Nat.le_refl _) _).setCell (p := ⟨w.heap.size, 4, none⟩) (Nat.le_refl _) _)⟩
        have HW1 : Hid (w1 = w.alloc (.cells #[.int .i64 0, .int .i64 0, .int .i64 0, .int .i64 0, .slice none 0 0] 50)) := hw1
        clear h hg e1 e2 h0 h1 HW HB hw1
        generalize A[(f + j) % A.length] = y at *
        generalize (f + j) % A.length = J at *
        clear hA hcA hlt1
        generalize A.length = N at *
        go_enter Tryd.func46, Tryd.ntmps46
        go_wp2_with (go_at_call 67; rw [← HW1.out]; refine hln.mono ?_; clear hln HW1; rintro e w2 ⟨rfl, hw2⟩; subst hw2)
        refine wp_region_late (fun wx => wx.cell? ⟨b, 1, none⟩ = some (.slice (some ⟨g, 0, none⟩) N N) ∧ wx.cell? ⟨g, J * 5, none⟩ = some (.int .i64 y.c) ∧ wx.cell? ⟨g, J * 5 + 1, none⟩ = some (.int .i64 y.s.1) ∧ wx.cell? ⟨g, J * 5 + 2, none⟩ = some (.int .i64 y.s.2.1) ∧ wx.cell? ⟨g, J * 5 + 3, none⟩ = some (.int .i64 y.s.2.2) ∧ wx.cell? ⟨g, J * 5 + 4, none⟩ = some (.slice y.a y.n y.k)) 11 (by kernel_rfl) ⟨c1, g1, g2, g3, g4, g5⟩ (fun hHeld => ?_)
        refine wpAnyE_tk (i := 0) (d := some 16) (v := ?_) rfl (by kernel_rfl) (by kernel_rfl) (by kernel_rfl) rfl (fun _ _ _ h => h) rfl rfl ?hy (by first | assumption | go_simp) ?_
        case hy => (intro w' hSw; (try dsimp only at hSw); go_simp <;> (first | with_reducible rfl | omega | skip))
        simp only [Act.put, List.setIfInBounds_toArray, List.set_cons_zero, List.set_cons_succ]
        refine wpAnyE_tk (i := 1) (d := some 17) (v := ?_) rfl (by kernel_rfl) (by kernel_rfl) (by kernel_rfl) rfl (fun _ _ _ h => h) rfl rfl ?hy (by first | assumption | go_simp) ?_
        case hy => (intro w' hSw; (try dsimp only at hSw); go_simp <;> (first | with_reducible rfl | omega | skip))
        simp only [Act.put, List.setIfInBounds_toArray, List.set_cons_zero, List.set_cons_succ]
        refine wpAnyE_tk (i := 2) (d := some 18) (v := ?_) rfl (by kernel_rfl) (by kernel_rfl) (by kernel_rfl) rfl (fun _ _ _ h => h) rfl rfl ?hy (by first | assumption | go_simp) ?_
        case hy => (intro w' hSw; (try dsimp only at hSw); go_simp <;> (first | with_reducible rfl | omega | skip))
        simp only [Act.put, List.setIfInBounds_toArray, List.set_cons_zero, List.set_cons_succ]
        refine wpAnyE_tk (i := 3) (d := some 19) (v := ?_) rfl (by kernel_rfl) (by kernel_rfl) (by kernel_rfl) rfl (fun _ _ _ h => h) rfl rfl ?hy (by first | assumption | go_simp) ?_
        case hy => (intro w' hSw; (try dsimp only at hSw); go_simp <;> (first | with_reducible rfl | omega | skip))
        simp only [Act.put, List.setIfInBounds_toArray, List.set_cons_zero, List.set_cons_succ]
        refine wpAnyE_tk (i := 4) (d := some 20) (v := ?_) rfl (by kernel_rfl) (by kernel_rfl) (by kernel_rfl) rfl (fun _ _ _ h => h) rfl rfl ?hy (by first | assumption | go_simp) ?_
        case hy => (intro w' hSw; (try dsimp only at hSw); go_simp <;> (first | with_reducible rfl | omega | skip))
        simp only [Act.put, List.setIfInBounds_toArray, List.set_cons_zero, List.set_cons_succ]
        refine wpAnyE_tk (i := 5) (d := some 21) (v := ?_) rfl (by kernel_rfl) (by kernel_rfl) (by kernel_rfl) rfl (fun _ _ _ h => h) rfl rfl ?hy (by first | assumption | go_simp) ?_
        case hy => (intro w' hSw; (try dsimp only at hSw); go_simp <;> (first | with_reducible rfl | omega | skip))
        simp only [Act.put, List.setIfInBounds_toArray, List.set_cons_zero, List.set_cons_succ]
        refine wpAnyE_on (i := 6) (by kernel_rfl) rfl rfl ?_
        go_simp
        refine Calls.mono (HPL.out _) ?_
        rintro e wq ⟨rfl, nq, rfl⟩
        refine ⟨⟨c1, g1, g2, g3, g4, g5⟩, ?_⟩
        refine wpAnyE_tk (i := 7) (d := some 23) (v := .pointer (some ⟨g, J * 5, none⟩)) rfl (by kernel_rfl) (by kernel_rfl) (by kernel_rfl) rfl (fun _ _ _ h => h) rfl rfl ?hy (by first | assumption | go_simp) ?_
        case hy => (intro w' hSw; (try dsimp only at hSw); go_simp <;> (first | with_reducible rfl | omega | skip))
        simp only [Act.put, List.setIfInBounds_toArray, List.set_cons_zero, List.set_cons_succ]
        refine wpAnyE_tk (i := 8) (d := some 24) (v := .agg #[.int .i64 y.c, .int .i64 y.s.1, .int .i64 y.s.2.1, .int .i64 y.s.2.2, .slice y.a y.n y.k]) rfl (by kernel_rfl) (by kernel_rfl) (by kernel_rfl) rfl (fun _ _ _ h => h) rfl rfl ?hy (by first | assumption | go_simp) ?_
        case hy => (intro w' hSw; (try dsimp only at hSw); go_simp <;> (first | with_reducible rfl | omega | skip))
        simp only [Act.put, List.setIfInBounds_toArray, List.set_cons_zero, List.set_cons_succ]
        refine wpAnyE_on (i := 9) (by kernel_rfl) rfl rfl ?_
        go_simp
        refine wpAnyE_tk (i := 10) (d := some 5) (v := ?_) rfl (by kernel_rfl) (by kernel_rfl) (by kernel_rfl) rfl (fun _ _ _ h => h) rfl rfl ?hy (by first | assumption | go_simp) ?_
        case hy => (intro w' hSw; (try dsimp only at hSw); go_simp <;> (first | with_reducible rfl | omega | skip))
        simp only [Act.put, List.setIfInBounds_toArray, List.set_cons_zero, List.set_cons_succ]
        refine wpAnyE_done (by kernel_rfl) ?_ _
        clear hHeld
        go_wp2
        refine ret_cell rfl w.heap.size 50 #[.int .i64 y.c, .int .i64 y.s.1, .int .i64 y.s.2.1, .int .i64 y.s.2.2, .slice y.a y.n y.k] (0, 0) _ (.bool true) rfl rfl (HFIN.out _).1 Tryd.underlying50 rfl sizeER ⟨rfl, (HFIN.out _).2⟩
end Go.Proofs.YtbfgefgadplcjaaDoor
