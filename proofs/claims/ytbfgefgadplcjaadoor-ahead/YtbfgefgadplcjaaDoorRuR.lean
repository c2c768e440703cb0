/-
  A thing laid behind all.
-/
import Derived.Test.YtbfgefgadplcjaaDoorRwbR
namespace Go.Proofs.YtbfgefgadplcjaaDoor
open Go.RowKit

theorem growR_any (b : Nat) (q : Option Nat) (most : Nat) (A : List Rx) (f : Nat) (w : World) (h : GdR w b q most A f A.length) (hroom : A.length < most) :
    Calls Tryd.prog 59 #[.pointer (some ⟨b, 0, none⟩)] w fun e w' => e = .returned (.tuple #[]) ∧ ∃ A', GdR w' b (some w.heap.size) most A' 0 A.length ∧ A.length < A'.length ∧ rwA Rx.nil A' 0 A.length = rwA Rx.nil A f A.length ∧ Chg (· = b) w w' := by
  by_cases hA : A = []
  · subst hA
    obtain rfl := h.non rfl
    have hf : f = 0 := by rcases h.fst with h1 | h1; simp at h1; exact h1.1
    subst hf
    refine (growR_none b most w h).mono ?_
    rintro e w' ⟨rfl, h1, h2⟩
    exact ⟨rfl, _, h1, by simp, by simp [rwA], h2⟩
  · obtain ⟨g, rfl, _⟩ := h.som hA
    refine (growR_some b g most A f w h hroom _ rfl).mono ?_
    rintro e w' ⟨rfl, h1, h2⟩
    have hpos : 0 < A.length := List.length_pos_iff.2 hA
    refine ⟨rfl, _, h1, by rw [List.length_append, rwA_length, List.length_replicate]; omega, ?_, h2⟩
    have := rwA_anew (Rx.nil : Rx) (rwA Rx.nil A f A.length) (List.replicate (min (2 * A.length) most - A.length) Rx.nil)
    rwa [rwA_length] at this
/-- What a ring has behind a Push. -/
def pushLR (most : Nat) (l : List Rx) (x : Rx) : List Rx := if l.length < most then l ++ [x] else l
/-- The tail of Push: there is a place. -/
theorem GdR.pushed {w w' : World} {b g : Nat} {most : Nat} {A : List Rx} {f c : Nat} (h : GdR w b (some g) most A f c) (hc : c < A.length) (x : Rx) (nq : Nat)
    (e : w' = (((w.drewN nq).setCells g ((f + c) % A.length * 5) (celR x)).setCell ⟨b, 3, none⟩ (.int .i64 ((c : Int) + 1)))) :
    GdR w' b (some g) most (A.set ((f + c) % A.length) x) f (c + 1) ∧ Chg (Fq (some b) (some g)) w w' := by
  have hA : A ≠ [] := fun e => by rw [e] at hc; cases hc
  obtain ⟨g', e', hg⟩ := h.som hA
  cases e'
  have hne : g ≠ b := lies_ne hg h.lies (by decide)
  have hj : (f + c) % A.length < A.length := Nat.mod_lt _ (by omega)
  have hL : Lies ((w.drewN nq).setCells g ((f + c) % A.length * 5) (celR x)) g ((A.set ((f + c) % A.length) x).flatMap celR).toArray 50 := by
    rw [flat_set celR_length _ _ _ hj]
    refine Lies.sets _ _ _ _ (hg.drewN nq) ?_
    rw [celR_length, flat_length celR_length]
    have : ((f + c) % A.length + 1) * 5 ≤ A.length * 5 := Nat.mul_le_mul_right _ hj
    omega
  have hC1 : Chg (· = g) w ((w.drewN nq).setCells g ((f + c) % A.length * 5) (celR x)) := Chg.sets (F := (· = g)) (.inl rfl) _ _ _ ((Chg.refl _ _).drewN nq)
  subst e
  refine ⟨⟨?_, h.pos, h.lid, by rw [List.length_set]; exact h.room, by rw [List.length_set]; exact hc, by rw [List.length_set]; exact .inl (by rcases h.fst with h1 | h1; exact h1; exact absurd h1.2 hA), fun e => absurd (by simpa using e) hA, fun _ => ⟨g, rfl, hL.set_other hne _⟩⟩, (hC1.mono (fun i e => .inr (by rw [e]))).set (.inl (.inl rfl)) _⟩
  rw [List.length_set]
  exact (hC1.lies h.lies (Ne.symm hne)).set 3 _
/-- A thing's cells, one behind the other. -/
def putR (w : World) (g J : Nat) (x : Rx) : World :=
  ((((w.setCell ⟨g, J * 5, none⟩ (.int .i64 x.c)).setCell ⟨g, J * 5 + 1, none⟩ (.int .i64 x.s.1)).setCell ⟨g, J * 5 + 2, none⟩ (.int .i64 x.s.2.1)).setCell ⟨g, J * 5 + 3, none⟩ (.int .i64 x.s.2.2)).setCell ⟨g, J * 5 + 4, none⟩ (.slice x.a x.n x.k)
theorem putR_sets (w : World) (g J : Nat) (x : Rx) : putR w g J x = w.setCells g (J * 5) (celR x) := by
  rfl
/-- What the tail of Push reads and writes. -/
theorem GdR.tail {w : World} {b g : Nat} {most : Nat} {A : List Rx} {f c : Nat} (h : GdR w b (some g) most A f c) (hc : c < A.length) (N J : Nat) (hN : N = A.length) (hJ : J = (f + c) % N) :
    w.cell? ⟨b, 1, none⟩ = some (.slice (some ⟨g, 0, none⟩) N N) ∧ w.cell? ⟨b, 3, none⟩ = some (.int .i64 (c : Int)) ∧ w.frozen? ⟨b, 3, none⟩ = false ∧ J < N ∧ g ≠ b ∧
    (∃ u, w.cell? ⟨g, J * 5, none⟩ = some u) ∧ w.frozen? ⟨g, J * 5, none⟩ = false ∧ (∃ u, w.cell? ⟨g, J * 5 + 1, none⟩ = some u) ∧ w.frozen? ⟨g, J * 5 + 1, none⟩ = false ∧ (∃ u, w.cell? ⟨g, J * 5 + 2, none⟩ = some u) ∧ w.frozen? ⟨g, J * 5 + 2, none⟩ = false ∧ (∃ u, w.cell? ⟨g, J * 5 + 3, none⟩ = some u) ∧ w.frozen? ⟨g, J * 5 + 3, none⟩ = false ∧ (∃ u, w.cell? ⟨g, J * 5 + 4, none⟩ = some u) ∧ w.frozen? ⟨g, J * 5 + 4, none⟩ = false ∧
    Hid (∀ m, Calls Tryd.prog 60 #[.pointer (some ⟨b, 0, none⟩), .int .i64 (c : Int)] (w.drewN m) fun e w' => e = .returned (.int .i64 (J : Int)) ∧ ∃ k, w' = (w.drewN m).drewN k) := by
  subst hN hJ
  have hA : A ≠ [] := fun e => by rw [e] at hc; cases hc
  obtain ⟨g', e', hg⟩ := h.som hA
  cases e'
  have hl : (A.flatMap celR).length = A.length * 5 := flat_length celR_length A
  have hj : (f + c) % A.length < A.length := Nat.mod_lt _ (by omega)
  have cel : ∀ i, i < (A.flatMap celR).length → ∃ u, w.cell? ⟨g, i, none⟩ = some u := fun i hi => ⟨_, by rw [hg.cell, List.getElem?_toArray, List.getElem?_eq_getElem hi]⟩
  exact ⟨h.cells.2.1, h.cells.2.2.2, h.lies.frozen 3, hj, lies_ne hg h.lies (by decide),
    cel _ (by omega), hg.frozen _, cel _ (by omega), hg.frozen _, cel _ (by omega), hg.frozen _, cel _ (by omega), hg.frozen _, cel _ (by omega), hg.frozen _,
    fun m => placeR_any b (some g) most A f c c _ (h.drewN m) hA (by have := h.lid; have := h.room; omega)⟩
set_option maxRecDepth 20000 in
set_option maxHeartbeats 2000000 in
theorem pushR_any (p q : Option Nat) (most : Nat) (l : List Rx) (x : Rx) (w0 : World) (h0 : RgR w0 p q most l) :
    Calls Tryd.prog 43 #[ptr p, valR x] w0 fun e w' => e = .returned (.int .i64 (pushE most l.length)) ∧ ∃ q', RgR w' p q' most (pushLR most l x) ∧ Chg (Fq p q) w0 w' ∧ (∀ k, q' = some k → q = some k ∨ w0.heap.size ≤ k) := by
  obtain ⟨w, hw⟩ : ∃ w, w = w0.alloc (.cells #[.int .i64 x.c, .int .i64 x.s.1, .int .i64 x.s.2.1, .int .i64 x.s.2.2, .slice x.a x.n x.k] 50) := ⟨_, rfl⟩
  have hb0 : Below w0.heap.size w0 w := by subst hw; exact (Below.refl _ w0).alloc (Nat.le_refl _) _
  have HLX : Hid (Lies w w0.heap.size #[.int .i64 x.c, .int .i64 x.s.1, .int .i64 x.s.2.1, .int .i64 x.s.2.2, .slice x.a x.n x.k] 50) := by subst hw; exact Lies.new w0 _ _
  have h : RgR w p q most l := h0.below hb0
  have HXN : Hid (∀ k, Fq p q k → k ≠ w0.heap.size) := fun k hk e => by have := h0.lt k hk; omega
  suffices H0 : Calls Tryd.prog 43 #[ptr p, valR x] w0 fun e w' => e = .returned (.int .i64 (pushE most l.length)) ∧ ∃ q', RgR w' p q' most (pushLR most l x) ∧ Chg (Fq p q) w w' ∧ (∀ k, q' = some k → q = some k ∨ w.heap.size ≤ k) from
    H0.mono (fun e w' hh => by obtain ⟨k1, q', k2, k3, k4⟩ := hh; exact ⟨k1, q', k2, (Chg.of_below hb0).trans k3, fun k hk => (k4 k hk).imp id (fun z => Nat.le_trans hb0.size z)⟩)
  have HW : Hid (w = w0.alloc (.cells #[.int .i64 x.c, .int .i64 x.s.1, .int .i64 x.s.2.1, .int .i64 x.s.2.2, .slice x.a x.n x.k] 50)) := hw
  clear hw h0 hb0
  have ht := thereR_any p q most l w h
  have hrm := roomR_any p q most l w h
  cases h with
  | no =>
    unfold ptr valR at *
    go_enter Tryd.func43, Tryd.ntmps43
    go_wp2_with (go_at_call 56; rw [← HW.out]; refine ht.mono ?_; rintro e w ⟨rfl, rfl⟩)
    go_ret
    exact ⟨rfl, none, .no, Chg.refl _ _, fun k e => .inl e⟩
  | zero b h =>
    have H := h
    clear h
    unfold ptr valR at *
    go_enter Tryd.func43, Tryd.ntmps43
    go_wp2_with (go_at_call 56; rw [← HW.out]; refine ht.mono ?_; rintro e w ⟨rfl, rfl⟩)
    go_ret
    exact ⟨rfl, none, .zero b H, Chg.refl _ _, fun k e => .inl e⟩
  | made b q most A f c h =>
    have hp : decide (0 < most) = true := decide_eq_true h.pos
    have hl := h.lid
    have hpo := h.pos
    have hcm : c ≤ most := Nat.le_trans h.cnt h.room
    rw [hp] at ht
    rw [rwA_length] at *
    clear hp
    by_cases hfull : c = most
    · subst hfull
      rw [Nat.sub_self] at hrm
      have H : Hid (GdR w b q c A f c) := h
      have e1 : pushE c c = 4 := by unfold pushE; rw [if_neg (by omega), if_pos rfl]
      have e2 : pushLR c (rwA Rx.nil A f c) x = rwA Rx.nil A f c := by unfold pushLR; rw [if_neg (by rw [rwA_length]; omega)]
      rw [e1, e2]
      clear h e1 e2 hcm
      unfold ptr valR at *
      go_enter Tryd.func43, Tryd.ntmps43
      go_wp2_with (first | (go_at_call 56; rw [← HW.out]; refine ht.mono ?_; rintro e w ⟨rfl, rfl⟩) | (go_at_call 41; refine hrm.mono ?_; rintro e w2 ⟨rfl, nd, rfl⟩))
      go_ret
      exact ⟨rfl, _, (RgR.made b _ _ A f c H.out).drewN _, (Chg.refl _ _).drewN _, fun k e => .inl e⟩
    · have e1 : pushE most c = 0 := by unfold pushE; rw [if_neg (by omega), if_neg hfull]
      have e2 : pushLR most (rwA Rx.nil A f c) x = rwA Rx.nil A f c ++ [x] := by unfold pushLR; rw [if_pos (by rw [rwA_length]; omega)]
      rw [e1, e2]
      have hr0 : ¬ (((most - c : Nat) : Int) = 0) := by omega
      have hr1 : (((most - c : Nat) : Int) == 0) = false := by simpa using hr0
      clear hr0
      generalize most - c = rm at hrm hr1
      by_cases hgr : c = A.length
      · subst hgr
        have HGR : Hid (∀ m, Calls Tryd.prog 59 #[.pointer (some ⟨b, 0, none⟩)] (w.drewN m) fun e w' => e = .returned (.tuple #[]) ∧ ∃ A', GdR w' b (some w.heap.size) most A' 0 A.length ∧ A.length < A'.length ∧ rwA Rx.nil A' 0 A.length = rwA Rx.nil A f A.length ∧ Chg (· = b) w w') := fun m => (growR_any b q most A f _ (h.drewN m) (by omega)).mono (fun e w' hh => by obtain ⟨e0, A', k1, k2, k3, k4⟩ := hh; exact ⟨e0, A', k1, k2, k3, k4.undrew⟩)
        have c1 := h.cells.2.1
        have c3 := h.cells.2.2.2
        obtain ⟨va, vb, vc, hv⟩ : ∃ va vb vc, plc q A.length = .slice va vb vc ∧ vb = A.length := by
          by_cases hA : A = []
          · rw [h.non hA, hA]; exact ⟨_, _, _, rfl, rfl⟩
          · obtain ⟨g, e, _⟩ := h.som hA; rw [e]; exact ⟨_, _, _, rfl, rfl⟩
        obtain ⟨hv, rfl⟩ := hv
        rw [hv] at c1
        have hsz := h.lies.lt
        clear h hv e1 e2 hfull
        generalize rwA Rx.nil A f A.length = l0 at *
        generalize A.length = c at *
        unfold ptr valR at *
        go_enter Tryd.func43, Tryd.ntmps43
        go_wp2_with (first | (go_at_call 56; rw [← HW.out]; refine ht.mono ?_; rintro e w ⟨rfl, rfl⟩) | (go_at_call 41; refine hrm.mono ?_; rintro e w2 ⟨rfl, nd, rfl⟩))
        go_quiet (fail)
        go_wp2_with (go_at_call 59; refine (HGR.out _).mono ?_; clear c1 c3 ht hrm HGR; rintro e w2 ⟨rfl, A', HG, hlt', HRW, HC⟩; apply Hid.out)
        unfold Hid
        obtain ⟨N, hN⟩ : ∃ N, N = A'.length := ⟨_, rfl⟩
        obtain ⟨J, hJ⟩ : ∃ J, J = (0 + c) % N := ⟨_, rfl⟩
        obtain ⟨g, hg⟩ : ∃ g, g = w.heap.size := ⟨_, rfl⟩
        rw [← hg] at HG
        obtain ⟨c1, c3, z3, hJN, hgb, ⟨u1, g1⟩, y1, ⟨u2, g2⟩, y2, ⟨u3, g3⟩, y3, ⟨u4, g4⟩, y4, ⟨u5, g5⟩, y5, HPL⟩ := HG.tail hlt' N J hN hJ
        have HFIN : Hid (∀ nq w', w' = ((putR (w2.drewN nq) g ((0 + c) % A'.length) x).setCell ⟨b, 3, none⟩ (.int .i64 ((c : Int) + 1))) → ∃ q', RgR w' (some b) q' most (l0 ++ [x]) ∧ Chg (Fq (some b) q) w w' ∧ (∀ k, q' = some k → q = some k ∨ w.heap.size ≤ k)) := fun nq w' e => by
          obtain ⟨k1, k2⟩ := HG.pushed (w' := w') hlt' x nq (by rw [e, putR_sets])
          have := RgR.made b _ most _ _ _ k1
          rw [rwA_push _ _ _ _ _ hlt', HRW] at this
          refine ⟨_, this, (HC.mono (fun i e => by rw [e]; exact .inl rfl)).then k2 (fun i hi => ?_), fun k e => .inr (by cases e; omega)⟩
          rcases hi with hi | hi
          · exact .inl (.inl hi)
          · exact .inr (by cases hi; omega)
        rw [← hN, ← hJ] at HFIN
        unfold putR at HFIN
        have hbg : b ≠ g := Ne.symm hgb
        have hXb : w0.heap.size ≠ b := Ne.symm (HXN.out b (.inl rfl))
        have hbX : b ≠ w0.heap.size := HXN.out b (.inl rfl)
        have hXg : w0.heap.size ≠ g := by have := HLX.out.lt; omega
        have hgX : g ≠ w0.heap.size := Ne.symm hXg
        have x0 : w2.cell? ⟨w0.heap.size, 0, none⟩ = some (.int .i64 x.c) := (HC.lies HLX.out hXb).cell 0
        have x1 : w2.cell? ⟨w0.heap.size, 1, none⟩ = some (.int .i64 x.s.1) := (HC.lies HLX.out hXb).cell 1
        have x2 : w2.cell? ⟨w0.heap.size, 2, none⟩ = some (.int .i64 x.s.2.1) := (HC.lies HLX.out hXb).cell 2
        have x3 : w2.cell? ⟨w0.heap.size, 3, none⟩ = some (.int .i64 x.s.2.2) := (HC.lies HLX.out hXb).cell 3
        have x4 : w2.cell? ⟨w0.heap.size, 4, none⟩ = some (.slice x.a x.n x.k) := (HC.lies HLX.out hXb).cell 4
        clear HG HRW HC hlt' hJ hN hg hsz
        go_wp2_with fail
        refine wp_region_late (fun wx => wx.cell? ⟨b, 1, none⟩ = some (.slice (some ⟨g, 0, none⟩) N N) ∧ wx.cell? ⟨b, 3, none⟩ = some (.int .i64 (c : Int)) ∧ wx.cell? ⟨w0.heap.size, 0, none⟩ = some (.int .i64 x.c) ∧ wx.cell? ⟨w0.heap.size, 1, none⟩ = some (.int .i64 x.s.1) ∧ wx.cell? ⟨w0.heap.size, 2, none⟩ = some (.int .i64 x.s.2.1) ∧ wx.cell? ⟨w0.heap.size, 3, none⟩ = some (.int .i64 x.s.2.2) ∧ wx.cell? ⟨w0.heap.size, 4, none⟩ = some (.slice x.a x.n x.k)) 13 (by kernel_rfl) ⟨c1, c3, x0, x1, x2, x3, x4⟩ (fun hHeld => ?_)
        refine wpAnyE_tk (i := 0) (d := some 23) (v := ?_) rfl (by kernel_rfl) (by kernel_rfl) (by kernel_rfl) rfl (fun _ _ _ h => h) rfl rfl ?hy (by first | assumption | go_simp) ?_
        case hy => (intro w' hSw; (try dsimp only at hSw); go_simp <;> (first | with_reducible rfl | omega | skip))
        simp only [Act.put, List.setIfInBounds_toArray, List.set_cons_zero, List.set_cons_succ]
        refine wpAnyE_tk (i := 1) (d := some 24) (v := ?_) rfl (by kernel_rfl) (by kernel_rfl) (by kernel_rfl) rfl (fun _ _ _ h => h) rfl rfl ?hy (by first | assumption | go_simp) ?_
        case hy => (intro w' hSw; (try dsimp only at hSw); go_simp <;> (first | with_reducible rfl | omega | skip))
        simp only [Act.put, List.setIfInBounds_toArray, List.set_cons_zero, List.set_cons_succ]
        refine wpAnyE_tk (i := 2) (d := some 25) (v := ?_) rfl (by kernel_rfl) (by kernel_rfl) (by kernel_rfl) rfl (fun _ _ _ h => h) rfl rfl ?hy (by first | assumption | go_simp) ?_
        case hy => (intro w' hSw; (try dsimp only at hSw); go_simp <;> (first | with_reducible rfl | omega | skip))
        simp only [Act.put, List.setIfInBounds_toArray, List.set_cons_zero, List.set_cons_succ]
        refine wpAnyE_tk (i := 3) (d := some 26) (v := ?_) rfl (by kernel_rfl) (by kernel_rfl) (by kernel_rfl) rfl (fun _ _ _ h => h) rfl rfl ?hy (by first | assumption | go_simp) ?_
        case hy => (intro w' hSw; (try dsimp only at hSw); go_simp <;> (first | with_reducible rfl | omega | skip))
        simp only [Act.put, List.setIfInBounds_toArray, List.set_cons_zero, List.set_cons_succ]
        refine wpAnyE_tk (i := 4) (d := some 27) (v := ?_) rfl (by kernel_rfl) (by kernel_rfl) (by kernel_rfl) rfl (fun _ _ _ h => h) rfl rfl ?hy (by first | assumption | go_simp) ?_
        case hy => (intro w' hSw; (try dsimp only at hSw); go_simp <;> (first | with_reducible rfl | omega | skip))
        simp only [Act.put, List.setIfInBounds_toArray, List.set_cons_zero, List.set_cons_succ]
        refine wpAnyE_tk (i := 5) (d := some 28) (v := ?_) rfl (by kernel_rfl) (by kernel_rfl) (by kernel_rfl) rfl (fun _ _ _ h => h) rfl rfl ?hy (by first | assumption | go_simp) ?_
        case hy => (intro w' hSw; (try dsimp only at hSw); go_simp <;> (first | with_reducible rfl | omega | skip))
        simp only [Act.put, List.setIfInBounds_toArray, List.set_cons_zero, List.set_cons_succ]
        refine wpAnyE_tk (i := 6) (d := some 29) (v := ?_) rfl (by kernel_rfl) (by kernel_rfl) (by kernel_rfl) rfl (fun _ _ _ h => h) rfl rfl ?hy (by first | assumption | go_simp) ?_
        case hy => (intro w' hSw; (try dsimp only at hSw); go_simp <;> (first | with_reducible rfl | omega | skip))
        simp only [Act.put, List.setIfInBounds_toArray, List.set_cons_zero, List.set_cons_succ]
        refine wpAnyE_tk (i := 7) (d := some 30) (v := ?_) rfl (by kernel_rfl) (by kernel_rfl) (by kernel_rfl) rfl (fun _ _ _ h => h) rfl rfl ?hy (by first | assumption | go_simp) ?_
        case hy => (intro w' hSw; (try dsimp only at hSw); go_simp <;> (first | with_reducible rfl | omega | skip))
        simp only [Act.put, List.setIfInBounds_toArray, List.set_cons_zero, List.set_cons_succ]
        refine wpAnyE_tk (i := 8) (d := some 31) (v := ?_) rfl (by kernel_rfl) (by kernel_rfl) (by kernel_rfl) rfl (fun _ _ _ h => h) rfl rfl ?hy (by first | assumption | go_simp) ?_
        case hy => (intro w' hSw; (try dsimp only at hSw); go_simp <;> (first | with_reducible rfl | omega | skip))
        simp only [Act.put, List.setIfInBounds_toArray, List.set_cons_zero, List.set_cons_succ]
        refine wpAnyE_tk (i := 10) (d := some 33) (v := Value.agg #[.int .i64 x.c, .int .i64 x.s.1, .int .i64 x.s.2.1, .int .i64 x.s.2.2, .slice x.a x.n x.k]) rfl (by kernel_rfl) (by kernel_rfl) (by kernel_rfl) rfl (fun _ _ _ h => h) rfl rfl ?hy (by first | assumption | go_simp) ?_
        case hy => (intro w' hSw; (try dsimp only at hSw); go_simp <;> (first | with_reducible rfl | omega | skip))
        simp only [Act.put, List.setIfInBounds_toArray, List.set_cons_zero, List.set_cons_succ]
        refine wpAnyE_on (i := 9) (by kernel_rfl) rfl rfl ?_
        go_simp
        refine Calls.mono (HPL.out _) ?_
        rintro e wq ⟨rfl, nq, rfl⟩
        refine ⟨⟨c1, c3, x0, x1, x2, x3, x4⟩, ?_⟩
        refine wpAnyE_tk (i := 11) (d := some 34) (v := .pointer (some ⟨g, J * 5, none⟩)) rfl (by kernel_rfl) (by kernel_rfl) (by kernel_rfl) rfl (fun _ _ _ h => h) rfl rfl ?hy (by first | assumption | go_simp) ?_
        case hy => (intro w' hSw; (try dsimp only at hSw); go_simp <;> (first | with_reducible rfl | omega | skip))
        simp only [Act.put, List.setIfInBounds_toArray, List.set_cons_zero, List.set_cons_succ]
        refine wpAnyE_on (i := 12) (by kernel_rfl) rfl rfl ?_
        go_simp
        refine wpAnyE_done (by kernel_rfl) ?_ _
        clear hHeld
        go_wp2
        go_ret
        exact ⟨rfl, HFIN.out _ _ rfl⟩
      · have hx0 := hgr
        have HG : GdR w b q most A f c := h
        have hlt' : c < A.length := by have := h.cnt; omega
        have hA : A ≠ [] := fun e => by rw [e] at hlt'; cases hlt'
        obtain ⟨g, rfl, _⟩ := h.som hA
        obtain ⟨N, hN⟩ : ∃ N, N = A.length := ⟨_, rfl⟩
        obtain ⟨J, hJ⟩ : ∃ J, J = (f + c) % N := ⟨_, rfl⟩
        obtain ⟨c1, c3, z3, hJN, hgb, ⟨u1, g1⟩, y1, ⟨u2, g2⟩, y2, ⟨u3, g3⟩, y3, ⟨u4, g4⟩, y4, ⟨u5, g5⟩, y5, HPL⟩ := HG.tail hlt' N J hN hJ
        have hcn : ((c : Int) == (N : Int)) = false := by simp; omega
        have HFIN : Hid (∀ nq w', w' = ((putR (w.drewN nq) g ((f + c) % A.length) x).setCell ⟨b, 3, none⟩ (.int .i64 ((c : Int) + 1))) → ∃ q', RgR w' (some b) q' most (rwA Rx.nil A f c ++ [x]) ∧ Chg (Fq (some b) (some g)) w w' ∧ (∀ k, q' = some k → some g = some k ∨ w.heap.size ≤ k)) := fun nq w' e => by
          obtain ⟨k1, k2⟩ := HG.pushed (w' := w') hlt' x nq (by rw [e, putR_sets])
          have := RgR.made b _ most _ _ _ k1
          rw [rwA_push _ _ _ _ _ hlt'] at this
          exact ⟨_, this, k2, fun k e => .inl e⟩
        rw [← hN, ← hJ] at HFIN
        unfold putR at HFIN
        have hbg : b ≠ g := Ne.symm hgb
        have hXb : w0.heap.size ≠ b := Ne.symm (HXN.out b (.inl rfl))
        have hbX : b ≠ w0.heap.size := HXN.out b (.inl rfl)
        have hgX : g ≠ w0.heap.size := HXN.out g (.inr rfl)
        have hXg : w0.heap.size ≠ g := Ne.symm hgX
        have x0 : w.cell? ⟨w0.heap.size, 0, none⟩ = some (.int .i64 x.c) := HLX.out.cell 0
        have x1 : w.cell? ⟨w0.heap.size, 1, none⟩ = some (.int .i64 x.s.1) := HLX.out.cell 1
        have x2 : w.cell? ⟨w0.heap.size, 2, none⟩ = some (.int .i64 x.s.2.1) := HLX.out.cell 2
        have x3 : w.cell? ⟨w0.heap.size, 3, none⟩ = some (.int .i64 x.s.2.2) := HLX.out.cell 3
        have x4 : w.cell? ⟨w0.heap.size, 4, none⟩ = some (.slice x.a x.n x.k) := HLX.out.cell 4
        clear HG hlt' hJ hN h hA hgr hfull e1 e2
        generalize rwA Rx.nil A f c ++ [x] = l0 at *
        unfold ptr valR at *
        go_enter Tryd.func43, Tryd.ntmps43
        go_wp2_with (first | (go_at_call 56; rw [← HW.out]; refine ht.mono ?_; rintro e w ⟨rfl, rfl⟩) | (go_at_call 41; refine hrm.mono ?_; rintro e w2 ⟨rfl, nd, rfl⟩))
        go_quiet (fail)
        go_wp2_with fail
        refine wp_region_late (fun wx => wx.cell? ⟨b, 1, none⟩ = some (.slice (some ⟨g, 0, none⟩) N N) ∧ wx.cell? ⟨b, 3, none⟩ = some (.int .i64 (c : Int)) ∧ wx.cell? ⟨w0.heap.size, 0, none⟩ = some (.int .i64 x.c) ∧ wx.cell? ⟨w0.heap.size, 1, none⟩ = some (.int .i64 x.s.1) ∧ wx.cell? ⟨w0.heap.size, 2, none⟩ = some (.int .i64 x.s.2.1) ∧ wx.cell? ⟨w0.heap.size, 3, none⟩ = some (.int .i64 x.s.2.2) ∧ wx.cell? ⟨w0.heap.size, 4, none⟩ = some (.slice x.a x.n x.k)) 13 (by kernel_rfl) ⟨c1, c3, x0, x1, x2, x3, x4⟩ (fun hHeld => ?_)
        refine wpAnyE_tk (i := 0) (d := some 23) (v := ?_) rfl (by kernel_rfl) (by kernel_rfl) (by kernel_rfl) rfl (fun _ _ _ h => h) rfl rfl ?hy (by first | assumption | go_simp) ?_
        case hy => (intro w' hSw; (try dsimp only at hSw); go_simp <;> (first | with_reducible rfl | omega | skip))
        simp only [Act.put, List.setIfInBounds_toArray, List.set_cons_zero, List.set_cons_succ]
        refine wpAnyE_tk (i := 1) (d := some 24) (v := ?_) rfl (by kernel_rfl) (by kernel_rfl) (by kernel_rfl) rfl (fun _ _ _ h => h) rfl rfl ?hy (by first | assumption | go_simp) ?_
        case hy => (intro w' hSw; (try dsimp only at hSw); go_simp <;> (first | with_reducible rfl | omega | skip))
        simp only [Act.put, List.setIfInBounds_toArray, List.set_cons_zero, List.set_cons_succ]
        refine wpAnyE_tk (i := 2) (d := some 25) (v := ?_) rfl (by kernel_rfl) (by kernel_rfl) (by kernel_rfl) rfl (fun _ _ _ h => h) rfl rfl ?hy (by first | assumption | go_simp) ?_
        case hy => (intro w' hSw; (try dsimp only at hSw); go_simp <;> (first | with_reducible rfl | omega | skip))
        simp only [Act.put, List.setIfInBounds_toArray, List.set_cons_zero, List.set_cons_succ]
        refine wpAnyE_tk (i := 3) (d := some 26) (v := ?_) rfl (by kernel_rfl) (by kernel_rfl) (by kernel_rfl) rfl (fun _ _ _ h => h) rfl rfl ?hy (by first | assumption | go_simp) ?_
        case hy => (intro w' hSw; (try dsimp only at hSw); go_simp <;> (first | with_reducible rfl | omega | skip))
        simp only [Act.put, List.setIfInBounds_toArray, List.set_cons_zero, List.set_cons_succ]
        refine wpAnyE_tk (i := 4) (d := some 27) (v := ?_) rfl (by kernel_rfl) (by kernel_rfl) (by kernel_rfl) rfl (fun _ _ _ h => h) rfl rfl ?hy (by first | assumption | go_simp) ?_
        case hy => (intro w' hSw; (try dsimp only at hSw); go_simp <;> (first | with_reducible rfl | omega | skip))
        simp only [Act.put, List.setIfInBounds_toArray, List.set_cons_zero, List.set_cons_succ]
        refine wpAnyE_tk (i := 5) (d := some 28) (v := ?_) rfl (by kernel_rfl) (by kernel_rfl) (by kernel_rfl) rfl (fun _ _ _ h => h) rfl rfl ?hy (by first | assumption | go_simp) ?_
        case hy => (intro w' hSw; (try dsimp only at hSw); go_simp <;> (first | with_reducible rfl | omega | skip))
        simp only [Act.put, List.setIfInBounds_toArray, List.set_cons_zero, List.set_cons_succ]
        refine wpAnyE_tk (i := 6) (d := some 29) (v := ?_) rfl (by kernel_rfl) (by kernel_rfl) (by kernel_rfl) rfl (fun _ _ _ h => h) rfl rfl ?hy (by first | assumption | go_simp) ?_
        case hy => (intro w' hSw; (try dsimp only at hSw); go_simp <;> (first | with_reducible rfl | omega | skip))
        simp only [Act.put, List.setIfInBounds_toArray, List.set_cons_zero, List.set_cons_succ]
        refine wpAnyE_tk (i := 7) (d := some 30) (v := ?_) rfl (by kernel_rfl) (by kernel_rfl) (by kernel_rfl) rfl (fun _ _ _ h => h) rfl rfl ?hy (by first | assumption | go_simp) ?_
        case hy => (intro w' hSw; (try dsimp only at hSw); go_simp <;> (first | with_reducible rfl | omega | skip))
        simp only [Act.put, List.setIfInBounds_toArray, List.set_cons_zero, List.set_cons_succ]
        refine wpAnyE_tk (i := 8) (d := some 31) (v := ?_) rfl (by kernel_rfl) (by kernel_rfl) (by kernel_rfl) rfl (fun _ _ _ h => h) rfl rfl ?hy (by first | assumption | go_simp) ?_
        case hy => (intro w' hSw; (try dsimp only at hSw); go_simp <;> (first | with_reducible rfl | omega | skip))
        simp only [Act.put, List.setIfInBounds_toArray, List.set_cons_zero, List.set_cons_succ]
        refine wpAnyE_tk (i := 10) (d := some 33) (v := Value.agg #[.int .i64 x.c, .int .i64 x.s.1, .int .i64 x.s.2.1, .int .i64 x.s.2.2, .slice x.a x.n x.k]) rfl (by kernel_rfl) (by kernel_rfl) (by kernel_rfl) rfl (fun _ _ _ h => h) rfl rfl ?hy (by first | assumption | go_simp) ?_
        case hy => (intro w' hSw; (try dsimp only at hSw); go_simp <;> (first | with_reducible rfl | omega | skip))
        simp only [Act.put, List.setIfInBounds_toArray, List.set_cons_zero, List.set_cons_succ]
        refine wpAnyE_on (i := 9) (by kernel_rfl) rfl rfl ?_
        go_simp
        refine Calls.mono (HPL.out _) ?_
        rintro e wq ⟨rfl, nq, rfl⟩
        refine ⟨⟨c1, c3, x0, x1, x2, x3, x4⟩, ?_⟩
        refine wpAnyE_tk (i := 11) (d := some 34) (v := .pointer (some ⟨g, J * 5, none⟩)) rfl (by kernel_rfl) (by kernel_rfl) (by kernel_rfl) rfl (fun _ _ _ h => h) rfl rfl ?hy (by first | assumption | go_simp) ?_
        case hy => (intro w' hSw; (try dsimp only at hSw); go_simp <;> (first | with_reducible rfl | omega | skip))
        simp only [Act.put, List.setIfInBounds_toArray, List.set_cons_zero, List.set_cons_succ]
        refine wpAnyE_on (i := 12) (by kernel_rfl) rfl rfl ?_
        go_simp
        refine wpAnyE_done (by kernel_rfl) ?_ _
        clear hHeld
        go_wp2
        go_ret
        exact ⟨rfl, HFIN.out _ _ rfl⟩
end Go.Proofs.YtbfgefgadplcjaaDoor
