/-
  The first things taken away; New.
-/
import Derived.Test.YtbfgefgadplcjaaDoorRaR
namespace Go.Proofs.YtbfgefgadplcjaaDoor
open Go.RowKit

set_option maxRecDepth 20000 in
set_option maxHeartbeats 2000000 in
theorem dropR_any (p q : Option Nat) (most : Nat) (l : List Rx) (n : Int) (w : World) (h : RgR w p q most l) (D0 : Nat) (hD0 : D0 = dropN l.length n) :
    Calls Tryd.prog 47 #[ptr p, .int .i64 n] w fun e w' => e = .returned (.int .i64 (D0 : Int)) ∧ RgR w' p q most (l.drop D0) ∧ Chg (Fq p q) w w' := by
  have hln := lenR_any p q most l w h
  unfold dropN at hD0
  by_cases hz : min n (l.length : Int) ≤ 0
  · have e0 : D0 = 0 := by rw [hD0]; omega
    subst e0
    rw [List.drop_zero]
    have H : Hid (RgR w p q most l) := h
    clear h hD0
    generalize l.length = m at *
    obtain ⟨x, hx⟩ : ∃ x, x = min n (m : Int) := ⟨_, rfl⟩
    have h1 : min n (m : Int) = x := hx.symm
    have h2 : (if (m : Int) < n then (m : Int) else n) = x := by split <;> omega
    have h3 : x ≤ 0 := by omega
    clear hx hz
    go_enter Tryd.func47, Tryd.ntmps47
    go_wp2_with (go_at_call 67; refine hln.mono ?_; clear hln; rintro e w ⟨rfl, rfl⟩)
    all_goals go_ret
    all_goals exact ⟨rfl, H.out, Chg.refl _ _⟩
  · cases h with
    | no => simp at hz; omega
    | zero b h => simp at hz; omega
    | made b q most A f c h =>
      rw [rwA_length] at *
      have hcA := h.cnt
      have hA : A ≠ [] := fun e => by rw [e] at hcA; simp at hcA; omega
      obtain ⟨g, rfl, hg⟩ := h.som hA
      have hD1 : 1 ≤ D0 := by omega
      have hD2 : D0 ≤ c := by omega
      have hm1 : min n (c : Int) = (D0 : Int) := by omega
      have hm2 : (if (c : Int) < n then (c : Int) else n) = (D0 : Int) := by split <;> omega
      have hf : f < A.length := by rcases h.fst with h1 | h1; exact h1; exact absurd h1.2 hA
      have hlid : A.length ≤ 1048576 := Nat.le_trans h.room h.lid
      have hgb : g ≠ b := lies_ne hg h.lies (by decide)
      obtain ⟨Hi, hHi⟩ : ∃ Hi, Hi = min (f + D0) A.length := ⟨_, rfl⟩
      obtain ⟨a1, ha1⟩ : ∃ a1, a1 = Hi - f := ⟨_, rfl⟩
      obtain ⟨a2, ha2⟩ : ∃ a2, a2 = D0 - a1 := ⟨_, rfl⟩
      have HP : Hid (Calls Tryd.prog 68 #[.pointer (some ⟨b, 0, none⟩), .int .i64 (D0 : Int)] w fun e w' => e = .returned (.tuple #[.slice (some ⟨g, f * 5, none⟩) a1 (A.length - f), .slice (some ⟨g, 0, none⟩) a2 A.length]) ∧ ∃ n, w' = w.drewN n) := by
        have := piecesR_any b g most A f c D0 w h hD2 Hi hHi
        rw [← ha1, ← ha2] at this
        exact this
      have HRW : Hid (rwA Rx.nil (clrA Rx.nil (clrA Rx.nil A f a1) 0 a2) ((f + D0) % A.length) (c - D0) = (rwA Rx.nil A f c).drop D0) := by
        have := rwA_cleared (Rx.nil : Rx) A f c D0 hf hcA hD2
        rwa [← hHi, ← ha1, ← ha2] at this
      have HLN : Hid ((clrA Rx.nil (clrA Rx.nil A f a1) 0 a2).length = A.length) := by
        have := clrA_cleared_length (Rx.nil : Rx) A f D0 (by omega) (by omega)
        rwa [← hHi, ← ha1, ← ha2] at this
      have HF1 : Hid (f + a1 ≤ A.length) := by unfold Hid; omega
      have HF2 : Hid (0 + a2 ≤ (clrA Rx.nil A f a1).length) := by rw [clrA_length _ _ _ _ HF1.out]; unfold Hid; omega
      have HGL : Hid (Lies w g (A.flatMap celR).toArray 50) := hg
      have HH : Hid (GdR w b (some g) most A f c) := h
      obtain ⟨J, hJ⟩ : ∃ J, J = (f + D0) % A.length := ⟨_, rfl⟩
      have HPL : Hid (∀ w3, GdR w3 b (some g) most (clrA Rx.nil (clrA Rx.nil A f a1) 0 a2) f c → Calls Tryd.prog 60 #[.pointer (some ⟨b, 0, none⟩), .int .i64 (D0 : Int)] w3 fun e w' => e = .returned (.int .i64 (J : Int)) ∧ ∃ k, w' = w3.drewN k) := fun w3 h3 => by
        have := placeR_any b (some g) most _ f c D0 w3 h3 (fun e => hA (List.eq_nil_of_length_eq_zero (by rw [← HLN.out, e]; rfl))) (by omega)
        rwa [HLN.out, ← hJ] at this
      have HG3 : Hid (∀ w3, Lies w3 g ((clrA Rx.nil (clrA Rx.nil A f a1) 0 a2).flatMap celR).toArray 50 → Chg (· = g) w w3 → GdR w3 b (some g) most (clrA Rx.nil (clrA Rx.nil A f a1) 0 a2) f c) := fun w3 k1 k2 =>
        ⟨by rw [HLN.out]; exact k2.lies h.lies (Ne.symm hgb), h.pos, h.lid, by rw [HLN.out]; exact h.room, by rw [HLN.out]; exact hcA, by rw [HLN.out]; exact .inl hf, fun e => absurd (List.eq_nil_of_length_eq_zero (by rw [← HLN.out, e]; rfl)) hA, fun _ => ⟨g, rfl, k1⟩⟩
      have HFIN : Hid (∀ w3 k, GdR w3 b (some g) most (clrA Rx.nil (clrA Rx.nil A f a1) 0 a2) f c → Chg (· = g) w w3 → RgR (((w3.drewN k).setCell ⟨b, 2, none⟩ (.int .i64 (J : Int))).setCell ⟨b, 3, none⟩ (.int .i64 ((c : Int) - (D0 : Int)))) (some b) (some g) most ((rwA Rx.nil A f c).drop D0) ∧ Chg (Fq (some b) (some g)) w (((w3.drewN k).setCell ⟨b, 2, none⟩ (.int .i64 (J : Int))).setCell ⟨b, 3, none⟩ (.int .i64 ((c : Int) - (D0 : Int))))) := fun w3 k k1 k2 => by
        refine ⟨?_, (((k2.mono (fun i e => .inr (by rw [e]))).drewN k).set (.inl (.inl rfl)) _).set (.inl (.inl rfl)) _⟩
        have hJl : J < A.length := by rw [hJ]; exact Nat.mod_lt _ (by omega)
        rw [← HRW.out, ← hJ]
        refine .made b (some g) most _ J (c - D0) ⟨?_, h.pos, h.lid, by rw [HLN.out]; exact h.room, by rw [HLN.out]; omega, by rw [HLN.out]; exact .inl hJl, k1.non, fun e => ?_⟩
        · rw [show (((c - D0 : Nat) : Int)) = (c : Int) - (D0 : Int) by omega]
          exact ((k1.lies.drewN k).set 2 _).set 3 _
        · obtain ⟨g', e', hg'⟩ := k1.som e
          cases e'
          exact ⟨g, rfl, ((hg'.drewN k).set_other hgb _).set_other hgb _⟩
      have HC3 : Hid (∀ w3, GdR w3 b (some g) most (clrA Rx.nil (clrA Rx.nil A f a1) 0 a2) f c → w3.cell? ⟨b, 2, none⟩ = some (.int .i64 (f : Int)) ∧ w3.cell? ⟨b, 3, none⟩ = some (.int .i64 (c : Int)) ∧ w3.frozen? ⟨b, 2, none⟩ = false ∧ w3.frozen? ⟨b, 3, none⟩ = false) := fun w3 k => ⟨k.cells.2.2.1, k.cells.2.2.2, k.lies.frozen 2, k.lies.frozen 3⟩
      have hcl : c ≤ 1048576 := by omega
      have hneg : ¬ (D0 : Int) ≤ 0 := by omega
      clear h hg hA hD0 hz hJ ha1 ha2 hHi hcA hf hlid
      generalize rwA Rx.nil A f c = l0 at *
      unfold ptr at *
      go_enter Tryd.func47, Tryd.ntmps47
      go_wp2_with (first
        | (go_at_call 67; refine hln.mono ?_; clear hln; rintro e w ⟨rfl, rfl⟩)
        | (go_at_call 68; refine HP.out.mono ?_; clear HP; rintro e w1 ⟨rfl, nd, rfl⟩)
        | (go_at_call 60; refine (HPL.out _ HG4.out).mono ?_; clear HPL; rintro e w5 ⟨rfl, nk, rfl⟩)
        | (refine wpList_clear_k celR_length (by decide) oneR Rx.nil rfl _ 29 50 rfl Tryd.underlying29 _ zeroR_run rfl g f (f * 5) a1 (A.length - f) A 50 rfl rfl (Lies.drewN HGL.out _) HF1.out ?_; intro w2 HG2 HC2; clear HGL)
        | (refine wpList_clear_k celR_length (by decide) oneR Rx.nil rfl _ 29 50 rfl Tryd.underlying29 _ zeroR_run rfl g 0 0 a2 A.length _ 50 rfl rfl HG2 HF2.out ?_; intro w3 HG5 HC5; clear HG2; have HC6 : Hid (Chg (· = g) w w3) := ((Chg.refl _ w).drewN _).trans (HC2.trans HC5); have HG4 : Hid (GdR w3 b (some g) most (clrA Rx.nil (clrA Rx.nil A f a1) 0 a2) f c) := HG3.out _ HG5 HC6.out; clear HC2 HC5 HG5; obtain ⟨d2, d3, z2, z3⟩ := HC3.out _ HG4.out))
      go_ret
      exact ⟨rfl, HFIN.out _ _ HG4.out HC6.out⟩
set_option maxHeartbeats 2000000 in
/-- What Pop tells. -/
theorem popR_any (p q : Option Nat) (most : Nat) (l : List Rx) (w : World) (h : RgR w p q most l) :
    Calls Tryd.prog 32 #[ptr p] w fun e w' => e = .returned (.tuple #[valR (l.headD Rx.nil), .bool (!l.isEmpty)]) ∧ RgR w' p q most l.tail ∧ Chg (Fq p q) w w' := by
  obtain ⟨w1, hw1⟩ : ∃ w1, w1 = w.alloc (.cells #[.int .i64 0, .int .i64 0, .int .i64 0, .int .i64 0, .slice none 0 0] 50) := ⟨_, rfl⟩
  have hb1 : Below w.heap.size w w1 := by subst hw1; exact (Below.refl _ w).alloc (Nat.le_refl _) _
  have hL1 : Lies w1 w.heap.size #[.int .i64 0, .int .i64 0, .int .i64 0, .int .i64 0, .slice none 0 0] 50 := by subst hw1; exact Lies.new w _ _
  have h1 := atR_any p q most l 0 w1 (h.below hb1)
  have e1 : atXR l 0 = l.headD Rx.nil := by unfold atXR; cases l <;> rfl
  have e2 : atB l.length 0 = (!l.isEmpty) := by unfold atB; cases l <;> simp
  rw [e1, e2] at h1
  have H2 : Hid (∀ w3, Below w.heap.size w w3 → Calls Tryd.prog 47 #[ptr p, .int .i64 1] w3 fun e w' => e = .returned (.int .i64 ((dropN l.length 1 : Nat) : Int)) ∧ RgR w' p q most l.tail ∧ Chg (Fq p q) w3 w') := fun w3 hb => (dropR_any p q most l 1 _ (h.below hb) _ rfl).mono (fun e w' hh => by
    obtain ⟨k1, k2, k3⟩ := hh
    have : l.drop (dropN l.length 1) = l.tail := by
      unfold dropN
      cases l with
      | nil => rfl
      | cons x r => rw [show (min (1 : Int) (((x :: r).length : Nat) : Int)).toNat = 1 by simp; omega]; rfl
    rw [this] at k2
    exact ⟨k1, k2, k3⟩)
  have HLT : Hid (∀ k, Fq p q k → k < w.heap.size) := h.lt
  have HW1 : Hid (w1 = w.alloc (.cells #[.int .i64 0, .int .i64 0, .int .i64 0, .int .i64 0, .slice none 0 0] 50)) := hw1
  have HB1 : Hid (Below w.heap.size w w1) := hb1
  have HL1 : Hid (Lies w1 w.heap.size #[.int .i64 0, .int .i64 0, .int .i64 0, .int .i64 0, .slice none 0 0] 50) := hL1
  clear h e1 e2 hw1 hb1 hL1
  generalize dropN l.length 1 = dn at H2
  generalize ptr p = pv at *
  unfold valR at *
  generalize l.headD Rx.nil = x at *
  generalize l.tail = l2 at *
  generalize (!l.isEmpty) = bb at *
  go_enter Tryd.func32, Tryd.ntmps32
  go_wp2_with (first
    | (go_at_call 46; rw [← HW1.out]; refine h1.mono ?_; clear h1 HW1; rintro e w2 ⟨rfl, HB2⟩; apply Hid.out)
    | (go_at_call 47; fail))
  unfold Hid
  obtain ⟨V, hV⟩ : ∃ V, V = w2.heap.size := ⟨_, rfl⟩
  obtain ⟨w3, hw3⟩ : ∃ w3, w3 = w2.alloc (.cells #[.int .i64 x.c, .int .i64 x.s.1, .int .i64 x.s.2.1, .int .i64 x.s.2.2, .slice x.a x.n x.k] 50) := ⟨_, rfl⟩
  have HB2' : Below w.heap.size w w2 := HB1.out.trans (HB2.mono HB1.out.size)
  have hVs : w.heap.size ≤ V := by have := HB2'.size; omega
  have HV : Hid (w.heap.size < V) := by
    have h1 := HL1.out.lt
    have h2 := HB2.size
    unfold Hid
    omega
  have HB3 : Hid (Below w.heap.size w w3) := by rw [hw3]; exact HB2'.alloc HB2'.size _
  have HLV : Hid (Lies w3 V #[.int .i64 x.c, .int .i64 x.s.1, .int .i64 x.s.2.1, .int .i64 x.s.2.2, .slice x.a x.n x.k] 50) := by rw [hw3, hV]; exact Lies.new w2 _ _
  have HLB : Hid (Lies w3 w.heap.size #[.int .i64 0, .int .i64 0, .int .i64 0, .int .i64 0, .slice none 0 0] 50) := by
    rw [hw3]
    exact (HL1.out.below HB2 HL1.out.lt).alloc _
  have HW3 : Hid (w2.alloc (.cells #[.int .i64 x.c, .int .i64 x.s.1, .int .i64 x.s.2.1, .int .i64 x.s.2.2, .slice x.a x.n x.k] 50) = w3) := hw3.symm
  have HVV : Hid (w2.heap.size = V) := hV.symm
  clear hw3 hV HB2 HB2' HB1 HL1
  go_wp2_with (go_at_call 47; rw [HW3.out, HVV.out]; refine (H2.out _ HB3.out).mono ?_; clear H2 HW3 HVV; rintro e w4 ⟨rfl, HR, HC⟩; apply Hid.out)
  unfold Hid
  have HLV4 : Lies w4 V #[.int .i64 x.c, .int .i64 x.s.1, .int .i64 x.s.2.1, .int .i64 x.s.2.2, .slice x.a x.n x.k] 50 := HC.lies HLV.out (fun hk => by have := HLT.out _ hk; have := HV.out; omega)
  have HLB4 : Lies w4 w.heap.size #[.int .i64 0, .int .i64 0, .int .i64 0, .int .i64 0, .slice none 0 0] 50 := HC.lies HLB.out (fun hk => by have := HLT.out _ hk; omega)
  have v0 := HLV4.cell 0
  have v1 := HLV4.cell 1
  have v2 := HLV4.cell 2
  have v3 := HLV4.cell 3
  have v4 := HLV4.cell 4
  have b0 := HLB4.cell 0
  have b1 := HLB4.cell 1
  have b2 := HLB4.cell 2
  have b3 := HLB4.cell 3
  have b4 := HLB4.cell 4
  have y0 := HLB4.frozen 0
  have y1 := HLB4.frozen 1
  have y2 := HLB4.frozen 2
  have y3 := HLB4.frozen 3
  have y4 := HLB4.frozen 4
  have HFIN : Hid (Lies (((((w4.setCell ⟨w.heap.size, 0, none⟩ (.int .i64 x.c)).setCell ⟨w.heap.size, 1, none⟩ (.int .i64 x.s.1)).setCell ⟨w.heap.size, 2, none⟩ (.int .i64 x.s.2.1)).setCell ⟨w.heap.size, 3, none⟩ (.int .i64 x.s.2.2)).setCell ⟨w.heap.size, 4, none⟩ (.slice x.a x.n x.k)) w.heap.size #[.int .i64 x.c, .int .i64 x.s.1, .int .i64 x.s.2.1, .int .i64 x.s.2.2, .slice x.a x.n x.k] 50 ∧ RgR (((((w4.setCell ⟨w.heap.size, 0, none⟩ (.int .i64 x.c)).setCell ⟨w.heap.size, 1, none⟩ (.int .i64 x.s.1)).setCell ⟨w.heap.size, 2, none⟩ (.int .i64 x.s.2.1)).setCell ⟨w.heap.size, 3, none⟩ (.int .i64 x.s.2.2)).setCell ⟨w.heap.size, 4, none⟩ (.slice x.a x.n x.k)) p q most l2 ∧ Chg (Fq p q) w (((((w4.setCell ⟨w.heap.size, 0, none⟩ (.int .i64 x.c)).setCell ⟨w.heap.size, 1, none⟩ (.int .i64 x.s.1)).setCell ⟨w.heap.size, 2, none⟩ (.int .i64 x.s.2.1)).setCell ⟨w.heap.size, 3, none⟩ (.int .i64 x.s.2.2)).setCell ⟨w.heap.size, 4, none⟩ (.slice x.a x.n x.k))) := by
    refine ⟨((((HLB4.set 0 _).set 1 _).set 2 _).set 3 _).set 4 _, HR.keep (fun k hk => ?_), ((((((Chg.of_below HB3.out).trans HC).set (.inr (Nat.le_refl _)) _).set (.inr (Nat.le_refl _)) _).set (.inr (Nat.le_refl _)) _).set (.inr (Nat.le_refl _)) _).set (.inr (Nat.le_refl _)) _⟩
    have := HLT.out k hk
    exact (Below.heap_setCell _ _ _ _ (by simp; omega)).trans ((Below.heap_setCell _ _ _ _ (by simp; omega)).trans ((Below.heap_setCell _ _ _ _ (by simp; omega)).trans ((Below.heap_setCell _ _ _ _ (by simp; omega)).trans (Below.heap_setCell _ _ _ _ (by simp; omega)))))
  simp only [List.getElem?_toArray, List.getElem?_cons_zero, List.getElem?_cons_succ] at v0 v1 v2 v3 v4 b0 b1 b2 b3 b4
  clear HLV4 HLB4 HR HC HLV HLB HB3
  go_wp2
  exact ret_cell rfl w.heap.size 50 #[.int .i64 x.c, .int .i64 x.s.1, .int .i64 x.s.2.1, .int .i64 x.s.2.2, .slice x.a x.n x.k] (0, 0) _ (.bool bb) rfl rfl HFIN.out.1 Tryd.underlying50 rfl sizeER ⟨rfl, HFIN.out.2⟩
theorem newR_bad (n : Int) (hn : n < 1 ∨ 1048576 < n) (w : World) : Calls Tryd.prog 28 #[.int .i64 n] w fun e w' => e = .returned (.tuple #[ptr none, .int .i64 2]) ∧ w' = w := by
  unfold ptr
  rcases hn with hn | hn
  · go_enter Tryd.func28, Tryd.ntmps28
    go_wp2
    go_ret2
    exact ⟨rfl, rfl⟩
  · have hn2 : ¬ n < 1 := by omega
    go_enter Tryd.func28, Tryd.ntmps28
    go_wp2
    go_ret2
    exact ⟨rfl, rfl⟩
theorem newR_good (n : Nat) (hn : 1 ≤ n) (hn2 : n ≤ 1048576) (w : World) : Calls Tryd.prog 28 #[.int .i64 (n : Int)] w fun e w' => e = .returned (.tuple #[ptr (some w.heap.size), .int .i64 0]) ∧ RgR w' (some w.heap.size) none n [] ∧ Below w.heap.size w w' := by
  unfold ptr
  have h1 : ¬ (n : Int) < 1 := by omega
  have h2 : ¬ (1048576 : Int) < (n : Int) := by omega
  go_enter Tryd.func28, Tryd.ntmps28
  go_wp2
  go_ret2
  exact ⟨rfl, .made w.heap.size none n [] 0 0 ⟨Lies.new w _ _, hn, hn2, Nat.zero_le _, Nat.le_refl _, .inr ⟨rfl, rfl⟩, fun _ => rfl, fun e => absurd rfl e⟩, (Below.refl _ _).alloc (Nat.le_refl _) _⟩
end Go.Proofs.YtbfgefgadplcjaaDoor
