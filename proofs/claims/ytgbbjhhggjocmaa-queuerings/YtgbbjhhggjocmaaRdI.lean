/-
  The first things taken away; New.
-/
import Derived.Test.YtgbbjhhggjocmaaRaI
namespace Go.Proofs.Ytgbbjhhggjocmaa
open Go.RowKit

set_option maxRecDepth 20000 in
set_option maxHeartbeats 2000000 in
theorem dropI_any (p q : Option Nat) (most : Nat) (l : List Int) (n : Int) (w : World) (h : RgI w p q most l) (D0 : Nat) (hD0 : D0 = dropN l.length n) :
    Calls Try.prog 34 #[ptr p, .int .i64 n] w fun e w' => e = .returned (.int .i64 (D0 : Int)) ∧ RgI w' p q most (l.drop D0) ∧ Chg (Fq p q) w w' := by
  have hln := lenI_any p q most l w h
  unfold dropN at hD0
  by_cases hz : min n (l.length : Int) ≤ 0
  · have e0 : D0 = 0 := by rw [hD0]; omega
    subst e0
    rw [List.drop_zero]
    have H : Hid (RgI w p q most l) := h
    clear h hD0
    generalize l.length = m at *
    obtain ⟨x, hx⟩ : ∃ x, x = min n (m : Int) := ⟨_, rfl⟩
    have h1 : min n (m : Int) = x := hx.symm
    have h2 : (if (m : Int) < n then (m : Int) else n) = x := by split <;> omega
    have h3 : x ≤ 0 := by omega
    clear hx hz
    go_enter Try.func34, Try.ntmps34
    go_wp2_with (go_at_call 14; refine hln.mono ?_; clear hln; rintro e w ⟨rfl, rfl⟩)
    all_goals go_ret
    all_goals exact ⟨rfl, H.out, Chg.refl _ _⟩
  · cases h with
    | no => simp at hz; omega
    | zero b h => simp at hz; omega
    | made b q most A f c h =>
      rw [rwA_length] at *
      have hcA := h.cnt
      have hA : A ≠ [] := fun e => by rw [e] at hcA; simp at hcA; omega
      obtain ⟨g, rfl, hg⟩ := h.som hA
      have hD1 : 1 ≤ D0 := by omega
      have hD2 : D0 ≤ c := by omega
      have hm1 : min n (c : Int) = (D0 : Int) := by omega
      have hm2 : (if (c : Int) < n then (c : Int) else n) = (D0 : Int) := by split <;> omega
      have hf : f < A.length := by rcases h.fst with h1 | h1; exact h1; exact absurd h1.2 hA
      have hlid : A.length ≤ 1048576 := Nat.le_trans h.room h.lid
      have hgb : g ≠ b := lies_ne hg h.lies (by decide)
      obtain ⟨Hi, hHi⟩ : ∃ Hi, Hi = min (f + D0) A.length := ⟨_, rfl⟩
      obtain ⟨a1, ha1⟩ : ∃ a1, a1 = Hi - f := ⟨_, rfl⟩
      obtain ⟨a2, ha2⟩ : ∃ a2, a2 = D0 - a1 := ⟨_, rfl⟩
      have HP : Hid (Calls Try.prog 58 #[.pointer (some ⟨b, 0, none⟩), .int .i64 (D0 : Int)] w fun e w' => e = .returned (.tuple #[.slice (some ⟨g, f, none⟩) a1 (A.length - f), .slice (some ⟨g, 0, none⟩) a2 A.length]) ∧ ∃ n, w' = w.drewN n) := by
        have := piecesI_any b g most A f c D0 w h hD2 Hi hHi
        rw [← ha1, ← ha2] at this
        exact this
      have HRW : Hid (rwA 0 (clrA 0 (clrA 0 A f a1) 0 a2) ((f + D0) % A.length) (c - D0) = (rwA 0 A f c).drop D0) := by
        have := rwA_cleared (0 : Int) A f c D0 hf hcA hD2
        rwa [← hHi, ← ha1, ← ha2] at this
      have HLN : Hid ((clrA 0 (clrA 0 A f a1) 0 a2).length = A.length) := by
        have := clrA_cleared_length (0 : Int) A f D0 (by omega) (by omega)
        rwa [← hHi, ← ha1, ← ha2] at this
      have HF1 : Hid (f + a1 ≤ A.length) := by unfold Hid; omega
      have HF2 : Hid (0 + a2 ≤ (clrA 0 A f a1).length) := by rw [clrA_length _ _ _ _ HF1.out]; unfold Hid; omega
      have HOFF : Hid (f = f * 1) := by unfold Hid; omega
      have HGL : Hid (Lies w g (A.flatMap celI).toArray 3) := hg
      have HH : Hid (GdI w b (some g) most A f c) := h
      obtain ⟨J, hJ⟩ : ∃ J, J = (f + D0) % A.length := ⟨_, rfl⟩
      have HPL : Hid (∀ w3, GdI w3 b (some g) most (clrA 0 (clrA 0 A f a1) 0 a2) f c → Calls Try.prog 53 #[.pointer (some ⟨b, 0, none⟩), .int .i64 (D0 : Int)] w3 fun e w' => e = .returned (.int .i64 (J : Int)) ∧ ∃ k, w' = w3.drewN k) := fun w3 h3 => by
        have := placeI_any b (some g) most _ f c D0 w3 h3 (fun e => hA (List.eq_nil_of_length_eq_zero (by rw [← HLN.out, e]; rfl))) (by omega)
        rwa [HLN.out, ← hJ] at this
      have HG3 : Hid (∀ w3, Lies w3 g ((clrA 0 (clrA 0 A f a1) 0 a2).flatMap celI).toArray 3 → Chg (· = g) w w3 → GdI w3 b (some g) most (clrA 0 (clrA 0 A f a1) 0 a2) f c) := fun w3 k1 k2 =>
        ⟨by rw [HLN.out]; exact k2.lies h.lies (Ne.symm hgb), h.pos, h.lid, by rw [HLN.out]; exact h.room, by rw [HLN.out]; exact hcA, by rw [HLN.out]; exact .inl hf, fun e => absurd (List.eq_nil_of_length_eq_zero (by rw [← HLN.out, e]; rfl)) hA, fun _ => ⟨g, rfl, k1⟩⟩
      have HFIN : Hid (∀ w3 k, GdI w3 b (some g) most (clrA 0 (clrA 0 A f a1) 0 a2) f c → Chg (· = g) w w3 → RgI (((w3.drewN k).setCell ⟨b, 2, none⟩ (.int .i64 (J : Int))).setCell ⟨b, 3, none⟩ (.int .i64 ((c : Int) - (D0 : Int)))) (some b) (some g) most ((rwA 0 A f c).drop D0) ∧ Chg (Fq (some b) (some g)) w (((w3.drewN k).setCell ⟨b, 2, none⟩ (.int .i64 (J : Int))).setCell ⟨b, 3, none⟩ (.int .i64 ((c : Int) - (D0 : Int))))) := fun w3 k k1 k2 => by
        refine ⟨?_, (((k2.mono (fun i e => .inr (by rw [e]))).drewN k).set (.inl (.inl rfl)) _).set (.inl (.inl rfl)) _⟩
        have hJl : J < A.length := by rw [hJ]; exact Nat.mod_lt _ (by omega)
        rw [← HRW.out, ← hJ]
        refine .made b (some g) most _ J (c - D0) ⟨?_, h.pos, h.lid, by rw [HLN.out]; exact h.room, by rw [HLN.out]; omega, by rw [HLN.out]; exact .inl hJl, k1.non, fun e => ?_⟩
        · rw [show (((c - D0 : Nat) : Int)) = (c : Int) - (D0 : Int) by omega]
          exact ((k1.lies.drewN k).set 2 _).set 3 _
        · obtain ⟨g', e', hg'⟩ := k1.som e
          cases e'
          exact ⟨g, rfl, ((hg'.drewN k).set_other hgb _).set_other hgb _⟩
      have HC3 : Hid (∀ w3, GdI w3 b (some g) most (clrA 0 (clrA 0 A f a1) 0 a2) f c → w3.cell? ⟨b, 2, none⟩ = some (.int .i64 (f : Int)) ∧ w3.cell? ⟨b, 3, none⟩ = some (.int .i64 (c : Int)) ∧ w3.frozen? ⟨b, 2, none⟩ = false ∧ w3.frozen? ⟨b, 3, none⟩ = false) := fun w3 k => ⟨k.cells.2.2.1, k.cells.2.2.2, k.lies.frozen 2, k.lies.frozen 3⟩
      have hcl : c ≤ 1048576 := by omega
      have hneg : ¬ (D0 : Int) ≤ 0 := by omega
      clear h hg hA hD0 hz hJ ha1 ha2 hHi hcA hf hlid
      generalize rwA 0 A f c = l0 at *
      unfold ptr at *
      go_enter Try.func34, Try.ntmps34
      go_wp2_with (first
        | (go_at_call 14; refine hln.mono ?_; clear hln; rintro e w ⟨rfl, rfl⟩)
        | (go_at_call 58; refine HP.out.mono ?_; clear HP; rintro e w1 ⟨rfl, nd, rfl⟩)
        | (go_at_call 53; refine (HPL.out _ HG4.out).mono ?_; clear HPL; rintro e w5 ⟨rfl, nk, rfl⟩)
        | (refine wpList_clear_k celI_length (by decide) oneI 0 rfl _ 55 3 rfl Try.underlying55 _ zeroI_run rfl g f (f) a1 (A.length - f) A 3 HOFF.out rfl (Lies.drewN HGL.out _) HF1.out ?_; intro w2 HG2 HC2; clear HGL)
        | (refine wpList_clear_k celI_length (by decide) oneI 0 rfl _ 55 3 rfl Try.underlying55 _ zeroI_run rfl g 0 0 a2 A.length _ 3 rfl rfl HG2 HF2.out ?_; intro w3 HG5 HC5; clear HG2; have HC6 : Hid (Chg (· = g) w w3) := ((Chg.refl _ w).drewN _).trans (HC2.trans HC5); have HG4 : Hid (GdI w3 b (some g) most (clrA 0 (clrA 0 A f a1) 0 a2) f c) := HG3.out _ HG5 HC6.out; clear HC2 HC5 HG5; obtain ⟨d2, d3, z2, z3⟩ := HC3.out _ HG4.out))
      go_ret
      exact ⟨rfl, HFIN.out _ _ HG4.out HC6.out⟩
/-- What Pop tells. -/
theorem popI_any (p q : Option Nat) (most : Nat) (l : List Int) (w : World) (h : RgI w p q most l) :
    Calls Try.prog 21 #[ptr p] w fun e w' => e = .returned (.tuple #[valI (l.headD 0), .bool (!l.isEmpty)]) ∧ RgI w' p q most l.tail ∧ Chg (Fq p q) w w' := by
  have h1 := atI_any p q most l 0 w h
  have e1 : atXI l 0 = l.headD 0 := by unfold atXI; cases l <;> rfl
  have e2 : atB l.length 0 = (!l.isEmpty) := by unfold atB; cases l <;> simp
  rw [e1, e2] at h1
  have H2 : Hid (∀ w1, Below w.heap.size w w1 → Calls Try.prog 34 #[ptr p, .int .i64 1] w1 fun e w' => e = .returned (.int .i64 ((dropN l.length 1 : Nat) : Int)) ∧ RgI w' p q most l.tail ∧ Chg (Fq p q) w w') := fun w1 hb => (dropI_any p q most l 1 _ (h.below hb) _ rfl).mono (fun e w' hh => by
    obtain ⟨k1, k2, k3⟩ := hh
    have : l.drop (dropN l.length 1) = l.tail := by
      unfold dropN
      cases l with
      | nil => rfl
      | cons x r => rw [show (min (1 : Int) (((x :: r).length : Nat) : Int)).toNat = 1 by simp; omega]; rfl
    rw [this] at k2
    exact ⟨k1, k2, (Chg.of_below hb).trans k3⟩)
  clear h e1 e2
  generalize dropN l.length 1 = dn at H2
  generalize ptr p = pv at *
  generalize valI (l.headD 0) = x at *
  generalize l.tail = l2 at *
  generalize (!l.isEmpty) = bb at *
  go_enter Try.func21, Try.ntmps21
  go_wp2_with (first | (go_at_call 41; refine h1.mono ?_; clear h1; rintro e w1 ⟨rfl, hb⟩) | (go_at_call 34; refine (H2.out _ hb).mono ?_; clear H2; rintro e w2 ⟨rfl, HR, HC⟩))
  go_ret2
  exact ⟨rfl, HR, HC⟩
theorem newI_bad (n : Int) (hn : n < 1 ∨ 1048576 < n) (w : World) : Calls Try.prog 9 #[.int .i64 n] w fun e w' => e = .returned (.tuple #[ptr none, .int .i64 2]) ∧ w' = w := by
  unfold ptr
  rcases hn with hn | hn
  · go_enter Try.func9, Try.ntmps9
    go_wp2
    go_ret2
    exact ⟨rfl, rfl⟩
  · have hn2 : ¬ n < 1 := by omega
    go_enter Try.func9, Try.ntmps9
    go_wp2
    go_ret2
    exact ⟨rfl, rfl⟩
theorem newI_good (n : Nat) (hn : 1 ≤ n) (hn2 : n ≤ 1048576) (w : World) : Calls Try.prog 9 #[.int .i64 (n : Int)] w fun e w' => e = .returned (.tuple #[ptr (some w.heap.size), .int .i64 0]) ∧ RgI w' (some w.heap.size) none n [] ∧ Below w.heap.size w w' := by
  unfold ptr
  have h1 : ¬ (n : Int) < 1 := by omega
  have h2 : ¬ (1048576 : Int) < (n : Int) := by omega
  go_enter Try.func9, Try.ntmps9
  go_wp2
  go_ret2
  exact ⟨rfl, .made w.heap.size none n [] 0 0 ⟨Lies.new w _ _, hn, hn2, Nat.zero_le _, Nat.le_refl _, .inr ⟨rfl, rfl⟩, fun _ => rfl, fun e => absurd rfl e⟩, (Below.refl _ _).alloc (Nat.le_refl _) _⟩
end Go.Proofs.Ytgbbjhhggjocmaa
