/-
  The first things taken away; New.
-/
import Derived.Test.YtgbbjhhggjocmabRaS
namespace Go.Proofs.Ytgbbjhhggjocmab
open Go.RowKit

set_option maxRecDepth 20000 in
set_option maxHeartbeats 2000000 in
theorem dropS_any (p q : Option Nat) (most : Nat) (l : List ByteArray) (n : Int) (w : World) (h : RgS w p q most l) (D0 : Nat) (hD0 : D0 = dropN l.length n) :
    Calls Try.prog 39 #[ptr p, .int .i64 n] w fun e w' => e = .returned (.int .i64 (D0 : Int)) ∧ RgS w' p q most (l.drop D0) ∧ Chg (Fq p q) w w' := by
  have hln := lenS_any p q most l w h
  unfold dropN at hD0
  by_cases hz : min n (l.length : Int) ≤ 0
  · have e0 : D0 = 0 := by rw [hD0]; omega
    subst e0
    rw [List.drop_zero]
    have H : Hid (RgS w p q most l) := h
    clear h hD0
    generalize l.length = m at *
    obtain ⟨x, hx⟩ : ∃ x, x = min n (m : Int) := ⟨_, rfl⟩
    have h1 : min n (m : Int) = x := hx.symm
    have h2 : (if (m : Int) < n then (m : Int) else n) = x := by split <;> omega
    have h3 : x ≤ 0 := by omega
    clear hx hz
    go_enter Try.func39, Try.ntmps39
    go_wp2_with (go_at_call 33; refine hln.mono ?_; clear hln; rintro e w ⟨rfl, rfl⟩)
    all_goals go_ret
    all_goals exact ⟨rfl, H.out, Chg.refl _ _⟩
  · cases h with
    | no => simp at hz; omega
    | zero b h => simp at hz; omega
    | made b q most A f c h =>
      rw [rwA_length] at *
      have hcA := h.cnt
      have hA : A ≠ [] := fun e => by rw [e] at hcA; simp at hcA; omega
      obtain ⟨g, rfl, hg⟩ := h.som hA
      have hD1 : 1 ≤ D0 := by omega
      have hD2 : D0 ≤ c := by omega
      have hm1 : min n (c : Int) = (D0 : Int) := by omega
      have hm2 : (if (c : Int) < n then (c : Int) else n) = (D0 : Int) := by split <;> omega
      have hf : f < A.length := by rcases h.fst with h1 | h1; exact h1; exact absurd h1.2 hA
      have hlid : A.length ≤ 1048576 := Nat.le_trans h.room h.lid
      have hgb : g ≠ b := lies_ne hg h.lies (by decide)
      obtain ⟨Hi, hHi⟩ : ∃ Hi, Hi = min (f + D0) A.length := ⟨_, rfl⟩
      obtain ⟨a1, ha1⟩ : ∃ a1, a1 = Hi - f := ⟨_, rfl⟩
      obtain ⟨a2, ha2⟩ : ∃ a2, a2 = D0 - a1 := ⟨_, rfl⟩
      have HP : Hid (Calls Try.prog 74 #[.pointer (some ⟨b, 0, none⟩), .int .i64 (D0 : Int)] w fun e w' => e = .returned (.tuple #[.slice (some ⟨g, f, none⟩) a1 (A.length - f), .slice (some ⟨g, 0, none⟩) a2 A.length]) ∧ ∃ n, w' = w.drewN n) := by
        have := piecesS_any b g most A f c D0 w h hD2 Hi hHi
        rw [← ha1, ← ha2] at this
        exact this
      have HRW : Hid (rwA ByteArray.empty (clrA ByteArray.empty (clrA ByteArray.empty A f a1) 0 a2) ((f + D0) % A.length) (c - D0) = (rwA ByteArray.empty A f c).drop D0) := by
        have := rwA_cleared (ByteArray.empty : ByteArray) A f c D0 hf hcA hD2
        rwa [← hHi, ← ha1, ← ha2] at this
      have HLN : Hid ((clrA ByteArray.empty (clrA ByteArray.empty A f a1) 0 a2).length = A.length) := by
        have := clrA_cleared_length (ByteArray.empty : ByteArray) A f D0 (by omega) (by omega)
        rwa [← hHi, ← ha1, ← ha2] at this
      have HF1 : Hid (f + a1 ≤ A.length) := by unfold Hid; omega
      have HF2 : Hid (0 + a2 ≤ (clrA ByteArray.empty A f a1).length) := by rw [clrA_length _ _ _ _ HF1.out]; unfold Hid; omega
      have HOFF : Hid (f = f * 1) := by unfold Hid; omega
      have HGL : Hid (Lies w g (A.flatMap celS).toArray 9) := hg
      have HH : Hid (GdS w b (some g) most A f c) := h
      obtain ⟨J, hJ⟩ : ∃ J, J = (f + D0) % A.length := ⟨_, rfl⟩
      have HPL : Hid (∀ w3, GdS w3 b (some g) most (clrA ByteArray.empty (clrA ByteArray.empty A f a1) 0 a2) f c → Calls Try.prog 57 #[.pointer (some ⟨b, 0, none⟩), .int .i64 (D0 : Int)] w3 fun e w' => e = .returned (.int .i64 (J : Int)) ∧ ∃ k, w' = w3.drewN k) := fun w3 h3 => by
        have := placeS_any b (some g) most _ f c D0 w3 h3 (fun e => hA (List.eq_nil_of_length_eq_zero (by rw [← HLN.out, e]; rfl))) (by omega)
        rwa [HLN.out, ← hJ] at this
      have HG3 : Hid (∀ w3, Lies w3 g ((clrA ByteArray.empty (clrA ByteArray.empty A f a1) 0 a2).flatMap celS).toArray 9 → Chg (· = g) w w3 → GdS w3 b (some g) most (clrA ByteArray.empty (clrA ByteArray.empty A f a1) 0 a2) f c) := fun w3 k1 k2 =>
        ⟨by rw [HLN.out]; exact k2.lies h.lies (Ne.symm hgb), h.pos, h.lid, by rw [HLN.out]; exact h.room, by rw [HLN.out]; exact hcA, by rw [HLN.out]; exact .inl hf, fun e => absurd (List.eq_nil_of_length_eq_zero (by rw [← HLN.out, e]; rfl)) hA, fun _ => ⟨g, rfl, k1⟩⟩
      have HFIN : Hid (∀ w3 k, GdS w3 b (some g) most (clrA ByteArray.empty (clrA ByteArray.empty A f a1) 0 a2) f c → Chg (· = g) w w3 → RgS (((w3.drewN k).setCell ⟨b, 2, none⟩ (.int .i64 (J : Int))).setCell ⟨b, 3, none⟩ (.int .i64 ((c : Int) - (D0 : Int)))) (some b) (some g) most ((rwA ByteArray.empty A f c).drop D0) ∧ Chg (Fq (some b) (some g)) w (((w3.drewN k).setCell ⟨b, 2, none⟩ (.int .i64 (J : Int))).setCell ⟨b, 3, none⟩ (.int .i64 ((c : Int) - (D0 : Int))))) := fun w3 k k1 k2 => by
        refine ⟨?_, (((k2.mono (fun i e => .inr (by rw [e]))).drewN k).set (.inl (.inl rfl)) _).set (.inl (.inl rfl)) _⟩
        have hJl : J < A.length := by rw [hJ]; exact Nat.mod_lt _ (by omega)
        rw [← HRW.out, ← hJ]
        refine .made b (some g) most _ J (c - D0) ⟨?_, h.pos, h.lid, by rw [HLN.out]; exact h.room, by rw [HLN.out]; omega, by rw [HLN.out]; exact .inl hJl, k1.non, fun e => ?_⟩
        · rw [show (((c - D0 : Nat) : Int)) = (c : Int) - (D0 : Int) by omega]
          exact ((k1.lies.drewN k).set 2 _).set 3 _
        · obtain ⟨g', e', hg'⟩ := k1.som e
          cases e'
          exact ⟨g, rfl, ((hg'.drewN k).set_other hgb _).set_other hgb _⟩
      have HC3 : Hid (∀ w3, GdS w3 b (some g) most (clrA ByteArray.empty (clrA ByteArray.empty A f a1) 0 a2) f c → w3.cell? ⟨b, 2, none⟩ = some (.int .i64 (f : Int)) ∧ w3.cell? ⟨b, 3, none⟩ = some (.int .i64 (c : Int)) ∧ w3.frozen? ⟨b, 2, none⟩ = false ∧ w3.frozen? ⟨b, 3, none⟩ = false) := fun w3 k => ⟨k.cells.2.2.1, k.cells.2.2.2, k.lies.frozen 2, k.lies.frozen 3⟩
      have hcl : c ≤ 1048576 := by omega
      have hneg : ¬ (D0 : Int) ≤ 0 := by omega
      clear h hg hA hD0 hz hJ ha1 ha2 hHi hcA hf hlid
      generalize rwA ByteArray.empty A f c = l0 at *
      unfold ptr at *
      go_enter Try.func39, Try.ntmps39
      go_wp2_with (first
        | (go_at_call 33; refine hln.mono ?_; clear hln; rintro e w ⟨rfl, rfl⟩)
        | (go_at_call 74; refine HP.out.mono ?_; clear HP; rintro e w1 ⟨rfl, nd, rfl⟩)
        | (go_at_call 57; refine (HPL.out _ HG4.out).mono ?_; clear HPL; rintro e w5 ⟨rfl, nk, rfl⟩)
        | (refine wpList_clear_k celS_length (by decide) oneS ByteArray.empty rfl _ 41 9 rfl Try.underlying41 _ zeroS_run rfl g f (f) a1 (A.length - f) A 9 HOFF.out rfl (Lies.drewN HGL.out _) HF1.out ?_; intro w2 HG2 HC2; clear HGL)
        | (refine wpList_clear_k celS_length (by decide) oneS ByteArray.empty rfl _ 41 9 rfl Try.underlying41 _ zeroS_run rfl g 0 0 a2 A.length _ 9 rfl rfl HG2 HF2.out ?_; intro w3 HG5 HC5; clear HG2; have HC6 : Hid (Chg (· = g) w w3) := ((Chg.refl _ w).drewN _).trans (HC2.trans HC5); have HG4 : Hid (GdS w3 b (some g) most (clrA ByteArray.empty (clrA ByteArray.empty A f a1) 0 a2) f c) := HG3.out _ HG5 HC6.out; clear HC2 HC5 HG5; obtain ⟨d2, d3, z2, z3⟩ := HC3.out _ HG4.out))
      go_ret
      exact ⟨rfl, HFIN.out _ _ HG4.out HC6.out⟩
/-- What Pop tells. -/
theorem popS_any (p q : Option Nat) (most : Nat) (l : List ByteArray) (w : World) (h : RgS w p q most l) :
    Calls Try.prog 18 #[ptr p] w fun e w' => e = .returned (.tuple #[valS (l.headD ByteArray.empty), .bool (!l.isEmpty)]) ∧ RgS w' p q most l.tail ∧ Chg (Fq p q) w w' := by
  have h1 := atS_any p q most l 0 w h
  have e1 : atXS l 0 = l.headD ByteArray.empty := by unfold atXS; cases l <;> rfl
  have e2 : atB l.length 0 = (!l.isEmpty) := by unfold atB; cases l <;> simp
  rw [e1, e2] at h1
  have H2 : Hid (∀ w1, Below w.heap.size w w1 → Calls Try.prog 39 #[ptr p, .int .i64 1] w1 fun e w' => e = .returned (.int .i64 ((dropN l.length 1 : Nat) : Int)) ∧ RgS w' p q most l.tail ∧ Chg (Fq p q) w w') := fun w1 hb => (dropS_any p q most l 1 _ (h.below hb) _ rfl).mono (fun e w' hh => by
    obtain ⟨k1, k2, k3⟩ := hh
    have : l.drop (dropN l.length 1) = l.tail := by
      unfold dropN
      cases l with
      | nil => rfl
      | cons x r => rw [show (min (1 : Int) (((x :: r).length : Nat) : Int)).toNat = 1 by simp; omega]; rfl
    rw [this] at k2
    exact ⟨k1, k2, (Chg.of_below hb).trans k3⟩)
  clear h e1 e2
  generalize dropN l.length 1 = dn at H2
  generalize ptr p = pv at *
  generalize valS (l.headD ByteArray.empty) = x at *
  generalize l.tail = l2 at *
  generalize (!l.isEmpty) = bb at *
  go_enter Try.func18, Try.ntmps18
  go_wp2_with (first | (go_at_call 20; refine h1.mono ?_; clear h1; rintro e w1 ⟨rfl, hb⟩) | (go_at_call 39; refine (H2.out _ hb).mono ?_; clear H2; rintro e w2 ⟨rfl, HR, HC⟩))
  go_ret2
  exact ⟨rfl, HR, HC⟩
end Go.Proofs.Ytgbbjhhggjocmab
