/-
  Where in a reply a reader stands: take.
-/
import Derived.Test.YtbfgefgadplcjaaDoorPl12
namespace Go.Proofs.YtbfgefgadplcjaaDoor
open Go.RowKit

theorem PlAt.drewN {w : World} {g o : Nat} {pre post : List Value} {t : TypeId} {p : Plc} (h : PlAt w g o pre post t p) (n : Nat) : PlAt (w.drewN n) g o pre post t p := ⟨h.lies.drewN n, h.off⟩
theorem PlAt.drew {w : World} {g o : Nat} {pre post : List Value} {t : TypeId} {p : Plc} (h : PlAt w g o pre post t p) : PlAt w.drew g o pre post t p := ⟨h.lies.drew, h.off⟩
/-- The cells of a place that has gone on. -/
theorem plC_code (p : Plc) (k : Nat) (hk : k < 3) (c : UInt8) : plC (p.put k c) = (plC p).set (1 + k) (.int .u8 (c.toNat : Int)) := by
  obtain rfl | rfl | rfl : k = 0 ∨ k = 1 ∨ k = 2 := by omega
  · rfl
  · rfl
  · rfl
theorem plC_n (p : Plc) (n : Nat) : plC { p with n := n } = (plC p).set 4 (.int .i64 (n : Int)) := rfl
theorem plC_m (p : Plc) (m : Bool) : plC { p with m := m } = (plC p).set 5 (.bool m) := rfl
theorem plC_e (p : Plc) (e : Bool) : plC { p with e := e } = (plC p).set 6 (.bool e) := rfl
set_option maxHeartbeats 2000000 in
set_option maxRecDepth 20000 in
theorem take_any (g o : Nat) (pre post : List Value) (t : TypeId) (p : Plc) (ok : p.Ok) (c : UInt8) (w : World) (h : PlAt w g o pre post t p) (hd : DigT w) (ht : Table w) :
    Calls Tryd.prog 42 #[.pointer (some ⟨g, o, none⟩), .int .u8 (c.toNat : Int)] w fun e w' => e = .returned (.int .i64 ((stepP p c).2 : Nat)) ∧ PlAt w' g o pre post t (stepP p c).1 ∧ Chg (· = g) w w' := by
  have H : Hid (PlAt w g o pre post t p) := h
  obtain ⟨-, -, -, -, c4, c5, c6⟩ := h.cells
  have f4 := h.frozen 4
  have f5 := h.frozen 5
  have f6 := h.frozen 6
  have ok2 := ok.n
  unfold stepP
  cases he : p.e with
  | true =>
    rw [he] at c6
    have HE := end_any g o pre post t p ok c w h
    clear h hd ht H
    simp only [if_true]
    generalize (c.toNat : Int) = b at *
    go_enter Tryd.func42, Tryd.ntmps42
    go_wp2_with (go_at_call 57; refine HE.mono ?_; clear HE c4 c5 c6 f4 f5 f6; rintro e w' ⟨rfl, HP, HC⟩)
    go_ret
    exact ⟨rfl, HP, HC⟩
  | false =>
    rw [he] at c6
    simp only [Bool.false_eq_true, if_false]
    by_cases h13 : c = 13 ∧ 3 ≤ p.n
    · rw [if_pos h13]
      obtain ⟨rfl, h3⟩ := h13
      have HF : Hid (∀ w', w' = w.setCell ⟨g, o + 6, none⟩ (.bool true) → PlAt w' g o pre post t { p with e := true } ∧ Chg (· = g) w w') := fun w' e => H.out.set 6 _ _ (by decide) (plC_e p true) e
      clear h hd ht H ok
      generalize p.n = n at *
      go_enter Tryd.func42, Tryd.ntmps42
      go_wp2
      go_ret
      exact ⟨rfl, HF.out _ rfl⟩
    · rw [if_neg h13]
      have hn13 : (((c.toNat : Int) == 13) = false) ∨ (((c.toNat : Int) == 13) = true ∧ p.n < 3) := by
        rw [show ((c.toNat : Int) == 13) = (c == 13) from beq_u8 c 13]
        by_cases h : c = 13
        · exact .inr ⟨by rw [h]; rfl, Nat.lt_of_not_le (fun k => h13 ⟨h, k⟩)⟩
        · exact .inl (beq_eq_false_iff_ne.2 h)
      have HT := fits_any g o pre post t p ok c w h hd ht
      cases hf : fitB p c with
      | false =>
        rw [hf] at HT
        simp only [Bool.false_eq_true, if_false]
        clear h hd ht ok
        generalize (c.toNat : Int) = b at *
        generalize p.n = n at *
        rcases hn13 with hb | ⟨hb, h3⟩
        · go_enter Tryd.func42, Tryd.ntmps42
          go_wp2_with (go_at_call 58; refine HT.mono ?_; clear HT; rintro e w' ⟨rfl, nd, rfl⟩)
          go_ret
          exact ⟨rfl, H.out.drewN _, (Chg.refl _ _).drewN _⟩
        · go_enter Tryd.func42, Tryd.ntmps42
          go_wp2_with (go_at_call 58; refine HT.mono ?_; clear HT; rintro e w' ⟨rfl, nd, rfl⟩)
          go_ret
          exact ⟨rfl, H.out.drewN _, (Chg.refl _ _).drewN _⟩
      | true =>
        rw [hf] at HT
        simp only [if_true]
        unfold midP
        by_cases h3 : p.n < 3
        · rw [if_pos h3]
          have cc := h.code p.n h3
          have fc := h.frozen (1 + p.n)
          rw [← Nat.add_assoc] at fc
          have HF : Hid (∀ a b w', w' = (((w.drewN a).setCell ⟨g, o + 1 + p.n, none⟩ (.int .u8 (c.toNat : Int))).setCell ⟨g, o + 4, none⟩ (.int .i64 ((p.n : Int) + 1))).drewN b → PlAt w' g o pre post t { p.put p.n c with n := p.n + 1 } ∧ Chg (· = g) w w') := fun a b w' e => by
            obtain ⟨k1, k2⟩ := (H.out.drewN a).set (w' := (w.drewN a).setCell ⟨g, o + 1 + p.n, none⟩ (.int .u8 (c.toNat : Int))) (1 + p.n) _ (p.put p.n c) (by omega) (plC_code p p.n h3 c) (by rw [Nat.add_assoc])
            obtain ⟨k3, k4⟩ := k1.set 4 _ _ (by decide) (plC_n (p.put p.n c) (p.n + 1)) rfl
            subst e
            exact ⟨k3.drewN b, (((Chg.refl _ _).drewN a).trans (k2.trans k4)).drewN b⟩
          clear h hd ht ok H
          generalize (c.toNat : Int) = b at *
          generalize p.cd p.n = d at *
          generalize p.n = n at *
          have hno : o + 1 + n ≠ o + 4 := by omega
          rcases hn13 with hb | ⟨hb, -⟩
          · go_enter Tryd.func42, Tryd.ntmps42
            go_wp2_with (go_at_call 58; refine HT.mono ?_; clear HT; rintro e w' ⟨rfl, nd, rfl⟩)
            go_region
            go_wp2_with fail
            go_ret
            exact ⟨rfl, HF.out (nd + 1) 0 _ rfl⟩
          · go_enter Tryd.func42, Tryd.ntmps42
            go_wp2_with (go_at_call 58; refine HT.mono ?_; clear HT; rintro e w' ⟨rfl, nd, rfl⟩)
            go_region
            go_wp2_with fail
            go_ret
            exact ⟨rfl, HF.out (nd + 1) 0 _ rfl⟩
        · rw [if_neg h3]
          have hb : ((c.toNat : Int) == 13) = false := by
            rcases hn13 with hb | ⟨_, hb⟩
            · exact hb
            · omega
          clear hn13
          by_cases h4 : p.n = 3
          · rw [if_pos h4]
            have HF : Hid (∀ a w', w' = ((w.drewN a).setCell ⟨g, o + 5, none⟩ (.bool ((c.toNat : Int) == 45))).setCell ⟨g, o + 4, none⟩ (.int .i64 4) → PlAt w' g o pre post t { p with m := c == 45, n := p.n + 1 } ∧ Chg (· = g) w w') := fun a w' e => by
              obtain ⟨k1, k2⟩ := (H.out.drewN a).set (w' := (w.drewN a).setCell ⟨g, o + 5, none⟩ (.bool ((c.toNat : Int) == 45))) 5 _ { p with m := c == 45 } (by omega) (by rw [plC_m, ← show ((c.toNat : Int) == 45) = (c == 45) from beq_u8 c 45]) rfl
              obtain ⟨k3, k4⟩ := k1.set 4 (.int .i64 4) { p with m := c == 45, n := p.n + 1 } (by decide) (by have := plC_n { p with m := c == 45 } (p.n + 1); rw [show (((p.n + 1 : Nat)) : Int) = 4 by omega] at this; exact this) rfl
              subst e
              exact ⟨k3, ((Chg.refl _ _).drewN a).trans (k2.trans k4)⟩
            clear h hd ht ok H
            rw [h4] at c4
            generalize (c.toNat : Int) = b at *
            go_enter Tryd.func42, Tryd.ntmps42
            go_wp2_with (go_at_call 58; refine HT.mono ?_; clear HT; rintro e w' ⟨rfl, nd, rfl⟩)
            go_ret
            exact ⟨rfl, HF.out nd _ rfl⟩
          · rw [if_neg h4]
            have HF : Hid (∀ a w', w' = (w.drewN a).setCell ⟨g, o + 4, none⟩ (.int .i64 ((p.n : Int) + 1)) → PlAt w' g o pre post t { p with n := p.n + 1 } ∧ Chg (· = g) w w') := fun a w' e => by
              obtain ⟨k1, k2⟩ := (H.out.drewN a).set 4 _ _ (by decide) (plC_n p (p.n + 1)) rfl
              subst e
              exact ⟨k1, ((Chg.refl _ _).drewN a).trans k2⟩
            have h5 : ((p.n : Int) == 3) = false := by rw [beq_eq_false_iff_ne]; omega
            clear h hd ht ok H
            generalize (c.toNat : Int) = b at *
            generalize p.n = n at *
            go_enter Tryd.func42, Tryd.ntmps42
            go_wp2_with (go_at_call 58; refine HT.mono ?_; clear HT; rintro e w' ⟨rfl, nd, rfl⟩)
            go_ret
            exact ⟨rfl, HF.out nd _ rfl⟩
end Go.Proofs.YtbfgefgadplcjaaDoor
