/-
  Where in a reply a reader stands: one byte more.
-/
import Derived.Test.YtbfgefgadplcjaaDoorRyP
import Derived.Test.YtbfgefgadplcjaaDoorWld
import Derived.Test.YtbfgefgadplcjaaDoorLate
import Derived.Test.YtbfgefgadplcjaaDoorLate5
import Derived.Deep.QuietTactic
import Derived.BigQuiet
namespace Go.Proofs.YtbfgefgadplcjaaDoor
open Go.RowKit

/-- The bounds of a code's digits, as they are laid. -/
def DigT (w : World) : Prop := w.cell? ⟨0, 0, none⟩ = some (.int .u8 50) ∧ w.cell? ⟨0, 1, none⟩ = some (.int .u8 53) ∧ w.cell? ⟨0, 2, none⟩ = some (.int .u8 48) ∧ w.cell? ⟨0, 3, none⟩ = some (.int .u8 53) ∧ w.cell? ⟨0, 4, none⟩ = some (.int .u8 48) ∧ w.cell? ⟨0, 5, none⟩ = some (.int .u8 57)
theorem u8_le (a c : UInt8) (n : Int) (hn : n = (a.toNat : Int)) : decide (a ≤ c) = decide (n ≤ (c.toNat : Int)) ∧ decide (c ≤ a) = decide ((c.toNat : Int) ≤ n) := by
  subst hn
  constructor <;> (apply decide_eq_decide.2; rw [UInt8.le_iff_toNat_le]; omega)
theorem digB_int (k : Nat) (c : UInt8) (lo hi : Int) (h1 : lo = ((loB k).toNat : Int)) (h2 : hi = ((hiB k).toNat : Int)) : digB k c = (decide (lo ≤ (c.toNat : Int)) && decide ((c.toNat : Int) ≤ hi)) := by
  unfold digB
  rw [(u8_le (loB k) c lo h1).1, (u8_le (hiB k) c hi h2).2]
set_option maxHeartbeats 1000000 in
theorem iscd_any (k : Nat) (hk : k < 3) (c : UInt8) (w : World) (hd : DigT w) : Calls Tryd.prog 49 #[.int .i64 (k : Int), .int .u8 (c.toNat : Int)] w fun e w' => e = .returned (.bool (digB k c)) ∧ w' = w := by
  obtain ⟨d0, d1, d2, d3, d4, d5⟩ := hd
  obtain ⟨lo, hi, h1, h2, e0, e1⟩ : ∃ lo hi : Int, lo = ((loB k).toNat : Int) ∧ hi = ((hiB k).toNat : Int) ∧ w.cell? ⟨0, k * 2, none⟩ = some (.int .u8 lo) ∧ w.cell? ⟨0, k * 2 + 1, none⟩ = some (.int .u8 hi) := by
    obtain rfl | rfl | rfl : k = 0 ∨ k = 1 ∨ k = 2 := by omega
    · exact ⟨50, 53, rfl, rfl, d0, d1⟩
    · exact ⟨48, 53, rfl, rfl, d2, d3⟩
    · exact ⟨48, 57, rfl, rfl, d4, d5⟩
  rw [digB_int k c lo hi h1 h2]
  clear d0 d1 d2 d3 d4 d5 h1 h2
  generalize (c.toNat : Int) = b
  by_cases hl : lo ≤ b
  · go_enter Tryd.func49, Tryd.ntmps49
    go_wp2
    go_ret
    exact ⟨ret_bool (by simp [hl]), rfl⟩
  · go_enter Tryd.func49, Tryd.ntmps49
    go_wp2
    go_ret
    exact ⟨ret_bool (by rw [decide_eq_false (by omega)]; rfl), rfl⟩
set_option maxHeartbeats 1000000 in
theorem istb_any (c : UInt8) (w : World) (ht : Table w) : Calls Tryd.prog 71 #[.int .u8 (c.toNat : Int)] w fun e w' => e = .returned (.bool (txB c)) ∧ w' = w := by
  have HI : Hid (∀ k : Int, Calls Tryd.prog 80 #[.int .i64 k, .int .u8 (c.toNat : Int)] w fun e w' => e = .returned (.bool (isB k (c.toNat : Int))) ∧ w' = w) := fun k => is_any k _ w ht
  clear ht
  unfold txB
  cases h : isB 12 (c.toNat : Int) with
  | true =>
    go_enter Tryd.func71, Tryd.ntmps71
    go_wp2_with (go_at_call 80; refine (HI.out _).mono ?_; rintro e wd ⟨rfl, rfl⟩)
    go_ret
    exact ⟨rfl, rfl⟩
  | false =>
    go_enter Tryd.func71, Tryd.ntmps71
    go_wp2_with (go_at_call 80; refine (HI.out _).mono ?_; rintro e wd ⟨rfl, rfl⟩)
    go_ret
    exact ⟨ret_bool (by simp), rfl⟩

/-- A place's cells. -/
def plC (p : Plc) : List Value := [.int .i64 (p.r : Int), .int .u8 (p.x.toNat : Int), .int .u8 (p.y.toNat : Int), .int .u8 (p.z.toNat : Int), .int .i64 (p.n : Int), .bool p.m, .bool p.e]
theorem plC_length (p : Plc) : (plC p).length = 7 := rfl
/-- A place within a block. -/
structure PlAt (w : World) (g o : Nat) (pre post : List Value) (t : TypeId) (p : Plc) : Prop where
  lies : Lies w g (pre ++ plC p ++ post).toArray t
  off : pre.length = o
theorem PlAt.cell {w : World} {g o : Nat} {pre post : List Value} {t : TypeId} {p : Plc} (h : PlAt w g o pre post t p) (i : Nat) (hi : i < 7) : w.cell? ⟨g, o + i, none⟩ = (plC p)[i]? := by
  rw [h.lies.cell, List.getElem?_toArray, List.append_assoc, List.getElem?_append_right (by have := h.off; omega), List.getElem?_append_left (by rw [plC_length]; have := h.off; omega)]
  congr 1
  have := h.off
  omega
theorem PlAt.cells {w : World} {g o : Nat} {pre post : List Value} {t : TypeId} {p : Plc} (h : PlAt w g o pre post t p) :
    w.cell? ⟨g, o, none⟩ = some (.int .i64 (p.r : Int)) ∧ w.cell? ⟨g, o + 1, none⟩ = some (.int .u8 (p.x.toNat : Int)) ∧ w.cell? ⟨g, o + 2, none⟩ = some (.int .u8 (p.y.toNat : Int)) ∧ w.cell? ⟨g, o + 3, none⟩ = some (.int .u8 (p.z.toNat : Int)) ∧ w.cell? ⟨g, o + 4, none⟩ = some (.int .i64 (p.n : Int)) ∧ w.cell? ⟨g, o + 5, none⟩ = some (.bool p.m) ∧ w.cell? ⟨g, o + 6, none⟩ = some (.bool p.e) :=
  ⟨h.cell 0 (by decide), h.cell 1 (by decide), h.cell 2 (by decide), h.cell 3 (by decide), h.cell 4 (by decide), h.cell 5 (by decide), h.cell 6 (by decide)⟩
theorem PlAt.code {w : World} {g o : Nat} {pre post : List Value} {t : TypeId} {p : Plc} (h : PlAt w g o pre post t p) (k : Nat) (hk : k < 3) : w.cell? ⟨g, o + 1 + k, none⟩ = some (.int .u8 ((p.cd k).toNat : Int)) := by
  obtain ⟨_, h1, h2, h3, _⟩ := h.cells
  obtain rfl | rfl | rfl : k = 0 ∨ k = 1 ∨ k = 2 := by omega
  · exact h1
  · exact h2
  · exact h3
theorem beq_u8 (c d : UInt8) : ((c.toNat : Int) == (d.toNat : Int)) = (c == d) := by
  by_cases h : c = d
  · subst h; simp
  · rw [beq_eq_false_iff_ne.2 h, beq_eq_false_iff_ne]
    intro e
    exact h (UInt8.toNat_inj.1 (by omega))
set_option maxHeartbeats 1000000 in
set_option maxRecDepth 20000 in
theorem fits_any (g o : Nat) (pre post : List Value) (t : TypeId) (p : Plc) (ok : p.Ok) (c : UInt8) (w : World) (h : PlAt w g o pre post t p) (hd : DigT w) (ht : Table w) :
    Calls Tryd.prog 58 #[.pointer (some ⟨g, o, none⟩), .int .u8 (c.toNat : Int)] w fun e w' => e = .returned (.bool (fitB p c)) ∧ ∃ n, w' = w.drewN n := by
  obtain ⟨c0, -, -, -, c4, -, -⟩ := h.cells
  have ok1 := ok.r
  have ok2 := ok.n
  by_cases h3 : p.n < 3
  · by_cases hr : 0 < p.r
    · have hf : fitB p c = (c == p.cd p.n) := by unfold fitB; rw [if_pos h3, if_pos hr]
      rw [hf, ← beq_u8]
      have cc := h.code p.n h3
      clear h hd ht hf ok
      generalize p.cd p.n = d at *
      generalize p.n = n at *
      generalize p.r = r at *
      go_enter Tryd.func58, Tryd.ntmps58
      go_wp2_with fail
      go_quiet (fail)
      go_wp2
      go_ret
      exact ⟨rfl, _, rfl⟩
    · have hf : fitB p c = digB p.n c := by unfold fitB; rw [if_pos h3, if_neg hr]
      have HC : Hid (∀ m, Calls Tryd.prog 49 #[.int .i64 (p.n : Int), .int .u8 (c.toNat : Int)] (w.drewN m) fun e w' => e = .returned (.bool (digB p.n c)) ∧ w' = w.drewN m) := fun m => iscd_any p.n h3 c _ hd
      rw [hf]
      have hr0 : p.r = 0 := by omega
      rw [hr0] at c0
      clear h hd ht hf ok hr hr0 ok1
      generalize digB p.n c = d at *
      generalize p.n = n at *
      go_enter Tryd.func58, Tryd.ntmps58
      go_wp2_with (go_at_call 49; refine (HC.out 0).mono ?_; rintro e wd ⟨rfl, rfl⟩)
      go_ret
      exact ⟨rfl, 0, rfl⟩
  · by_cases h4 : p.n = 3
    · have hf : fitB p c = ((c == 32) || (c == 45 && decide (p.r + 1 < 64))) := by unfold fitB; rw [if_neg h3, if_pos h4]
      rw [hf]
      rw [h4] at c4
      rw [show (c == 32) = ((c.toNat : Int) == 32) from (beq_u8 c 32).symm, show (c == 45) = ((c.toNat : Int) == 45) from (beq_u8 c 45).symm]
      clear h hd ht hf ok ok2 h3 h4
      generalize (c.toNat : Int) = b at *
      generalize p.r = r at *
      by_cases hb : b = 32
      · subst hb
        go_enter Tryd.func58, Tryd.ntmps58
        go_wp2
        go_ret
        exact ⟨rfl, 0, rfl⟩
      · have hb1 : (b == 32) = false := beq_eq_false_iff_ne.2 hb
        rw [hb1]
        by_cases hc : b = 45
        · subst hc
          go_enter Tryd.func58, Tryd.ntmps58
          go_wp2
          go_ret
          exact ⟨ret_bool (by simp; omega), 0, rfl⟩
        · have hc1 : (b == 45) = false := beq_eq_false_iff_ne.2 hc
          rw [hc1]
          go_enter Tryd.func58, Tryd.ntmps58
          go_wp2
          go_ret
          exact ⟨rfl, 0, rfl⟩
    · have hf : fitB p c = (decide (p.n < 510) && txB c) := by unfold fitB; rw [if_neg h3, if_neg h4]
      have HC : Hid (∀ m, Calls Tryd.prog 71 #[.int .u8 (c.toNat : Int)] (w.drewN m) fun e w' => e = .returned (.bool (txB c)) ∧ w' = w.drewN m) := fun m => istb_any c _ ht
      rw [hf]
      clear h hd ht hf ok ok1
      generalize txB c = d at *
      have h5 : ((p.n : Int) == 3) = false := by rw [beq_eq_false_iff_ne]; omega
      by_cases h6 : p.n < 510
      · rw [decide_eq_true h6]
        generalize p.n = n at *
        go_enter Tryd.func58, Tryd.ntmps58
        go_wp2_with (go_at_call 71; refine (HC.out 0).mono ?_; rintro e wd ⟨rfl, rfl⟩)
        go_ret
        exact ⟨rfl, 0, rfl⟩
      · rw [decide_eq_false h6]
        generalize p.n = n at *
        go_enter Tryd.func58, Tryd.ntmps58
        go_wp2
        go_ret
        exact ⟨rfl, 0, rfl⟩
/-- Another place in the stead of one. -/
theorem PlAt.put {w w' : World} {g o : Nat} {pre post : List Value} {t : TypeId} {p q : Plc} (h : PlAt w g o pre post t p) (e : w' = w.setCells g o (plC q)) : PlAt w' g o pre post t q ∧ Chg (· = g) w w' := by
  have ho := h.off
  subst e
  refine ⟨⟨?_, ho⟩, Chg.sets (F := (· = g)) (.inl rfl) _ _ _ (Chg.refl _ _)⟩
  have := Lies.sets (plC q) o (pre ++ plC p ++ post) w h.lies (by simp [plC_length]; omega)
  rwa [show putL (pre ++ plC p ++ post) o (plC q) = pre ++ plC q ++ post by
    unfold putL
    rw [List.append_assoc pre, List.take_append_of_le_length (by omega), List.take_of_length_le (by omega), plC_length, List.drop_append, List.drop_eq_nil_of_le (by omega), List.nil_append, show o + 7 - pre.length = 7 by omega]
    rfl] at this
theorem PlAt.set {w w' : World} {g o : Nat} {pre post : List Value} {t : TypeId} {p : Plc} (h : PlAt w g o pre post t p) (i : Nat) (v : Value) (q : Plc) (hi : i < 7) (hq : plC q = (plC p).set i v) (e : w' = w.setCell ⟨g, o + i, none⟩ v) : PlAt w' g o pre post t q ∧ Chg (· = g) w w' := by
  have ho := h.off
  subst e
  refine ⟨⟨?_, ho⟩, (Chg.refl _ _).set (F := (· = g)) (.inl rfl) _⟩
  have := h.lies.set (o + i) v
  rwa [List.setIfInBounds_toArray, List.append_assoc, List.set_append, if_neg (by omega), List.set_append, if_pos (by rw [plC_length]; omega), show o + i - pre.length = i by omega, ← hq, ← List.append_assoc] at this
theorem PlAt.frozen {w : World} {g o : Nat} {pre post : List Value} {t : TypeId} {p : Plc} (h : PlAt w g o pre post t p) (i : Nat) : w.frozen? ⟨g, o + i, none⟩ = false := h.lies.frozen _
theorem PlAt.chg {F : Nat → Prop} {w w' : World} {g o : Nat} {pre post : List Value} {t : TypeId} {p : Plc} (h : PlAt w g o pre post t p) (hc : Chg F w w') (hn : ¬ F g) : PlAt w' g o pre post t p := ⟨hc.lies h.lies hn, h.off⟩
set_option maxHeartbeats 1000000 in
set_option maxRecDepth 20000 in
theorem end_any (g o : Nat) (pre post : List Value) (t : TypeId) (p : Plc) (ok : p.Ok) (c : UInt8) (w : World) (h : PlAt w g o pre post t p) :
    Calls Tryd.prog 57 #[.pointer (some ⟨g, o, none⟩), .int .u8 (c.toNat : Int)] w fun e w' => e = .returned (.int .i64 ((endP p c).2 : Nat)) ∧ PlAt w' g o pre post t (endP p c).1 ∧ Chg (· = g) w w' := by
  have H : Hid (PlAt w g o pre post t p) := h
  obtain ⟨c0, c1, c2, c3, c4, c5, c6⟩ := h.cells
  have f0 : w.frozen? ⟨g, o, none⟩ = false := h.frozen 0
  have f1 := h.frozen 1
  have f2 := h.frozen 2
  have f3 := h.frozen 3
  have f4 := h.frozen 4
  have f5 := h.frozen 5
  have f6 := h.frozen 6
  have ok1 := ok.r
  clear h
  unfold endP
  by_cases hc : c ≠ 10
  · rw [if_pos hc]
    have hc1 : ((c.toNat : Int) == 10) = false := by rw [show ((c.toNat : Int) == 10) = (c == 10) from beq_u8 c 10]; exact beq_eq_false_iff_ne.2 hc
    have hc2 : ((c.toNat : Int) != 10) = true := by rw [bne, hc1]; rfl
    clear hc
    generalize (c.toNat : Int) = b at *
    go_enter Tryd.func57, Tryd.ntmps57
    go_wp2
    go_ret
    exact ⟨rfl, H.out, Chg.refl _ _⟩
  · rw [if_neg hc]
    obtain rfl : c = 10 := by simpa using hc
    clear hc
    cases hm : p.m with
    | true =>
      rw [hm] at c5
      have HF : Hid (∀ w', w' = (w.setCells g o [.int .i64 ((p.r : Int) + 1), .int .u8 (p.x.toNat : Int), .int .u8 (p.y.toNat : Int), .int .u8 (p.z.toNat : Int), .int .i64 0, .bool false, .bool false]).drew → PlAt w' g o pre post t ⟨p.r + 1, p.x, p.y, p.z, 0, false, false⟩ ∧ Chg (· = g) w w') := fun w' e => by
        obtain ⟨k1, k2⟩ := H.out.put (q := ⟨p.r + 1, p.x, p.y, p.z, 0, false, false⟩) rfl
        rw [show plC ⟨p.r + 1, p.x, p.y, p.z, 0, false, false⟩ = [.int .i64 ((p.r : Int) + 1), .int .u8 (p.x.toNat : Int), .int .u8 (p.y.toNat : Int), .int .u8 (p.z.toNat : Int), .int .i64 0, .bool false, .bool false] from rfl] at k1 k2
        subst e
        exact ⟨⟨k1.lies.drewN 1, k1.off⟩, k2.drew⟩
      clear H
      go_enter Tryd.func57, Tryd.ntmps57
      go_wp2_with fail
      go_region
      go_wp2
      go_ret
      exact ⟨rfl, HF.out _ rfl⟩
    | false =>
      rw [hm] at c5
      have HF : Hid (∀ w', w' = w.setCells g o (plC Plc.nil) → PlAt w' g o pre post t Plc.nil ∧ Chg (· = g) w w') := fun w' e => H.out.put e
      clear H
      go_enter Tryd.func57, Tryd.ntmps57
      go_wp2
      go_ret
      exact ⟨rfl, HF.out _ rfl⟩
end Go.Proofs.YtbfgefgadplcjaaDoor
