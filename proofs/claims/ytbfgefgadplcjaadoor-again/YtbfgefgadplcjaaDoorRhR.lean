/-
  How many things a ring has and may have; the place of one; the pieces.
-/
import Derived.Test.YtbfgefgadplcjaaDoorRgR
namespace Go.Proofs.YtbfgefgadplcjaaDoor
open Go.RowKit

theorem lenR_any (p q : Option Nat) (most : Nat) (l : List Rx) (w : World) (h : RgR w p q most l) : Calls Tryd.prog 67 #[ptr p] w fun e w' => e = .returned (.int .i64 (l.length : Int)) ∧ w' = w := by
  have ht := thereR_any p q most l w h
  cases h with
  | no =>
    unfold ptr at ht ⊢
    go_enter Tryd.func67, Tryd.ntmps67
    go_wp2_with (go_at_call 56; refine ht.mono ?_; rintro e w' ⟨rfl, rfl⟩)
    go_ret
    exact ⟨rfl, rfl⟩
  | zero b h =>
    clear h
    unfold ptr at ht ⊢
    go_enter Tryd.func67, Tryd.ntmps67
    go_wp2_with (go_at_call 56; refine ht.mono ?_; rintro e w' ⟨rfl, rfl⟩)
    go_ret
    exact ⟨rfl, rfl⟩
  | made b q most A f c h =>
    have c3 := h.cells.2.2.2
    have hp : decide (0 < most) = true := decide_eq_true h.pos
    rw [hp] at ht
    clear h hp
    rw [rwA_length]
    unfold ptr at ht ⊢
    go_enter Tryd.func67, Tryd.ntmps67
    go_wp2_with (go_at_call 56; refine ht.mono ?_; clear ht; rintro e w' ⟨rfl, rfl⟩)
    go_ret
    exact ⟨rfl, rfl⟩
theorem roomR_any (p q : Option Nat) (most : Nat) (l : List Rx) (w : World) (h : RgR w p q most l) : Calls Tryd.prog 41 #[ptr p] w fun e w' => e = .returned (.int .i64 ((most - l.length : Nat) : Int)) ∧ ∃ n, w' = w.drewN n := by
  have ht := thereR_any p q most l w h
  cases h with
  | no =>
    unfold ptr at ht ⊢
    go_enter Tryd.func41, Tryd.ntmps41
    go_wp2_with (go_at_call 56; refine ht.mono ?_; rintro e w' ⟨rfl, rfl⟩)
    go_ret
    exact ⟨rfl, 0, rfl⟩
  | zero b h =>
    clear h
    unfold ptr at ht ⊢
    go_enter Tryd.func41, Tryd.ntmps41
    go_wp2_with (go_at_call 56; refine ht.mono ?_; rintro e w' ⟨rfl, rfl⟩)
    go_ret
    exact ⟨rfl, 0, rfl⟩
  | made b q most A f c h =>
    have c0 := h.cells.1
    have c3 := h.cells.2.2.2
    have hp : decide (0 < most) = true := decide_eq_true h.pos
    have hl := h.lid
    have hr : c ≤ most := Nat.le_trans h.cnt h.room
    rw [hp] at ht
    clear h hp
    rw [rwA_length]
    unfold ptr at ht ⊢
    go_enter Tryd.func41, Tryd.ntmps41
    go_wp2_with (go_at_call 56; refine ht.mono ?_; clear ht; rintro e w' ⟨rfl, rfl⟩)
    go_quiet (fail)
    go_wp2
    go_ret
    exact ⟨ret_i64 (by omega), _, rfl⟩
theorem placeR_any (b : Nat) (q : Option Nat) (most : Nat) (A : List Rx) (f c i : Nat) (w : World) (h : GdR w b q most A f c) (hA : A ≠ []) (hi : i ≤ 1048576) :
    Calls Tryd.prog 60 #[.pointer (some ⟨b, 0, none⟩), .int .i64 (i : Int)] w fun e w' => e = .returned (.int .i64 (((f + i) % A.length : Nat) : Int)) ∧ ∃ n, w' = w.drewN n := by
  obtain ⟨g, rfl, hg⟩ := h.som hA
  have c1 := h.cells.2.1
  have c2 := h.cells.2.2.1
  have hn : 0 < A.length := List.length_pos_iff.2 hA
  have hf : f < A.length := by rcases h.fst with h1 | h1; exact h1; exact absurd h1.2 hA
  have hr : A.length ≤ 1048576 := Nat.le_trans h.room h.lid
  have hm : ((f : Int) + (i : Int)).tmod (A.length : Int) = (((f + i) % A.length : Nat) : Int) := by rw [Int.tmod_eq_emod_of_nonneg (by omega)]; rfl
  have hm2 : ((f : Int) + (i : Int)) % (A.length : Int) = (((f + i) % A.length : Nat) : Int) := rfl
  have hb : (f + i) % A.length < A.length := Nat.mod_lt _ hn
  clear h hg hA
  unfold plc at c1
  dsimp only at c1
  generalize A.length = n at c1 hn hf hr hm hm2 hb ⊢
  generalize (f + i) % n = r at hm hm2 hb ⊢
  go_enter Tryd.func60, Tryd.ntmps60
  go_wp2_with fail
  go_quiet (fail)
  go_wp2
  go_ret
  exact ⟨rfl, _, rfl⟩
end Go.Proofs.YtbfgefgadplcjaaDoor
