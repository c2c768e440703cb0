/-
  The program's order of the wide runes: comparisons, and the closure that the sort calls.
-/
import Derived.Test.YtedgimkffkflbabGreatDoorShf
import Derived.Test.YtedgimkffkflbabGreatDoorSrt
namespace Go.Proofs.YtedgimkffkflbabGreatDoor
open Go.RowKit

/-- Which of two numbers is less. -/
def cmpI (x y : Int) : Int := if x < y then -1 else if y < x then 1 else 0
set_option maxHeartbeats 1000000 in
set_option maxRecDepth 100000 in
theorem nanr_any (x : Int) (w : World) : Calls Tryz.prog 86 #[.int .i32 x] w fun e w' => e = .returned (.bool false) ∧ w' = w := by
  have hb : (x != x) = false := by simp
  go_enter Tryz.func86, Tryz.ntmps86
  go_wp2
  go_ret
  exact ⟨rfl, rfl⟩
set_option maxHeartbeats 1000000 in
set_option maxRecDepth 100000 in
theorem nani_any (x : Int) (w : World) : Calls Tryz.prog 87 #[.int .i64 x] w fun e w' => e = .returned (.bool false) ∧ w' = w := by
  have hb : (x != x) = false := by simp
  go_enter Tryz.func87, Tryz.ntmps87
  go_wp2
  go_ret
  exact ⟨rfl, rfl⟩
set_option maxHeartbeats 1000000 in
set_option maxRecDepth 100000 in
theorem cmpr_any (x y : Int) (w : World) : Calls Tryz.prog 74 #[.int .i32 x, .int .i32 y] w fun e w' => e = .returned (.int .i64 (cmpI x y)) ∧ w' = w := by
  have h1 := nanr_any x w
  have h2 := nanr_any y w
  by_cases c1 : x < y
  · have HC : Hid (cmpI x y = -1) := if_pos c1
    go_enter Tryz.func74, Tryz.ntmps74
    go_wp2_with fail
    refine h1.mono ?_
    rintro e w' ⟨rfl, rfl⟩
    go_wp2_with fail
    refine h2.mono ?_
    rintro e w' ⟨rfl, rfl⟩
    go_wp2
    go_ret
    exact ⟨ret_i64 HC.out.symm, rfl⟩
  by_cases c2 : y < x
  · have HC : Hid (cmpI x y = 1) := by show _ = _; unfold cmpI; rw [if_neg c1, if_pos c2]
    go_enter Tryz.func74, Tryz.ntmps74
    go_wp2_with fail
    refine h1.mono ?_
    rintro e w' ⟨rfl, rfl⟩
    go_wp2_with fail
    refine h2.mono ?_
    rintro e w' ⟨rfl, rfl⟩
    go_wp2
    go_ret
    exact ⟨ret_i64 HC.out.symm, rfl⟩
  · have HC : Hid (cmpI x y = 0) := by show _ = _; unfold cmpI; rw [if_neg c1, if_neg c2]
    go_enter Tryz.func74, Tryz.ntmps74
    go_wp2_with fail
    refine h1.mono ?_
    rintro e w' ⟨rfl, rfl⟩
    go_wp2_with fail
    refine h2.mono ?_
    rintro e w' ⟨rfl, rfl⟩
    go_wp2
    go_ret
    exact ⟨ret_i64 HC.out.symm, rfl⟩
set_option maxHeartbeats 1000000 in
set_option maxRecDepth 100000 in
theorem cmpi_any (x y : Int) (w : World) : Calls Tryz.prog 75 #[.int .i64 x, .int .i64 y] w fun e w' => e = .returned (.int .i64 (cmpI x y)) ∧ w' = w := by
  have h1 := nani_any x w
  have h2 := nani_any y w
  by_cases c1 : x < y
  · have HC : Hid (cmpI x y = -1) := if_pos c1
    go_enter Tryz.func75, Tryz.ntmps75
    go_wp2_with fail
    refine h1.mono ?_
    rintro e w' ⟨rfl, rfl⟩
    go_wp2_with fail
    refine h2.mono ?_
    rintro e w' ⟨rfl, rfl⟩
    go_wp2
    go_ret
    exact ⟨ret_i64 HC.out.symm, rfl⟩
  by_cases c2 : y < x
  · have HC : Hid (cmpI x y = 1) := by show _ = _; unfold cmpI; rw [if_neg c1, if_pos c2]
    go_enter Tryz.func75, Tryz.ntmps75
    go_wp2_with fail
    refine h1.mono ?_
    rintro e w' ⟨rfl, rfl⟩
    go_wp2_with fail
    refine h2.mono ?_
    rintro e w' ⟨rfl, rfl⟩
    go_wp2
    go_ret
    exact ⟨ret_i64 HC.out.symm, rfl⟩
  · have HC : Hid (cmpI x y = 0) := by show _ = _; unfold cmpI; rw [if_neg c1, if_neg c2]
    go_enter Tryz.func75, Tryz.ntmps75
    go_wp2_with fail
    refine h1.mono ?_
    rintro e w' ⟨rfl, rfl⟩
    go_wp2_with fail
    refine h2.mono ?_
    rintro e w' ⟨rfl, rfl⟩
    go_wp2
    go_ret
    exact ⟨ret_i64 HC.out.symm, rfl⟩
/-- The first of two that is not nought. -/
def orI (x y : Int) : Int := if x = 0 then y else x
set_option maxHeartbeats 1000000 in
set_option maxRecDepth 100000 in
theorem cmpor_any (g : Nat) (x y : Int) (w : World) (h0 : w.cell? ⟨g, 0, none⟩ = some (.int .i64 x)) (h1 : w.cell? ⟨g, 1, none⟩ = some (.int .i64 y)) : Calls Tryz.prog 73 #[.slice (some ⟨g, 0, none⟩) 2 2] w fun e w' => e = .returned (.int .i64 (orI x y)) ∧ w' = w := by
  by_cases c1 : x = 0
  · have HC : Hid (orI x y = y) := if_pos c1
    have q1 : (x != 0) = false := by simp [c1]
    by_cases c2 : y = 0
    · have q2 : (y != 0) = false := by simp [c2]
      have HZ : Hid (y = 0) := c2
      clear c1 c2
      go_enter Tryz.func73, Tryz.ntmps73
      go_wp2_with fail
      refine wp_loop_rounds 3 ?_
      rw [rounds_succ]
      go_wp2_with fail
      rw [rounds_succ]
      go_wp2_with fail
      rw [rounds_succ]
      go_wp2
      go_ret
      exact ⟨ret_i64 (by rw [HC.out, HZ.out]), rfl⟩
    · have q2 : (y != 0) = true := by simp [c2]
      clear c1 c2
      go_enter Tryz.func73, Tryz.ntmps73
      go_wp2_with fail
      refine wp_loop_rounds 3 ?_
      rw [rounds_succ]
      go_wp2_with fail
      rw [rounds_succ]
      go_wp2
      go_ret
      exact ⟨ret_i64 (by rw [HC.out]), rfl⟩
  · have HC : Hid (orI x y = x) := if_neg c1
    have q1 : (x != 0) = true := by simp [c1]
    clear c1
    go_enter Tryz.func73, Tryz.ntmps73
    go_wp2_with fail
    refine wp_loop_rounds 3 ?_
    rw [rounds_succ]
    go_wp2
    go_ret
    exact ⟨ret_i64 (by rw [HC.out]), rfl⟩

end Go.Proofs.YtedgimkffkflbabGreatDoor
/-
  The closure that the sort of the wide runes calls.
-/
namespace Go.Proofs.YtedgimkffkflbabGreatDoor
open Go.RowKit

set_option maxHeartbeats 2000000 in
set_option maxRecDepth 100000 in
theorem clo_any (lb : Nat) (a : Option Addr) (l : List Int) (cap : Nat) (x y : Nat) (hx : x < l.length) (hy : y < l.length) (w : World) (hl : w.cell? ⟨lb, 0, none⟩ = some (.slice a l.length cap)) (hn : Nts .i32 a l w) :
    Calls Tryz.prog 72 #[.int .i64 x, .int .i64 y, .pointer (some ⟨lb, 0, none⟩)] w fun e w' => e = .returned (.int .i64 (orI (cmpI l[x] l[y]) (cmpI x y))) ∧ ∃ q os, w' = Sort.grow (w.drewN q) os := by
  obtain ⟨g, o, rfl, hg, cx⟩ := hn.cell x hx
  obtain ⟨g', o', e', _, cy⟩ := hn.cell y hy
  injection e' with e'
  injection e' with e1 e2
  subst e1 e2
  have hlb : lb < w.heap.size := World.block_lt_of_cell? w _ hl
  have hx' : (x : Int) < l.length := by omega
  have hy' : (y : Int) < l.length := by omega
  have HR : Hid (∀ wx, Calls Tryz.prog 74 #[.int .i32 l[x], .int .i32 l[y]] wx fun e w' => e = .returned (.int .i64 (cmpI l[x] l[y])) ∧ w' = wx) := fun wx => cmpr_any _ _ wx
  have HI : Hid (∀ wx, Calls Tryz.prog 75 #[.int .i64 x, .int .i64 y] wx fun e w' => e = .returned (.int .i64 (cmpI x y)) ∧ w' = wx) := fun wx => cmpi_any _ _ wx
  generalize cmpI l[x] l[y] = A at HR ⊢
  generalize cmpI x y = B at HI ⊢
  clear hn
  go_enter Tryz.func72, Tryz.ntmps72
  go_wp2_with fail
  go_region_with (first | (go_at_call 74; refine (HR.out _).mono ?_; rintro e w' ⟨rfl, rfl⟩) | (go_at_call 75; refine (HI.out _).mono ?_; rintro e w' ⟨rfl, rfl⟩) | (go_at_call 73; refine (cmpor_any _ A B _ (by simp) (by simp)).mono ?_; rintro e w' ⟨rfl, rfl⟩))
  all_goals (try simp only [Act.put, List.setIfInBounds_toArray, List.set_cons_zero, List.set_cons_succ, List.getElem_toArray, List.getElem_cons_succ, List.getElem_cons_zero])
  all_goals go_wp2
  all_goals go_ret
  all_goals exact ⟨rfl, 1, #[.cells #[.int .i64 A, .int .i64 B] 3], by rw [Sort.alloc_eq_grow]; rfl⟩
end Go.Proofs.YtedgimkffkflbabGreatDoor
