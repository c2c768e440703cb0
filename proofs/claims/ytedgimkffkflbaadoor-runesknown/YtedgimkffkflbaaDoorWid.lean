/-
  The program's order of the wide runes: comparisons, and the closure that the sort calls.
-/
import Derived.Test.YtedgimkffkflbaaDoorNum
import Derived.Test.YtedgimkffkflbaaDoorSrt
namespace Go.Proofs.YtedgimkffkflbaaDoor
open Go.RowKit

/-- Which of two numbers is less. -/
def cmpI (x y : Int) : Int := if x < y then -1 else if y < x then 1 else 0
set_option maxHeartbeats 1000000 in
set_option maxRecDepth 100000 in
theorem nanr_any (x : Int) (w : World) : Calls Tryd.prog 85 #[.int .i32 x] w fun e w' => e = .returned (.bool false) ∧ w' = w := by
  have hb : (x != x) = false := by simp
  go_enter Tryd.func85, Tryd.ntmps85
  go_wp2
  go_ret
  exact ⟨rfl, rfl⟩
set_option maxHeartbeats 1000000 in
set_option maxRecDepth 100000 in
theorem nani_any (x : Int) (w : World) : Calls Tryd.prog 86 #[.int .i64 x] w fun e w' => e = .returned (.bool false) ∧ w' = w := by
  have hb : (x != x) = false := by simp
  go_enter Tryd.func86, Tryd.ntmps86
  go_wp2
  go_ret
  exact ⟨rfl, rfl⟩
set_option maxHeartbeats 1000000 in
set_option maxRecDepth 100000 in
theorem cmpr_any (x y : Int) (w : World) : Calls Tryd.prog 71 #[.int .i32 x, .int .i32 y] w fun e w' => e = .returned (.int .i64 (cmpI x y)) ∧ w' = w := by
  have h1 := nanr_any x w
  have h2 := nanr_any y w
  by_cases c1 : x < y
  · have HC : Hid (cmpI x y = -1) := if_pos c1
    go_enter Tryd.func71, Tryd.ntmps71
    go_wp2_with fail
    refine h1.mono ?_
    rintro e w' ⟨rfl, rfl⟩
    go_wp2_with fail
    refine h2.mono ?_
    rintro e w' ⟨rfl, rfl⟩
    go_wp2
    go_ret
    exact ⟨ret_i64 HC.out.symm, rfl⟩
  by_cases c2 : y < x
  · have HC : Hid (cmpI x y = 1) := by show _ = _; unfold cmpI; rw [if_neg c1, if_pos c2]
    go_enter Tryd.func71, Tryd.ntmps71
    go_wp2_with fail
    refine h1.mono ?_
    rintro e w' ⟨rfl, rfl⟩
    go_wp2_with fail
    refine h2.mono ?_
    rintro e w' ⟨rfl, rfl⟩
    go_wp2
    go_ret
    exact ⟨ret_i64 HC.out.symm, rfl⟩
  · have HC : Hid (cmpI x y = 0) := by show _ = _; unfold cmpI; rw [if_neg c1, if_neg c2]
    go_enter Tryd.func71, Tryd.ntmps71
    go_wp2_with fail
    refine h1.mono ?_
    rintro e w' ⟨rfl, rfl⟩
    go_wp2_with fail
    refine h2.mono ?_
    rintro e w' ⟨rfl, rfl⟩
    go_wp2
    go_ret
    exact ⟨ret_i64 HC.out.symm, rfl⟩
set_option maxHeartbeats 1000000 in
set_option maxRecDepth 100000 in
theorem cmpi_any (x y : Int) (w : World) : Calls Tryd.prog 72 #[.int .i64 x, .int .i64 y] w fun e w' => e = .returned (.int .i64 (cmpI x y)) ∧ w' = w := by
  have h1 := nani_any x w
  have h2 := nani_any y w
  by_cases c1 : x < y
  · have HC : Hid (cmpI x y = -1) := if_pos c1
    go_enter Tryd.func72, Tryd.ntmps72
    go_wp2_with fail
    refine h1.mono ?_
    rintro e w' ⟨rfl, rfl⟩
    go_wp2_with fail
    refine h2.mono ?_
    rintro e w' ⟨rfl, rfl⟩
    go_wp2
    go_ret
    exact ⟨ret_i64 HC.out.symm, rfl⟩
  by_cases c2 : y < x
  · have HC : Hid (cmpI x y = 1) := by show _ = _; unfold cmpI; rw [if_neg c1, if_pos c2]
    go_enter Tryd.func72, Tryd.ntmps72
    go_wp2_with fail
    refine h1.mono ?_
    rintro e w' ⟨rfl, rfl⟩
    go_wp2_with fail
    refine h2.mono ?_
    rintro e w' ⟨rfl, rfl⟩
    go_wp2
    go_ret
    exact ⟨ret_i64 HC.out.symm, rfl⟩
  · have HC : Hid (cmpI x y = 0) := by show _ = _; unfold cmpI; rw [if_neg c1, if_neg c2]
    go_enter Tryd.func72, Tryd.ntmps72
    go_wp2_with fail
    refine h1.mono ?_
    rintro e w' ⟨rfl, rfl⟩
    go_wp2_with fail
    refine h2.mono ?_
    rintro e w' ⟨rfl, rfl⟩
    go_wp2
    go_ret
    exact ⟨ret_i64 HC.out.symm, rfl⟩
/-- The first of two that is not nought. -/
def orI (x y : Int) : Int := if x = 0 then y else x
set_option maxHeartbeats 1000000 in
set_option maxRecDepth 100000 in
theorem cmpor_any (g : Nat) (x y : Int) (w : World) (h0 : w.cell? ⟨g, 0, none⟩ = some (.int .i64 x)) (h1 : w.cell? ⟨g, 1, none⟩ = some (.int .i64 y)) : Calls Tryd.prog 70 #[.slice (some ⟨g, 0, none⟩) 2 2] w fun e w' => e = .returned (.int .i64 (orI x y)) ∧ w' = w := by
  by_cases c1 : x = 0
  · have HC : Hid (orI x y = y) := if_pos c1
    have q1 : (x != 0) = false := by simp [c1]
    by_cases c2 : y = 0
    · have q2 : (y != 0) = false := by simp [c2]
      have HZ : Hid (y = 0) := c2
      clear c1 c2
      go_enter Tryd.func70, Tryd.ntmps70
      go_wp2_with fail
      refine wp_loop_rounds 3 ?_
      rw [rounds_succ]
      go_wp2_with fail
      rw [rounds_succ]
      go_wp2_with fail
      rw [rounds_succ]
      go_wp2
      go_ret
      exact ⟨ret_i64 (by rw [HC.out, HZ.out]), rfl⟩
    · have q2 : (y != 0) = true := by simp [c2]
      clear c1 c2
      go_enter Tryd.func70, Tryd.ntmps70
      go_wp2_with fail
      refine wp_loop_rounds 3 ?_
      rw [rounds_succ]
      go_wp2_with fail
      rw [rounds_succ]
      go_wp2
      go_ret
      exact ⟨ret_i64 (by rw [HC.out]), rfl⟩
  · have HC : Hid (orI x y = x) := if_neg c1
    have q1 : (x != 0) = true := by simp [c1]
    clear c1
    go_enter Tryd.func70, Tryd.ntmps70
    go_wp2_with fail
    refine wp_loop_rounds 3 ?_
    rw [rounds_succ]
    go_wp2
    go_ret
    exact ⟨ret_i64 (by rw [HC.out]), rfl⟩

end Go.Proofs.YtedgimkffkflbaaDoor
