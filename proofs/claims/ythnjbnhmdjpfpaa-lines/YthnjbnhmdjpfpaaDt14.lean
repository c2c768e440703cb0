/-
  A reader of a body in memory: bounded, New, Held, why, tell.
-/
import Derived.Test.YthnjbnhmdjpfpaaDtP
import Derived.Test.YthnjbnhmdjpfpaaCm15
namespace Go.Proofs.Ythnjbnhmdjpfpaa
open Go.RowKit

/-- A reader's cells. -/
def rdC (t a : Nat) (s : Ds) : List Value := [.int .i64 (t : Int), .int .i64 (a : Int), .int .i64 (s.p : Int), .int .i64 (s.row : Int), .int .i64 (s.size : Int), .bool s.bare, .bool s.long, .bool s.high]
def Rd (w : World) (b t a : Nat) (s : Ds) : Prop := Lies w b (rdC t a s).toArray 95
theorem Rd.lt {w : World} {b t a : Nat} {s : Ds} (x : Rd w b t a s) : b < w.heap.size := Lies.lt x
theorem Rd.keep {w w' : World} {b t a : Nat} {s : Ds} (x : Rd w b t a s) (h : w'.heap[b]? = w.heap[b]?) : Rd w' b t a s := h.trans x
theorem Rd.below {w w' : World} {b t a B : Nat} {s : Ds} (x : Rd w b t a s) (h : Below B w w') (hB : b < B) : Rd w' b t a s := x.keep (h.block b hB)
theorem Rd.chg {w w' : World} {F : Nat → Prop} {b t a : Nat} {s : Ds} (x : Rd w b t a s) (h : Chg F w w') (hn : ¬ F b) : Rd w' b t a s := x.keep (h.block b x.lt hn)
theorem Rd.cells {w : World} {b t a : Nat} {s : Ds} (x : Rd w b t a s) : w.cell? ⟨b, 0, none⟩ = some (.int .i64 (t : Int)) ∧ w.cell? ⟨b, 1, none⟩ = some (.int .i64 (a : Int)) ∧ w.cell? ⟨b, 2, none⟩ = some (.int .i64 (s.p : Int)) ∧ w.cell? ⟨b, 3, none⟩ = some (.int .i64 (s.row : Int)) ∧ w.cell? ⟨b, 4, none⟩ = some (.int .i64 (s.size : Int)) ∧ w.cell? ⟨b, 5, none⟩ = some (.bool s.bare) ∧ w.cell? ⟨b, 6, none⟩ = some (.bool s.long) ∧ w.cell? ⟨b, 7, none⟩ = some (.bool s.high) := ⟨Lies.cell x 0, Lies.cell x 1, Lies.cell x 2, Lies.cell x 3, Lies.cell x 4, Lies.cell x 5, Lies.cell x 6, Lies.cell x 7⟩
theorem Rd.frozen {w : World} {b t a : Nat} {s : Ds} (x : Rd w b t a s) : w.frozen? ⟨b, 2, none⟩ = false ∧ w.frozen? ⟨b, 3, none⟩ = false ∧ w.frozen? ⟨b, 4, none⟩ = false ∧ w.frozen? ⟨b, 5, none⟩ = false ∧ w.frozen? ⟨b, 6, none⟩ = false ∧ w.frozen? ⟨b, 7, none⟩ = false := ⟨Lies.frozen x 2, Lies.frozen x 3, Lies.frozen x 4, Lies.frozen x 5, Lies.frozen x 6, Lies.frozen x 7⟩
theorem Rd.set2 {w : World} {b t a : Nat} {s : Ds} (x : Rd w b t a s) (n : Nat) : Rd (w.setCell ⟨b, 2, none⟩ (.int .i64 (n : Int))) b t a { s with p := n } := Lies.set x 2 _
theorem Rd.set3 {w : World} {b t a : Nat} {s : Ds} (x : Rd w b t a s) (n : Nat) : Rd (w.setCell ⟨b, 3, none⟩ (.int .i64 (n : Int))) b t a { s with row := n } := Lies.set x 3 _
theorem Rd.set4 {w : World} {b t a : Nat} {s : Ds} (x : Rd w b t a s) (n : Nat) : Rd (w.setCell ⟨b, 4, none⟩ (.int .i64 (n : Int))) b t a { s with size := n } := Lies.set x 4 _
theorem Rd.set5 {w : World} {b t a : Nat} {s : Ds} (x : Rd w b t a s) (n : Bool) : Rd (w.setCell ⟨b, 5, none⟩ (.bool n)) b t a { s with bare := n } := Lies.set x 5 _
theorem Rd.set6 {w : World} {b t a : Nat} {s : Ds} (x : Rd w b t a s) (n : Bool) : Rd (w.setCell ⟨b, 6, none⟩ (.bool n)) b t a { s with long := n } := Lies.set x 6 _
theorem Rd.set7 {w : World} {b t a : Nat} {s : Ds} (x : Rd w b t a s) (n : Bool) : Rd (w.setCell ⟨b, 7, none⟩ (.bool n)) b t a { s with high := n } := Lies.set x 7 _
theorem But.drew {g : Nat} {w w' : World} (h : But g w w') : But g w w'.drew := ⟨h.os, h.tape, h.output, h.size, h.block⟩
theorem But.drewN {g : Nat} {w w' : World} (h : But g w w') (n : Nat) : But g w (w'.drewN n) := ⟨h.os, h.tape, h.output, h.size, h.block⟩
def okLim (n : Int) : Bool := decide (1 ≤ n ∧ n ≤ 16777216)
set_option maxHeartbeats 400000 in
theorem dbounded_yes (n : Int) (h1 : 1 ≤ n) (h2 : n ≤ 16777216) (w : World) : Calls Try.prog 47 #[.int .i64 n] w fun e w' => e = .returned (.bool true) ∧ w' = w := by
  go_enter Try.func47, Try.ntmps47
  go_wp2
  go_ret
  exact ⟨rfl, rfl⟩
set_option maxHeartbeats 400000 in
theorem dbounded_no (n : Int) (h : ¬ (1 ≤ n ∧ n ≤ 16777216)) (w : World) : Calls Try.prog 47 #[.int .i64 n] w fun e w' => e = .returned (.bool false) ∧ w' = w := by
  by_cases h1 : n < 1
  · have h2 : ¬ 1 ≤ n := by omega
    clear h
    go_enter Try.func47, Try.ntmps47
    go_wp2
    go_ret
    exact ⟨rfl, rfl⟩
  · have h2 : 1 ≤ n := by omega
    have h3 : 16777216 < n := by omega
    have h4 : ¬ n ≤ 16777216 := by omega
    clear h
    go_enter Try.func47, Try.ntmps47
    go_wp2
    go_ret
    exact ⟨rfl, rfl⟩
theorem dbounded_any (n : Int) (w : World) : Calls Try.prog 47 #[.int .i64 n] w fun e w' => e = .returned (.bool (okLim n)) ∧ w' = w := by
  unfold okLim
  by_cases h : 1 ≤ n ∧ n ≤ 16777216
  · rw [decide_eq_true h]
    exact dbounded_yes n h.1 h.2 w
  · rw [decide_eq_false h]
    exact dbounded_no n h w
set_option maxHeartbeats 400000 in
theorem dnew_good (t a : Nat) (h1 : 1 ≤ t) (h2 : t ≤ 16777216) (h3 : 1 ≤ a) (h4 : a ≤ 16777216) (w : World) : Calls Try.prog 38 #[.int .i64 (t : Int), .int .i64 (a : Int)] w fun e w' => e = .returned (.tuple #[.pointer (some ⟨w.heap.size, 0, none⟩), .int .i64 0]) ∧ Rd w' w.heap.size t a Ds.new ∧ Below w.heap.size w w' := by
  have HA := fun w => dbounded_yes (t : Int) (by omega) (by omega) w
  have HB := fun w => dbounded_yes (a : Int) (by omega) (by omega) w
  clear h1 h2 h3 h4
  go_enter Try.func38, Try.ntmps38
  go_wp2_with fail
  refine (HA _).mono ?_
  rintro e w2 ⟨rfl, rfl⟩
  go_wp2_with fail
  refine (HB _).mono ?_
  rintro e w3 ⟨rfl, rfl⟩
  go_wp2_with fail
  go_ret2
  exact ⟨rfl, Lies.new _ _ _, (Below.refl _ _).alloc (Nat.le_refl _) _⟩
set_option maxHeartbeats 400000 in
theorem dnew_bad (t a : Int) (h : ¬ (1 ≤ t ∧ t ≤ 16777216 ∧ 1 ≤ a ∧ a ≤ 16777216)) (w : World) : Calls Try.prog 38 #[.int .i64 t, .int .i64 a] w fun e w' => e = .returned (.tuple #[.pointer none, .int .i64 2]) ∧ w' = w := by
  by_cases h1 : 1 ≤ t ∧ t ≤ 16777216
  · have HA := fun w => dbounded_yes t h1.1 h1.2 w
    have HB := fun w => dbounded_no a (fun h2 => h ⟨h1.1, h1.2, h2.1, h2.2⟩) w
    clear h h1
    go_enter Try.func38, Try.ntmps38
    go_wp2_with fail
    refine (HA _).mono ?_
    rintro e w2 ⟨rfl, rfl⟩
    go_wp2_with fail
    refine (HB _).mono ?_
    rintro e w3 ⟨rfl, rfl⟩
    go_wp2_with fail
    go_ret2
    exact ⟨rfl, rfl⟩
  · have HA := fun w => dbounded_no t h1 w
    clear h h1
    go_enter Try.func38, Try.ntmps38
    go_wp2_with fail
    refine (HA _).mono ?_
    rintro e w2 ⟨rfl, rfl⟩
    go_wp2_with fail
    go_ret2
    exact ⟨rfl, rfl⟩
set_option maxHeartbeats 400000 in
theorem dheld_nil (w : World) : Calls Try.prog 51 #[.pointer none] w fun e w' => e = .returned (.int .i64 0) ∧ w' = w := by
  go_enter Try.func51, Try.ntmps51
  go_wp2
  go_ret
  exact ⟨rfl, rfl⟩
set_option maxHeartbeats 400000 in
theorem dheld_cell (b : Nat) (w : World) (q : Nat) (h : w.cell? ⟨b, 2, none⟩ = some (.int .i64 (q : Int))) : Calls Try.prog 51 #[.pointer (some ⟨b, 0, none⟩)] w fun e w' => e = .returned (.int .i64 ((if q = 2 then 1 else if q = 3 then 2 else 0 : Nat) : Int)) ∧ w' = w := by
  by_cases h2 : q = 2
  · subst h2
    rw [if_pos rfl]
    go_enter Try.func51, Try.ntmps51
    go_wp2
    go_ret
    exact ⟨rfl, rfl⟩
  · rw [if_neg h2]
    have k2 : ((q : Int) == 2) = false := by simp; omega
    by_cases h3 : q = 3
    · subst h3
      rw [if_pos rfl]
      clear h2 k2
      go_enter Try.func51, Try.ntmps51
      go_wp2
      go_ret
      exact ⟨rfl, rfl⟩
    · rw [if_neg h3]
      have k3 : ((q : Int) == 3) = false := by simp; omega
      clear h2 h3
      go_enter Try.func51, Try.ntmps51
      go_wp2
      go_ret
      exact ⟨rfl, rfl⟩
theorem dheld_any (b t a : Nat) (s : Ds) (w : World) (x : Rd w b t a s) : Calls Try.prog 51 #[.pointer (some ⟨b, 0, none⟩)] w fun e w' => e = .returned (.int .i64 (s.held : Int)) ∧ w' = w := dheld_cell b w s.p x.cells.2.2.1
set_option maxHeartbeats 1000000 in
theorem dwhy_any (b t a : Nat) (s : Ds) (w : World) (x : Rd w b t a s) : Calls Try.prog 53 #[.pointer (some ⟨b, 0, none⟩)] w fun e w' => e = .returned (.int .i64 (s.why a)) ∧ ∃ n, w' = w.drewN n := by
  obtain ⟨c0, c1, c2, c3, c4, c5, c6, c7⟩ := x.cells
  obtain ⟨p, row, size, bare, long, high⟩ := s
  unfold Ds.why
  clear x c2 c3 c7 c0
  dsimp only at *
  cases bare with
  | true =>
    rw [if_pos rfl]
    go_enter Try.func53, Try.ntmps53
    go_wp2
    go_ret
    exact ⟨rfl, 0, rfl⟩
  | false =>
    rw [if_neg (by decide)]
    cases long with
    | true =>
      rw [if_pos rfl]
      go_enter Try.func53, Try.ntmps53
      go_wp2
      go_ret
      exact ⟨rfl, 0, rfl⟩
    | false =>
      rw [if_neg (by decide)]
      by_cases h : a < size
      · rw [if_pos h]
        have h2 : (a : Int) < (size : Int) := by omega
        go_enter Try.func53, Try.ntmps53
        go_wp2_with fail
        go_region
        go_wp2_with fail
        go_ret
        exact ⟨rfl, 1, rfl⟩
      · rw [if_neg h]
        have h2 : ¬ (a : Int) < (size : Int) := by omega
        go_enter Try.func53, Try.ntmps53
        go_wp2_with fail
        go_region
        go_wp2_with fail
        go_ret
        exact ⟨rfl, 1, rfl⟩
end Go.Proofs.Ythnjbnhmdjpfpaa
