/-
  Statuses: none, isPart, isStatus, classOf, part.
-/
import Derived.Test.YtbfgefgadplcjaaDoorPl12
import Derived.Test.YtbfgefgadplcjaaDoorBase
import Derived.Test.YtbfgefgadplcjaaDoorNumb
namespace Go.Proofs.YtbfgefgadplcjaaDoor
open Go.RowKit

/-- A status as a value. -/
def stV (s : Stt) : Value := .agg #[.int .i64 s.1, .int .i64 s.2.1, .int .i64 s.2.2]
theorem ret_row {P : Program} {fn : Func} {p : Tmp} {ty : TypeId} (h : fn.results = #[.cell p ty]) {R : Ending → World → Prop} {tmps : Array Value} {w : World} (g : Nat) (t : TypeId) (cs : Array Value) (d : TypeDesc)
    (hp : tmps.getD p undef = .pointer (some ⟨g, 0, none⟩)) (hg : Lies w g cs t) (hu : P.underlying ty = some d) (hd : (match d with | .struct _ | .array _ _ => true | _ => false) = true) (hi : (P.info? ty).map (·.size) = some cs.size)
    (hR : R (.returned (.agg cs)) w) : bodyPost P fn R .ret { tmps := tmps, defers := [] } w :=
  bodyPost_ret (results_cell_row h tmps w g t cs (0, 0) d hp hg hu hd hi) rfl hR
theorem infoST : (Tryd.prog.info? 48).map (·.size) = some 3 := by kernel_rfl
set_option maxHeartbeats 400000 in
theorem none_any (w : World) : Calls Tryd.prog 37 #[] w fun e w' => e = .returned (stV (0, 0, 0)) ∧ Below w.heap.size w w' := by
  unfold stV
  go_enter Tryd.func37, Tryd.ntmps37
  go_wp2
  exact ret_row rfl w.heap.size 48 #[.int .i64 0, .int .i64 0, .int .i64 0] _ rfl (Lies.new w _ _) Tryd.underlying48 rfl infoST ⟨rfl, (Below.refl _ _).alloc (Nat.le_refl _) _⟩
def ptB (n : Int) : Bool := decide (0 ≤ n) && decide (n ≤ 999)
set_option maxHeartbeats 400000 in
theorem ispart_any (n : Int) (w : World) : Calls Tryd.prog 70 #[.int .i64 n] w fun e w' => e = .returned (.bool (ptB n)) ∧ w' = w := by
  unfold ptB
  go_enter Tryd.func70, Tryd.ntmps70
  go_wp2
  all_goals go_ret
  all_goals exact ⟨ret_bool (by rw [eq_comm]; simp; omega), rfl⟩
set_option maxHeartbeats 400000 in
theorem class_any (n : Int) (h : 0 ≤ n) (h2 : n ≤ 9223372036854775807) (w : World) : Calls Tryd.prog 51 #[.int .i64 n] w fun e w' => e = .returned (.int .i64 (n / 100)) ∧ w' = w := by
  go_enter Tryd.func51, Tryd.ntmps51
  go_wp2
  go_ret
  exact ⟨rfl, rfl⟩
set_option maxHeartbeats 1000000 in
theorem isst_any (s : Stt) (w : World) : Calls Tryd.prog 50 #[stV s] w fun e w' => e = .returned (.bool (isSt s)) ∧ Below w.heap.size w w' := by
  have HI : Hid (∀ n w, Calls Tryd.prog 70 #[.int .i64 n] w fun e w' => e = .returned (.bool (ptB n)) ∧ w' = w) := ispart_any
  have e1 : isSt s = ((s.1 == 2 || s.1 == 4 || s.1 == 5) && ptB s.2.1 && ptB s.2.2) := rfl
  rw [e1]
  clear e1
  unfold stV
  generalize s.1 = a at *
  generalize s.2.1 = b at *
  generalize s.2.2 = c at *
  go_enter Tryd.func50, Tryd.ntmps50
  go_wp2_with (go_at_call 70; refine (HI.out _ _).mono ?_; rintro e wd ⟨rfl, rfl⟩)
  all_goals go_ret
  all_goals exact ⟨ret_bool (by simp_all), (Below.refl _ _).alloc (Nat.le_refl _) _⟩
theorem prt_lo (l : List UInt8) : 0 ≤ prt l ∧ prt l ≤ 999 := by
  unfold prt numVal
  split
  · split
    · omega
    · omega
  · omega
set_option maxHeartbeats 1000000 in
theorem part_any (s : ByteArray) (w : World) (ht : Table w) (hs : s.size ≤ 140737488355328) : Calls Tryd.prog 73 #[.string s] w fun e w' => e = .returned (.int .i64 (prt s.data.toList)) ∧ w' = w := by
  have HN := number_any s 999 w ht (by unfold maxLen; omega) (by decide) (by decide)
  have h1 := prt_lo s.data.toList
  have e1 : numVal s.data.toList 999 = prt s.data.toList := rfl
  rw [e1] at HN
  obtain ⟨h1, h2⟩ := h1
  clear e1 ht
  generalize prt s.data.toList = n at *
  generalize numCode s.data.toList 999 = m at *
  go_enter Tryd.func73, Tryd.ntmps73
  go_wp2_with (go_at_call 63; refine HN.mono ?_; clear HN; rintro e wd ⟨rfl, rfl⟩)
  go_ret
  exact ⟨rfl, rfl⟩
end Go.Proofs.YtbfgefgadplcjaaDoor
