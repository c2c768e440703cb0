/-
  A framer: there, free, Mode, toLines.
-/
import Derived.Test.YthnjbnhmdjpfpaaFm15
import Derived.Laws.EntriesVeiled
namespace Go.Proofs.Ythnjbnhmdjpfpaa
open Go.RowKit

theorem equalIn_fun (w : World) (d : Nat) (f : Nat) (xs : Array Value) : (Op.equalIn (d + 1) 37 (.func (.func f) xs #[]) .nilFunc).run Try.prog w = .ok false w := by
  rw [Op.equalIn]
  simp
theorem run_neq_fun (w : World) (f : Nat) (xs : Array Value) : (binOp .neq 37 (.func (.func f) xs #[]) .nilFunc).run Try.prog w = .ok (.bool true) w := by
  simp only [binOp]
  simp [Op.equal, Op.maxDepth, equalIn_fun w 9999 f xs]
set_option maxHeartbeats 400000 in
theorem xthere_any (b f : Nat) (xs : Array Value) (w : World) (h : w.cell? ⟨b, 3, none⟩ = some (.func (.func f) xs #[])) : Calls Try.prog 36 #[.pointer (some ⟨b, 0, none⟩)] w fun e w' => e = .returned (.bool true) ∧ w' = w := by
  have q := fun w => run_neq_fun w f xs
  go_enter Try.func36, Try.ntmps36
  go_wp2
  go_ret
  exact ⟨rfl, rfl⟩
set_option maxHeartbeats 400000 in
theorem xfree_any (b md : Nat) (g : Bool) (w : World) (h : w.cell? ⟨b, 2, none⟩ = some (.int .i64 (md : Int))) (h2 : w.cell? ⟨b, 5, none⟩ = some (.bool g)) : Calls Try.prog 37 #[.pointer (some ⟨b, 0, none⟩)] w fun e w' => e = .returned (.bool (decide (md = 1) && !g)) ∧ w' = w := by
  by_cases h1 : md = 1
  · subst h1
    go_enter Try.func37, Try.ntmps37
    go_wp2
    go_ret
    exact ⟨by simp, rfl⟩
  · have k : ((md : Int) == 1) = false := by simp; omega
    rw [decide_eq_false h1]
    go_enter Try.func37, Try.ntmps37
    go_wp2
    go_ret
    exact ⟨rfl, rfl⟩
set_option maxHeartbeats 400000 in
theorem xmode_any (b f md : Nat) (xs : Array Value) (w : World) (h : w.cell? ⟨b, 3, none⟩ = some (.func (.func f) xs #[])) (h2 : w.cell? ⟨b, 2, none⟩ = some (.int .i64 (md : Int))) : Calls Try.prog 14 #[.pointer (some ⟨b, 0, none⟩)] w fun e w' => e = .returned (.int .i64 (md : Int)) ∧ w' = w := by
  have HT := xthere_any b f xs w h
  clear h
  go_enter Try.func14, Try.ntmps14
  go_wp2_with (go_at_call 36; refine HT.mono ?_; rintro e w2 ⟨rfl, rfl⟩)
  go_ret
  exact ⟨rfl, rfl⟩
set_option maxHeartbeats 400000 in
theorem xtol_any (b lb : Nat) (cs : Array Value) (w : World) (hl : Lies w b cs 41) (h9 : cs.size = 9) (h4 : w.cell? ⟨b, 4, none⟩ = some (.pointer (some ⟨lb, 0, none⟩))) : Calls Try.prog 30 #[.pointer (some ⟨b, 0, none⟩)] w fun e w' => e = .returned (.tuple #[]) ∧ w' = ((w.setCell ⟨b, 2, none⟩ (.int .i64 1)).setCell ⟨b, 3, none⟩ (.func (.func 48) #[.pointer (some ⟨lb, 0, none⟩)] #[])).setCell ⟨b, 6, none⟩ (.pointer none) := by
  have f2 := hl.frozen 2
  have f3 := hl.frozen 3
  have f6 := hl.frozen 6
  have c2 : w.cell? ⟨b, 2, none⟩ = some cs[2] := (hl.cell 2).trans (by simp [h9])
  have c3 : w.cell? ⟨b, 3, none⟩ = some cs[3] := (hl.cell 3).trans (by simp [h9])
  have c6 : w.cell? ⟨b, 6, none⟩ = some cs[6] := (hl.cell 6).trans (by simp [h9])
  clear hl
  go_enter Try.func30, Try.ntmps30
  go_wp2
  go_end0
  exact ⟨rfl, rfl⟩
end Go.Proofs.Ythnjbnhmdjpfpaa
