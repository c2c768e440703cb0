/-
  The program's Close.
-/
import Derived.Test.YtenfopabdegmhaaFeed
namespace Go.Proofs.Ytenfopabdegmhaa
open Go.RowKit

theorem close_any (g : Nat) (t : List UInt8) (e0 : Nat) (w : World) (hr : RdAt w g t e0) :
    Calls Try.prog 18 #[.pointer (some ⟨g, 0, none⟩)] w fun e w' => e = .returned (.int .i64 (clE t e0 : Nat)) ∧ w' = w := by
  obtain ⟨_, x, y, z, hlie, _⟩ := hr
  obtain ⟨c0, c1, c2, c6⟩ := rd_cells hlie
  clear hlie c2
  by_cases he : e0 = 0
  · subst he
    by_cases ht : t.length % 4 = 0
    · have e : clE t 0 = 0 := by simp [clE, ht]
      rw [e]
      rw [ht] at c6
      go_enter Try.func18, Try.ntmps18
      go_wp2_with fail
      refine Calls.mono (there_yes g w c0) ?_
      rintro e w0 ⟨rfl, rfl⟩
      go_wp2
      go_ret
      exact ⟨rfl, rfl⟩
    · have e : clE t 0 = 41 := by simp [clE, ht]
      rw [e]
      obtain ⟨m, hm⟩ : ∃ m, m = t.length % 4 := ⟨_, rfl⟩
      rw [← hm] at c6 ht
      have hp : (0 : Int) < (m : Int) := by omega
      clear hm
      go_enter Try.func18, Try.ntmps18
      go_wp2_with fail
      refine Calls.mono (there_yes g w c0) ?_
      rintro e w0 ⟨rfl, rfl⟩
      go_wp2
      go_ret
      exact ⟨rfl, rfl⟩
  · have e : clE t e0 = e0 := by simp [clE, he]
    rw [e]
    have hne : (((e0 : Nat) : Int) != 0) = true := by simp; omega
    clear e c6
    go_enter Try.func18, Try.ntmps18
    go_wp2_with fail
    refine Calls.mono (there_yes g w c0) ?_
    rintro e w0 ⟨rfl, rfl⟩
    go_wp2
    go_ret
    exact ⟨rfl, rfl⟩
theorem close_nil (w : World) : Calls Try.prog 18 #[.pointer none] w fun e w' => e = .returned (.int .i64 1) ∧ w' = w := by
  go_enter Try.func18, Try.ntmps18
  go_wp2_with fail
  refine Calls.mono (there_nil w) ?_
  rintro e w0 ⟨rfl, rfl⟩
  go_wp2
  go_ret
  exact ⟨rfl, rfl⟩
theorem close_zero (g : Nat) (w : World) (h : w.cell? ⟨g, 0, none⟩ = some (.bool false)) : Calls Try.prog 18 #[.pointer (some ⟨g, 0, none⟩)] w fun e w' => e = .returned (.int .i64 1) ∧ w' = w := by
  go_enter Try.func18, Try.ntmps18
  go_wp2_with fail
  refine Calls.mono (there_no g w h) ?_
  rintro e w0 ⟨rfl, rfl⟩
  go_wp2
  go_ret
  exact ⟨rfl, rfl⟩
end Go.Proofs.Ytenfopabdegmhaa
