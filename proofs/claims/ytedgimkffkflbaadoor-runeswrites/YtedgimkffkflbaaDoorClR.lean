/-
  slices.Clone of numbers: the same numbers in memory of the call's own.
-/
import Derived.Test.YtedgimkffkflbaaDoorNum
import Derived.Lib.SliceRun
namespace Go.Proofs.YtedgimkffkflbaaDoor
open Go.RowKit

theorem clr_nil (cap : Nat) (w : World) : Calls Tryd.prog 21 #[.slice none 0 cap] w fun e w' => e = .returned (.slice none 0 0) ∧ w' = w := by
  have q := Lib.run_eql_slice_nil (P := Tryd.prog) w 28 21 none 0 cap 0 0 Tryd.underlying28
  go_enter Tryd.func21, Tryd.ntmps21
  go_wp2
  go_ret
  exact ⟨rfl, rfl⟩

theorem clr_some (ad : Addr) (l : List Int) (cap : Nat) (w : World) (h : Nts .i32 (some ad) l w) (hl : l.length ≤ 35184372088000) :
    Calls Tryd.prog 21 #[.slice (some ad) l.length cap] w fun e w' => ∃ v, e = .returned v ∧ w'.ownsRow w.heap.size 21 1 v l.length (cellsN .i32 l) ∧ Below w.heap.size w w' := by
  obtain ⟨i0, hi, hz0, hz1, hz2⟩ := info_parts infoR
  have HH : Hid (Nts .i32 (some ad) l w) := h
  clear h
  have q := Lib.run_eql_slice_nil (P := Tryd.prog) w 28 21 (some ad) l.length cap 0 0 Tryd.underlying28
  go_enter Tryd.func21, Tryd.ntmps21
  go_wp2_with (at_builtin; refine wpList_append_own _ rfl _ _ 28 rfl w.heap.size 21 i0 (.int .i32 0) 1 4 Tryd.underlying28 hi hz0 hz1 hz2 rfl (by decide) _ 0 [] rfl (World.ownsRow_made w #[] 0 (Nat.le_refl _) (by unfold maxLen; omega) rfl) ad l.length cap (cellsN .i32 l) rfl (by simp [cellsN]) ?c1 (cellsN_one .i32 l) ?c3 ?c4 ?c5 ?_)
  case c1 => exact nts_news (HH.out.below ((Below.refl _ _).alloc (Nat.le_refl _) _))
  case c3 => unfold maxLen; omega
  case c4 => omega
  case c5 => simp
  intro v' w1 hown hgrow _
  have R : Hid (w1.ownsRow w.heap.size 21 1 v' l.length (cellsN .i32 l)) := by
    show w1.ownsRow _ _ _ _ _ _
    simpa using hown
  have HB : Hid (Below w.heap.size w w1) := ((Below.refl _ _).alloc (Nat.le_refl _) _).grown hgrow (by simp) (fun q hq => by simp [Value.ownBlock] at hq; omega)
  clear hown hgrow q
  go_wp2
  go_ret
  exact ⟨_, rfl, R, HB⟩
theorem clr_any (a : Option Addr) (l : List Int) (cap : Nat) (w : World) (h : Nts .i32 a l w) (hl : l.length ≤ 35184372088000) :
    Calls Tryd.prog 21 #[.slice a l.length cap] w fun e w' => ∃ v, e = .returned v ∧ w'.ownsRow w.heap.size 21 1 v l.length (cellsN .i32 l) ∧ Below w.heap.size w w' := by
  cases a with
  | some ad => exact clr_some ad l cap w h hl
  | none =>
    obtain rfl := nts_none h
    refine (clr_nil cap w).mono ?_
    rintro e w' ⟨rfl, rfl⟩
    exact ⟨_, rfl, own_nilN _ _ _ _, Below.refl _ _⟩
end Go.Proofs.YtedgimkffkflbaaDoor
