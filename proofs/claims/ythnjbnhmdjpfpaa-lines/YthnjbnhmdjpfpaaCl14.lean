/-
  slices.Clone of bytes: the same bytes in memory of the call's own.
-/
import Derived.Test.YthnjbnhmdjpfpaaBase
import Derived.Lib.SliceRun
namespace Go.Proofs.Ythnjbnhmdjpfpaa
open Go.RowKit

theorem clone_nil (w : World) : Calls Try.prog 61 #[.slice none 0 0] w fun e w' => e = .returned (.slice none 0 0) ∧ w' = w := by
  have q := Lib.run_eql_slice_nil (P := Try.prog) w 42 5 none 0 0 0 0 Try.underlying42
  go_enter Try.func61, Try.ntmps61
  go_wp2
  go_ret
  exact ⟨rfl, rfl⟩

theorem clone_some (ad : Addr) (l : List UInt8) (cap : Nat) (w : World) (h : Bts (some ad) l w) (hl : l.length ≤ 140737488355328) :
    Calls Try.prog 61 #[.slice (some ad) l.length cap] w fun e w' => ∃ v, e = .returned v ∧ w'.ownsRow w.heap.size 5 1 v l.length (cellsB l) ∧ Below w.heap.size w w' := by
  obtain ⟨i0, hi, hz0, hz1, hz2⟩ := info_parts info5
  have HH : Hid (Bts (some ad) l w) := h
  clear h
  have q := Lib.run_eql_slice_nil (P := Try.prog) w 42 5 (some ad) l.length cap 0 0 Try.underlying42
  go_enter Try.func61, Try.ntmps61
  go_wp2_with (at_builtin; refine wpList_append_own _ rfl _ _ 42 rfl w.heap.size 5 i0 (.int .u8 0) 1 1 Try.underlying42 hi hz0 hz1 hz2 rfl (by decide) _ 0 [] rfl (World.ownsRow_made w #[] 0 (Nat.le_refl _) (by unfold maxLen; omega) rfl) ad l.length cap (cellsB l) rfl (by simp [cellsB]) ?c1 (cellsB_one l) ?c3 ?c4 ?c5 ?_)
  case c1 => exact bts_news (HH.out.below ((Below.refl _ _).alloc (Nat.le_refl _) _))
  case c3 => unfold maxLen; omega
  case c4 => omega
  case c5 => simp
  intro v' w1 hown hgrow _
  have R : Hid (w1.ownsRow w.heap.size 5 1 v' l.length (cellsB l)) := by
    show w1.ownsRow _ _ _ _ _ _
    simpa using hown
  have HB : Hid (Below w.heap.size w w1) := ((Below.refl _ _).alloc (Nat.le_refl _) _).grown hgrow (by simp) (fun q hq => by simp [Value.ownBlock] at hq; omega)
  clear hown hgrow q
  go_wp2
  go_ret
  exact ⟨_, rfl, R, HB⟩
theorem clone_any (a : Option Addr) (l : List UInt8) (cap : Nat) (w : World) (h : Bts a l w) (hl : l.length ≤ 140737488355328) (hn : a = none → cap = 0) :
    Calls Try.prog 61 #[.slice a l.length cap] w fun e w' => ∃ v, e = .returned v ∧ w'.ownsRow w.heap.size 5 1 v l.length (cellsB l) ∧ Below w.heap.size w w' := by
  cases a with
  | some ad => exact clone_some ad l cap w h hl
  | none =>
    obtain rfl : l = [] := by
      rcases h with h | ⟨g, o, e, _⟩
      · exact h
      · cases e
    obtain rfl := hn rfl
    refine (clone_nil w).mono ?_
    rintro e w' ⟨rfl, rfl⟩
    exact ⟨_, rfl, World.ownsRow_nil _ _ _ _, Below.refl _ _⟩

end Go.Proofs.Ythnjbnhmdjpfpaa
