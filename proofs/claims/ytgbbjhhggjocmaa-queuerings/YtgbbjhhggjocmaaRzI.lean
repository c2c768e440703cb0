/-
  Each of no ring, and of one that New did not make: there is nothing to range over.
-/
import Derived.Test.YtgbbjhhggjocmaaRdI
import Derived.RangeFuncNested
import Derived.RangeFuncBound
import Derived.RangeFuncCalls
import Derived.RangeFuncLeaves
import Derived.Shelf.Abstract
import Derived.Shelf.RegionOpen
import Derived.WalkKit
import Derived.OwnWalkIn
import Derived.TacticsInMore
import Derived.LoopNIn
import Derived.LoopIn
namespace Go.Proofs.Ytgbbjhhggjocmaa
open Go.RowKit Go.Shelf

theorem rowI_none (p q : Option Nat) (w : World) (h : RgI w p q 0 []) : Calls Try.prog 60 #[ptr p] w fun e w' => e = .returned (.slice none 0 0) ∧ w' = w := by
  have ht := thereI_any p q 0 [] w h
  clear h
  generalize ptr p = pv at *
  go_enter Try.func60, Try.ntmps60
  go_wp2_with (go_at_call 50; refine ht.mono ?_; clear ht; rintro e w ⟨rfl, rfl⟩)
  go_ret
  exact ⟨rfl, rfl⟩
theorem eachI_any (v : Value) (w : World) (hv : v.oneCell' = true) : Calls Try.prog 40 #[v] w fun e w' => e = .returned (.func (.func 59) #[] #[.pointer (some ⟨w.heap.size, 0, none⟩)]) ∧ w' = w.alloc (.cells #[v] 23) := by
  have hmf : ∀ (fn : Fn) (first cap : Array Value) (w : World), (Instr.makeFunc fn first cap).run Try.prog w = .ok (.func fn first cap) w := fun _ _ _ _ => rfl
  go_enter Try.func40, Try.ntmps40
  go_wp2
  go_ret
  exact ⟨rfl, rfl⟩
theorem equalIn_yieldI (w : World) (d l : Nat) : (Op.equalIn (d + 1) 93 (.func (.yield l) #[] #[]) .nilFunc).run Try.prog w = .ok false w := by
  simp [Op.equalIn, run_underlying Try.underlying93]
theorem eql_yieldI (w : World) (l : Nat) : (binOp .eql 93 (.func (.yield l) #[] #[]) .nilFunc).run Try.prog w = .ok (.bool false) w := by
  simp only [binOp]
  simp [Op.equal, Op.maxDepth, equalIn_yieldI w 9999 l]
theorem each1I_none (p q : Option Nat) (l g : Nat) (w : World) (h : RgI w p q 0 []) (hb : w.cell? ⟨g, 0, none⟩ = some (ptr p)) : Calls Try.prog 59 #[.func (.yield l) #[] #[], .pointer (some ⟨g, 0, none⟩)] w fun e w' => e = .returned (.tuple #[]) ∧ w' = w := by
  have hr := rowI_none p q w h
  have hq := eql_yieldI
  clear h
  unfold ptr at *
  go_enter Try.func59, Try.ntmps59
  go_wp2_with (go_at_call 60; refine hr.mono ?_; clear hr; rintro e w ⟨rfl, rfl⟩)
  go_loopw [10] (fun iv wr => iv = .int .i64 0 ∧ wr = w) (fun _ _ => 0)
  case atStart => exact ⟨rfl, rfl⟩
  case round =>
    obtain ⟨rfl, rfl⟩ := hrel
    go_wp2
    go_end0
    exact ⟨rfl, rfl⟩
/-- What Each of no things hands on: nothing. -/
theorem eachI_stops (p q : Option Nat) (g N : Nat) (w : World) (encs : Int × Int → Array Value) (h : RgI w p q 0 []) (hb : w.cell? ⟨g, 0, none⟩ = some (ptr p)) (n : Nat) (Kp : World → World → Prop) :
    SeqStopsK Fence.wide n Try.prog 59 #[.pointer (some ⟨g, 0, none⟩)] encs Kp (fun xs => xs = []) (fun _ => False) N w := fun l J _ W hW _ _ _ h0 =>
  callsIn_wide.2 ((each1I_none p q l g W (h.below hW) ((hW.cell (p := ⟨g, 0, none⟩) (lt_of_cell hb)).trans hb)).mono (fun e w' hh => ⟨⟨_, hh.1⟩, .inl ⟨[], rfl, by rw [hh.2]; exact h0⟩⟩))
end Go.Proofs.Ytgbbjhhggjocmaa
