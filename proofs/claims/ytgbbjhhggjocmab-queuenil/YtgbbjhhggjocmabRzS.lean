/-
  Each of no ring, and of one that New did not make: there is nothing to range over.
-/
import Derived.Test.YtgbbjhhggjocmabRdS
import Derived.RangeFuncNested
import Derived.RangeFuncBound
import Derived.RangeFuncCalls
import Derived.RangeFuncLeaves
import Derived.Shelf.Abstract
import Derived.Shelf.RegionOpen
import Derived.WalkKit
import Derived.OwnWalkIn
import Derived.TacticsInMore
import Derived.LoopNIn
import Derived.LoopIn
namespace Go.Proofs.Ytgbbjhhggjocmab
open Go.RowKit Go.Shelf

theorem rowS_none (p q : Option Nat) (w : World) (h : RgS w p q 0 []) : Calls Try.prog 71 #[ptr p] w fun e w' => e = .returned (.slice none 0 0) ∧ w' = w := by
  have ht := thereS_any p q 0 [] w h
  clear h
  generalize ptr p = pv at *
  go_enter Try.func71, Try.ntmps71
  go_wp2_with (go_at_call 62; refine ht.mono ?_; clear ht; rintro e w ⟨rfl, rfl⟩)
  go_ret
  exact ⟨rfl, rfl⟩
theorem eachS_any (v : Value) (w : World) (hv : v.oneCell' = true) : Calls Try.prog 30 #[v] w fun e w' => e = .returned (.func (.func 70) #[] #[.pointer (some ⟨w.heap.size, 0, none⟩)]) ∧ w' = w.alloc (.cells #[v] 82) := by
  have hmf : ∀ (fn : Fn) (first cap : Array Value) (w : World), (Instr.makeFunc fn first cap).run Try.prog w = .ok (.func fn first cap) w := fun _ _ _ _ => rfl
  go_enter Try.func30, Try.ntmps30
  go_wp2
  go_ret
  exact ⟨rfl, rfl⟩
theorem equalIn_yieldS (w : World) (d l : Nat) : (Op.equalIn (d + 1) 97 (.func (.yield l) #[] #[]) .nilFunc).run Try.prog w = .ok false w := by
  simp [Op.equalIn, run_underlying Try.underlying97]
theorem eql_yieldS (w : World) (l : Nat) : (binOp .eql 97 (.func (.yield l) #[] #[]) .nilFunc).run Try.prog w = .ok (.bool false) w := by
  simp only [binOp]
  simp [Op.equal, Op.maxDepth, equalIn_yieldS w 9999 l]
theorem each1S_none (p q : Option Nat) (l g : Nat) (w : World) (h : RgS w p q 0 []) (hb : w.cell? ⟨g, 0, none⟩ = some (ptr p)) : Calls Try.prog 70 #[.func (.yield l) #[] #[], .pointer (some ⟨g, 0, none⟩)] w fun e w' => e = .returned (.tuple #[]) ∧ w' = w := by
  have hr := rowS_none p q w h
  have hq := eql_yieldS
  clear h
  unfold ptr at *
  go_enter Try.func70, Try.ntmps70
  go_wp2_with (go_at_call 71; refine hr.mono ?_; clear hr; rintro e w ⟨rfl, rfl⟩)
  go_loopw [10] (fun iv wr => iv = .int .i64 0 ∧ wr = w) (fun _ _ => 0)
  case atStart => exact ⟨rfl, rfl⟩
  case round =>
    obtain ⟨rfl, rfl⟩ := hrel
    go_wp2
    go_end0
    exact ⟨rfl, rfl⟩
/-- What Each of no things hands on: nothing. -/
theorem eachS_stops (p q : Option Nat) (g N : Nat) (w : World) (encs : Int × ByteArray → Array Value) (h : RgS w p q 0 []) (hb : w.cell? ⟨g, 0, none⟩ = some (ptr p)) (n : Nat) (Kp : World → World → Prop) :
    SeqStopsK Fence.wide n Try.prog 70 #[.pointer (some ⟨g, 0, none⟩)] encs Kp (fun xs => xs = []) (fun _ => False) N w := fun l J _ W hW _ _ _ h0 =>
  callsIn_wide.2 ((each1S_none p q l g W (h.below hW) ((hW.cell (p := ⟨g, 0, none⟩) (lt_of_cell hb)).trans hb)).mono (fun e w' hh => ⟨⟨_, hh.1⟩, .inl ⟨[], rfl, by rw [hh.2]; exact h0⟩⟩))
end Go.Proofs.Ytgbbjhhggjocmab
