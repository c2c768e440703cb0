/-
  wakes: a ring tells what was pushed.
-/
import Derived.Test.YtgbbjhhggjocmaaRnI
namespace Go.Proofs.Ytgbbjhhggjocmaa
open Go.RowKit

set_option maxHeartbeats 2000000 in
theorem wakes_any (w : World) : Calls Try.prog 39 #[] w fun e w' => e = .returned (.bool true) ∧ Below w.heap.size w w' := by
  have H0 : Hid (Calls Try.prog 9 #[.int .i64 2] w fun e w' => e = .returned (.tuple #[.pointer (some ⟨w.heap.size, 0, none⟩), .int .i64 0]) ∧ RnI w.heap.size w w' (some w.heap.size) none 2 []) := newI_n w.heap.size w w (Nat.le_refl _) (Below.refl _ _) 2 (by decide) (by decide)
  have H1 : Hid (∀ wx q, RnI w.heap.size w wx (some w.heap.size) q 2 [] → Calls Try.prog 20 #[.pointer (some ⟨w.heap.size, 0, none⟩), .int .i64 4] wx fun e w' => e = .returned (.int .i64 0) ∧ ∃ q', RnI w.heap.size w w' (some w.heap.size) q' 2 [4]) := fun wx q h => pushI_n h 4 [4] 0 rfl rfl
  have H2 : Hid (∀ wx q, RnI w.heap.size w wx (some w.heap.size) q 2 [4] → Calls Try.prog 20 #[.pointer (some ⟨w.heap.size, 0, none⟩), .int .i64 5] wx fun e w' => e = .returned (.int .i64 0) ∧ ∃ q', RnI w.heap.size w w' (some w.heap.size) q' 2 [4, 5]) := fun wx q h => pushI_n h 5 [4, 5] 0 rfl rfl
  have H3 : Hid (∀ wx q, RnI w.heap.size w wx (some w.heap.size) q 2 [4, 5] → Calls Try.prog 20 #[.pointer (some ⟨w.heap.size, 0, none⟩), .int .i64 6] wx fun e w' => e = .returned (.int .i64 4) ∧ ∃ q', RnI w.heap.size w w' (some w.heap.size) q' 2 [4, 5]) := fun wx q h => pushI_n h 6 [4, 5] 4 rfl rfl
  have H4 : Hid (∀ wx q, RnI w.heap.size w wx (some w.heap.size) q 2 [4, 5] → Calls Try.prog 21 #[.pointer (some ⟨w.heap.size, 0, none⟩)] wx fun e w' => e = .returned (.tuple #[.int .i64 4, .bool true]) ∧ RnI w.heap.size w w' (some w.heap.size) q 2 [5]) := fun wx q h => popI_n h
  have H5 : Hid (∀ wx q, RnI w.heap.size w wx (some w.heap.size) q 2 [5] → Calls Try.prog 14 #[.pointer (some ⟨w.heap.size, 0, none⟩)] wx fun e w' => e = .returned (.int .i64 1) ∧ w' = wx) := fun wx q h => lenI_any _ _ _ _ wx h.rg
  go_enter Try.func39, Try.ntmps39
  go_wp2_with (first
    | (go_at_call 9; refine H0.out.mono ?_; clear H0; rintro e w1 ⟨rfl, hr⟩; have R0 : Hid (RnI w.heap.size w w1 (some w.heap.size) none 2 []) := hr; clear hr)
    | (go_at_call 20; refine (H1.out _ _ R0.out).mono ?_; clear H1 R0; rintro e w2 ⟨rfl, q2, hr⟩; have R1 : Hid (RnI w.heap.size w w2 (some w.heap.size) q2 2 [4]) := hr; clear hr)
    | (go_at_call 20; refine (H2.out _ _ R1.out).mono ?_; clear H2 R1; rintro e w3 ⟨rfl, q3, hr⟩; have R2 : Hid (RnI w.heap.size w w3 (some w.heap.size) q3 2 [4, 5]) := hr; clear hr)
    | (go_at_call 20; refine (H3.out _ _ R2.out).mono ?_; clear H3 R2; rintro e w4 ⟨rfl, q4, hr⟩; have R3 : Hid (RnI w.heap.size w w4 (some w.heap.size) q4 2 [4, 5]) := hr; clear hr)
    | (go_at_call 21; refine (H4.out _ _ R3.out).mono ?_; clear H4 R3; rintro e w5 ⟨rfl, hr⟩; have R4 : Hid (RnI w.heap.size w w5 (some w.heap.size) q4 2 [5]) := hr; clear hr)
    | (go_at_call 14; refine (H5.out _ _ R4.out).mono ?_; clear H5; rintro e w6 ⟨rfl, hw⟩; subst hw))
  go_ret
  exact ⟨rfl, R4.out.bel⟩
end Go.Proofs.Ytgbbjhhggjocmaa
