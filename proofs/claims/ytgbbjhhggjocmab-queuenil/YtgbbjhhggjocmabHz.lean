/-
  No heap, and one that NewHeap did not make.
-/
import Derived.Test.YtgbbjhhggjocmabWld
namespace Go.Proofs.Ytgbbjhhggjocmab
open Go.RowKit

theorem hpeekI_nil (w : World) : Calls Try.prog 23 #[.pointer none] w fun e w' => e = .returned (.tuple #[.int .i64 0, .bool false]) ∧ w' = w := by
  go_enter Try.func23, Try.ntmps23
  go_wp2
  go_ret2
  exact ⟨rfl, rfl⟩
theorem hpopI_nil (w : World) : Calls Try.prog 21 #[.pointer none] w fun e w' => e = .returned (.tuple #[.int .i64 0, .bool false]) ∧ w' = w := by
  have h := hpeekI_nil w
  go_enter Try.func21, Try.ntmps21
  go_wp2_with (go_at_call 23; refine h.mono ?_; clear h; rintro e w ⟨rfl, rfl⟩)
  go_ret2
  exact ⟨rfl, rfl⟩
theorem hpushI_nil (x : Int) (w : World) : Calls Try.prog 27 #[.pointer none, .int .i64 x] w fun e w' => e = .returned (.int .i64 1) ∧ w' = w := by
  go_enter Try.func27, Try.ntmps27
  go_wp2
  go_ret
  exact ⟨rfl, rfl⟩
theorem hlenI_nil (w : World) : Calls Try.prog 34 #[.pointer none] w fun e w' => e = .returned (.int .i64 0) ∧ w' = w := by
  go_enter Try.func34, Try.ntmps34
  go_wp2
  go_ret
  exact ⟨rfl, rfl⟩
theorem equalIn_nilI (w : World) (d : Nat) : (Op.equalIn (d + 1) 86 .nilFunc .nilFunc).run Try.prog w = .ok true w := by
  simp [Op.equalIn, run_underlying Try.underlying86]
theorem eql_nilI (w : World) : (binOp .eql 86 .nilFunc .nilFunc).run Try.prog w = .ok (.bool true) w := by
  simp only [binOp]
  simp [Op.equal, Op.maxDepth, equalIn_nilI w 9999]
theorem hnewI_nil (w : World) : Calls Try.prog 40 #[.nilFunc] w fun e w' => e = .returned (.pointer none) ∧ w' = w := by
  have h := eql_nilI
  go_enter Try.func40, Try.ntmps40
  go_wp2
  go_ret
  exact ⟨rfl, rfl⟩
theorem equalIn_nilS (w : World) (d : Nat) : (Op.equalIn (d + 1) 45 .nilFunc .nilFunc).run Try.prog w = .ok true w := by
  simp [Op.equalIn, run_underlying Try.underlying45]
theorem neq_nilS (w : World) : (binOp .neq 45 .nilFunc .nilFunc).run Try.prog w = .ok (.bool false) w := by
  simp only [binOp]
  simp [Op.equal, Op.maxDepth, equalIn_nilS w 9999]
/-- A heap that NewHeap did not make. -/
def HzS (w : World) (b : Nat) : Prop := Lies w b #[.nilFunc, .slice none 0 0, .int .u64 0] 49
theorem hthereS_zero (b : Nat) (w : World) (h : HzS w b) : Calls Try.prog 66 #[.pointer (some ⟨b, 0, none⟩)] w fun e w' => e = .returned (.bool false) ∧ w' = w := by
  have c0 : w.cell? ⟨b, 0, none⟩ = some .nilFunc := Lies.cell h 0
  have hq := neq_nilS
  clear h
  go_enter Try.func66, Try.ntmps66
  go_wp2
  go_ret
  exact ⟨rfl, rfl⟩
theorem hlenS_zero (b : Nat) (w : World) (h : HzS w b) : Calls Try.prog 35 #[.pointer (some ⟨b, 0, none⟩)] w fun e w' => e = .returned (.int .i64 0) ∧ w' = w := by
  have ht := hthereS_zero b w h
  clear h
  go_enter Try.func35, Try.ntmps35
  go_wp2_with (go_at_call 66; refine ht.mono ?_; clear ht; rintro e w ⟨rfl, rfl⟩)
  go_ret
  exact ⟨rfl, rfl⟩
theorem hpeekS_zero (b : Nat) (w : World) (h : HzS w b) : Calls Try.prog 24 #[.pointer (some ⟨b, 0, none⟩)] w fun e w' => e = .returned (.tuple #[.string ByteArray.empty, .bool false]) ∧ w' = w := by
  have ht := hlenS_zero b w h
  clear h
  go_enter Try.func24, Try.ntmps24
  go_wp2_with (go_at_call 35; refine ht.mono ?_; clear ht; rintro e w ⟨rfl, rfl⟩)
  go_ret2
  exact ⟨rfl, rfl⟩
theorem hpopS_zero (b : Nat) (w : World) (h : HzS w b) : Calls Try.prog 22 #[.pointer (some ⟨b, 0, none⟩)] w fun e w' => e = .returned (.tuple #[.string ByteArray.empty, .bool false]) ∧ w' = w := by
  have ht := hpeekS_zero b w h
  clear h
  go_enter Try.func22, Try.ntmps22
  go_wp2_with (go_at_call 24; refine ht.mono ?_; clear ht; rintro e w ⟨rfl, rfl⟩)
  go_ret2
  exact ⟨rfl, rfl⟩
theorem hpushS_zero (b : Nat) (x : ByteArray) (w : World) (h : HzS w b) : Calls Try.prog 28 #[.pointer (some ⟨b, 0, none⟩), .string x] w fun e w' => e = .returned (.int .i64 1) ∧ w' = w := by
  have ht := hthereS_zero b w h
  clear h
  go_enter Try.func28, Try.ntmps28
  go_wp2_with (go_at_call 66; refine ht.mono ?_; clear ht; rintro e w ⟨rfl, rfl⟩)
  go_ret
  exact ⟨rfl, rfl⟩
end Go.Proofs.Ytgbbjhhggjocmab
