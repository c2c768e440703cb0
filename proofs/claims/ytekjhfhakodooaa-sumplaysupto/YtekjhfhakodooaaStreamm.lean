/-
  A stream of bytes: Len, Reset, Copy, and a stream that is not there.
-/
import Derived.Test.YtekjhfhakodooaaStream
namespace Go.Proofs.Ytekjhfhakodooaa
open Go.RowKit

theorem len_any (g : Nat) (x : BitVec 32) (n : Int) (w : World) (h : Lies w g (strm true x n) 39) :
    Calls Try.prog 24 #[.pointer (some ⟨g, 0, none⟩)] w fun e w' => e = .returned (.int .i64 n) ∧ w' = w := by
  have HH : Hid (Lies w g (strm true x n) 39) := h
  have h1 : w.cell? ⟨g, 2, none⟩ = some (.int .i64 n) := h.cell 2
  clear h
  go_enter Try.func24, Try.ntmps24
  go_wp2_with fail
  refine (there_any g true x n w HH.out).mono ?_
  rintro e w1 ⟨rfl, hw⟩
  rw [hw]
  clear hw
  go_wp2
  go_ret
  exact ⟨rfl, rfl⟩

/-- A pointer to what is no stream: to nothing, or to one that New did not make. -/
def NoStream (v : Value) (w : World) : Prop := v = .pointer none ∨ ∃ g x n, v = .pointer (some ⟨g, 0, none⟩) ∧ Lies w g (strm false x n) 39

theorem there_no (v : Value) (w : World) (h : NoStream v w) : Calls Try.prog 37 #[v] w fun e w' => e = .returned (.bool false) ∧ w' = w := by
  rcases h with rfl | ⟨g, x, n, rfl, h⟩
  · exact there_nil w
  · exact there_any g false x n w h
theorem sum_no (v : Value) (w : World) (h : NoStream v w) : Calls Try.prog 22 #[v] w fun e w' => e = .returned (.int .u32 0) ∧ w' = w := by
  have HH : Hid (NoStream v w) := h
  clear h
  go_enter Try.func22, Try.ntmps22
  go_wp2_with fail
  refine (there_no v w HH.out).mono ?_
  rintro e w1 ⟨rfl, hw⟩
  rw [hw]
  clear hw
  go_wp2
  go_ret
  exact ⟨rfl, rfl⟩
theorem len_no (v : Value) (w : World) (h : NoStream v w) : Calls Try.prog 24 #[v] w fun e w' => e = .returned (.int .i64 0) ∧ w' = w := by
  have HH : Hid (NoStream v w) := h
  clear h
  go_enter Try.func24, Try.ntmps24
  go_wp2_with fail
  refine (there_no v w HH.out).mono ?_
  rintro e w1 ⟨rfl, hw⟩
  rw [hw]
  clear hw
  go_wp2
  go_ret
  exact ⟨rfl, rfl⟩
theorem write_no (v b : Value) (w : World) (h : NoStream v w) : Calls Try.prog 20 #[v, b] w fun e w' => e = .returned (.int .i64 1) ∧ w' = w := by
  have HH : Hid (NoStream v w) := h
  clear h
  go_enter Try.func20, Try.ntmps20
  go_wp2_with fail
  refine (there_no v w HH.out).mono ?_
  rintro e w1 ⟨rfl, hw⟩
  rw [hw]
  clear hw
  go_wp2
  go_ret
  exact ⟨rfl, rfl⟩
theorem copy_no (v : Value) (w : World) (h : NoStream v w) : Calls Try.prog 27 #[v] w fun e w' => e = .returned (.pointer none) ∧ w' = w := by
  have HH : Hid (NoStream v w) := h
  clear h
  go_enter Try.func27, Try.ntmps27
  go_wp2_with fail
  refine (there_no v w HH.out).mono ?_
  rintro e w1 ⟨rfl, hw⟩
  rw [hw]
  clear hw
  go_wp2
  go_ret
  exact ⟨rfl, rfl⟩
theorem reset_no (v : Value) (w : World) (h : NoStream v w) : Calls Try.prog 25 #[v] w fun e w' => e = .returned (.tuple #[]) ∧ w' = w := by
  have HH : Hid (NoStream v w) := h
  clear h
  go_enter Try.func25, Try.ntmps25
  go_wp2_with fail
  refine (there_no v w HH.out).mono ?_
  rintro e w1 ⟨rfl, hw⟩
  rw [hw]
  clear hw
  go_wp2
  go_end0
  exact ⟨rfl, rfl⟩
theorem copy_any (g : Nat) (x : BitVec 32) (n : Int) (w : World) (h : Lies w g (strm true x n) 39) :
    Calls Try.prog 27 #[.pointer (some ⟨g, 0, none⟩)] w fun e w' => e = .returned (.pointer (some ⟨w.heap.size, 0, none⟩)) ∧ Lies w' w.heap.size (strm true x n) 39 ∧ Below w.heap.size w w' := by
  have HH : Hid (Lies w g (strm true x n) 39) := h
  have c0 : w.cell? ⟨g, 0, none⟩ = some (.bool true) := h.cell 0
  have c1 : w.cell? ⟨g, 1, none⟩ = some (.int .u32 (x.toNat : Int)) := h.cell 1
  have c2 : w.cell? ⟨g, 2, none⟩ = some (.int .i64 n) := h.cell 2
  clear h
  go_enter Try.func27, Try.ntmps27
  go_wp2_with fail
  refine (there_any g true x n w HH.out).mono ?_
  rintro e w1 ⟨rfl, hw⟩
  rw [hw]
  clear hw
  go_wp2
  go_ret
  exact ⟨rfl, Lies.new _ _ _, (Below.refl _ _).alloc (Nat.le_refl _) _⟩
theorem reset_any (g : Nat) (x : BitVec 32) (n : Int) (w : World) (h : Lies w g (strm true x n) 39) :
    Calls Try.prog 25 #[.pointer (some ⟨g, 0, none⟩)] w fun e w' => e = .returned (.tuple #[]) ∧ Lies w' g (strm true 0#32 0) 39 ∧ But g w w' := by
  have HH : Hid (Lies w g (strm true x n) 39) := h
  have c0 : w.cell? ⟨g, 0, none⟩ = some (.bool true) := h.cell 0
  have c1 : w.cell? ⟨g, 1, none⟩ = some (.int .u32 (x.toNat : Int)) := h.cell 1
  have c2 : w.cell? ⟨g, 2, none⟩ = some (.int .i64 n) := h.cell 2
  have f0 := h.frozen 0
  have f1 := h.frozen 1
  have f2 := h.frozen 2
  clear h
  go_enter Try.func25, Try.ntmps25
  go_wp2_with fail
  refine (there_any g true x n w HH.out).mono ?_
  rintro e w1 ⟨rfl, hw⟩
  rw [hw]
  clear hw
  go_wp2
  go_end0
  exact ⟨rfl, ((HH.out.set 0 _).set 1 _).set 2 _, (((But.refl g w).set 0 _).set 1 _).set 2 _⟩
end Go.Proofs.Ytekjhfhakodooaa
