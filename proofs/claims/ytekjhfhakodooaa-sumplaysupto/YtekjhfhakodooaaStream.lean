/-
  A stream of bytes: New, Write, Sum.
-/
import Derived.Test.YtekjhfhakodooaaWakes
namespace Go.Proofs.Ytekjhfhakodooaa
open Go.RowKit

/-- What a stream's block holds. -/
def strm (m : Bool) (x : BitVec 32) (n : Int) : Array Value := #[.bool m, .int .u32 (x.toNat : Int), .int .i64 n]

/-- Nothing but block g has turned; more may lie behind. -/
structure But (g : Nat) (w w' : World) : Prop where
  os : w'.os = w.os
  tape : w'.tape = w.tape
  output : w'.output = w.output
  size : w.heap.size ≤ w'.heap.size
  block : ∀ k, k < w.heap.size → k ≠ g → w'.heap[k]? = w.heap[k]?

theorem But.refl (g : Nat) (w : World) : But g w w := ⟨rfl, rfl, rfl, Nat.le_refl _, fun _ _ _ => rfl⟩
theorem But.set {g : Nat} {w w' : World} (h : But g w w') (j : Nat) (v : Value) : But g w (w'.setCell ⟨g, j, none⟩ v) :=
  ⟨h.os, h.tape, h.output, by rw [World.size_setCell]; exact h.size, fun k hk hne => (Below.heap_setCell _ _ _ _ hne).trans (h.block k hk hne)⟩
theorem But.row {g : Nat} {w w' : World} (h : But g w w') (cs : Array Value) : But g w (w'.setRow g cs) :=
  ⟨h.os, h.tape, h.output, by simp [World.setRow]; exact h.size, fun k hk hne => (setRow_other _ _ _ _ hne).trans (h.block k hk hne)⟩
theorem But.below {g B : Nat} {w w' : World} (h : But g w w') (hB : B ≤ g) (hs : B ≤ w.heap.size) : Below B w w' :=
  ⟨h.os, h.tape, h.output, h.size, fun k hk => h.block k (by omega) (by omega)⟩
theorem But.lies {g k : Nat} {w w' : World} {cs : Array Value} {t : TypeId} (h : But g w w') (hl : Lies w k cs t) (hne : k ≠ g) : Lies w' k cs t := (h.block k hl.lt hne).trans hl
theorem But.bts {g : Nat} {a : Option Addr} {l : List UInt8} {w w' : World} (h : But g w w') (hb : Bts a l w) (hne : ∀ ad, a = some ad → ad.block ≠ g) : Bts a l w' := by
  rcases hb with hb | ⟨b, o, e, hb, hr⟩
  · exact .inl hb
  · exact .inr ⟨b, o, e, Nat.lt_of_lt_of_le hb h.size, fun j hj => (World.cell?_of_block (w := w) (a := ⟨b, o + j, none⟩) (h.block b hb (hne _ e))).trans (hr j hj)⟩

theorem there_any (g : Nat) (m : Bool) (x : BitVec 32) (n : Int) (w : World) (h : Lies w g (strm m x n) 39) :
    Calls Try.prog 37 #[.pointer (some ⟨g, 0, none⟩)] w fun e w' => e = .returned (.bool m) ∧ w' = w := by
  have h0 : w.cell? ⟨g, 0, none⟩ = some (.bool m) := h.cell 0
  clear h
  go_enter Try.func37, Try.ntmps37
  go_wp2
  go_ret
  exact ⟨rfl, rfl⟩
theorem there_nil (w : World) : Calls Try.prog 37 #[.pointer none] w fun e w' => e = .returned (.bool false) ∧ w' = w := by
  go_enter Try.func37, Try.ntmps37
  go_wp2
  go_ret
  exact ⟨rfl, rfl⟩
theorem new_any (w : World) : Calls Try.prog 17 #[] w fun e w' => e = .returned (.pointer (some ⟨w.heap.size, 0, none⟩)) ∧ w' = w.alloc (.cells (strm true 0#32 0) 39) := by
  go_enter Try.func17, Try.ntmps17
  go_wp2
  go_ret
  exact ⟨rfl, rfl⟩
theorem sum_any (g : Nat) (x : BitVec 32) (n : Int) (w : World) (h : Lies w g (strm true x n) 39) :
    Calls Try.prog 22 #[.pointer (some ⟨g, 0, none⟩)] w fun e w' => e = .returned (.int .u32 (x.toNat : Int)) ∧ w' = w := by
  have HH : Hid (Lies w g (strm true x n) 39) := h
  have h1 : w.cell? ⟨g, 1, none⟩ = some (.int .u32 (x.toNat : Int)) := h.cell 1
  clear h
  go_enter Try.func22, Try.ntmps22
  go_wp2_with fail
  refine (there_any g true x n w HH.out).mono ?_
  rintro e w1 ⟨rfl, hw⟩
  rw [hw]
  clear hw
  go_wp2
  go_ret
  exact ⟨rfl, rfl⟩

theorem write_any (g : Nat) (x : BitVec 32) (n : Int) (a : Option Addr) (l : List UInt8) (cap : Nat) (w : World) (h : Lies w g (strm true x n) 39) (hb : Bts a l w) (hl : l.length ≤ maxLen)
    (h0 : 0 ≤ n) (hn : n + l.length < 9223372036854775808) :
    Calls Try.prog 20 #[.pointer (some ⟨g, 0, none⟩), .slice a l.length cap] w fun e w' => e = .returned (.int .i64 0) ∧ Lies w' g (strm true (more x l) (n + l.length)) 39 ∧ But g w w' := by
  have HH : Hid (Lies w g (strm true x n) 39) := h
  have HB : Hid (Bts a l w) := hb
  have c1 : w.cell? ⟨g, 1, none⟩ = some (.int .u32 (x.toNat : Int)) := h.cell 1
  have c2 : w.cell? ⟨g, 2, none⟩ = some (.int .i64 n) := h.cell 2
  have f1 := h.frozen 1
  have f2 := h.frozen 2
  clear h hb
  go_enter Try.func20, Try.ntmps20
  go_wp2_with fail
  refine (there_any g true x n w HH.out).mono ?_
  rintro e w1 ⟨rfl, hw⟩
  rw [hw]
  clear hw
  go_wp2_with fail
  refine (more_any x a l cap w HB.out hl).mono ?_
  rintro e w1 ⟨rfl, hw⟩
  rw [hw]
  clear hw
  go_wp2
  go_ret
  exact ⟨rfl, (HH.out.set 1 _).set 2 _, ((But.refl g w).set 1 _).set 2 _⟩
end Go.Proofs.Ytekjhfhakodooaa
