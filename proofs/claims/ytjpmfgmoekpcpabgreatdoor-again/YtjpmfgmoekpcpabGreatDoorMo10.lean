/-
  What MAIL says, in memory; the program's isMail and sayMail where wakes asks them.
-/
import Derived.Test.YtjpmfgmoekpcpabGreatDoorMn10
import Derived.Test.YtjpmfgmoekpcpabGreatDoorSpan4
namespace Go.Proofs.YtjpmfgmoekpcpabGreatDoor
open Go.RowKit

/-- What MAIL says. -/
structure Mo where
  hasSize : Bool
  size : Int
  body : Int
  wide : Bool
  ret : Int
  hasId : Bool
  id : List UInt8
  hasAuth : Bool
  auth : List UInt8
def moC (m : Mo) : Array Value := #[.bool m.hasSize, .int .i64 m.size, .int .i64 m.body, .bool m.wide, .int .i64 m.ret, .bool m.hasId, .string (tx m.id), .bool m.hasAuth, .string (tx m.auth)]
def mo0 : Mo := ⟨false, 0, 0, false, 0, false, [], false, []⟩
theorem infoMo : (Tryz.prog.info? 42).map (·.size) = some 9 := by kernel_rfl
/-- A cell of one block is set behind a block's making. -/
theorem grown_set {w w' : World} {o k : Nat} (h : w.grownBy w' (some o)) (v : Value) : w.grownBy (w'.setCell ⟨o, k, none⟩ v) (some o) :=
  ⟨h.os, h.tape, h.output, by rw [World.size_setCell]; exact h.size, fun i hi hne => (heap_setCell_other _ _ _ _ (by show i ≠ o; simpa using hne)).trans (h.block i hi hne)⟩
theorem grown_box {w w' : World} {r : Option Nat} (h : w.grownBy w' r) (b : Obj) : w.grownBy (w'.alloc b) r := grown_two h (World.grownBy_alloc w' b none) (by simp)

set_option maxHeartbeats 4000000 in
set_option maxRecDepth 100000 in
theorem saym_wide (m : Mo) (o : Nat) (w : World) (h : Lies w o (moC m) 42) :
    Calls Tryz.prog 70 #[.pointer (some ⟨o, 0, none⟩), .agg #[.string ⟨#[83, 77, 84, 80, 85, 84, 70, 56]⟩, .string ⟨#[]⟩, .bool false]] w fun e w' => e = .returned (.bool true) ∧ Lies w' o (moC { m with wide := true }) 42 ∧ w.grownBy w' (some o) := by
  have HL : Hid (Lies w o (moC m) 42) := h
  have c3 : w.cell? ⟨o, 3, none⟩ = some (.bool m.wide) := h.cell 3
  have z3 := h.frozen 3
  have hlt := h.lt
  clear h
  go_enter Tryz.func70, Tryz.ntmps70
  go_wp2_with fail
  go_ret
  exact ⟨rfl, (HL.out.set 3 _).alloc _, grown_box (grown_set (World.grownBy.refl _ _) _) _⟩

set_option maxHeartbeats 4000000 in
set_option maxRecDepth 100000 in
theorem ism_size (w : World) : Calls Tryz.prog 68 #[.string ⟨#[83, 73, 90, 69]⟩] w fun e w' => e = .returned (.bool true) ∧ w' = w := by
  go_enter Tryz.func68, Tryz.ntmps68
  go_wp2_with fail
  go_ret
  exact ⟨rfl, rfl⟩
set_option maxHeartbeats 4000000 in
set_option maxRecDepth 100000 in
theorem ism_wide (w : World) : Calls Tryz.prog 68 #[.string ⟨#[83, 77, 84, 80, 85, 84, 70, 56]⟩] w fun e w' => e = .returned (.bool true) ∧ w' = w := by
  go_enter Tryz.func68, Tryz.ntmps68
  go_wp2_with fail
  go_ret
  exact ⟨rfl, rfl⟩
set_option maxHeartbeats 8000000 in
set_option maxRecDepth 100000 in
theorem number7 (w : World) (ht : Table w) : Calls Tryz.prog 124 #[.string ⟨#[55]⟩, .int .u64 9223372036854775807] w fun e w' => e = .returned (.tuple #[.int .u64 7, .int .i64 0]) ∧ w' = w := by
  have hb := bad_anyT 2 ⟨#[55]⟩ w ht (by decide)
  have hbn : badN 2 (⟨#[55]⟩ : ByteArray).data.toList = 1 := by decide
  rw [hbn] at hb
  have HB : Hid (Calls Tryz.prog 12 #[.int .i64 2, .string ⟨#[55]⟩] w fun e w' => e = .returned (.int .i64 1) ∧ w' = w) := hb
  clear hb hbn ht
  go_enter Tryz.func124, Tryz.ntmps124
  go_wp2_with (go_at_call 12; refine HB.out.mono ?_; rintro e w3 ⟨rfl, rfl⟩)
  refine wp_loop_rounds 2 ?_
  rw [rounds_succ]
  go_wp2_with fail
  rw [rounds_succ]
  go_wp2_with fail
  go_ret2
  exact ⟨rfl, rfl⟩
set_option maxHeartbeats 4000000 in
set_option maxRecDepth 100000 in
theorem size7 (w : World) (ht : Table w) : Calls Tryz.prog 103 #[.string ⟨#[55]⟩] w fun e w' => e = .returned (.tuple #[.int .i64 7, .bool true]) ∧ w' = w := by
  have HB : Hid (Calls Tryz.prog 124 #[.string ⟨#[55]⟩, .int .u64 9223372036854775807] w fun e w' => e = .returned (.tuple #[.int .u64 7, .int .i64 0]) ∧ w' = w) := number7 w ht
  clear ht
  go_enter Tryz.func103, Tryz.ntmps103
  go_wp2_with (go_at_call 124; refine HB.out.mono ?_; rintro e w3 ⟨rfl, rfl⟩)
  go_ret2
  exact ⟨rfl, rfl⟩
set_option maxHeartbeats 4000000 in
set_option maxRecDepth 100000 in
theorem saym_size (m : Mo) (o : Nat) (w : World) (h : Lies w o (moC m) 42) (ht : ∀ wx, w.grownBy wx (some o) → Table wx) :
    Calls Tryz.prog 70 #[.pointer (some ⟨o, 0, none⟩), .agg #[.string ⟨#[83, 73, 90, 69]⟩, .string ⟨#[55]⟩, .bool true]] w fun e w' => e = .returned (.bool true) ∧ Lies w' o (moC { m with hasSize := true, size := 7 }) 42 ∧ w.grownBy w' (some o) := by
  have HL : Hid (Lies w o (moC m) 42) := h
  have HS : Hid (∀ wx, w.grownBy wx (some o) → Calls Tryz.prog 103 #[.string ⟨#[55]⟩] wx fun e w' => e = .returned (.tuple #[.int .i64 7, .bool true]) ∧ w' = wx) := fun wx hx => size7 wx (ht wx hx)
  have c0 : w.cell? ⟨o, 0, none⟩ = some (.bool m.hasSize) := h.cell 0
  have c1 : w.cell? ⟨o, 1, none⟩ = some (.int .i64 m.size) := h.cell 1
  have z0 := h.frozen 0
  have z1 := h.frozen 1
  have hlt := h.lt
  clear h ht
  go_enter Tryz.func70, Tryz.ntmps70
  go_wp2_with fail
  refine (HS.out _ (grown_box (grown_set (World.grownBy.refl _ _) _) _)).mono ?_
  rintro e w3 ⟨rfl, rfl⟩
  go_wp2_with fail
  go_ret
  exact ⟨rfl, ((HL.out.set 0 _).set 1 _).alloc _, grown_box (grown_set (grown_set (World.grownBy.refl _ _) _) _) _⟩
end Go.Proofs.YtjpmfgmoekpcpabGreatDoor
