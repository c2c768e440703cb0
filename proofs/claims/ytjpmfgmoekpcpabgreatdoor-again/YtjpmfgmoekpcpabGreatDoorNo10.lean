/-
  The program's notices.
-/
import Derived.Test.YtjpmfgmoekpcpabGreatDoorMw10
import Derived.Maps.OwnSet
import Derived.StringKeys
import Derived.Maps.RangeWalk
import Derived.WalkKit
namespace Go.Proofs.YtjpmfgmoekpcpabGreatDoor
open Go.RowKit Go.Maps Go.WideMaps

theorem ntK : Keyed Tryz.prog 9 := string_keyed Tryz.underlying9
def ntD0 : DataW Unit := .map []
def ntD1 : DataW Unit := ntD0.put (.string [78, 69, 86, 69, 82]) (.lit (.int .i64 1))
def ntD2 : DataW Unit := ntD1.put (.string [83, 85, 67, 67, 69, 83, 83]) (.lit (.int .i64 2))
def ntD3 : DataW Unit := ntD2.put (.string [70, 65, 73, 76, 85, 82, 69]) (.lit (.int .i64 4))
def ntD4 : DataW Unit := ntD3.put (.string [68, 69, 76, 65, 89]) (.lit (.int .i64 8))

set_option maxHeartbeats 8000000 in
set_option maxRecDepth 100000 in
theorem notices_any (w : World) : Calls Tryz.prog 95 #[] w fun e w' => e = .returned (.map (some w.heap.size)) ∧ w'.ownsMap Tryz.prog 9 (plainElem Tryz.prog 3) w.heap.size 4 ntD4 ∧ Below w.heap.size w w' := by
  have hmm := @run_makeMap Tryz.prog
  have HM0 : Hid ((w.alloc (.map #[] 0)).ownsMap Tryz.prog 9 (plainElem Tryz.prog 3) w.heap.size 0 ntD0) := World.ownsMap_made _ _ _ _
  have HB0 : Hid (Below w.heap.size w (w.alloc (.map #[] 0))) := (Below.refl _ _).alloc (Nat.le_refl _) _
  go_enter Tryz.func95, Tryz.ntmps95
  go_wp2_with fail
  obtain ⟨w1, hrun, HM1', g1⟩ := HM0.out.update (key := .string ⟨#[78, 69, 86, 69, 82]⟩) (val := .int .i64 1) ntK Tryz.underlying113 (by decide) (keyOf_string_mk Tryz.underlying9 (by decide)) (plainElem_int Tryz.underlying3 (by decide))
  rw [hrun, Result.andThen_ok, Oper.upon_skip]
  clear hrun
  have HM1 : Hid (w1.ownsMap Tryz.prog 9 (plainElem Tryz.prog 3) w.heap.size 1 ntD1) := HM1'
  have HB1 : Hid (Below w.heap.size w w1) := HB0.out.grown g1 HB0.out.size (fun k hk => by injection hk with hk; omega)
  clear HM1' g1 HM0 HB0
  go_wp2_with fail
  obtain ⟨w2, hrun, HM2', g2⟩ := HM1.out.update (key := .string ⟨#[83, 85, 67, 67, 69, 83, 83]⟩) (val := .int .i64 2) ntK Tryz.underlying113 (by decide) (keyOf_string_mk Tryz.underlying9 (by decide)) (plainElem_int Tryz.underlying3 (by decide))
  rw [hrun, Result.andThen_ok, Oper.upon_skip]
  clear hrun
  have HM2 : Hid (w2.ownsMap Tryz.prog 9 (plainElem Tryz.prog 3) w.heap.size 2 ntD2) := HM2'
  have HB2 : Hid (Below w.heap.size w w2) := HB1.out.grown g2 HB1.out.size (fun k hk => by injection hk with hk; omega)
  clear HM2' g2 HM1 HB1
  go_wp2_with fail
  obtain ⟨w3, hrun, HM3', g3⟩ := HM2.out.update (key := .string ⟨#[70, 65, 73, 76, 85, 82, 69]⟩) (val := .int .i64 4) ntK Tryz.underlying113 (by decide) (keyOf_string_mk Tryz.underlying9 (by decide)) (plainElem_int Tryz.underlying3 (by decide))
  rw [hrun, Result.andThen_ok, Oper.upon_skip]
  clear hrun
  have HM3 : Hid (w3.ownsMap Tryz.prog 9 (plainElem Tryz.prog 3) w.heap.size 3 ntD3) := HM3'
  have HB3 : Hid (Below w.heap.size w w3) := HB2.out.grown g3 HB2.out.size (fun k hk => by injection hk with hk; omega)
  clear HM3' g3 HM2 HB2
  go_wp2_with fail
  obtain ⟨w4, hrun, HM4', g4⟩ := HM3.out.update (key := .string ⟨#[68, 69, 76, 65, 89]⟩) (val := .int .i64 8) ntK Tryz.underlying113 (by decide) (keyOf_string_mk Tryz.underlying9 (by decide)) (plainElem_int Tryz.underlying3 (by decide))
  rw [hrun, Result.andThen_ok, Oper.upon_skip]
  clear hrun
  have HM4 : Hid (w4.ownsMap Tryz.prog 9 (plainElem Tryz.prog 3) w.heap.size 4 ntD4) := HM4'
  have HB4 : Hid (Below w.heap.size w w4) := HB3.out.grown g4 HB3.out.size (fun k hk => by injection hk with hk; omega)
  clear HM4' g4 HM3 HB3
  go_wp2_with fail
  go_ret
  exact ⟨rfl, HM4.out, HB4.out⟩
end Go.Proofs.YtjpmfgmoekpcpabGreatDoor
/-
  The program's notifyOf where wakes asks it.
-/
namespace Go.Proofs.YtjpmfgmoekpcpabGreatDoor
open Go.RowKit Go.Maps Go.WideMaps

set_option maxHeartbeats 4000000 in
set_option maxRecDepth 100000 in
theorem mayn_8 (w : World) : Calls Tryz.prog 52 #[.int .i64 8] w fun e w' => e = .returned (.bool true) ∧ w' = w := by
  go_enter Tryz.func52, Tryz.ntmps52
  go_wp2_with fail
  go_ret
  exact ⟨rfl, rfl⟩
theorem split_delay (w : World) (hml : ∃ m, w.cell? ⟨1, 0, none⟩ = some (.int .i64 m)) :
    Calls Tryz.prog 125 #[.string ⟨#[68, 69, 76, 65, 89]⟩, .string ⟨#[44]⟩] w fun e w' => e = .returned (.slice (some ⟨w.heap.size, 0, none⟩) 1 1) ∧ w' = w.alloc (.cells #[.string ⟨#[68, 69, 76, 65, 89]⟩] 9) := by
  obtain ⟨m, hm⟩ := hml
  have := Tryz.strings_Split ⟨#[68, 69, 76, 65, 89]⟩ ⟨#[44]⟩ m w (by decide) hm (by decide)
  have hc : Lib.countB ⟨#[68, 69, 76, 65, 89]⟩ ⟨#[44]⟩ = 0 := by decide
  rw [hc] at this
  have hs : Lib.splitB ⟨#[44]⟩ 0 0 ⟨#[68, 69, 76, 65, 89]⟩ = [⟨#[68, 69, 76, 65, 89]⟩] := by decide
  rw [hs] at this
  exact this
theorem upper_delay (w : World) : Calls Tryz.prog 26 #[.string ⟨#[68, 69, 76, 65, 89]⟩] w fun e w' => e = .returned (.string ⟨#[68, 69, 76, 65, 89]⟩) ∧ Below w.heap.size w w' := upper_any ⟨#[68, 69, 76, 65, 89]⟩ w (by decide)
def dlL : Lit := .string [68, 69, 76, 65, 89]
theorem dl_has : Maps.has ntD4 dlL = true := by decide
theorem dl_at (z : DataW Unit) : ntD4.atKey dlL z = .lit (.int .i64 8) := by rfl
theorem dl_not : Maps.has (ntD0) dlL = false := by decide
def dlD : DataW Unit := ntD0.put dlL (.lit (.int .i64 8))
theorem dl_size : Maps.size dlD = 1 := by rfl
theorem zero3 (w : World) : (zeroValue 3).run Tryz.prog w = .ok (.int .i64 0) w := by kernel_rfl
end Go.Proofs.YtjpmfgmoekpcpabGreatDoor
