/-
  wakes.
-/
import Derived.Test.YtdgepnfgjgbkoaaDoorEnP
import Derived.Test.YtdgepnfgjgbkoaaDoorWf17
import Derived.Test.YtdgepnfgjgbkoaaDoorWd17
import Derived.Test.YtdgepnfgjgbkoaaDoorWn17
import Derived.Test.YtdgepnfgjgbkoaaDoorOwn7
namespace Go.Proofs.YtdgepnfgjgbkoaaDoor
open Go.RowKit

theorem bS_lit (l : List UInt8) : (⟨l.toArray⟩ : ByteArray).data.toList = l := by simp
theorem enc_at (l t : List UInt8) (sh : Bool) (n : Nat) (hl : l.length ≤ 1048576) (h : encW l sh = t ∧ encE l = n) (w : World) (tb : Tb w) :
    Calls Tryd.prog 11 #[.string ⟨l.toArray⟩, .bool sh] w fun e w' => e = .returned (.tuple #[.string ⟨t.toArray⟩, .int .i64 (n : Int)]) ∧ Below w.heap.size w w' := by
  have := wenc_any ⟨l.toArray⟩ sh (by show l.toArray.size ≤ _; simpa using hl) w tb
  rw [bS_lit, h.1, h.2] at this
  exact this
theorem dec_at (l t : List UInt8) (e a : Nat) (hl : l.length ≤ 1048576) (h : decW l = (t, e, a)) (w : World) (tb : Tb w) :
    Calls Tryd.prog 10 #[.string ⟨l.toArray⟩] w fun er w' => er = .returned (.tuple #[.string ⟨t.toArray⟩, .agg #[.int .i64 (e : Int), .int .i64 (a : Int)]]) ∧ Below w.heap.size w w' := by
  have := wdec_any ⟨l.toArray⟩ (by show l.toArray.size ≤ _; simp; omega) w tb
  rw [bS_lit, h] at this
  exact this
theorem needs_at (l : List UInt8) (b : Bool) (hl : l.length ≤ 1048576) (h : needW l = b) (w : World) (tb : Tb w) :
    Calls Tryd.prog 12 #[.string ⟨l.toArray⟩] w fun e w' => e = .returned (.bool b) ∧ Below w.heap.size w w' := by
  have := wneeds_any ⟨l.toArray⟩ (by show l.toArray.size ≤ _; simp; omega) w tb
  rw [bS_lit, h] at this
  exact this
set_option maxRecDepth 100000 in
set_option maxHeartbeats 2000000 in
theorem wakes_any (w : World) (tb : Tb w) : Calls Tryd.prog 9 #[] w fun e w' => e = .returned (.bool true) ∧ Below w.heap.size w w' := by
  have HTB : Hid (∀ wx, Below w.heap.size w wx → Tb wx) := fun wx h => tb.below h
  have h1 := enc_at _ _ _ _ (by decide) kn_e1 w tb
  clear tb
  go_enter Tryd.func9, Tryd.ntmps9
  go_wp2_with fail
  refine h1.mono ?_
  rintro e w1 ⟨rfl, hb1⟩
  have h2 := enc_at _ _ _ _ (by decide) kn_e2 w1 (HTB.out w1 hb1)
  have HB1 : Hid (Below w.heap.size w w1) := hb1
  clear h1 hb1
  go_wp2_with fail
  refine h2.mono ?_
  rintro e w2 ⟨rfl, hb2⟩
  have HB2 : Hid (Below w.heap.size w w2) := HB1.out.trans (hb2.mono HB1.out.size)
  have h3 := dec_at _ _ _ _ (by decide) kn_d1 w2 (HTB.out w2 HB2.out)
  clear h2 hb2 HB1
  go_wp2_with fail
  refine h3.mono ?_
  rintro e w3 ⟨rfl, hb3⟩
  have HB3 : Hid (Below w.heap.size w w3) := HB2.out.trans (hb3.mono HB2.out.size)
  have HB4 : Hid (Below w.heap.size w (w3.alloc (.cells #[.int .i64 0, .int .i64 0] 25))) := HB3.out.alloc HB3.out.size _
  have h4 := needs_at _ _ (by decide) kn_n1 (w3.alloc (.cells #[.int .i64 0, .int .i64 0] 25)) (HTB.out _ HB4.out)
  clear h3 hb3 HB2
  go_wp2_with fail
  refine h4.mono ?_
  rintro e w5 ⟨rfl, hb5⟩
  have HB5 : Hid (Below w.heap.size w w5) := HB4.out.trans (hb5.mono HB4.out.size)
  have h5 := needs_at _ _ (by decide) kn_n2 w5 (HTB.out _ HB5.out)
  clear h4 hb5 HB4
  go_wp2_with fail
  refine h5.mono ?_
  rintro e w6 ⟨rfl, hb6⟩
  have HB6 : Hid (Below w.heap.size w w6) := HB5.out.trans (hb6.mono HB5.out.size)
  go_wp2
  go_ret
  exact ⟨rfl, HB6.out⟩
end Go.Proofs.YtdgepnfgjgbkoaaDoor
/-
  The table of the document's examples.
-/
namespace Go.Proofs.YtdgepnfgjgbkoaaDoor
open Go.RowKit
def kt : List (List UInt8 × List UInt8 × Nat × Nat) := [([61, 63, 105, 115, 111, 45, 56, 56, 53, 57, 45, 49, 63, 81, 63, 99, 97, 102, 61, 101, 57, 95, 97, 117, 63, 61], [99, 97, 102, 195, 169, 32, 97, 117], 0, 0), ([61, 63, 117, 115, 45, 97, 115, 99, 105, 105, 42, 101, 110, 63, 113, 63, 120, 61, 51, 68, 63, 61], [120, 61], 0, 0), ([], [], 0, 0), ([61, 63, 120, 63, 81, 63, 97, 63, 61], [], 171, 2), ([61, 63, 85, 84, 70, 45, 56, 63, 66, 63, 89, 81, 63, 61], [], 170, 12), ([61, 63, 85, 84, 70, 45, 56, 63, 81, 63, 97, 61, 52, 63, 61], [], 170, 11), ([61, 63, 85, 84, 70, 45, 56, 63, 81, 63, 61, 70, 70, 63, 61], [], 170, 10), ([61, 63, 117, 115, 45, 97, 115, 99, 105, 105, 63, 113, 63, 61, 56, 48, 63, 61], [], 170, 13), ([61, 63, 85, 84, 70, 45, 56, 63, 88, 63, 97, 63, 61], [61, 63, 85, 84, 70, 45, 56, 63, 88, 63, 97, 63, 61], 0, 0), ([120, 61, 63, 85, 84, 70, 45, 56, 63, 81, 63, 97, 63, 61], [120, 61, 63, 85, 84, 70, 45, 56, 63, 81, 63, 97, 63, 61], 0, 0), ([61, 63, 85, 84, 70, 45, 56, 63, 81, 63, 97, 32, 98, 63, 61], [61, 63, 85, 84, 70, 45, 56, 63, 81, 63, 97, 32, 98, 63, 61], 0, 0), ([61, 63, 63, 81, 63, 97, 63, 61], [61, 63, 63, 81, 63, 97, 63, 61], 0, 0), ([61, 63, 85, 84, 70, 45, 56, 63, 81, 63, 63, 61], [], 0, 0), ([255, 32, 0], [255, 32, 0], 0, 0)]
def celK (x : List UInt8 × List UInt8 × Nat × Nat) : List Value := [.string ⟨x.1.toArray⟩, .string ⟨x.2.1.toArray⟩, .int .i64 (x.2.2.1 : Int), .int .i64 (x.2.2.2 : Int)]
theorem celK_length (x : List UInt8 × List UInt8 × Nat × Nat) : (celK x).length = 4 := rfl
theorem kt_dec (j : Nat) (hj : j < kt.length) : decW kt[j].1 = kt[j].2 ∧ kt[j].1.length ≤ 1048576 := by
  refine ⟨?_, ?_⟩
  · rcases (by simp [kt] at hj; omega : j = 0 ∨ j = 1 ∨ j = 2 ∨ j = 3 ∨ j = 4 ∨ j = 5 ∨ j = 6 ∨ j = 7 ∨ j = 8 ∨ j = 9 ∨ j = 10 ∨ j = 11 ∨ j = 12 ∨ j = 13) with rfl | rfl | rfl | rfl | rfl | rfl | rfl | rfl | rfl | rfl | rfl | rfl | rfl | rfl
    · exact kd_0
    · exact kd_1
    · exact kd_2
    · exact kd_3
    · exact kd_4
    · exact kd_5
    · exact kd_6
    · exact kd_7
    · exact kd_8
    · exact kd_9
    · exact kd_10
    · exact kd_11
    · exact kd_12
    · exact kd_13
  · have : ∀ x ∈ kt, x.1.length ≤ 1048576 := by decide
    exact this _ (List.getElem_mem hj)
theorem kt_cells {w : World} {g n c : Nat} (h : Ow celK 26 4 w (.slice (some ⟨g, 0, none⟩) n c) kt) (j : Nat) (hj : j < kt.length) : w.cell? ⟨g, j * 4, none⟩ = some (.string ⟨kt[j].1.toArray⟩) ∧ w.cell? ⟨g, j * 4 + 1, none⟩ = some (.string ⟨kt[j].2.1.toArray⟩) ∧ w.cell? ⟨g, j * 4 + 2, none⟩ = some (.int .i64 (kt[j].2.2.1 : Int)) ∧ w.cell? ⟨g, j * 4 + 3, none⟩ = some (.int .i64 (kt[j].2.2.2 : Int)) := by
  have hl : (kt.flatMap celK).length = kt.length * 4 := flat_length celK_length kt
  refine ⟨?_, ?_, ?_, ?_⟩
  · rw [h.cells (j * 4) (by omega)]; exact flat_at celK_length kt j 0 hj (by decide)
  · rw [h.cells (j * 4 + 1) (by omega)]; exact flat_at celK_length kt j 1 hj (by decide)
  · rw [h.cells (j * 4 + 2) (by omega)]; exact flat_at celK_length kt j 2 hj (by decide)
  · rw [h.cells (j * 4 + 3) (by omega)]; exact flat_at celK_length kt j 3 hj (by decide)
end Go.Proofs.YtdgepnfgjgbkoaaDoor
