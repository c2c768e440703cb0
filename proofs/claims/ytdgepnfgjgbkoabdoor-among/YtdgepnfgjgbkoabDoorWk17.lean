/-
  wakes.
-/
import Derived.Test.YtdgepnfgjgbkoabDoorRowl
import Derived.Test.YtdgepnfgjgbkoabDoorWf17
import Derived.Test.YtdgepnfgjgbkoabDoorWd17
import Derived.Test.YtdgepnfgjgbkoabDoorWn17
namespace Go.Proofs.YtdgepnfgjgbkoabDoor
open Go.RowKit

theorem bS_lit (l : List UInt8) : (⟨l.toArray⟩ : ByteArray).data.toList = l := by simp
theorem enc_at (l t : List UInt8) (sh : Bool) (n : Nat) (hl : l.length ≤ 1048576) (h : encW l sh = t ∧ encE l = n) (w : World) (tb : Tb w) :
    Calls Tryd.prog 7 #[.string ⟨l.toArray⟩, .bool sh] w fun e w' => e = .returned (.tuple #[.string ⟨t.toArray⟩, .int .i64 (n : Int)]) ∧ Below w.heap.size w w' := by
  have := wenc_any ⟨l.toArray⟩ sh (by show l.toArray.size ≤ _; simpa using hl) w tb
  rw [bS_lit, h.1, h.2] at this
  exact this
theorem dec_at (l t : List UInt8) (e a : Nat) (hl : l.length ≤ 1048576) (h : decW l = (t, e, a)) (w : World) (tb : Tb w) :
    Calls Tryd.prog 9 #[.string ⟨l.toArray⟩] w fun er w' => er = .returned (.tuple #[.string ⟨t.toArray⟩, .agg #[.int .i64 (e : Int), .int .i64 (a : Int)]]) ∧ Below w.heap.size w w' := by
  have := wdec_any ⟨l.toArray⟩ (by show l.toArray.size ≤ _; simp; omega) w tb
  rw [bS_lit, h] at this
  exact this
theorem needs_at (l : List UInt8) (b : Bool) (hl : l.length ≤ 1048576) (h : needW l = b) (w : World) (tb : Tb w) :
    Calls Tryd.prog 13 #[.string ⟨l.toArray⟩] w fun e w' => e = .returned (.bool b) ∧ Below w.heap.size w w' := by
  have := wneeds_any ⟨l.toArray⟩ (by show l.toArray.size ≤ _; simp; omega) w tb
  rw [bS_lit, h] at this
  exact this
set_option maxRecDepth 100000 in
set_option maxHeartbeats 2000000 in
theorem wakes_any (w : World) (tb : Tb w) : Calls Tryd.prog 6 #[] w fun e w' => e = .returned (.bool true) ∧ Below w.heap.size w w' := by
  have HTB : Hid (∀ wx, Below w.heap.size w wx → Tb wx) := fun wx h => tb.below h
  have h1 := enc_at _ _ _ _ (by decide) kn_e1 w tb
  clear tb
  go_enter Tryd.func6, Tryd.ntmps6
  go_wp2_with fail
  refine h1.mono ?_
  rintro e w1 ⟨rfl, hb1⟩
  have h2 := enc_at _ _ _ _ (by decide) kn_e2 w1 (HTB.out w1 hb1)
  have HB1 : Hid (Below w.heap.size w w1) := hb1
  clear h1 hb1
  go_wp2_with fail
  refine h2.mono ?_
  rintro e w2 ⟨rfl, hb2⟩
  have HB2 : Hid (Below w.heap.size w w2) := HB1.out.trans (hb2.mono HB1.out.size)
  have h3 := dec_at _ _ _ _ (by decide) kn_d1 w2 (HTB.out w2 HB2.out)
  clear h2 hb2 HB1
  go_wp2_with fail
  refine h3.mono ?_
  rintro e w3 ⟨rfl, hb3⟩
  have HB3 : Hid (Below w.heap.size w w3) := HB2.out.trans (hb3.mono HB2.out.size)
  have HB4 : Hid (Below w.heap.size w (w3.alloc (.cells #[.int .i64 0, .int .i64 0] 29))) := HB3.out.alloc HB3.out.size _
  have h4 := needs_at _ _ (by decide) kn_n1 (w3.alloc (.cells #[.int .i64 0, .int .i64 0] 29)) (HTB.out _ HB4.out)
  clear h3 hb3 HB2
  go_wp2_with fail
  refine h4.mono ?_
  rintro e w5 ⟨rfl, hb5⟩
  have HB5 : Hid (Below w.heap.size w w5) := HB4.out.trans (hb5.mono HB4.out.size)
  have h5 := needs_at _ _ (by decide) kn_n2 w5 (HTB.out _ HB5.out)
  clear h4 hb5 HB4
  go_wp2_with fail
  refine h5.mono ?_
  rintro e w6 ⟨rfl, hb6⟩
  have HB6 : Hid (Below w.heap.size w w6) := HB5.out.trans (hb6.mono HB5.out.size)
  go_wp2
  go_ret
  exact ⟨rfl, HB6.out⟩
end Go.Proofs.YtdgepnfgjgbkoabDoor
