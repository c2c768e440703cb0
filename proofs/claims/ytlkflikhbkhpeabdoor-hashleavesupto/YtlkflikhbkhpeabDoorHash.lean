/-
  A hash: New, Write, Sum, Len, Copy, and one that is not there.
-/
import Derived.Test.YtlkflikhbkhpeabDoorTake
namespace Go.Proofs.YtlkflikhbkhpeabDoor
open Go.RowKit

theorem infoH (m : Bool) (r : Rg) (row : List UInt8) (n : Nat) (h : row.length = 64) : (Tryd.prog.info? 46).map (·.size) = some (hv m r row n).size := by rw [hv_size _ _ _ _ h]; kernel_rfl

theorem rg0_spelt : (#[.int .u32 1732584193, .int .u32 4023233417, .int .u32 2562383102, .int .u32 271733878] : Array Value) = rgv rg0 := by kernel_rfl
theorem first_any (w : World) : Calls Tryd.prog 21 #[] w fun e w' => e = .returned (.agg (rgv rg0)) ∧ Below w.heap.size w w' := by
  go_enter Tryd.func21, Tryd.ntmps21
  go_wp2_with fail
  rw [rg0_spelt]
  refine bodyPost_ret (v := .agg (rgv rg0)) ?_ rfl ⟨rfl, ?_⟩
  · exact results_cell_row rfl _ _ _ 43 _ (0, 0) _ rfl (Lies.new w _ 43) Tryd.underlying43 rfl (infoRg _)
  · exact (Below.refl _ _).alloc (Nat.le_refl _) _

def zero64 : List UInt8 := List.replicate 64 0
theorem zero64_length : zero64.length = 64 := rfl
def zeroH : Array Value := hv false ⟨0#32, 0#32, 0#32, 0#32⟩ zero64 0
theorem zeroH_size : zeroH.size = 70 := hv_size _ _ _ _ zero64_length
theorem zero_hash (w : World) : (zeroValue 46).run Tryd.prog w = .ok (.agg zeroH) w := (zero_of_info (P := Tryd.prog) (t := 46) (v := .agg zeroH) (n := 70) (by kernel_rfl)).1 w

set_option maxRecDepth 100000 in
theorem new_any (w : World) : Calls Tryd.prog 11 #[] w fun e w' => ∃ g, e = .returned (.pointer (some ⟨g, 0, none⟩)) ∧ w.heap.size ≤ g ∧ HashAt w' g [] ∧ Below w.heap.size w w' := by
  go_enter Tryd.func11, Tryd.ntmps11
  go_wp2_with fail
  refine (first_any w).mono ?_
  rintro e w1 ⟨rfl, hb1⟩
  have HB1 : Hid (Below w.heap.size w w1) := hb1
  clear hb1
  go_wp2_with (refine wpList_buildTo rfl 46 _ rfl _ rfl (hv true rg0 zero64 0) (by kernel_rfl) ?_)
  go_ret
  exact ⟨w1.heap.size, rfl, HB1.out.size, ⟨zero64, rfl, rfl, Lies.new w1 _ _⟩, HB1.out.alloc HB1.out.size _⟩

theorem there_any (g : Nat) (m : Bool) (r : Rg) (row : List UInt8) (n : Nat) (w : World) (h : Lies w g (hv m r row n) 46) :
    Calls Tryd.prog 22 #[.pointer (some ⟨g, 0, none⟩)] w fun e w' => e = .returned (.bool m) ∧ w' = w := by
  have h0 : w.cell? ⟨g, 0, none⟩ = some (.bool m) := (h.cell 0).trans (hv_made _ _ _ _)
  clear h
  go_enter Tryd.func22, Tryd.ntmps22
  go_wp2
  go_ret
  exact ⟨rfl, rfl⟩
theorem there_nil (w : World) : Calls Tryd.prog 22 #[.pointer none] w fun e w' => e = .returned (.bool false) ∧ w' = w := by
  go_enter Tryd.func22, Tryd.ntmps22
  go_wp2
  go_ret
  exact ⟨rfl, rfl⟩
theorem there_hash {w : World} {g : Nat} {t : List UInt8} (h : HashAt w g t) : Calls Tryd.prog 22 #[.pointer (some ⟨g, 0, none⟩)] w fun e w' => e = .returned (.bool true) ∧ w' = w := by
  obtain ⟨row, _, _, hl⟩ := h.ex
  exact there_any g true _ row _ w hl
/-- A pointer to what is no hash: to nothing, or to one that New did not make. -/
def NoHash (v : Value) (w : World) : Prop := v = .pointer none ∨ ∃ g r row n, v = .pointer (some ⟨g, 0, none⟩) ∧ Lies w g (hv false r row n) 46
theorem there_no (v : Value) (w : World) (h : NoHash v w) : Calls Tryd.prog 22 #[v] w fun e w' => e = .returned (.bool false) ∧ w' = w := by
  rcases h with rfl | ⟨g, r, row, n, rfl, h⟩
  · exact there_nil w
  · exact there_any g false r row n w h

theorem write_any (g : Nat) (t l : List UInt8) (a : Option Addr) (cap : Nat) (w : World) (hh : HashAt w g t) (hb : Bts a l w) (hne : ∀ ad, a = some ad → ad.block ≠ g) (hcap : l.length ≤ cap) (hg : 2 ≤ g) (ht : Tabs w)
    (hl : t.length + l.length ≤ 1152921504606846976) :
    Calls Tryd.prog 12 #[.pointer (some ⟨g, 0, none⟩), .slice a l.length cap] w fun e w' => e = .returned (.int .i64 0) ∧ HashAt w' g (t ++ l) ∧ But g w w' := by
  have H1 : Hid (HashAt w g t) := hh
  have H2 : Hid (Bts a l w) := hb
  have H3 : Hid (∀ ad, a = some ad → ad.block ≠ g) := hne
  have H4 : Hid (Tabs w) := ht
  clear hh hb hne ht
  go_enter Tryd.func12, Tryd.ntmps12
  go_wp2_with fail
  refine (there_hash H1.out).mono ?_
  rintro e w1 ⟨rfl, hw⟩
  rw [hw]
  clear hw
  go_wp2_with fail
  refine (take_any g t l a cap w H1.out H2.out H3.out hcap hg H4.out hl).mono ?_
  rintro e w2 ⟨rfl, h2, hb2⟩
  have H5 : Hid (HashAt w2 g (t ++ l)) := h2
  have H6 : Hid (But g w w2) := hb2
  clear h2 hb2
  go_wp2
  go_ret
  exact ⟨rfl, H5.out, H6.out⟩

theorem write_no (v b : Value) (w : World) (h : NoHash v w) : Calls Tryd.prog 12 #[v, b] w fun e w' => e = .returned (.int .i64 1) ∧ w' = w := by
  have HH : Hid (NoHash v w) := h
  clear h
  go_enter Tryd.func12, Tryd.ntmps12
  go_wp2_with fail
  refine (there_no v w HH.out).mono ?_
  rintro e w1 ⟨rfl, hw⟩
  rw [hw]
  clear hw
  go_wp2
  go_ret
  exact ⟨rfl, rfl⟩
end Go.Proofs.YtlkflikhbkhpeabDoor
