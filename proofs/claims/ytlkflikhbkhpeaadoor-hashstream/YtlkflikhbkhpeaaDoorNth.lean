/-
  A hash that is none tells nothing.
-/
import Derived.Test.YtlkflikhbkhpeaaDoorKeep
namespace Go.Proofs.YtlkflikhbkhpeaaDoor
open Go.RowKit

theorem zeroD_row : zeroD = rowV (List.replicate 16 0) := by kernel_rfl
theorem NoHash.below {v : Value} {w w' : World} (h : NoHash v w) (hb : Below w.heap.size w w') : NoHash v w' := by
  rcases h with h | ⟨g, r, row, n, e, hl⟩
  · exact .inl h
  · exact .inr ⟨g, r, row, n, e, hl.below hb hl.lt⟩

set_option maxRecDepth 100000 in
theorem sum_no (v : Value) (w : World) (h : NoHash v w) : Calls Tryd.prog 21 #[v] w fun e w' => e = .returned (.agg zeroD) ∧ Below w.heap.size w w' := by
  have HB1 : Hid (Below w.heap.size w (w.alloc (.cells zeroD 23))) := (Below.refl _ _).alloc (Nat.le_refl _) _
  have HN : Hid (NoHash v (w.alloc (.cells zeroD 23))) := h.below HB1.out
  clear h
  go_enter Tryd.func21, Tryd.ntmps21
  go_wp2_with fail
  rw [zeroD_spelt]
  refine (there_no v _ HN.out).mono ?_
  rintro e w1 ⟨rfl, hw⟩
  rw [hw]
  clear hw w1
  have HZ : Hid (Lies (w.alloc (.cells zeroD 23)) w.heap.size zeroD 23) := Lies.new w _ _
  generalize w.alloc (.cells zeroD 23) = w1 at HZ HB1 ⊢
  go_wp2_with (first | (refine wpList_buildTo rfl 23 _ rfl _ rfl zeroD (by kernel_rfl) ?_) | (refine wpList_store_row rfl 23 _ _ rfl w.heap.size rfl zeroD zeroD rfl 23 HZ.out (by kernel_rfl) rfl (by kernel_rfl) rfl ?_))
  refine bodyPost_ret (v := .agg zeroD) ?_ rfl ⟨rfl, below_row HB1.out (Nat.le_refl _) _⟩
  exact results_cell_row rfl _ _ _ 23 _ (0, 0) _ rfl (HZ.out.row _) Tryd.underlying23 rfl (by kernel_rfl)

set_option maxHeartbeats 2000000 in
set_option maxRecDepth 100000 in
theorem nothing_any (v : Value) (cs : Array Value) (kd : Int) (a : Option Addr) (l : List UInt8) (n c : Nat) (w : World) (h0 : cs[0]? = some (.int .i64 kd)) (h3 : cs[3]? = some (.slice a n c)) (hn : n = l.length) (h : NoHash v w) (hb : Bts a l w) (hl : l.length ≤ 1073741824) :
    Calls Tryd.prog 19 #[v, .agg cs] w fun e w' => e = .returned (.bool true) ∧ Below w.heap.size w w' := by
  have HB1 : Hid (Below w.heap.size w (w.alloc (.cells cs 46))) := (Below.refl _ _).alloc (Nat.le_refl _) _
  have HN : Hid (NoHash v (w.alloc (.cells cs 46))) := h.below HB1.out
  have hcop := copied_any a l c _ (hb.below HB1.out) (by omega)
  rw [← hn] at hcop
  have HCOP : Hid _ := hcop
  clear h hb hl hcop hn
  go_enter Tryd.func19, Tryd.ntmps19
  by_cases k0 : kd = 0
  · rw [k0] at h0
    clear k0
    go_wp2_with fail
    refine Calls.mono HCOP.out ?_
    rintro e w2 ⟨u, rfl, hown, hb2⟩
    have HN2 : Hid (NoHash v w2) := HN.out.below hb2
    have HB2 : Hid (Below w.heap.size w w2) := HB1.out.trans (hb2.mono HB1.out.size)
    clear hown hb2
    go_wp2_with fail
    refine (write_no v u w2 HN2.out).mono ?_
    rintro e w3 ⟨rfl, hw⟩
    rw [hw]
    clear hw
    go_wp2
    go_ret
    exact ⟨rfl, HB2.out⟩
  by_cases k1 : kd = 1
  · rw [k1] at h0
    clear k0 k1
    go_wp2_with fail
    refine (sum_no v _ HN.out).mono ?_
    rintro e w2 ⟨rfl, hb2⟩
    have HB2 : Hid (Below w.heap.size w w2) := HB1.out.trans (hb2.mono HB1.out.size)
    clear hb2
    have heq := eql_row (List.replicate 16 0) (by decide)
    rw [← zeroD_row] at heq
    go_wp2_with (refine wpList_buildTo rfl 23 _ rfl _ rfl zeroD (by kernel_rfl) ?_)
    go_ret
    exact ⟨rfl, HB2.out⟩
  by_cases k2 : kd = 2
  · rw [k2] at h0
    clear k0 k1 k2
    go_wp2_with fail
    refine (len_no v _ HN.out).mono ?_
    rintro e w2 ⟨rfl, hw⟩
    rw [hw]
    clear hw
    go_wp2
    go_ret
    exact ⟨rfl, HB1.out⟩
  by_cases k3 : kd = 3
  · rw [k3] at h0
    clear k0 k1 k2 k3
    go_wp2_with fail
    refine (copy_no v _ HN.out).mono ?_
    rintro e w2 ⟨rfl, hw⟩
    rw [hw]
    clear hw
    go_wp2
    go_ret
    exact ⟨rfl, HB1.out⟩
  · go_wp2
    go_ret
    exact ⟨rfl, HB1.out⟩
end Go.Proofs.YtlkflikhbkhpeaaDoor
