/-
  The contracts of octet.Span and octet.Bad of bytes.
-/
import Derived.Test.YtdgepnfgjgbkoabDoorLate
import Derived.Test.YtdgepnfgjgbkoabDoorPureUp
import Derived.Test.YtdgepnfgjgbkoabDoorHexOf4
namespace Go.Proofs.YtdgepnfgjgbkoabDoor
open Go.RowKit

theorem ret_i64B {a b : Int} (h : a = b) : Ending.returned (.int .i64 a) = .returned (.int .i64 b) := by rw [h]

set_option maxRecDepth 100000 in
set_option maxHeartbeats 400000 in
theorem span_negB (c f : Int) (s : ByteArray) (g o cap : Nat) (w : World) (hf : f < 0) :
    Calls Tryd.prog 73 #[.int .i64 c, .slice (some ⟨g, o, none⟩) s.size cap, .int .i64 f] w fun e w' => e = .returned (.int .i64 f) ∧ w' = w := by
  go_enter Tryd.func73, Tryd.ntmps73
  go_wp2
  go_ret
  exact ⟨rfl, rfl⟩

set_option maxRecDepth 100000 in
set_option maxHeartbeats 400000 in
theorem span_behindB (c f : Int) (s : ByteArray) (g o cap : Nat) (w : World) (hs : s.size ≤ maxLen) (hf : (s.size : Int) ≤ f) :
    Calls Tryd.prog 73 #[.int .i64 c, .slice (some ⟨g, o, none⟩) s.size cap, .int .i64 f] w fun e w' => e = .returned (.int .i64 f) ∧ w' = w := by
  unfold maxLen at hs
  have hn : ¬ f < 0 := by omega
  have hl : ¬ f < (s.size : Int) := by omega
  go_enter Tryd.func73, Tryd.ntmps73
  go_wp2
  refine wp_loop_rounds 1 ?_
  rw [rounds_succ]
  go_wp2
  go_ret
  exact ⟨rfl, rfl⟩

set_option maxRecDepth 100000 in
set_option maxHeartbeats 400000 in
theorem span_inB (c : Int) (f : Nat) (s : ByteArray) (g o cap : Nat) (w : World) (ht : Table w) (hr : RowAt s g o w) (hs : s.size ≤ maxLen) (hf : f ≤ s.size) :
    Calls Tryd.prog 73 #[.int .i64 c, .slice (some ⟨g, o, none⟩) s.size cap, .int .i64 f] w fun e w' => e = .returned (.int .i64 (f + badN c (s.data.toList.drop f))) ∧ w' = w := by
  unfold maxLen at hs
  have HT : Hid (Table w) := ht
  have HR : Hid (RowAt s g o w) := hr
  clear ht hr
  go_enter Tryd.func73, Tryd.ntmps73
  go_wp2
  go_loop [7] (fun i => ∃ m : Nat, m ≤ s.size ∧ i = .int .i64 m ∧ Hid (f + badN c (s.data.toList.drop f) = m + badN c (s.data.toList.drop m))) (fun i => s.size - (intOf i).toNat)
  case atStart => exact ⟨f, hf, rfl, rfl⟩
  case round =>
    obtain ⟨m, hm, rfl, HM⟩ := hrel
    by_cases hlt : m < s.size
    · have hcell := HR.out m hlt
      by_cases hb : isB c (s[m].toNat : Int) = true
      · have HN : Hid (f + badN c (s.data.toList.drop f) = (m + 1) + badN c (s.data.toList.drop (m + 1))) := by
          have := badN_yes c s.data.toList m (by simpa using hlt) hb
          show _ = _
          rw [HM.out, this]; omega
        go_wp2_with (go_at_call 60; refine (is_any _ _ _ HT.out).mono ?_; rintro e w' ⟨rfl, rfl⟩)
        go_round
        case rel => exact ⟨m + 1, by omega, by go_num, HN⟩
        case measure => simp [intOf]; omega
      · have hb' : isB c (s[m].toNat : Int) = false := by simpa using hb
        have HN : Hid (f + badN c (s.data.toList.drop f) = m) := by
          have := badN_no c s.data.toList m (by simpa using hlt) hb'
          show _ = _
          rw [HM.out, this]; omega
        clear hb
        go_wp2_with (go_at_call 60; refine (is_any _ _ _ HT.out).mono ?_; rintro e w' ⟨rfl, rfl⟩)
        go_ret
        exact ⟨ret_i64B (by have := HN.out; omega), rfl⟩
    · have HN : Hid (f + badN c (s.data.toList.drop f) = m) := by
        have := badN_end c s.data.toList m (by simp; omega)
        show _ = _
        rw [HM.out, this]; omega
      go_wp2
      go_ret
      exact ⟨ret_i64B (by have := HN.out; omega), rfl⟩

theorem span_anyB (c f : Int) (s : ByteArray) (g o cap : Nat) (w : World) (ht : Table w) (hr : RowAt s g o w) (hs : s.size ≤ maxLen) :
    Calls Tryd.prog 73 #[.int .i64 c, .slice (some ⟨g, o, none⟩) s.size cap, .int .i64 f] w fun e w' => e = .returned (.int .i64 (spanI c s.data.toList f)) ∧ w' = w := by
  by_cases h0 : f < 0
  · rw [spanI_neg _ _ _ h0]
    exact span_negB c f s g o cap w h0
  · by_cases h1 : (s.size : Int) ≤ f
    · rw [spanI_behind _ _ _ (by simpa using h1)]
      exact span_behindB c f s g o cap w hs h1
    · obtain ⟨n, rfl⟩ := Int.eq_ofNat_of_zero_le (show 0 ≤ f by omega)
      rw [spanI_nat]
      exact span_inB c n s g o cap w ht hr hs (by omega)

set_option maxRecDepth 100000 in
theorem bad_anyB (c : Int) (s : ByteArray) (g o cap : Nat) (w : World) (ht : Table w) (hr : RowAt s g o w) (hs : s.size ≤ maxLen) :
    Calls Tryd.prog 56 #[.int .i64 c, .slice (some ⟨g, o, none⟩) s.size cap] w fun e w' => e = .returned (.int .i64 (badN c s.data.toList)) ∧ w' = w := by
  have hz := spanI_zero c s.data.toList
  go_enter Tryd.func56, Tryd.ntmps56
  go_wp2_with fail
  refine (span_anyB c 0 s g o cap _ ht hr hs).mono ?_
  rintro e w' ⟨rfl, rfl⟩
  go_wp2
  go_ret
  exact ⟨rfl, rfl⟩
end Go.Proofs.YtdgepnfgjgbkoabDoor
