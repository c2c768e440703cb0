/-
  The contract of the document's Span.
-/
import Derived.Test.YtjpmfgmoekpcpaaDoorRb10
namespace Go.Proofs.YtjpmfgmoekpcpaaDoor
open Go.RowKit

theorem drop_text (s : ByteArray) (f : Nat) : (s.extract f s.size).data.toList = s.data.toList.drop f := by
  rw [ByteArray.data_extract, Array.toList_extract, List.extract_eq_take_drop]
  exact List.take_of_length_le (by rw [List.length_drop, Array.length_toList]; exact Nat.le_refl _)
theorem drop_size (s : ByteArray) (f : Nat) : (s.extract f s.size).size ≤ s.size := by
  rw [ByteArray.size_extract]
  omega

set_option maxRecDepth 100000 in
set_option maxHeartbeats 400000 in
theorem rspan_out (c f : Int) (s : ByteArray) (w : World) (hs : s.size ≤ maxLen) (hf : f < 0 ∨ (s.size : Int) ≤ f) :
    Calls Tryd.prog 50 #[.int .i64 c, .string s, .int .i64 f] w fun e w' => e = .returned (.int .i64 f) ∧ w' = w := by
  unfold maxLen at hs
  rcases hf with hf | hf
  · go_enter Tryd.func50, Tryd.ntmps50
    go_wp2
    go_ret
    exact ⟨rfl, rfl⟩
  · have hn : ¬ f < 0 := by omega
    go_enter Tryd.func50, Tryd.ntmps50
    go_wp2
    go_ret
    exact ⟨rfl, rfl⟩

set_option maxRecDepth 100000 in
set_option maxHeartbeats 400000 in
theorem rspan_in (c : Int) (f : Nat) (s : ByteArray) (w : World) (hs : s.size ≤ maxLen) (hf : f < s.size) :
    Calls Tryd.prog 50 #[.int .i64 c, .string s, .int .i64 f] w fun e w' => e = .returned (.int .i64 (f + badN c (s.data.toList.drop f))) ∧ w' = w := by
  have h1 := drop_size s f
  have h3 := badN_le c (s.data.toList.drop f)
  have h4 : (s.data.toList.drop f).length = s.size - f := by rw [List.length_drop, Array.length_toList]; rfl
  rw [h4] at h3
  unfold maxLen at hs
  go_enter Tryd.func50, Tryd.ntmps50
  go_wp2_with fail
  refine (rbad_any c (s.extract f s.size) _ (by unfold maxLen; omega)).mono ?_
  rintro e w' ⟨rfl, rfl⟩
  rw [drop_text]
  go_wp2
  go_ret
  exact ⟨rfl, rfl⟩

theorem rspan_any (c f : Int) (s : ByteArray) (w : World) (hs : s.size ≤ maxLen) :
    Calls Tryd.prog 50 #[.int .i64 c, .string s, .int .i64 f] w fun e w' => e = .returned (.int .i64 (spanI c s.data.toList f)) ∧ w' = w := by
  by_cases h0 : f < 0
  · rw [spanI_neg _ _ _ h0]
    exact rspan_out c f s w hs (.inl h0)
  · by_cases h1 : (s.size : Int) ≤ f
    · rw [spanI_behind _ _ _ (by simpa using h1)]
      exact rspan_out c f s w hs (.inr h1)
    · obtain ⟨n, rfl⟩ := Int.eq_ofNat_of_zero_le (show 0 ≤ f by omega)
      rw [spanI_nat]
      exact rspan_in c n s w hs (by omega)
end Go.Proofs.YtjpmfgmoekpcpaaDoor
