/-
  bound; the answers that each statement asks first.
-/
import Derived.Test.YthjcjecimidedaaTn13
namespace Go.Proofs.Ythjcjecimidedaa
open Go.RowKit

theorem wr64 (n : Int) (h : -9223372036854775808 ≤ n ∧ n ≤ 9223372036854775807) : wrap64 n = n := by unfold wrap64; omega
theorem bnd_lt (n : Int) : -64 < n.tmod 64 ∧ n.tmod 64 < 64 := ⟨Int.lt_tmod_of_pos n (by decide), Int.tmod_lt_of_pos n (by decide)⟩
theorem bnd_pos (n : Int) (h1 : -9223372036854775808 ≤ n) (h2 : n ≤ 9223372036854775807) : 0 ≤ n.tmod 64 ∨ 0 ≤ (wrap64 (-n)).tmod 64 := by
  by_cases h : 0 ≤ n
  · exact .inl (Int.tmod_nonneg _ h)
  · by_cases h3 : n = -9223372036854775808
    · subst h3
      exact .inl (by decide)
    · rw [wr64 (-n) ⟨by omega, by omega⟩]
      exact .inr (Int.tmod_nonneg _ (by omega))
set_option maxHeartbeats 400000 in
theorem bound_any (n : Int) (h1 : -9223372036854775808 ≤ n) (h2 : n ≤ 9223372036854775807) (w : World) : Calls Try.prog 18 #[.int .i64 n] w fun e w' => (∃ m : Nat, e = .returned (.int .i64 (m : Int)) ∧ 1 ≤ m ∧ m ≤ 64) ∧ w' = w := by
  have h3 := bnd_pos n h1 h2
  have h4 := bnd_lt n
  have h5 := bnd_lt (wrap64 (-n))
  clear h1 h2
  generalize hp : n.tmod 64 = p at *
  generalize hq : (wrap64 (-n)).tmod 64 = q at *
  have HP : Hid (n.tmod 64 = p ∧ (wrap64 (-n)).tmod 64 = q) := ⟨hp, hq⟩
  clear hp hq
  go_enter Try.func18, Try.ntmps18
  go_wp2
  case inl =>
    go_ret
    rw [HP.out.2, HP.out.1] at h
    refine ⟨⟨(1 + q).toNat, ?_, by omega, by omega⟩, rfl⟩
    show Ending.returned (.int .i64 (wrap64 (1 + (wrap64 (-n)).tmod 64))) = _
    rw [HP.out.2, wr64 _ ⟨by omega, by omega⟩]
    exact ret_i64 (by omega)
  case inr =>
    go_ret
    rw [HP.out.2, HP.out.1] at h
    refine ⟨⟨(1 + p).toNat, ?_, by omega, by omega⟩, rfl⟩
    show Ending.returned (.int .i64 (wrap64 (1 + n.tmod 64))) = _
    rw [HP.out.1, wr64 _ ⟨by omega, by omega⟩]
    exact ret_i64 (by omega)
/-- A literal's row of bytes. -/
theorem lit_row (w : World) (l : List UInt8) (fr : Nat × Nat) : Bts (some ⟨w.heap.size, 0, none⟩) l (w.alloc (.cells (rowV l) 5 fr)) := by
  refine .inr ⟨w.heap.size, 0, rfl, by simp, fun j hj => ?_⟩
  rw [Nat.zero_add, cell_of_row _ w.heap.size j (rowV l) 5 fr (heap_alloc_last w _), rowV_at l j hj]
def wk1 : List UInt8 := [97, 98, 99, 13, 10, 97, 98, 99, 100, 13, 10]
def wk2 : List UInt8 := [97, 98, 99, 100, 13, 10]
theorem wk_one : tk 3 [] wk1 = (5, .line [97, 98, 99], []) := by rfl
theorem wk_two : tk 3 [] wk2 = (6, .bad 131, []) := by rfl
set_option maxHeartbeats 2000000 in
set_option maxRecDepth 20000 in
theorem wakes_any (w : World) : Calls Try.prog 17 #[] w fun e w' => e = .returned (.bool true) ∧ Below w.heap.size w w' := by
  have HN := znew_good 3 (by decide) (by decide) w
  go_enter Try.func17, Try.ntmps17
  go_wp2_with fail
  refine HN.mono ?_
  rintro e w1 ⟨rfl, hX1, hB1⟩
  have HX1 : Hid (Ln w1 (fun k => w.heap.size ≤ k ∧ k < w1.heap.size) w.heap.size 3 []) := LnC.mono hX1 (fun k h1 h2 => ⟨h1, h2⟩)
  have HB1 : Hid (Below w.heap.size w w1) := hB1
  clear hX1 hB1 HN
  obtain ⟨W2, hW2⟩ : ∃ W2, W2 = w1.alloc (.cells (rowV wk1) 5 (11, 12)) := ⟨_, rfl⟩
  have hc2 : (convert 30 30 (.slice (some ⟨w1.heap.size, 0, none⟩) 11 11)).run Try.prog (w1.alloc (.cells #[.int .u8 97, .int .u8 98, .int .u8 99, .int .u8 13, .int .u8 10, .int .u8 97, .int .u8 98, .int .u8 99, .int .u8 100, .int .u8 13, .int .u8 10] 5)) = .ok (.slice (some ⟨w1.heap.size, 0, none⟩) 11 11) W2 := by subst hW2; exact Lib.run_convert_bytes_const w1 30 5 _ 11 11 Try.underlying30 Try.underlying5
  have hB2 : Below w1.heap.size w1 W2 := by subst hW2; exact (Below.refl _ _).alloc (Nat.le_refl _) _
  have HB2 : Hid (Below w.heap.size w W2) := HB1.out.trans (hB2.mono HB1.out.size)
  have HT := ztake_any (fun k => w.heap.size ≤ k ∧ k < w1.heap.size) w.heap.size 3 [] (some ⟨w1.heap.size, 0, none⟩) wk1 11 11 rfl (by decide) W2 (LnC.below HX1.out hB2) (fun k hk => Nat.lt_of_lt_of_le hk.2 hB2.size) (by subst hW2; exact lit_row w1 wk1 _) (fun ad e h => by cases e; exact absurd h.2 (Nat.lt_irrefl _))
  rw [wk_one] at HT
  clear hW2 hB2 HB1 HX1
  unfold itV at HT
  go_wp2_with fail
  refine HT.mono ?_
  rintro e w3 ⟨rfl, hX3, hC3⟩
  have HX3 : Hid (Ln w3 (fun k => w.heap.size ≤ k ∧ k < w3.heap.size) w.heap.size 3 []) := LnC.mono hX3 (fun k h1 h2 => by
    rcases h1 with h1 | h1
    · exact ⟨h1.1, h2⟩
    · exact ⟨Nat.le_trans HB2.out.size h1, h2⟩)
  have HB3 : Hid (Below w.heap.size w w3) := HB2.out.trans (hC3.to_below HB2.out.size (fun k hk => hk.1))
  clear hX3 hC3 HT HB2 hc2
  obtain ⟨W4, hW4⟩ : ∃ W4, W4 = w3.alloc (.cells #[.int .i64 1, .string ⟨#[97, 98, 99]⟩, .slice none 0 0, .int .i64 0, .bool false] 35) := ⟨_, rfl⟩
  have hB4 : Below w3.heap.size w3 W4 := by subst hW4; exact (Below.refl _ _).alloc (Nat.le_refl _) _
  have HL4 : Hid (Lies W4 w3.heap.size #[.int .i64 1, .string ⟨#[97, 98, 99]⟩, .slice none 0 0, .int .i64 0, .bool false] 35) := by subst hW4; exact Lies.new w3 _ _
  have HX4 : Hid (Ln W4 (fun k => w.heap.size ≤ k ∧ k < w3.heap.size) w.heap.size 3 []) := LnC.below HX3.out hB4
  have HB4 : Hid (Below w.heap.size w W4) := HB3.out.trans (hB4.mono HB3.out.size)
  have HS4 : Hid (w3.heap.size < W4.heap.size) := HL4.out.lt
  have HWW : Hid (w3.alloc (.cells #[.int .i64 1, .string ⟨#[97, 98, 99]⟩, .slice none 0 0, .int .i64 0, .bool false] 35) = W4) := hW4.symm
  clear hW4 hB4 HX3 HB3
  obtain ⟨W5, hW5⟩ : ∃ W5, W5 = W4.alloc (.cells (rowV wk2) 5 (6, 7)) := ⟨_, rfl⟩
  have hc5 : (convert 30 30 (.slice (some ⟨W4.heap.size, 0, none⟩) 6 6)).run Try.prog (W4.alloc (.cells #[.int .u8 97, .int .u8 98, .int .u8 99, .int .u8 100, .int .u8 13, .int .u8 10] 5)) = .ok (.slice (some ⟨W4.heap.size, 0, none⟩) 6 6) W5 := by subst hW5; exact Lib.run_convert_bytes_const W4 30 5 _ 6 6 Try.underlying30 Try.underlying5
  have hB5 : Below W4.heap.size W4 W5 := by subst hW5; exact (Below.refl _ _).alloc (Nat.le_refl _) _
  have HB5 : Hid (Below w.heap.size w W5) := HB4.out.trans (hB5.mono HB4.out.size)
  have HL5 : Hid (Lies W5 w3.heap.size #[.int .i64 1, .string ⟨#[97, 98, 99]⟩, .slice none 0 0, .int .i64 0, .bool false] 35) := HL4.out.below hB5 HS4.out
  have HT := ztake_any (fun k => w.heap.size ≤ k ∧ k < w3.heap.size) w.heap.size 3 [] (some ⟨W4.heap.size, 0, none⟩) wk2 6 6 rfl (by decide) W5 (LnC.below HX4.out hB5) (fun k hk => Nat.lt_trans hk.2 (Nat.lt_of_lt_of_le HS4.out hB5.size)) (by subst hW5; exact lit_row W4 wk2 _) (fun ad e h => by cases e; exact absurd (Nat.lt_trans h.2 HS4.out) (Nat.lt_irrefl _))
  rw [wk_two] at HT
  clear hW5 hB5 HB4 HX4 HL4
  unfold itV at HT
  go_wp2_with (rw [HWW.out])
  refine HT.mono ?_
  rintro e w6 ⟨rfl, hX6, hC6⟩
  have HB6 : Hid (Below w.heap.size w w6) := HB5.out.trans (hC6.to_below HB5.out.size (fun k hk => hk.1))
  have hL6 : Lies w6 w3.heap.size #[.int .i64 1, .string ⟨#[97, 98, 99]⟩, .slice none 0 0, .int .i64 0, .bool false] 35 := hC6.lies HL5.out (fun h => absurd h.2 (Nat.lt_irrefl _))
  obtain ⟨⟨a0, a1, a2, a3, a4⟩, -⟩ := it_cells (hL6.alloc (.cells #[.int .i64 2, .string ⟨#[]⟩, .slice none 0 0, .int .i64 131, .bool false] 35))
  have n1 : w3.heap.size ≠ w6.heap.size := Nat.ne_of_lt hL6.lt
  have n2 : ¬ w3.heap.size = w6.heap.size := n1
  have n3 : w6.heap.size ≠ w3.heap.size := n1.symm
  clear hX6 hC6 HT HB5 hL6 hc5 HL5
  go_wp2_with fail
  go_ret
  exact ⟨rfl, HB6.out.alloc HB6.out.size _⟩
end Go.Proofs.Ythjcjecimidedaa
