/-
  The statements' own limits.
-/
import Derived.Test.YthnjbnhmdjpfpaaFv15
namespace Go.Proofs.Ythnjbnhmdjpfpaa
open Go.RowKit

/-- A number from 1 to 2^24. -/
def liN (n : Int) : Nat := (if n.tmod 16777216 < 0 then -(n.tmod 16777216) else n.tmod 16777216).toNat + 1
theorem liN_ok (n : Int) : okL (liN n) ∧ 1 ≤ liN n ∧ liN n ≤ 16777216 := by
  have h1 := Int.lt_tmod_of_pos n (show (0 : Int) < 16777216 by decide)
  have h2 := Int.tmod_lt_of_pos n (show (0 : Int) < 16777216 by decide)
  unfold okL liN
  generalize n.tmod 16777216 = m at *
  split <;> omega
theorem wrapL (x : Int) (h0 : -9223372036854775808 ≤ x) (h1 : x ≤ 9223372036854775807) : IntKind.i64.wrap x = x := by rw [IntKind.wrap_i64]; omega
set_option maxRecDepth 100000 in
theorem lwithin_any (n : Int) (w : World) : Calls Try.prog 45 #[.int .i64 n] w fun e w' => e = .returned (.int .i64 (liN n : Int)) ∧ w' = w := by
  have h1 := Int.lt_tmod_of_pos n (show (0 : Int) < 16777216 by decide)
  have h2 := Int.tmod_lt_of_pos n (show (0 : Int) < 16777216 by decide)
  have HL : Hid (∀ m, m = n.tmod 16777216 → liN n = (if m < 0 then -m else m).toNat + 1) := fun m hm => by subst hm; rfl
  generalize hm : n.tmod 16777216 = m at *
  have hw : IntKind.i64.wrap m = m := wrapL _ (by omega) (by omega)
  by_cases h0 : m < 0
  · have HX : Hid ((liN n : Int) = -m + 1) := by
      show _ = _
      rw [HL.out m rfl, if_pos h0]
      omega
    have hw1 : IntKind.i64.wrap (-m) = -m := wrapL _ (by omega) (by omega)
    have hw2 : IntKind.i64.wrap (-m + 1) = -m + 1 := wrapL _ (by omega) (by omega)
    go_enter Try.func45, Try.ntmps45
    go_wp2
    go_ret
    exact ⟨by rw [HX.out]; rfl, rfl⟩
  · have HX : Hid ((liN n : Int) = m + 1) := by
      show _ = _
      rw [HL.out m rfl, if_neg h0]
      omega
    have hw2 : IntKind.i64.wrap (m + 1) = m + 1 := wrapL _ (by omega) (by omega)
    go_enter Try.func45, Try.ntmps45
    go_wp2
    go_ret
    exact ⟨by rw [HX.out]; rfl, rfl⟩
theorem liN_zero : liN 0 = 1 := by decide
set_option maxRecDepth 100000 in
set_option maxHeartbeats 4000000 in
theorem llimits_any (m t a r e h : Int) (w : World) : Calls Try.prog 24 #[.agg #[.int .i64 m, .int .i64 t, .int .i64 a, .int .i64 r, .int .i64 e, .int .i64 h]] w fun z w' => z = .returned (.agg #[.int .i64 (liN m : Int), .int .i64 (liN t : Int), .int .i64 (liN a : Int), .int .i64 1, .int .i64 1, .int .i64 1]) ∧ Below w.heap.size w w' := by
  obtain ⟨W, hW⟩ : ∃ W, W = (w.alloc (.cells #[.int .i64 m, .int .i64 t, .int .i64 a, .int .i64 r, .int .i64 e, .int .i64 h] 23)).alloc (.cells #[.int .i64 0, .int .i64 0, .int .i64 0, .int .i64 0, .int .i64 0, .int .i64 0] 23) := ⟨_, rfl⟩
  have HWB : Hid (Below w.heap.size w W) := by subst hW; exact ((Below.refl _ w).alloc (Nat.le_refl _) _).alloc (by simp) _
  have HLX : Hid (Lies W w.heap.size #[.int .i64 m, .int .i64 t, .int .i64 a, .int .i64 r, .int .i64 e, .int .i64 h] 23) := by subst hW; exact (Lies.new w _ _).alloc _
  have HLV : Hid (Lies W (w.heap.size + 1) #[.int .i64 0, .int .i64 0, .int .i64 0, .int .i64 0, .int .i64 0, .int .i64 0] 23) := by
    subst hW
    have := Lies.new (w.alloc (.cells #[.int .i64 m, .int .i64 t, .int .i64 a, .int .i64 r, .int .i64 e, .int .i64 h] 23)) #[.int .i64 0, .int .i64 0, .int .i64 0, .int .i64 0, .int .i64 0, .int .i64 0] 23
    rwa [World.size_alloc] at this
  have HWW : Hid ((w.alloc (.cells #[.int .i64 m, .int .i64 t, .int .i64 a, .int .i64 r, .int .i64 e, .int .i64 h] 23)).alloc (.cells #[.int .i64 0, .int .i64 0, .int .i64 0, .int .i64 0, .int .i64 0, .int .i64 0] 23) = W) := hW.symm
  have HWI : Hid (∀ (n : Int) wx, Calls Try.prog 45 #[.int .i64 n] wx fun z w' => z = .returned (.int .i64 (liN n : Int)) ∧ w' = wx) := fun n wx => lwithin_any n wx
  have c0 : W.cell? ⟨w.heap.size, 0, none⟩ = some (.int .i64 m) := by rw [HLX.out.cell]; rfl
  have c1 : W.cell? ⟨w.heap.size, 1, none⟩ = some (.int .i64 t) := by rw [HLX.out.cell]; rfl
  have c2 : W.cell? ⟨w.heap.size, 2, none⟩ = some (.int .i64 a) := by rw [HLX.out.cell]; rfl
  have d0 : W.cell? ⟨w.heap.size + 1, 0, none⟩ = some (.int .i64 0) := by rw [HLV.out.cell]; rfl
  have f0 := HLV.out.frozen 0
  have d1 : W.cell? ⟨w.heap.size + 1, 1, none⟩ = some (.int .i64 0) := by rw [HLV.out.cell]; rfl
  have f1 := HLV.out.frozen 1
  have d2 : W.cell? ⟨w.heap.size + 1, 2, none⟩ = some (.int .i64 0) := by rw [HLV.out.cell]; rfl
  have f2 := HLV.out.frozen 2
  have d3 : W.cell? ⟨w.heap.size + 1, 3, none⟩ = some (.int .i64 0) := by rw [HLV.out.cell]; rfl
  have f3 := HLV.out.frozen 3
  have d4 : W.cell? ⟨w.heap.size + 1, 4, none⟩ = some (.int .i64 0) := by rw [HLV.out.cell]; rfl
  have f4 := HLV.out.frozen 4
  have d5 : W.cell? ⟨w.heap.size + 1, 5, none⟩ = some (.int .i64 0) := by rw [HLV.out.cell]; rfl
  have f5 := HLV.out.frozen 5
  clear hW
  go_enter Try.func24, Try.ntmps24
  go_wp2_with (rw [HWW.out])
  refine wp_region_late (fun wx => wx.cell? ⟨w.heap.size, 0, none⟩ = some (.int .i64 m) ∧ wx.cell? ⟨w.heap.size, 1, none⟩ = some (.int .i64 t) ∧ wx.cell? ⟨w.heap.size, 2, none⟩ = some (.int .i64 a)) 11 (by kernel_rfl) ⟨c0, c1, c2⟩ (fun hHeld => ?_)
  refine wpAnyE_tk (i := 0) (d := some 3) (v := ?_) rfl (by kernel_rfl) (by kernel_rfl) (by kernel_rfl) rfl (fun _ _ _ h => h) rfl rfl ?hy (by first | assumption | go_simp) ?_
  case hy => (intro w' hSw; (try dsimp only at hSw); go_simp <;> (first | with_reducible rfl | omega | skip))
  simp only [Act.put, List.setIfInBounds_toArray, List.set_cons_zero, List.set_cons_succ]
  refine wpAnyE_tk (i := 1) (d := some 4) (v := .int .i64 m) rfl (by kernel_rfl) (by kernel_rfl) (by kernel_rfl) rfl (fun _ _ _ h => h) rfl rfl ?hy (by first | assumption | go_simp) ?_
  case hy => (intro w' hSw; (try dsimp only at hSw); go_simp <;> (first | with_reducible rfl | omega | skip))
  simp only [Act.put, List.setIfInBounds_toArray, List.set_cons_zero, List.set_cons_succ]
  refine wpAnyE_tk (i := 3) (d := some 6) (v := ?_) rfl (by kernel_rfl) (by kernel_rfl) (by kernel_rfl) rfl (fun _ _ _ h => h) rfl rfl ?hy (by first | assumption | go_simp) ?_
  case hy => (intro w' hSw; (try dsimp only at hSw); go_simp <;> (first | with_reducible rfl | omega | skip))
  simp only [Act.put, List.setIfInBounds_toArray, List.set_cons_zero, List.set_cons_succ]
  refine wpAnyE_tk (i := 4) (d := some 7) (v := .int .i64 t) rfl (by kernel_rfl) (by kernel_rfl) (by kernel_rfl) rfl (fun _ _ _ h => h) rfl rfl ?hy (by first | assumption | go_simp) ?_
  case hy => (intro w' hSw; (try dsimp only at hSw); go_simp <;> (first | with_reducible rfl | omega | skip))
  simp only [Act.put, List.setIfInBounds_toArray, List.set_cons_zero, List.set_cons_succ]
  refine wpAnyE_tk (i := 6) (d := some 9) (v := ?_) rfl (by kernel_rfl) (by kernel_rfl) (by kernel_rfl) rfl (fun _ _ _ h => h) rfl rfl ?hy (by first | assumption | go_simp) ?_
  case hy => (intro w' hSw; (try dsimp only at hSw); go_simp <;> (first | with_reducible rfl | omega | skip))
  simp only [Act.put, List.setIfInBounds_toArray, List.set_cons_zero, List.set_cons_succ]
  refine wpAnyE_tk (i := 7) (d := some 10) (v := .int .i64 a) rfl (by kernel_rfl) (by kernel_rfl) (by kernel_rfl) rfl (fun _ _ _ h => h) rfl rfl ?hy (by first | assumption | go_simp) ?_
  case hy => (intro w' hSw; (try dsimp only at hSw); go_simp <;> (first | with_reducible rfl | omega | skip))
  simp only [Act.put, List.setIfInBounds_toArray, List.set_cons_zero, List.set_cons_succ]
  refine wpAnyE_on (i := 2) (by kernel_rfl) rfl rfl ?_
  go_simp
  refine Calls.mono (HWI.out m _) ?_
  rintro z w5 ⟨rfl, rfl⟩
  refine ⟨hHeld, ?_⟩
  refine wpAnyE_on (i := 5) (by kernel_rfl) rfl rfl ?_
  go_simp
  refine Calls.mono (HWI.out t _) ?_
  rintro z w6 ⟨rfl, rfl⟩
  refine ⟨hHeld, ?_⟩
  refine wpAnyE_on (i := 8) (by kernel_rfl) rfl rfl ?_
  go_simp
  refine Calls.mono (HWI.out a _) ?_
  rintro z w7 ⟨rfl, rfl⟩
  refine ⟨hHeld, ?_⟩
  refine wpAnyE_tk (i := 9) (d := some 12) (v := .agg #[.int .i64 (liN m : Int), .int .i64 (liN t : Int), .int .i64 (liN a : Int), .int .i64 1, .int .i64 1, .int .i64 1]) rfl (by kernel_rfl) (by kernel_rfl) (by kernel_rfl) rfl (fun _ _ _ h => h) rfl rfl ?hy (by first | assumption | go_simp) ?_
  case hy => (intro w' hSw; (try dsimp only at hSw); go_simp <;> (first | with_reducible rfl | omega | skip))
  simp only [Act.put, List.setIfInBounds_toArray, List.set_cons_zero, List.set_cons_succ]
  refine wpAnyE_on (i := 10) (by kernel_rfl) rfl rfl ?_
  go_simp
  refine wpAnyE_done (by kernel_rfl) ?_ _
  go_wp2_with fail
  have HZ : Hid (Lies ((((((W.setCell ⟨w.heap.size + 1, 0, none⟩ (.int .i64 (liN m : Int))).setCell ⟨w.heap.size + 1, 1, none⟩ (.int .i64 (liN t : Int))).setCell ⟨w.heap.size + 1, 2, none⟩ (.int .i64 (liN a : Int))).setCell ⟨w.heap.size + 1, 3, none⟩ (.int .i64 1)).setCell ⟨w.heap.size + 1, 4, none⟩ (.int .i64 1)).setCell ⟨w.heap.size + 1, 5, none⟩ (.int .i64 1)) (w.heap.size + 1) #[.int .i64 (liN m : Int), .int .i64 (liN t : Int), .int .i64 (liN a : Int), .int .i64 1, .int .i64 1, .int .i64 1] 23) := (((((HLV.out.set 0 _).set 1 _).set 2 _).set 3 _).set 4 _).set 5 _
  have HB5 : Hid (Below w.heap.size w ((((((W.setCell ⟨w.heap.size + 1, 0, none⟩ (.int .i64 (liN m : Int))).setCell ⟨w.heap.size + 1, 1, none⟩ (.int .i64 (liN t : Int))).setCell ⟨w.heap.size + 1, 2, none⟩ (.int .i64 (liN a : Int))).setCell ⟨w.heap.size + 1, 3, none⟩ (.int .i64 1)).setCell ⟨w.heap.size + 1, 4, none⟩ (.int .i64 1)).setCell ⟨w.heap.size + 1, 5, none⟩ (.int .i64 1))) := (((((HWB.out.setCell (p := ⟨w.heap.size + 1, 0, none⟩) (by simp) _).setCell (p := ⟨w.heap.size + 1, 1, none⟩) (by simp) _).setCell (p := ⟨w.heap.size + 1, 2, none⟩) (by simp) _).setCell (p := ⟨w.heap.size + 1, 3, none⟩) (by simp) _).setCell (p := ⟨w.heap.size + 1, 4, none⟩) (by simp) _).setCell (p := ⟨w.heap.size + 1, 5, none⟩) (by simp) _
  generalize ((((((W.setCell ⟨w.heap.size + 1, 0, none⟩ (.int .i64 (liN m : Int))).setCell ⟨w.heap.size + 1, 1, none⟩ (.int .i64 (liN t : Int))).setCell ⟨w.heap.size + 1, 2, none⟩ (.int .i64 (liN a : Int))).setCell ⟨w.heap.size + 1, 3, none⟩ (.int .i64 1)).setCell ⟨w.heap.size + 1, 4, none⟩ (.int .i64 1)).setCell ⟨w.heap.size + 1, 5, none⟩ (.int .i64 1)) = W9 at *
  have z0 : W9.cell? ⟨w.heap.size + 1, 0, none⟩ = some (.int .i64 (liN m : Int)) := by rw [HZ.out.cell]; rfl
  have z1 : W9.cell? ⟨w.heap.size + 1, 1, none⟩ = some (.int .i64 (liN t : Int)) := by rw [HZ.out.cell]; rfl
  have z2 : W9.cell? ⟨w.heap.size + 1, 2, none⟩ = some (.int .i64 (liN a : Int)) := by rw [HZ.out.cell]; rfl
  have z3 : W9.cell? ⟨w.heap.size + 1, 3, none⟩ = some (.int .i64 1) := by rw [HZ.out.cell]; rfl
  have z4 : W9.cell? ⟨w.heap.size + 1, 4, none⟩ = some (.int .i64 1) := by rw [HZ.out.cell]; rfl
  have z5 : W9.cell? ⟨w.heap.size + 1, 5, none⟩ = some (.int .i64 1) := by rw [HZ.out.cell]; rfl
  (try simp only [Exit.inBlock, Exit.then])
  refine bodyPost_ret (v := .agg #[.int .i64 (liN m : Int), .int .i64 (liN t : Int), .int .i64 (liN a : Int), .int .i64 1, .int .i64 1, .int .i64 1]) (by simp [results, Try.results24, go_sem, z0, z1, z2, z3, z4, z5]) rfl ⟨rfl, HB5.out.drew⟩
end Go.Proofs.Ythnjbnhmdjpfpaa
