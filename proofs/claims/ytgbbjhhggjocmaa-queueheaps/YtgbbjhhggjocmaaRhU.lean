/-
  A thing pushed into the document's heap.
-/
import Derived.Test.YtgbbjhhggjocmaaRhM
namespace Go.Proofs.Ytgbbjhhggjocmaa
open Go.RowKit

set_option maxRecDepth 20000 in
set_option maxHeartbeats 2000000 in
theorem rhpush_full (b : Nat) (L : List (Int × Int)) (v : Value) (x : Int × Int) (w0 : World) (h0 : Gh w0 b L v) (hfull : L.length = 1048576) :
    Calls Try.prog 26 #[.pointer (some ⟨b, 0, none⟩), vTh x] w0 fun e w' => e = .returned (.int .i64 4) ∧ Below w0.heap.size w0 w' := by
  have hb0 : Below w0.heap.size w0 (w0.alloc (.cells #[.int .i64 x.1, .int .i64 x.2] 31)) := (Below.refl _ w0).alloc (Nat.le_refl _) _
  have hG := h0.below hb0
  have c1 : (w0.alloc (.cells #[.int .i64 x.1, .int .i64 x.2] 31)).cell? ⟨b, 0, none⟩ = some v := hG.lies.cell 0
  obtain ⟨a, c, rfl, _⟩ := hG.own.shape
  rw [hfull] at c1
  have HB : Hid (Below w0.heap.size w0 (w0.alloc (.cells #[.int .i64 x.1, .int .i64 x.2] 31))) := hb0
  clear hG h0 hfull hb0
  unfold vTh
  go_enter Try.func26, Try.ntmps26
  go_wp2
  go_ret
  exact ⟨rfl, HB.out⟩
set_option maxRecDepth 20000 in
set_option maxHeartbeats 4000000 in
theorem rhpush_ok (b : Nat) (L : List (Int × Int)) (v : Value) (x : Int × Int) (w0 : World) (h0 : Gh w0 b L v) (hroom : L.length < 1048576) :
    Calls Try.prog 26 #[.pointer (some ⟨b, 0, none⟩), vTh x] w0 fun e w' => e = .returned (.int .i64 0) ∧ ∃ v', Gh w' b (L ++ [x]) v' ∧ Chg (Fh b v) w0 w' ∧ (∀ k, v'.ownBlock = some k → v.ownBlock = some k ∨ w0.heap.size ≤ k) := by
  have hb0 : Below w0.heap.size w0 (w0.alloc (.cells #[.int .i64 x.1, .int .i64 x.2] 31)) := (Below.refl _ w0).alloc (Nat.le_refl _) _
  have hLX : Lies (w0.alloc (.cells #[.int .i64 x.1, .int .i64 x.2] 31)) w0.heap.size #[.int .i64 x.1, .int .i64 x.2] 31 := Lies.new w0 _ _
  obtain ⟨w, hw⟩ : ∃ w, w = w0.alloc (.cells #[.int .i64 x.1, .int .i64 x.2] 31) := ⟨_, rfl⟩
  rw [← hw] at hb0 hLX
  have h := h0.below hb0
  have c1 : w.cell? ⟨b, 0, none⟩ = some v := h.lies.cell 0
  have x0 : w.cell? ⟨w0.heap.size, 0, none⟩ = some (.int .i64 x.1) := hLX.cell 0
  have x1 : w.cell? ⟨w0.heap.size, 1, none⟩ = some (.int .i64 x.2) := hLX.cell 1
  obtain ⟨a, c, rfl, _⟩ := h.own.shape
  have hnf : ¬ (1048576 : Int) ≤ (L.length : Int) := by omega
  have HW : Hid (w0.alloc (.cells #[.int .i64 x.1, .int .i64 x.2] 31) = w) := hw.symm
  have HB : Hid (Below w0.heap.size w0 w) := hb0
  have H0 : Hid (∀ k, Fh b (.slice a L.length c) k → k < w0.heap.size) := h0.lt
  have HH : Hid (Gh w b L (.slice a L.length c)) := h
  have c1a : (w0.alloc (.cells #[.int .i64 x.1, .int .i64 x.2] 31)).cell? ⟨b, 0, none⟩ = some (.slice a L.length c) := by rw [← hw]; exact c1
  clear h h0 hw hb0
  have hb1 : b ≠ w0.heap.size := by have := H0.out b (.inl rfl); omega
  have hb2 : w0.heap.size ≠ b := Ne.symm hb1
  have hwA : Below w.heap.size w (w.alloc (.cells #[.int .i64 x.1, .int .i64 x.2] 31)) := (Below.refl _ _).alloc (Nat.le_refl _) _
  have HOA : Hid (Ow celG 31 2 (w.alloc (.cells #[.int .i64 x.1, .int .i64 x.2] 31)).drew (.slice a L.length c) L) := HH.out.own.below hwA.drew
  have HLA : Hid (Lies (w.alloc (.cells #[.int .i64 x.1, .int .i64 x.2] 31)).drew b #[.slice a L.length c] 86) := HH.out.lies.below hwA.drew HH.out.lies.lt
  have HXA : Hid (Lies (w.alloc (.cells #[.int .i64 x.1, .int .i64 x.2] 31)).drew w0.heap.size #[.int .i64 x.1, .int .i64 x.2] 31) := hLX.below hwA.drew hLX.lt
  have HSA : Hid ((w.alloc (.cells #[.int .i64 x.1, .int .i64 x.2] 31)).cell? ⟨b, 0, none⟩ = some (.slice a L.length c) ∧ (w.alloc (.cells #[.int .i64 x.1, .int .i64 x.2] 31)).cell? ⟨w0.heap.size, 0, none⟩ = some (.int .i64 x.1) ∧ (w.alloc (.cells #[.int .i64 x.1, .int .i64 x.2] 31)).cell? ⟨w0.heap.size, 1, none⟩ = some (.int .i64 x.2)) := ⟨HLA.out.cell 0, HXA.out.cell 0, HXA.out.cell 1⟩
  clear hwA hLX
  obtain ⟨n, hn⟩ : ∃ n, n = L.length := ⟨_, rfl⟩
  rw [← hn] at c1 c1a hnf hroom H0 HH HOA HLA HSA ⊢
  have HN : Hid (n = L.length) := hn
  clear hn
  unfold vTh
  go_enter Try.func26, Try.ntmps26
  go_wp2_with fail
  rw [HW.out]
  refine wp_region_late (fun wx => wx.cell? ⟨b, 0, none⟩ = some (.slice a n c) ∧ wx.cell? ⟨w0.heap.size, 0, none⟩ = some (.int .i64 x.1) ∧ wx.cell? ⟨w0.heap.size, 1, none⟩ = some (.int .i64 x.2)) 10 (by kernel_rfl) ⟨c1, x0, x1⟩ (fun hHeld => ?_)
  refine wpAnyE_take (i := 0) (d := some 13) (v := ?_) rfl (by kernel_rfl) (by kernel_rfl) (by kernel_rfl) (by kernel_rfl) (fun _ _ _ h => h) rfl rfl ?hy (by first | assumption | go_simp) ?_
  case hy => (intro w' hSw; (try dsimp only at hSw); go_simp <;> (first | with_reducible rfl | omega | skip))
  simp only [Act.put, List.setIfInBounds_toArray, List.set_cons_zero, List.set_cons_succ]
  refine wpAnyE_take (i := 1) (d := some 14) (v := ?_) rfl (by kernel_rfl) (by kernel_rfl) (by kernel_rfl) (by kernel_rfl) (fun _ _ _ h => h) rfl rfl ?hy (by first | assumption | go_simp) ?_
  case hy => (intro w' hSw; (try dsimp only at hSw); go_simp <;> (first | with_reducible rfl | omega | skip))
  simp only [Act.put, List.setIfInBounds_toArray, List.set_cons_zero, List.set_cons_succ]
  refine wpAnyE_take (i := 2) (d := some 15) (v := ?_) rfl (by kernel_rfl) (by kernel_rfl) (by kernel_rfl) (by kernel_rfl) (fun _ _ _ h => h) rfl rfl ?hy (by first | assumption | go_simp) ?_
  case hy => (intro w' hSw; (try dsimp only at hSw); go_simp <;> (first | with_reducible rfl | omega | skip))
  simp only [Act.put, List.setIfInBounds_toArray, List.set_cons_zero, List.set_cons_succ]
  refine wpAnyE_take (i := 3) (d := some 16) (v := ?_) rfl (by kernel_rfl) (by kernel_rfl) (by kernel_rfl) (by kernel_rfl) (fun _ _ _ h => h) rfl rfl ?hy (by first | assumption | go_simp) ?_
  case hy => (intro w' hSw; (try dsimp only at hSw); go_simp <;> (first | with_reducible rfl | omega | skip))
  simp only [Act.put, List.setIfInBounds_toArray, List.set_cons_zero, List.set_cons_succ]
  refine wpAnyE_take (i := 4) (d := some 17) (v := ?_) rfl (by kernel_rfl) (by kernel_rfl) (by kernel_rfl) (by kernel_rfl) (fun _ _ _ h => h) rfl rfl ?hy (by first | assumption | go_simp) ?_
  case hy => (intro w' hSw; (try dsimp only at hSw); go_simp <;> (first | with_reducible rfl | omega | skip))
  simp only [Act.put, List.setIfInBounds_toArray, List.set_cons_zero, List.set_cons_succ]
  refine wpAnyE_take (i := 5) (d := some 18) (v := .agg #[.int .i64 x.1, .int .i64 x.2]) rfl (by kernel_rfl) (by kernel_rfl) (by kernel_rfl) (by kernel_rfl) (fun _ _ _ h => h) rfl rfl ?hy (by first | assumption | go_simp) ?_
  case hy => (intro w' hSw; (try dsimp only at hSw); go_simp <;> (first | with_reducible rfl | omega | skip))
  simp only [Act.put, List.setIfInBounds_toArray, List.set_cons_zero, List.set_cons_succ]
  refine wpAnyE_one (i := 6) (by kernel_rfl) rfl rfl ?_
  go_simp
  have SA := HSA.out
  refine ⟨SA, ?_⟩
  refine wpAnyE_one (i := 7) (by kernel_rfl) rfl rfl ?_
  refine wp_append_ow celG_length (by decide) oneG _ _ 57 rfl Try.underlying57 _ 16 infoG7 rfl (.slice a n c) L rfl HOA.out w.heap.size 1 x rfl (fun j u hu => new_cells (celG x) j u hu) (by rw [← HN.out]; omega) (by rw [← HN.out]; omega) ?_
  intro g' cap' w3 ho3 hc3 hg3
  rw [← HN.out] at ho3
  rw [← HN.out]
  clear hHeld SA
  have hL3 : Lies w3 b #[.slice a n c] 86 := hc3.lies HLA.out (fun hk => HH.out.ne b hk rfl)
  have hX3 : Lies w3 w0.heap.size #[.int .i64 x.1, .int .i64 x.2] 31 := hc3.lies HXA.out (fun hk => by have := H0.out _ (.inr hk); omega)
  have d1 : w3.cell? ⟨b, 0, none⟩ = some (.slice a n c) := hL3.cell 0
  have z1 := hL3.frozen 0
  have d3 : w3.cell? ⟨w0.heap.size, 0, none⟩ = some (.int .i64 x.1) := hX3.cell 0
  have d4 : w3.cell? ⟨w0.heap.size, 1, none⟩ = some (.int .i64 x.2) := hX3.cell 1
  have hgb : g' ≠ b := by
    rcases hg3 with hg3 | hg3
    · exact HH.out.ne g' hg3
    · have := H0.out b (.inl rfl)
      have := HB.out.size
      simp at hg3
      omega
  have HP5 : Hid (Gh (w3.setCell ⟨b, 0, none⟩ (.slice (some ⟨g', 0, none⟩) (n + 1) cap')) b (L ++ [x]) (.slice (some ⟨g', 0, none⟩) (n + 1) cap')) := ⟨hL3.set 0 _, ho3.keep (fun k hk => by
    obtain rfl : g' = k := Option.some.inj hk
    exact Below.heap_setCell _ _ _ _ hgb)⟩
  have HCH : Hid (Chg (Fh b (.slice a n c)) w0 (w3.setCell ⟨b, 0, none⟩ (.slice (some ⟨g', 0, none⟩) (n + 1) cap'))) := ((((Chg.of_below HB.out).alloc _).drew).trans (hc3.mono (fun k hk => .inr hk))).set (.inl (.inl rfl)) _
  have HG3 : Hid ((Value.slice a n c).ownBlock = some g' ∨ w0.heap.size ≤ g') := hg3.imp id (fun e => by have := HB.out.size; simp at e; omega)
  clear hL3 hX3 ho3 hc3 hg3 HH HOA HLA HXA
  refine ⟨.inr ⟨d1, d3, d4⟩, ?_⟩
  simp only [Act.put, List.setIfInBounds_toArray]
  refine wpAnyE_one (i := 8) (by kernel_rfl) rfl rfl ?_
  go_simp
  refine wpAnyE_one (i := 9) (by kernel_rfl) rfl rfl ?_
  go_simp
  refine wpAnyE_one (i := 10) (by kernel_rfl) rfl rfl ?_
  go_simp
  refine wpAnyE_done (by kernel_rfl) ?_ _
  go_wp2
  go_ret
  exact ⟨rfl, _, HP5.out, HCH.out, fun k hk => by obtain rfl : g' = k := Option.some.inj hk; exact HG3.out⟩
end Go.Proofs.Ytgbbjhhggjocmaa
