/-
  A thing pushed into a heap.
-/
import Derived.Test.YtgbbjhhggjocmaaHc
namespace Go.Proofs.Ytgbbjhhggjocmaa
open Go.RowKit

set_option maxRecDepth 20000 in
set_option maxHeartbeats 2000000 in
theorem hpush_full (b cf : Nat) (kk : Bool) (L : List En) (np : Nat) (v : Value) (x : Int × Int) (w0 : World) (h0 : Hm w0 b cf kk L np v) (hfull : L.length = 1048576) :
    Calls Try.prog 25 #[.pointer (some ⟨b, 0, none⟩), vTh x] w0 fun e w' => e = .returned (.int .i64 4) ∧ Below w0.heap.size w0 w' := by
  have hb0 : Below w0.heap.size w0 (w0.alloc (.cells #[.int .i64 x.1, .int .i64 x.2] 31)) := (Below.refl _ w0).alloc (Nat.le_refl _) _
  obtain ⟨w, hw⟩ : ∃ w, w = w0.alloc (.cells #[.int .i64 x.1, .int .i64 x.2] 31) := ⟨_, rfl⟩
  rw [← hw] at hb0
  have h := h0.below hb0
  have ht := hthere_any b cf L np v w h.hp
  have c1 := h.hp.cells.2.1
  obtain ⟨a, c, rfl, _⟩ := h.hp.own.shape
  rw [hfull] at c1
  have HW : Hid (w = w0.alloc (.cells #[.int .i64 x.1, .int .i64 x.2] 31)) := hw
  have HB : Hid (Below w0.heap.size w0 w) := hb0
  clear h h0 hw hfull hb0
  unfold vTh
  go_enter Try.func25, Try.ntmps25
  go_wp2_with (go_at_call 54; rw [← HW.out]; refine ht.mono ?_; clear ht HW; rintro e w ⟨rfl, rfl⟩)
  go_ret
  exact ⟨rfl, HB.out⟩
set_option maxRecDepth 20000 in
set_option maxHeartbeats 4000000 in
theorem hpush_ok (b cf : Nat) (kk : Bool) (L : List En) (np : Nat) (v : Value) (x : Int × Int) (w0 : World) (h0 : Hm w0 b cf kk L np v) (hroom : L.length < 1048576) (hnp : np < 4611686018427387904) :
    Calls Try.prog 25 #[.pointer (some ⟨b, 0, none⟩), vTh x] w0 fun e w' => e = .returned (.int .i64 0) ∧ ∃ L' v', Hm w' b cf kk L' (np + 1) v' ∧ L'.Perm (L ++ [(x, np)]) ∧ Chg (Fh b v) w0 w' ∧ (∀ k, v'.ownBlock = some k → v.ownBlock = some k ∨ w0.heap.size ≤ k) := by
  have hb0 : Below w0.heap.size w0 (w0.alloc (.cells #[.int .i64 x.1, .int .i64 x.2] 31)) := (Below.refl _ w0).alloc (Nat.le_refl _) _
  have hLX : Lies (w0.alloc (.cells #[.int .i64 x.1, .int .i64 x.2] 31)) w0.heap.size #[.int .i64 x.1, .int .i64 x.2] 31 := Lies.new w0 _ _
  obtain ⟨w, hw⟩ : ∃ w, w = w0.alloc (.cells #[.int .i64 x.1, .int .i64 x.2] 31) := ⟨_, rfl⟩
  rw [← hw] at hb0 hLX
  have h := h0.below hb0
  have ht := hthere_any b cf L np v w h.hp
  have c1 := h.hp.cells.2.1
  have c2 := h.hp.cells.2.2
  have x0 : w.cell? ⟨w0.heap.size, 0, none⟩ = some (.int .i64 x.1) := hLX.cell 0
  have x1 : w.cell? ⟨w0.heap.size, 1, none⟩ = some (.int .i64 x.2) := hLX.cell 1
  obtain ⟨a, c, rfl, _⟩ := h.hp.own.shape
  have hnf : ((L.length : Int) == 1048576) = false := by simp; omega
  have HW : Hid (w = w0.alloc (.cells #[.int .i64 x.1, .int .i64 x.2] 31)) := hw
  have HB : Hid (Below w0.heap.size w0 w) := hb0
  have H0 : Hid (∀ k, Fh b (.slice a L.length c) k → k < w0.heap.size) := h0.hp.lt
  have HH : Hid (Hm w b cf kk L np (.slice a L.length c)) := h
  have HLX : Hid (Lies w w0.heap.size #[.int .i64 x.1, .int .i64 x.2] 31) := hLX
  clear h h0 hw hb0 hLX
  have hb1 : b ≠ w0.heap.size := by have := H0.out b (.inl rfl); omega
  have hb2 : w0.heap.size ≠ b := Ne.symm hb1
  have hwA : Below w.heap.size w (w.alloc (.cells #[.int .i64 x.1, .int .i64 x.2, .int .u64 (np : Int)] 88)) := (Below.refl _ _).alloc (Nat.le_refl _) _
  have HOA : Hid (Ow celE 88 3 (w.alloc (.cells #[.int .i64 x.1, .int .i64 x.2, .int .u64 (np : Int)] 88)).drew (.slice a L.length c) L) := HH.out.hp.own.below hwA.drew
  have HLA : Hid (Lies (w.alloc (.cells #[.int .i64 x.1, .int .i64 x.2, .int .u64 (np : Int)] 88)).drew b #[.func (.func cf) #[] #[], .slice a L.length c, .int .u64 (np : Int)] 84) := HH.out.hp.lies.below hwA.drew HH.out.hp.lies.lt
  have HXA : Hid (Lies (w.alloc (.cells #[.int .i64 x.1, .int .i64 x.2, .int .u64 (np : Int)] 88)).drew w0.heap.size #[.int .i64 x.1, .int .i64 x.2] 31) := HLX.out.below hwA.drew HLX.out.lt
  have HSA : Hid ((w.alloc (.cells #[.int .i64 x.1, .int .i64 x.2, .int .u64 (np : Int)] 88)).cell? ⟨b, 1, none⟩ = some (.slice a L.length c) ∧ (w.alloc (.cells #[.int .i64 x.1, .int .i64 x.2, .int .u64 (np : Int)] 88)).cell? ⟨b, 2, none⟩ = some (.int .u64 (np : Int)) ∧ (w.alloc (.cells #[.int .i64 x.1, .int .i64 x.2, .int .u64 (np : Int)] 88)).cell? ⟨w0.heap.size, 0, none⟩ = some (.int .i64 x.1) ∧ (w.alloc (.cells #[.int .i64 x.1, .int .i64 x.2, .int .u64 (np : Int)] 88)).cell? ⟨w0.heap.size, 1, none⟩ = some (.int .i64 x.2)) := ⟨HLA.out.cell 1, HLA.out.cell 2, HXA.out.cell 0, HXA.out.cell 1⟩
  clear hwA
  obtain ⟨n, hn⟩ : ∃ n, n = L.length := ⟨_, rfl⟩
  rw [← hn] at c1 hnf hroom H0 HH HOA HLA HSA ⊢
  have HN : Hid (n = L.length) := hn
  clear hn
  unfold vTh
  go_enter Try.func25, Try.ntmps25
  go_wp2_with (go_at_call 54; rw [← HW.out]; refine ht.mono ?_; clear ht HW; rintro e w ⟨rfl, rfl⟩)
  refine wp_region_late (fun wx => wx.cell? ⟨b, 1, none⟩ = some (.slice a n c) ∧ wx.cell? ⟨b, 2, none⟩ = some (.int .u64 (np : Int)) ∧ wx.cell? ⟨w0.heap.size, 0, none⟩ = some (.int .i64 x.1) ∧ wx.cell? ⟨w0.heap.size, 1, none⟩ = some (.int .i64 x.2)) 15 (by kernel_rfl) ⟨c1, c2, x0, x1⟩ (fun hHeld => ?_)
  refine wpAnyE_take (i := 0) (d := some 14) (v := ?_) rfl (by kernel_rfl) (by kernel_rfl) (by kernel_rfl) (by kernel_rfl) (fun _ _ _ h => h) rfl rfl ?hy (by first | assumption | go_simp) ?_
  case hy => (intro w' hSw; (try dsimp only at hSw); go_simp <;> (first | with_reducible rfl | omega | skip))
  simp only [Act.put, List.setIfInBounds_toArray, List.set_cons_zero, List.set_cons_succ]
  refine wpAnyE_take (i := 1) (d := some 15) (v := ?_) rfl (by kernel_rfl) (by kernel_rfl) (by kernel_rfl) (by kernel_rfl) (fun _ _ _ h => h) rfl rfl ?hy (by first | assumption | go_simp) ?_
  case hy => (intro w' hSw; (try dsimp only at hSw); go_simp <;> (first | with_reducible rfl | omega | skip))
  simp only [Act.put, List.setIfInBounds_toArray, List.set_cons_zero, List.set_cons_succ]
  refine wpAnyE_take (i := 2) (d := some 16) (v := ?_) rfl (by kernel_rfl) (by kernel_rfl) (by kernel_rfl) (by kernel_rfl) (fun _ _ _ h => h) rfl rfl ?hy (by first | assumption | go_simp) ?_
  case hy => (intro w' hSw; (try dsimp only at hSw); go_simp <;> (first | with_reducible rfl | omega | skip))
  simp only [Act.put, List.setIfInBounds_toArray, List.set_cons_zero, List.set_cons_succ]
  refine wpAnyE_take (i := 3) (d := some 17) (v := ?_) rfl (by kernel_rfl) (by kernel_rfl) (by kernel_rfl) (by kernel_rfl) (fun _ _ _ h => h) rfl rfl ?hy (by first | assumption | go_simp) ?_
  case hy => (intro w' hSw; (try dsimp only at hSw); go_simp <;> (first | with_reducible rfl | omega | skip))
  simp only [Act.put, List.setIfInBounds_toArray, List.set_cons_zero, List.set_cons_succ]
  refine wpAnyE_take (i := 4) (d := some 18) (v := ?_) rfl (by kernel_rfl) (by kernel_rfl) (by kernel_rfl) (by kernel_rfl) (fun _ _ _ h => h) rfl rfl ?hy (by first | assumption | go_simp) ?_
  case hy => (intro w' hSw; (try dsimp only at hSw); go_simp <;> (first | with_reducible rfl | omega | skip))
  simp only [Act.put, List.setIfInBounds_toArray, List.set_cons_zero, List.set_cons_succ]
  refine wpAnyE_take (i := 5) (d := some 19) (v := .agg #[.int .i64 x.1, .int .i64 x.2]) rfl (by kernel_rfl) (by kernel_rfl) (by kernel_rfl) (by kernel_rfl) (fun _ _ _ h => h) rfl rfl ?hy (by first | assumption | go_simp) ?_
  case hy => (intro w' hSw; (try dsimp only at hSw); go_simp <;> (first | with_reducible rfl | omega | skip))
  simp only [Act.put, List.setIfInBounds_toArray, List.set_cons_zero, List.set_cons_succ]
  refine wpAnyE_take (i := 6) (d := some 20) (v := ?_) rfl (by kernel_rfl) (by kernel_rfl) (by kernel_rfl) (by kernel_rfl) (fun _ _ _ h => h) rfl rfl ?hy (by first | assumption | go_simp) ?_
  case hy => (intro w' hSw; (try dsimp only at hSw); go_simp <;> (first | with_reducible rfl | omega | skip))
  simp only [Act.put, List.setIfInBounds_toArray, List.set_cons_zero, List.set_cons_succ]
  refine wpAnyE_take (i := 7) (d := some 21) (v := ?_) rfl (by kernel_rfl) (by kernel_rfl) (by kernel_rfl) (by kernel_rfl) (fun _ _ _ h => h) rfl rfl ?hy (by first | assumption | go_simp) ?_
  case hy => (intro w' hSw; (try dsimp only at hSw); go_simp <;> (first | with_reducible rfl | omega | skip))
  simp only [Act.put, List.setIfInBounds_toArray, List.set_cons_zero, List.set_cons_succ]
  refine wpAnyE_take (i := 8) (d := some 22) (v := ?_) rfl (by kernel_rfl) (by kernel_rfl) (by kernel_rfl) (by kernel_rfl) (fun _ _ _ h => h) rfl rfl ?hy (by first | assumption | go_simp) ?_
  case hy => (intro w' hSw; (try dsimp only at hSw); go_simp <;> (first | with_reducible rfl | omega | skip))
  simp only [Act.put, List.setIfInBounds_toArray, List.set_cons_zero, List.set_cons_succ]
  refine wpAnyE_take (i := 9) (d := some 23) (v := ?_) rfl (by kernel_rfl) (by kernel_rfl) (by kernel_rfl) (by kernel_rfl) (fun _ _ _ h => h) rfl rfl ?hy (by first | assumption | go_simp) ?_
  case hy => (intro w' hSw; (try dsimp only at hSw); go_simp <;> (first | with_reducible rfl | omega | skip))
  simp only [Act.put, List.setIfInBounds_toArray, List.set_cons_zero, List.set_cons_succ]
  refine wpAnyE_take (i := 10) (d := some 24) (v := .agg #[.int .i64 x.1, .int .i64 x.2, .int .u64 (np : Int)]) rfl (by kernel_rfl) (by kernel_rfl) (by kernel_rfl) (by kernel_rfl) (fun _ _ _ h => h) rfl rfl ?hy (by first | assumption | go_simp) ?_
  case hy => (intro w' hSw; (try dsimp only at hSw); go_simp <;> (first | with_reducible rfl | omega | skip))
  simp only [Act.put, List.setIfInBounds_toArray, List.set_cons_zero, List.set_cons_succ]
  refine wpAnyE_one (i := 11) (by kernel_rfl) rfl rfl ?_
  go_simp
  have SA := HSA.out
  refine ⟨SA, ?_⟩
  refine wpAnyE_one (i := 12) (by kernel_rfl) rfl rfl ?_
  refine wp_append_ow celE_length (by decide) oneE _ _ 81 rfl Try.underlying81 _ 24 infoE rfl (.slice a n c) L rfl HOA.out w.heap.size 1 (x, np) rfl (fun j u hu => new_cells (celE (x, np)) j u hu) (by rw [← HN.out]; omega) (by rw [← HN.out]; omega) ?_
  intro g' cap' w3 ho3 hc3 hg3
  rw [← HN.out] at ho3
  rw [← HN.out]
  clear hHeld SA
  have hL3 : Lies w3 b #[.func (.func cf) #[] #[], .slice a n c, .int .u64 (np : Int)] 84 := hc3.lies HLA.out (fun hk => HH.out.hp.ne b hk rfl)
  have hX3 : Lies w3 w0.heap.size #[.int .i64 x.1, .int .i64 x.2] 31 := hc3.lies HXA.out (fun hk => by have := H0.out _ (.inr hk); omega)
  have d1 : w3.cell? ⟨b, 1, none⟩ = some (.slice a n c) := hL3.cell 1
  have d2 : w3.cell? ⟨b, 2, none⟩ = some (.int .u64 (np : Int)) := hL3.cell 2
  have z1 := hL3.frozen 1
  have z2 := hL3.frozen 2
  have d3 : w3.cell? ⟨w0.heap.size, 0, none⟩ = some (.int .i64 x.1) := hX3.cell 0
  have d4 : w3.cell? ⟨w0.heap.size, 1, none⟩ = some (.int .i64 x.2) := hX3.cell 1
  have hgb : g' ≠ b := by
    rcases hg3 with hg3 | hg3
    · exact HH.out.hp.ne g' hg3
    · have := H0.out b (.inl rfl)
      have := HB.out.size
      simp at hg3
      omega
  have HP5 : Hid (Hp ((w3.setCell ⟨b, 1, none⟩ (.slice (some ⟨g', 0, none⟩) (n + 1) cap')).setCell ⟨b, 2, none⟩ (.int .u64 ((np : Int) + 1))) b cf (L ++ [(x, np)]) (np + 1) (.slice (some ⟨g', 0, none⟩) (n + 1) cap')) := ⟨(hL3.set 1 _).set 2 _, ho3.keep (fun k hk => by
    obtain rfl : g' = k := Option.some.inj hk
    exact (Below.heap_setCell _ _ _ _ hgb).trans (Below.heap_setCell _ _ _ _ hgb))⟩
  have hlen : (L ++ [(x, np)]).length = n + 1 := by rw [List.length_append, List.length_singleton, ← HN.out]
  have HCH : Hid (Chg (Fh b (.slice a n c)) w0 ((w3.setCell ⟨b, 1, none⟩ (.slice (some ⟨g', 0, none⟩) (n + 1) cap')).setCell ⟨b, 2, none⟩ (.int .u64 ((np : Int) + 1)))) := (((((Chg.of_below HB.out).alloc _).drew).trans (hc3.mono (fun k hk => .inr hk))).set (.inl (.inl rfl)) _).set (.inl (.inl rfl)) _
  have HGN : Hid (∀ k, g' = k → Fh b (.slice a n c) k ∨ w0.heap.size ≤ k) := fun k e => by
    subst e
    rcases hg3 with hg3 | hg3
    · exact .inl (.inr hg3)
    · have := HB.out.size
      simp at hg3
      exact .inr (by omega)
  have HG3 : Hid ((Value.slice a n c).ownBlock = some g' ∨ w0.heap.size ≤ g') := hg3.imp id (fun e => by have := HB.out.size; simp at e; omega)
  have HRI : Hid (Calls Try.prog 55 #[.pointer (some ⟨b, 0, none⟩), .int .i64 (n : Int)] ((w3.setCell ⟨b, 1, none⟩ (.slice (some ⟨g', 0, none⟩) (n + 1) cap')).setCell ⟨b, 2, none⟩ (.int .u64 ((np : Int) + 1))) fun e w' => e = .returned (.tuple #[]) ∧ ∃ L', Hp w' b cf L' (np + 1) (.slice (some ⟨g', 0, none⟩) (n + 1) cap') ∧ Hq kk L' ∧ L'.Perm (L ++ [(x, np)]) ∧ Chg (· = g') ((w3.setCell ⟨b, 1, none⟩ (.slice (some ⟨g', 0, none⟩) (n + 1) cap')).setCell ⟨b, 2, none⟩ (.int .u64 ((np : Int) + 1))) w') := by
    have hu := HH.out.hq.pushed (x, np)
    rw [← HN.out] at hu
    have := rise_any b cf kk (L ++ [(x, np)]) (np + 1) g' cap' n _ (by rw [hlen]; exact HP5.out) HH.out.cmp hu (by rw [hlen]; omega)
    rw [hlen] at this
    exact this
  have HCM : Hid (Cmp cf kk) := HH.out.cmp
  have HL5 : Hid ((L ++ [(x, np)]).length = n + 1) := hlen
  clear hL3 hX3 ho3 hc3 hg3 hlen HH HOA HLA HXA
  refine ⟨.inr ⟨d1, d2, d3, d4⟩, ?_⟩
  simp only [Act.put, List.setIfInBounds_toArray]
  refine wpAnyE_one (i := 13) (by kernel_rfl) rfl rfl ?_
  go_simp
  refine wpAnyE_one (i := 14) (by kernel_rfl) rfl rfl ?_
  go_simp
  refine wpAnyE_one (i := 15) (by kernel_rfl) rfl rfl ?_
  go_simp
  refine wpAnyE_done (by kernel_rfl) ?_ _
  have hw1 : IntKind.i64.wrap ((n : Int) + 1) = (n : Int) + 1 := by rw [IntKind.wrap_i64]; omega
  have hw2 : IntKind.u64.wrap ((np : Int) + 1) = (np : Int) + 1 := by rw [IntKind.wrap_u64]; omega
  go_wp2_with (go_at_call 55; refine HRI.out.mono ?_; clear HRI; rintro e w6 ⟨rfl, L6, h6, q6, p6, k6⟩; have H6 : Hid (Hp w6 b cf L6 (np + 1) (.slice (some ⟨g', 0, none⟩) (n + 1) cap')) := h6; have Q6 : Hid (Hq kk L6) := q6; have P6 : Hid (L6.Perm (L ++ [(x, np)])) := p6; have K6 : Hid (Chg (Fh b (.slice a n c)) w0 w6) := HCH.out.then k6 (fun i e => HGN.out i e.symm); clear h6 q6 p6 k6)
  go_ret
  refine ⟨rfl, L6, _, ⟨H6.out, Q6.out, HCM.out, ?_, by omega⟩, P6.out, K6.out, fun k hk => ?_⟩
  · rw [P6.out.length_eq, HL5.out]
    omega
  · obtain rfl : g' = k := Option.some.inj hk
    exact HG3.out
end Go.Proofs.Ytgbbjhhggjocmaa
