/-
  Things pushed into the document's ring, and taken away.
-/
import Derived.Test.YtgbbjhhggjocmaaRrM
namespace Go.Proofs.Ytgbbjhhggjocmaa
open Go.RowKit

theorem rpush_none (x : Int × Int) (w : World) : Calls Try.prog 33 #[.pointer none, valG x] w fun e w' => e = .returned (.int .i64 1) ∧ Below w.heap.size w w' := by
  have HB : Hid (Below w.heap.size w (w.alloc (.cells #[.int .i64 x.1, .int .i64 x.2] 31))) := (Below.refl _ w).alloc (Nat.le_refl _) _
  unfold valG
  go_enter Try.func33, Try.ntmps33
  go_wp2
  go_ret
  exact ⟨rfl, HB.out⟩
set_option maxRecDepth 20000 in
set_option maxHeartbeats 2000000 in
theorem rpush_full (b most : Nat) (L : List (Int × Int)) (v : Value) (x : Int × Int) (w0 : World) (h0 : Gm w0 b most L v) (hfull : L.length = most) :
    Calls Try.prog 33 #[.pointer (some ⟨b, 0, none⟩), valG x] w0 fun e w' => e = .returned (.int .i64 4) ∧ Below w0.heap.size w0 w' := by
  have hb0 : Below w0.heap.size w0 (w0.alloc (.cells #[.int .i64 x.1, .int .i64 x.2] 31)) := (Below.refl _ w0).alloc (Nat.le_refl _) _
  have hL := h0.lies.below hb0 h0.lies.lt
  have c0 : (w0.alloc (.cells #[.int .i64 x.1, .int .i64 x.2] 31)).cell? ⟨b, 0, none⟩ = some (.int .i64 (most : Int)) := hL.cell 0
  have c1 : (w0.alloc (.cells #[.int .i64 x.1, .int .i64 x.2] 31)).cell? ⟨b, 1, none⟩ = some v := hL.cell 1
  obtain ⟨a, c, rfl, _⟩ := h0.own.shape
  rw [hfull] at c1
  have HB : Hid (Below w0.heap.size w0 (w0.alloc (.cells #[.int .i64 x.1, .int .i64 x.2] 31))) := hb0
  obtain ⟨w, hw⟩ : ∃ w, w = w0.alloc (.cells #[.int .i64 x.1, .int .i64 x.2] 31) := ⟨_, rfl⟩
  have HW : Hid (w0.alloc (.cells #[.int .i64 x.1, .int .i64 x.2] 31) = w) := hw.symm
  rw [← hw] at c0 c1 HB
  clear hL h0 hfull hb0 hw
  unfold valG
  go_enter Try.func33, Try.ntmps33
  go_wp2_with fail
  rw [HW.out]
  go_quiet (fail)
  go_wp2
  go_ret
  exact ⟨rfl, HB.out.trans ((below_drewN w _).mono HB.out.size)⟩
set_option maxRecDepth 20000 in
set_option maxHeartbeats 4000000 in
theorem rpush_ok (b most : Nat) (L : List (Int × Int)) (v : Value) (x : Int × Int) (w0 : World) (h0 : Gm w0 b most L v) (hroom : L.length < most) :
    Calls Try.prog 33 #[.pointer (some ⟨b, 0, none⟩), valG x] w0 fun e w' => e = .returned (.int .i64 0) ∧ ∃ v', Gm w' b most (L ++ [x]) v' ∧ Chg (Fr (some b) v) w0 w' ∧ (∀ k, v'.ownBlock = some k → v.ownBlock = some k ∨ w0.heap.size ≤ k) := by
  have hb0 : Below w0.heap.size w0 (w0.alloc (.cells #[.int .i64 x.1, .int .i64 x.2] 31)) := (Below.refl _ w0).alloc (Nat.le_refl _) _
  have hLX0 : Lies (w0.alloc (.cells #[.int .i64 x.1, .int .i64 x.2] 31)) w0.heap.size #[.int .i64 x.1, .int .i64 x.2] 31 := Lies.new w0 _ _
  obtain ⟨w1, hw⟩ : ∃ w, w = w0.alloc (.cells #[.int .i64 x.1, .int .i64 x.2] 31) := ⟨_, rfl⟩
  rw [← hw] at hb0 hLX0
  have h1 : Gm w1 b most L v := ⟨h0.lies.below hb0 h0.lies.lt, h0.own.below hb0, h0.pos, h0.lid, h0.len⟩
  have k0 : w1.cell? ⟨b, 0, none⟩ = some (.int .i64 (most : Int)) := h1.lies.cell 0
  have k1 : w1.cell? ⟨b, 1, none⟩ = some v := h1.lies.cell 1
  obtain ⟨a, c, rfl, _⟩ := h1.own.shape
  have hnf : ¬ (most : Int) ≤ (L.length : Int) := by omega
  have HW : Hid (w0.alloc (.cells #[.int .i64 x.1, .int .i64 x.2] 31) = w1) := hw.symm
  have HB0 : Hid (Below w0.heap.size w0 w1) := hb0
  have H0 : Hid (∀ k, Fr (some b) (.slice a L.length c) k → k < w0.heap.size) := (Gr.made b most L _ h0).lt
  have HH1 : Hid (Gm w1 b most L (.slice a L.length c)) := h1
  have HX1 : Hid (Lies w1 w0.heap.size #[.int .i64 x.1, .int .i64 x.2] 31) := hLX0
  have HLD : Hid (L.length < 1048576) := by have := h0.lid; unfold Hid; omega
  have HRM : Hid (L.length < most) := hroom
  clear h1 h0 hw hb0 hLX0 hroom
  have hb1 : b ≠ w0.heap.size := by have := H0.out b (.inl rfl); omega
  have hb2 : w0.heap.size ≠ b := Ne.symm hb1
  obtain ⟨n, hn⟩ : ∃ n, n = L.length := ⟨_, rfl⟩
  rw [← hn] at k1 hnf H0 HH1 ⊢
  have HN : Hid (n = L.length) := hn
  clear hn
  unfold valG
  go_enter Try.func33, Try.ntmps33
  go_wp2_with fail
  rw [HW.out]
  go_quiet (fail)
  go_wp2_with fail
  obtain ⟨w, hwq⟩ : ∃ w, w = w1.drewN nq := ⟨_, rfl⟩
  have hbq : Below w1.heap.size w1 w := by rw [hwq]; exact below_drewN w1 nq
  have hLX : Lies w w0.heap.size #[.int .i64 x.1, .int .i64 x.2] 31 := HX1.out.below hbq HX1.out.lt
  have HB : Hid (Below w0.heap.size w0 w) := HB0.out.trans (hbq.mono HB0.out.size)
  have HH : Hid (Gm w b most L (.slice a n c)) := ⟨HH1.out.lies.below hbq HH1.out.lies.lt, HH1.out.own.below hbq, HH1.out.pos, HH1.out.lid, HH1.out.len⟩
  rw [← hwq]
  clear hwq hbq HH1 HX1 HB0 k0 k1 HW
  have c1 : w.cell? ⟨b, 1, none⟩ = some (.slice a n c) := HH.out.lies.cell 1
  have x0 : w.cell? ⟨w0.heap.size, 0, none⟩ = some (.int .i64 x.1) := hLX.cell 0
  have x1 : w.cell? ⟨w0.heap.size, 1, none⟩ = some (.int .i64 x.2) := hLX.cell 1
  have hwA : Below w.heap.size w (w.alloc (.cells #[.int .i64 x.1, .int .i64 x.2] 31)) := (Below.refl _ _).alloc (Nat.le_refl _) _
  have HOA : Hid (Ow celG 31 2 (w.alloc (.cells #[.int .i64 x.1, .int .i64 x.2] 31)).drew (.slice a n c) L) := HH.out.own.below hwA.drew
  have HLA : Hid (Lies (w.alloc (.cells #[.int .i64 x.1, .int .i64 x.2] 31)).drew b #[.int .i64 (most : Int), .slice a n c] 76) := HH.out.lies.below hwA.drew HH.out.lies.lt
  have HXA : Hid (Lies (w.alloc (.cells #[.int .i64 x.1, .int .i64 x.2] 31)).drew w0.heap.size #[.int .i64 x.1, .int .i64 x.2] 31) := hLX.below hwA.drew hLX.lt
  have HSA : Hid ((w.alloc (.cells #[.int .i64 x.1, .int .i64 x.2] 31)).cell? ⟨b, 1, none⟩ = some (.slice a n c) ∧ (w.alloc (.cells #[.int .i64 x.1, .int .i64 x.2] 31)).cell? ⟨w0.heap.size, 0, none⟩ = some (.int .i64 x.1) ∧ (w.alloc (.cells #[.int .i64 x.1, .int .i64 x.2] 31)).cell? ⟨w0.heap.size, 1, none⟩ = some (.int .i64 x.2)) := ⟨HLA.out.cell 1, HXA.out.cell 0, HXA.out.cell 1⟩
  clear hwA hLX
  refine wp_region_late (fun wx => wx.cell? ⟨b, 1, none⟩ = some (.slice a n c) ∧ wx.cell? ⟨w0.heap.size, 0, none⟩ = some (.int .i64 x.1) ∧ wx.cell? ⟨w0.heap.size, 1, none⟩ = some (.int .i64 x.2)) 10 (by kernel_rfl) ⟨c1, x0, x1⟩ (fun hHeld => ?_)
  refine wpAnyE_take (i := 0) (d := some 17) (v := ?_) rfl (by kernel_rfl) (by kernel_rfl) (by kernel_rfl) (by kernel_rfl) (fun _ _ _ h => h) rfl rfl ?hy (by first | assumption | go_simp) ?_
  case hy => (intro w' hSw; (try dsimp only at hSw); go_simp <;> (first | with_reducible rfl | omega | skip))
  simp only [Act.put, List.setIfInBounds_toArray, List.set_cons_zero, List.set_cons_succ]
  refine wpAnyE_take (i := 1) (d := some 18) (v := ?_) rfl (by kernel_rfl) (by kernel_rfl) (by kernel_rfl) (by kernel_rfl) (fun _ _ _ h => h) rfl rfl ?hy (by first | assumption | go_simp) ?_
  case hy => (intro w' hSw; (try dsimp only at hSw); go_simp <;> (first | with_reducible rfl | omega | skip))
  simp only [Act.put, List.setIfInBounds_toArray, List.set_cons_zero, List.set_cons_succ]
  refine wpAnyE_take (i := 2) (d := some 19) (v := ?_) rfl (by kernel_rfl) (by kernel_rfl) (by kernel_rfl) (by kernel_rfl) (fun _ _ _ h => h) rfl rfl ?hy (by first | assumption | go_simp) ?_
  case hy => (intro w' hSw; (try dsimp only at hSw); go_simp <;> (first | with_reducible rfl | omega | skip))
  simp only [Act.put, List.setIfInBounds_toArray, List.set_cons_zero, List.set_cons_succ]
  refine wpAnyE_take (i := 3) (d := some 20) (v := ?_) rfl (by kernel_rfl) (by kernel_rfl) (by kernel_rfl) (by kernel_rfl) (fun _ _ _ h => h) rfl rfl ?hy (by first | assumption | go_simp) ?_
  case hy => (intro w' hSw; (try dsimp only at hSw); go_simp <;> (first | with_reducible rfl | omega | skip))
  simp only [Act.put, List.setIfInBounds_toArray, List.set_cons_zero, List.set_cons_succ]
  refine wpAnyE_take (i := 4) (d := some 21) (v := ?_) rfl (by kernel_rfl) (by kernel_rfl) (by kernel_rfl) (by kernel_rfl) (fun _ _ _ h => h) rfl rfl ?hy (by first | assumption | go_simp) ?_
  case hy => (intro w' hSw; (try dsimp only at hSw); go_simp <;> (first | with_reducible rfl | omega | skip))
  simp only [Act.put, List.setIfInBounds_toArray, List.set_cons_zero, List.set_cons_succ]
  refine wpAnyE_take (i := 5) (d := some 22) (v := .agg #[.int .i64 x.1, .int .i64 x.2]) rfl (by kernel_rfl) (by kernel_rfl) (by kernel_rfl) (by kernel_rfl) (fun _ _ _ h => h) rfl rfl ?hy (by first | assumption | go_simp) ?_
  case hy => (intro w' hSw; (try dsimp only at hSw); go_simp <;> (first | with_reducible rfl | omega | skip))
  simp only [Act.put, List.setIfInBounds_toArray, List.set_cons_zero, List.set_cons_succ]
  refine wpAnyE_one (i := 6) (by kernel_rfl) rfl rfl ?_
  go_simp
  have SA := HSA.out
  refine ⟨SA, ?_⟩
  have hli := HLD.out
  refine wpAnyE_one (i := 7) (by kernel_rfl) rfl rfl ?_
  refine wp_append_ow celG_length (by decide) oneG _ _ 57 rfl Try.underlying57 _ 16 infoEG rfl (.slice a n c) L rfl HOA.out w.heap.size 1 x rfl (fun j u hu => new_cells (celG x) j u hu) (by omega) (by omega) ?_
  intro g' cap' w3 ho3 hc3 hg3
  clear hli
  rw [← HN.out] at ho3
  rw [← HN.out]
  clear hHeld SA
  have hL3 : Lies w3 b #[.int .i64 (most : Int), .slice a n c] 76 := hc3.lies HLA.out (fun hk => HH.out.ne b hk rfl)
  have hX3 : Lies w3 w0.heap.size #[.int .i64 x.1, .int .i64 x.2] 31 := hc3.lies HXA.out (fun hk => by have := H0.out _ (.inr hk); omega)
  have d1 : w3.cell? ⟨b, 1, none⟩ = some (.slice a n c) := hL3.cell 1
  have z1 := hL3.frozen 1
  have d3 : w3.cell? ⟨w0.heap.size, 0, none⟩ = some (.int .i64 x.1) := hX3.cell 0
  have d4 : w3.cell? ⟨w0.heap.size, 1, none⟩ = some (.int .i64 x.2) := hX3.cell 1
  have hgb : g' ≠ b := by
    rcases hg3 with hg3 | hg3
    · exact HH.out.ne g' hg3
    · have := H0.out b (.inl rfl)
      have := HB.out.size
      simp at hg3
      omega
  have HP5 : Hid (Gm (w3.setCell ⟨b, 1, none⟩ (.slice (some ⟨g', 0, none⟩) (n + 1) cap')) b most (L ++ [x]) (.slice (some ⟨g', 0, none⟩) (n + 1) cap')) := ⟨hL3.set 1 _, ho3.keep (fun k hk => by
    obtain rfl : g' = k := Option.some.inj hk
    exact Below.heap_setCell _ _ _ _ hgb), HH.out.pos, HH.out.lid, by rw [List.length_append, List.length_singleton]; exact HRM.out⟩
  have HCH : Hid (Chg (Fr (some b) (.slice a n c)) w0 (w3.setCell ⟨b, 1, none⟩ (.slice (some ⟨g', 0, none⟩) (n + 1) cap'))) := ((((Chg.of_below HB.out).alloc _).drew).trans (hc3.mono (fun k hk => .inr hk))).set (.inl (.inl rfl)) _
  have HG3 : Hid ((Value.slice a n c).ownBlock = some g' ∨ w0.heap.size ≤ g') := hg3.imp id (fun e => by have := HB.out.size; simp at e; omega)
  clear hL3 hX3 ho3 hc3 hg3 HH HOA HLA HXA
  refine ⟨.inr ⟨d1, d3, d4⟩, ?_⟩
  simp only [Act.put, List.setIfInBounds_toArray]
  refine wpAnyE_one (i := 8) (by kernel_rfl) rfl rfl ?_
  go_simp
  refine wpAnyE_one (i := 9) (by kernel_rfl) rfl rfl ?_
  go_simp
  refine wpAnyE_one (i := 10) (by kernel_rfl) rfl rfl ?_
  go_simp
  refine wpAnyE_done (by kernel_rfl) ?_ _
  go_wp2
  go_ret
  exact ⟨rfl, _, HP5.out, HCH.out, fun k hk => by obtain rfl : g' = k := Option.some.inj hk; exact HG3.out⟩
theorem rpush_any (p : Option Nat) (most : Nat) (L : List (Int × Int)) (v : Value) (x : Int × Int) (w : World) (h : Gr w p most L v) :
    Calls Try.prog 33 #[ptr p, valG x] w fun e w' => e = .returned (.int .i64 (pushE most L.length)) ∧ ∃ v', Gr w' p most (pushLG most L x) v' ∧ Chg (Fr p v) w w' ∧ (∀ k, v'.ownBlock = some k → v.ownBlock = some k ∨ w.heap.size ≤ k) := by
  cases h with
  | no => exact (rpush_none x w).mono (fun e w' hh => ⟨hh.1, _, .no, Chg.of_below hh.2, fun k hk => .inl hk⟩)
  | made b most L v h =>
    have hp := h.pos
    by_cases hf : L.length = most
    · refine (rpush_full b most L v x w h hf).mono (fun e w' hh => ⟨?_, v, ?_, Chg.of_below hh.2, fun k hk => .inl hk⟩)
      · rw [hh.1]; unfold pushE; rw [if_neg (by omega), if_pos hf]
      · have e : pushLG most L x = L := if_neg (by omega)
        rw [e]; exact (Gr.made b most L v h).below hh.2
    · have hl := h.len
      refine (rpush_ok b most L v x w h (by omega)).mono (fun e w' hh => ?_)
      obtain ⟨r1, v', r2, r3, r4⟩ := hh
      have e : pushLG most L x = L ++ [x] := if_pos (by omega)
      exact ⟨by rw [r1]; unfold pushE; rw [if_neg (by omega), if_neg hf], v', by rw [e]; exact .made b most _ v' r2, r3, r4⟩
set_option maxRecDepth 20000 in
set_option maxHeartbeats 2000000 in
theorem rdrop_any (p : Option Nat) (most : Nat) (L : List (Int × Int)) (v : Value) (n : Int) (w : World) (h : Gr w p most L v) (D0 : Nat) (hD0 : D0 = dropN L.length n) :
    Calls Try.prog 35 #[ptr p, .int .i64 n] w fun e w' => e = .returned (.int .i64 (D0 : Int)) ∧ ∃ v', Gr w' p most (L.drop D0) v' ∧ Chg (Fr p v) w w' ∧ (∀ k, v'.ownBlock = some k → v.ownBlock = some k ∨ w.heap.size ≤ k) := by
  have HLN : Hid (Calls Try.prog 15 #[ptr p] w fun e w' => e = .returned (.int .i64 (L.length : Int)) ∧ w' = w) := rlen_any p most L v w h
  have HH : Hid (Gr w p most L v) := h
  have hld := h.len
  unfold dropN at hD0
  have hm1 : min (max 0 n) (L.length : Int) = (D0 : Int) := by omega
  have hm2 : (if (L.length : Int) < (if 0 < n then n else 0) then (L.length : Int) else (if 0 < n then n else 0)) = (D0 : Int) := by split <;> split <;> omega
  by_cases hz : D0 = 0
  · subst hz
    clear h
    have HHB : Hid (∃ v', Gr w p most (L.drop 0) v' ∧ Chg (Fr p v) w w ∧ (∀ k, v'.ownBlock = some k → v.ownBlock = some k ∨ w.heap.size ≤ k)) := ⟨v, HH.out, Chg.refl _ _, fun k hk => .inl hk⟩
    generalize ptr p = pv at *
    clear hld hD0 HH
    go_enter Try.func35, Try.ntmps35
    go_wp2_with (go_at_call 15; refine HLN.out.mono ?_; clear HLN; rintro e w ⟨rfl, rfl⟩)
    all_goals go_ret
    all_goals exact ⟨rfl, HHB.out⟩
  · clear HH hm1 hm2
    cases h with
    | no => exact absurd (by rw [hD0, List.length_nil]; omega) hz
    | made b most L v h =>
      have hpos : 0 < n := by omega
      have hm3 : min n (L.length : Int) = (D0 : Int) := by omega
      have hm4 : (if (L.length : Int) < n then (L.length : Int) else n) = (D0 : Int) := by split <;> omega
      have hm5 : (if n < (L.length : Int) then n else (L.length : Int)) = (D0 : Int) := by split <;> omega
      have hDl : D0 ≤ L.length := by omega
      have hDi : (D0 : Int) ≤ (L.length : Int) := by omega
      have hDp : (0 : Int) < (D0 : Int) := by omega
      have hne : L ≠ [] := fun e => by rw [e, List.length_nil] at hDl; omega
      obtain ⟨a, c, rfl, hs⟩ := h.own.shape
      obtain ⟨g, rfl⟩ := hs hne
      have hcap := h.own.cap.2
      have c1 : w.cell? ⟨b, 1, none⟩ = some (.slice (some ⟨g, 0, none⟩) L.length c) := h.lies.cell 1
      have hbl : b < w.heap.size := h.lies.lt
      have HLT : Hid (∀ k, Fr (some b) (.slice (some ⟨g, 0, none⟩) L.length c) k → k < w.heap.size) := (Gr.made b most L _ h).lt
      have HM : Hid (Gm w b most L (.slice (some ⟨g, 0, none⟩) L.length c)) := h
      have HLD : Hid (L.length ≤ 1048576) := by have := h.len; have := h.lid; unfold Hid; omega
      obtain ⟨A, hA0⟩ : ∃ A, A = if c = D0 then 0 else D0 * 2 := ⟨_, rfl⟩
      have hA : (if c = D0 then some ⟨g, 0, none⟩ else some ⟨g, D0 * 2, none⟩ : Option Addr) = some ⟨g, A, none⟩ := by rw [hA0]; split <;> rfl
      have HY : Hid (∀ wx, Below w.heap.size w wx → ∀ j u, ((L.drop D0).flatMap celG)[j]? = some u → wx.cell? ⟨g, A + j, none⟩ = some u) := fun wx hb j u hu => by
        by_cases e : c = D0
        · have : L.drop D0 = [] := List.drop_eq_nil_of_le (by omega)
          rw [this] at hu
          cases hu
        · rw [hA0, if_neg e]
          refine (hb.cell (p := ⟨g, D0 * 2 + j, none⟩) (HLT.out g (.inr rfl))).trans (HM.out.own.sg celG_length D0 (L.length - D0) j u ?_)
          rw [List.take_of_length_le (by rw [List.length_drop]; exact Nat.le_refl _)]
          exact hu
      have HBA : Hid (Below w.heap.size w (w.alloc (.cells #[] 31))) := (Below.refl _ _).alloc (Nat.le_refl _) _
      have HOA : Hid (Ow celG 31 2 (w.alloc (.cells #[] 31)) (.slice (some ⟨w.heap.size, 0, none⟩) 0 0) []) := Ow.mk0 celG 31 2 _ w.heap.size (Lies.new w _ _)
      have c1a : (w.alloc (.cells #[] 31)).cell? ⟨b, 1, none⟩ = some (.slice (some ⟨g, 0, none⟩) L.length c) := (HBA.out.cell (p := ⟨b, 1, none⟩) hbl).trans c1
      have hcI : (L.length : Int) ≤ (c : Int) := by omega
      clear h hA0 hD0 hz hs hne hld
      unfold ptr at *
      go_enter Try.func35, Try.ntmps35
      go_wp2_with (first
        | (go_at_call 15; refine HLN.out.mono ?_; clear HLN; rintro e w ⟨rfl, rfl⟩)
        | (at_builtin; refine apL_seg celG_length (by decide) oneG rfl _ _ 57 rfl Try.underlying57 _ 16 infoEG rfl (.slice (some ⟨w.heap.size, 0, none⟩) 0 0) [] rfl HOA.out g A (L.length - D0) (c - D0) (L.drop D0) (by rw [List.length_drop]) rfl (HY.out _ HBA.out) (by have := HLD.out; rw [List.length_nil]; omega) (by have := HLD.out; rw [List.length_nil]; omega) ?_; intro v8 w8 ho8 hc8 hv8; rw [List.nil_append] at ho8; obtain ⟨a8, c8, rfl, _⟩ := ho8.shape; have hL8 := hc8.lies (HM.out.lies.below HBA.out HM.out.lies.lt) (fun hk => by have e2 : w.heap.size = b := Option.some.inj hk; omega); have d1 : w8.cell? ⟨b, 1, none⟩ = some (.slice (some ⟨g, 0, none⟩) L.length c) := hL8.cell 1; have z1 := hL8.frozen 1; have HL8 : Hid (Lies w8 b #[.int .i64 (most : Int), .slice (some ⟨g, 0, none⟩) L.length c] 76) := hL8; have HO8 : Hid (Ow celG 31 2 w8 (.slice a8 (L.drop D0).length c8) (L.drop D0)) := ho8; have HC8 : Hid _ := hc8; have HV8 : Hid _ := hv8; clear hL8 ho8 hc8 hv8))
      have hnb : ∀ k, (Value.slice a8 (L.drop D0).length c8).ownBlock = some k → w.heap.size ≤ k := fun k hk => by
        rcases HV8.out with e | e
        · rw [e] at hk; have e2 : w.heap.size = k := Option.some.inj hk; omega
        · rw [e, World.size_alloc] at hk; have e2 : w.heap.size + 1 = k := Option.some.inj hk; omega
      have hG8 : Gm (w8.setCell ⟨b, 1, none⟩ (.slice a8 (L.drop D0).length c8)) b most (L.drop D0) (.slice a8 (L.drop D0).length c8) := ⟨HL8.out.set 1 _, HO8.out.keep (fun k hk => Below.heap_setCell _ _ _ _ (by have := hnb k hk; show k ≠ b; omega)), HM.out.pos, HM.out.lid, by rw [List.length_drop]; have := HM.out.len; omega⟩
      have hC8 : Chg (Fr (some b) (.slice (some ⟨g, 0, none⟩) L.length c)) w (w8.setCell ⟨b, 1, none⟩ (.slice a8 (L.drop D0).length c8)) := ((Chg.of_below HBA.out).then HC8.out (fun k hk => .inr (by have e2 : w.heap.size = k := Option.some.inj hk; omega))).set (p := ⟨b, 1, none⟩) (.inl (.inl rfl)) _
      rw [List.length_drop] at hG8 hC8 hnb
      go_ret
      exact ⟨rfl, _, .made b most _ _ hG8, hC8, fun k hk => .inr (hnb k hk)⟩
end Go.Proofs.Ytgbbjhhggjocmaa
