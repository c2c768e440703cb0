/-
  Check.
-/
import Derived.Test.YtbfgefgadplcjaaDoorPu12
namespace Go.Proofs.YtbfgefgadplcjaaDoor
open Go.RowKit

theorem cd_rng (n : Int) (h : isCd n = true) (h0 : -9223372036854775808 ≤ n) (h1 : n ≤ 9223372036854775807) : 0 ≤ n ∧ n ≤ 999 := by
  unfold isCd at h
  rw [Bool.and_eq_true, decide_eq_true_eq] at h
  have h2 := h.1
  unfold dcW at h2
  rw [Lib.decDigits_length] at h2
  have h3 := Lib.lt_pow_nDigits (IntKind.u64.wrap n).toNat
  rw [h2] at h3
  have h4 : IntKind.u64.wrap n = n % 18446744073709551616 := by simp [IntKind.wrap, IntKind.bits, IntKind.signed]
  rw [h4] at h3
  omega
theorem may_st (code : Int) (s : Stt) (h : mayB code s = true) : s = (0, 0, 0) ∨ isSt s = true := by
  unfold mayB at h
  simp at h
  rcases h with h | h
  · exact .inl h
  · exact .inr h.1
set_option maxHeartbeats 4000000 in
set_option maxRecDepth 20000 in
theorem check_any (x : Rx) (L : List (List UInt8)) (h0 : -9223372036854775808 ≤ x.c) (h1 : x.c ≤ 9223372036854775807) (w : World) (ht : Tb w) (hn : x.n = L.length) (hL : Txs x.a L w) (hll : ∀ l ∈ L, l.length ≤ 140737488355328) (hln : L.length ≤ 140737488355328) :
    Calls Tryd.prog 20 #[rxV x] w fun e w' => e = .returned (.int .i64 (chkR ⟨x.c, x.s, L⟩)) ∧ Below w.heap.size w w' := by
  obtain ⟨c, s, a, n, k⟩ := x
  dsimp only at h0 h1 hn hL
  subst hn
  obtain ⟨W, hW⟩ : ∃ W, W = w.alloc (.cells (rxC ⟨c, s, a, L.length, k⟩) 50) := ⟨_, rfl⟩
  have hB : Below w.heap.size w W := by subst hW; exact (Below.refl _ _).alloc (Nat.le_refl _) _
  have hLi : Lies W w.heap.size (rxC ⟨c, s, a, L.length, k⟩) 50 := by subst hW; exact Lies.new w _ _
  have HWW : Hid (w.alloc (.cells #[.int .i64 c, .int .i64 s.1, .int .i64 s.2.1, .int .i64 s.2.2, .slice a L.length k] 50) = W) := hW.symm
  have HFB : Hid (∀ wx, Below W.heap.size W wx → Below w.heap.size w wx) := fun wx hb => hB.trans (hb.mono hB.size)
  have HSS : Hid (∀ wx, Below W.heap.size W wx → wx.cell? ⟨w.heap.size, 0, none⟩ = some (.int .i64 c) ∧ wx.cell? ⟨w.heap.size, 1, none⟩ = some (.int .i64 s.1) ∧ wx.cell? ⟨w.heap.size, 2, none⟩ = some (.int .i64 s.2.1) ∧ wx.cell? ⟨w.heap.size, 3, none⟩ = some (.int .i64 s.2.2) ∧ wx.cell? ⟨w.heap.size, 4, none⟩ = some (.slice a L.length k)) := fun wx hb => by
    have := hLi.below hb hLi.lt
    exact ⟨this.cell 0, this.cell 1, this.cell 2, this.cell 3, this.cell 4⟩
  have HIC := iscode_any c W (ht.on hB)
  have HMY : Hid (isCd c = true → ∀ w', Calls Tryd.prog 35 #[.int .i64 c, .agg #[.int .i64 s.1, .int .i64 s.2.1, .int .i64 s.2.2]] w' fun e w2 => e = .returned (.bool (mayB c s)) ∧ Below w'.heap.size w' w2) := fun h w' => may_any c s (cd_rng c h h0 h1).1 (cd_rng c h h0 h1).2 w'
  have HAR : Hid (isCd c = true → mayB c s = true → ∀ w', Below W.heap.size W w' → Calls Tryd.prog 36 #[.agg #[.int .i64 c, .int .i64 s.1, .int .i64 s.2.1, .int .i64 s.2.2, .slice a L.length k]] w' fun e w2 => e = .returned (.bool (arB ⟨c, s, L⟩)) ∧ Below w'.heap.size w' w2) := fun h h2 w' hb => are_any ⟨c, s, a, L.length, k⟩ L (cd_rng c h h0 h1).1 (cd_rng c h h0 h1).2 (may_st c s h2) w' ((ht.on hB).on hb) rfl ((hL.below hB).below hb) hll hln
  have HCO1 : Hid (isCd c = true → arB ⟨c, s, L⟩ = true → ∀ w', Below W.heap.size W w' → Calls Tryd.prog 38 #[.int .i64 c, .slice a L.length k] w' fun e w2 => e = .returned (stV (comSt c L)) ∧ Below w'.heap.size w' w2) := fun h h2 w' hb => by
    have h3 : L.length ≤ 64 ∧ ∀ t ∈ L, t.length ≤ 510 := by
      unfold arB at h2
      rw [Bool.and_eq_true, Bool.and_eq_true, decide_eq_true_eq, decide_eq_true_eq, List.all_eq_true] at h2
      refine ⟨h2.1.2, fun t htt => ?_⟩
      have := h2.2 t htt
      rw [Bool.and_eq_true, decide_eq_true_eq] at this
      omega
    exact com_any c (cd_rng c h h0 h1).1 (cd_rng c h h0 h1).2 a L _ k rfl (by omega) (fun l hl => by have := h3.2 l hl; omega) w' ((hL.below hB).below hb) ((ht.on hB).on hb)
  have HCK : Hid (chkR ⟨c, s, L⟩ = if isCd c && mayB c s && arB ⟨c, s, L⟩ && !(decide (s = (0, 0, 0)) && decide (comSt c L ≠ (0, 0, 0))) then 0 else 120) := rfl
  obtain ⟨r0, r1, r2, r3, r4⟩ := HSS.out W (Below.refl _ _)
  have HB0 : Hid (Below W.heap.size W W) := Below.refl _ _
  have hgq := grdStt
  clear hLi hB ht hL hll hW
  unfold rxV
  dsimp only
  cases hcd : isCd c with
  | false =>
    have HXX : Hid (chkR ⟨c, s, L⟩ = 120) := by show _ = _; rw [HCK.out, hcd]; rfl
    rw [hcd] at HIC
    go_enter Tryd.func20, Tryd.ntmps20
    go_wp2_with fail
    rw [HWW.out]
    refine HIC.mono ?_
    rintro e w1 ⟨rfl, hB1⟩
    have HB1 : Hid (Below W.heap.size W w1) := hB1
    clear hB1 r0 r1 r2 r3 r4
    go_wp2_with fail
    go_ret
    exact ⟨by rw [HXX.out]; rfl, HFB.out _ HB1.out⟩
  | true =>
    rw [hcd] at HIC
    have HMY1 := HMY.out hcd
    cases hmy : mayB c s with
    | false =>
      have HXX : Hid (chkR ⟨c, s, L⟩ = 120) := by show _ = _; rw [HCK.out, hmy, Bool.and_false]; rfl
      rw [hmy] at HMY1
      go_enter Tryd.func20, Tryd.ntmps20
      go_wp2_with fail
      rw [HWW.out]
      refine HIC.mono ?_
      rintro e w1 ⟨rfl, hB1⟩
      have HB1 : Hid (Below W.heap.size W w1) := hB1
      obtain ⟨q0, q1, q2, q3, q4⟩ := HSS.out w1 hB1
      clear hB1 r0 r1 r2 r3 r4
      go_wp2_with fail
      refine (HMY1 w1).mono ?_
      rintro e w2 ⟨rfl, hB2⟩
      have HB2 : Hid (Below W.heap.size W w2) := HB1.out.trans (hB2.mono HB1.out.size)
      clear hB2 q0 q1 q2 q3 q4
      go_wp2_with fail
      go_ret
      exact ⟨by rw [HXX.out]; rfl, HFB.out _ HB2.out⟩
    | true =>
      rw [hmy] at HMY1
      have HAR1 := HAR.out hcd hmy
      have HCO2 := HCO1.out hcd
      go_enter Tryd.func20, Tryd.ntmps20
      go_wp2_with fail
      rw [HWW.out]
      refine HIC.mono ?_
      rintro e w1 ⟨rfl, hB1⟩
      have HB1 : Hid (Below W.heap.size W w1) := hB1
      obtain ⟨q0, q1, q2, q3, q4⟩ := HSS.out w1 hB1
      clear hB1 r0 r1 r2 r3 r4
      go_wp2_with fail
      refine (HMY1 w1).mono ?_
      rintro e w2 ⟨rfl, hB2⟩
      have HB2 : Hid (Below W.heap.size W w2) := HB1.out.trans (hB2.mono HB1.out.size)
      clear hB2 q0 q1 q2 q3 q4
      obtain ⟨q0, q1, q2, q3, q4⟩ := HSS.out w2 HB2.out
      go_wp2_with fail
      refine (HAR1 w2 HB2.out).mono ?_
      rintro e w3 ⟨rfl, hB3⟩
      have HB3 : Hid (Below W.heap.size W w3) := HB2.out.trans (hB3.mono HB2.out.size)
      clear hB3 q0 q1 q2 q3 q4 HIC HMY HMY1 HAR HAR1 HCO1
      have hS3 := HSS.out w3 HB3.out
      cases har : arB ⟨c, s, L⟩ with
      | false =>
        have HXX : Hid (chkR ⟨c, s, L⟩ = 120) := by show _ = _; rw [HCK.out, har, Bool.and_false]; rfl
        go_wp2_with fail
        go_ret
        exact ⟨by rw [HXX.out]; rfl, HFB.out _ HB3.out⟩
      | true =>
        have HCO3 := HCO2 har
        have HCO : Hid (∀ w', Below W.heap.size W w' → Calls Tryd.prog 38 #[.int .i64 c, .slice a L.length k] w' fun e w2 => e = .returned (stV (comSt c L)) ∧ Below w'.heap.size w' w2) := HCO3
        have heq := eqStt' s (0, 0, 0)
        clear HCO2 HCO3
        go_wp2_with fail
        by_cases hs : s = (0, 0, 0)
        · rw [decide_eq_true hs] at heq
          have heq2 := eqStt' (comSt c L) (0, 0, 0)
          by_cases hc : comSt c L = (0, 0, 0)
          · have HXX : Hid (chkR ⟨c, s, L⟩ = 0) := by show _ = _; rw [HCK.out, hcd, hmy, har, decide_eq_true hs, decide_eq_false (fun h => h hc)]; rfl
            rw [decide_eq_true hc] at heq2
            clear hs hc hcd hmy har HCK
            generalize comSt c L = C at *
            refine wp_region_late (fun wx => wx.cell? ⟨w.heap.size, 0, none⟩ = some (.int .i64 c) ∧ wx.cell? ⟨w.heap.size, 1, none⟩ = some (.int .i64 s.1) ∧ wx.cell? ⟨w.heap.size, 2, none⟩ = some (.int .i64 s.2.1) ∧ wx.cell? ⟨w.heap.size, 3, none⟩ = some (.int .i64 s.2.2) ∧ wx.cell? ⟨w.heap.size, 4, none⟩ = some (.slice a L.length k)) 13 (by kernel_rfl) hS3 (fun hHeld => ?_)
            refine wpAnyE_tk (i := 0) (d := some 20) (v := ?_) rfl (by kernel_rfl) (by kernel_rfl) (by kernel_rfl) rfl (fun _ _ _ h => h) rfl rfl ?hy (by first | assumption | go_simp) ?_
            case hy => (intro w' hSw; (try dsimp only at hSw); go_simp <;> (first | with_reducible rfl | omega | skip))
            simp only [Act.put, List.setIfInBounds_toArray, List.set_cons_zero, List.set_cons_succ]
            refine wpAnyE_tk (i := 1) (d := some 21) (v := .agg #[.int .i64 s.1, .int .i64 s.2.1, .int .i64 s.2.2]) rfl (by kernel_rfl) (by kernel_rfl) (by kernel_rfl) rfl (fun _ _ _ h => h) rfl rfl ?hy (by first | assumption | go_simp) ?_
            case hy => (intro w' hSw; (try dsimp only at hSw); go_simp <;> (first | with_reducible rfl | omega | skip))
            simp only [Act.put, List.setIfInBounds_toArray, List.set_cons_zero, List.set_cons_succ]
            refine wpAnyE_on (i := 2) (by kernel_rfl) rfl rfl ?_
            go_simp
            refine Calls.mono (none_any w3.drew) ?_
            rintro e w4 ⟨rfl, hB4⟩
            have HB4 : Hid (Below W.heap.size W w4) := HB3.out.trans (((Below.refl _ w3).drew.trans hB4).mono HB3.out.size)
            have hS4 := HSS.out _ HB4.out
            clear hB4 hS3
            refine ⟨hS4, ?_⟩
            unfold stV
            refine wpAnyE_tk (i := 3) (d := some 23) (v := .bool true) rfl (by kernel_rfl) (by kernel_rfl) (by kernel_rfl) rfl (fun _ _ _ h => h) rfl rfl ?hy (by first | assumption | go_simp) ?_
            case hy => (intro w' hSw; (try dsimp only at hSw); go_simp <;> (first | with_reducible rfl | omega | skip))
            simp only [Act.put, List.setIfInBounds_toArray, List.set_cons_zero, List.set_cons_succ]
            refine wpAnyE_tk (i := 4) (d := some 24) (v := .bool true) rfl (by kernel_rfl) (by kernel_rfl) (by kernel_rfl) rfl (fun _ _ _ h => h) rfl rfl ?hy (by first | assumption | go_simp) ?_
            case hy => (intro w' hSw; (try dsimp only at hSw); go_simp <;> (first | with_reducible rfl | omega | skip))
            simp only [Act.put, List.setIfInBounds_toArray, List.set_cons_zero, List.set_cons_succ]
            refine wpAnyE_tk (i := 5) (d := some 25) (v := ?_) rfl (by kernel_rfl) (by kernel_rfl) (by kernel_rfl) rfl (fun _ _ _ h => h) rfl rfl ?hy (by first | assumption | go_simp) ?_
            case hy => (intro w' hSw; (try dsimp only at hSw); go_simp <;> (first | with_reducible rfl | omega | skip))
            simp only [Act.put, List.setIfInBounds_toArray, List.set_cons_zero, List.set_cons_succ]
            refine wpAnyE_tk (i := 6) (d := some 26) (v := ?_) rfl (by kernel_rfl) (by kernel_rfl) (by kernel_rfl) rfl (fun _ _ _ h => h) rfl rfl ?hy (by first | assumption | go_simp) ?_
            case hy => (intro w' hSw; (try dsimp only at hSw); go_simp <;> (first | with_reducible rfl | omega | skip))
            simp only [Act.put, List.setIfInBounds_toArray, List.set_cons_zero, List.set_cons_succ]
            refine wpAnyE_tk (i := 7) (d := some 27) (v := ?_) rfl (by kernel_rfl) (by kernel_rfl) (by kernel_rfl) rfl (fun _ _ _ h => h) rfl rfl ?hy (by first | assumption | go_simp) ?_
            case hy => (intro w' hSw; (try dsimp only at hSw); go_simp <;> (first | with_reducible rfl | omega | skip))
            simp only [Act.put, List.setIfInBounds_toArray, List.set_cons_zero, List.set_cons_succ]
            refine wpAnyE_tk (i := 8) (d := some 28) (v := ?_) rfl (by kernel_rfl) (by kernel_rfl) (by kernel_rfl) rfl (fun _ _ _ h => h) rfl rfl ?hy (by first | assumption | go_simp) ?_
            case hy => (intro w' hSw; (try dsimp only at hSw); go_simp <;> (first | with_reducible rfl | omega | skip))
            simp only [Act.put, List.setIfInBounds_toArray, List.set_cons_zero, List.set_cons_succ]
            refine wpAnyE_on (i := 9) (by kernel_rfl) rfl rfl ?_
            go_simp
            refine Calls.mono (HCO.out w4 HB4.out) ?_
            rintro e w5 ⟨rfl, hB5⟩
            have HB5 : Hid (Below W.heap.size W w5) := HB4.out.trans (hB5.mono HB4.out.size)
            have hS5 := HSS.out _ HB5.out
            clear hB5 hS4
            refine ⟨hS5, ?_⟩
            refine wpAnyE_on (i := 10) (by kernel_rfl) rfl rfl ?_
            go_simp
            refine Calls.mono (none_any w5) ?_
            rintro e w6 ⟨rfl, hB6⟩
            have HB6 : Hid (Below W.heap.size W w6) := HB5.out.trans (hB6.mono HB5.out.size)
            have hS6 := HSS.out _ HB6.out
            clear hB6 hS5
            refine ⟨hS6, ?_⟩
            unfold stV
            refine wpAnyE_tk (i := 11) (d := some 31) (v := .bool false) rfl (by kernel_rfl) (by kernel_rfl) (by kernel_rfl) rfl (fun _ _ _ h => h) rfl rfl ?hy (by first | assumption | go_simp) ?_
            case hy => (intro w' hSw; (try dsimp only at hSw); go_simp <;> (first | with_reducible rfl | omega | skip))
            simp only [Act.put, List.setIfInBounds_toArray, List.set_cons_zero, List.set_cons_succ]
            refine wpAnyE_tk (i := 12) (d := some 32) (v := .bool false) rfl (by kernel_rfl) (by kernel_rfl) (by kernel_rfl) rfl (fun _ _ _ h => h) rfl rfl ?hy (by first | assumption | go_simp) ?_
            case hy => (intro w' hSw; (try dsimp only at hSw); go_simp <;> (first | with_reducible rfl | omega | skip))
            simp only [Act.put, List.setIfInBounds_toArray, List.set_cons_zero, List.set_cons_succ]
            refine wpAnyE_done (by kernel_rfl) ?_ _
            clear hHeld
            go_wp2
            go_ret
            exact ⟨by rw [HXX.out]; rfl, HFB.out _ HB6.out⟩
          · have HXX : Hid (chkR ⟨c, s, L⟩ = 120) := by show _ = _; rw [HCK.out, hcd, hmy, har, decide_eq_true hs, decide_eq_true hc]; rfl
            rw [decide_eq_false hc] at heq2
            clear hs hc hcd hmy har HCK
            generalize comSt c L = C at *
            refine wp_region_late (fun wx => wx.cell? ⟨w.heap.size, 0, none⟩ = some (.int .i64 c) ∧ wx.cell? ⟨w.heap.size, 1, none⟩ = some (.int .i64 s.1) ∧ wx.cell? ⟨w.heap.size, 2, none⟩ = some (.int .i64 s.2.1) ∧ wx.cell? ⟨w.heap.size, 3, none⟩ = some (.int .i64 s.2.2) ∧ wx.cell? ⟨w.heap.size, 4, none⟩ = some (.slice a L.length k)) 13 (by kernel_rfl) hS3 (fun hHeld => ?_)
            refine wpAnyE_tk (i := 0) (d := some 20) (v := ?_) rfl (by kernel_rfl) (by kernel_rfl) (by kernel_rfl) rfl (fun _ _ _ h => h) rfl rfl ?hy (by first | assumption | go_simp) ?_
            case hy => (intro w' hSw; (try dsimp only at hSw); go_simp <;> (first | with_reducible rfl | omega | skip))
            simp only [Act.put, List.setIfInBounds_toArray, List.set_cons_zero, List.set_cons_succ]
            refine wpAnyE_tk (i := 1) (d := some 21) (v := .agg #[.int .i64 s.1, .int .i64 s.2.1, .int .i64 s.2.2]) rfl (by kernel_rfl) (by kernel_rfl) (by kernel_rfl) rfl (fun _ _ _ h => h) rfl rfl ?hy (by first | assumption | go_simp) ?_
            case hy => (intro w' hSw; (try dsimp only at hSw); go_simp <;> (first | with_reducible rfl | omega | skip))
            simp only [Act.put, List.setIfInBounds_toArray, List.set_cons_zero, List.set_cons_succ]
            refine wpAnyE_on (i := 2) (by kernel_rfl) rfl rfl ?_
            go_simp
            refine Calls.mono (none_any w3.drew) ?_
            rintro e w4 ⟨rfl, hB4⟩
            have HB4 : Hid (Below W.heap.size W w4) := HB3.out.trans (((Below.refl _ w3).drew.trans hB4).mono HB3.out.size)
            have hS4 := HSS.out _ HB4.out
            clear hB4 hS3
            refine ⟨hS4, ?_⟩
            unfold stV
            refine wpAnyE_tk (i := 3) (d := some 23) (v := .bool true) rfl (by kernel_rfl) (by kernel_rfl) (by kernel_rfl) rfl (fun _ _ _ h => h) rfl rfl ?hy (by first | assumption | go_simp) ?_
            case hy => (intro w' hSw; (try dsimp only at hSw); go_simp <;> (first | with_reducible rfl | omega | skip))
            simp only [Act.put, List.setIfInBounds_toArray, List.set_cons_zero, List.set_cons_succ]
            refine wpAnyE_tk (i := 4) (d := some 24) (v := .bool true) rfl (by kernel_rfl) (by kernel_rfl) (by kernel_rfl) rfl (fun _ _ _ h => h) rfl rfl ?hy (by first | assumption | go_simp) ?_
            case hy => (intro w' hSw; (try dsimp only at hSw); go_simp <;> (first | with_reducible rfl | omega | skip))
            simp only [Act.put, List.setIfInBounds_toArray, List.set_cons_zero, List.set_cons_succ]
            refine wpAnyE_tk (i := 5) (d := some 25) (v := ?_) rfl (by kernel_rfl) (by kernel_rfl) (by kernel_rfl) rfl (fun _ _ _ h => h) rfl rfl ?hy (by first | assumption | go_simp) ?_
            case hy => (intro w' hSw; (try dsimp only at hSw); go_simp <;> (first | with_reducible rfl | omega | skip))
            simp only [Act.put, List.setIfInBounds_toArray, List.set_cons_zero, List.set_cons_succ]
            refine wpAnyE_tk (i := 6) (d := some 26) (v := ?_) rfl (by kernel_rfl) (by kernel_rfl) (by kernel_rfl) rfl (fun _ _ _ h => h) rfl rfl ?hy (by first | assumption | go_simp) ?_
            case hy => (intro w' hSw; (try dsimp only at hSw); go_simp <;> (first | with_reducible rfl | omega | skip))
            simp only [Act.put, List.setIfInBounds_toArray, List.set_cons_zero, List.set_cons_succ]
            refine wpAnyE_tk (i := 7) (d := some 27) (v := ?_) rfl (by kernel_rfl) (by kernel_rfl) (by kernel_rfl) rfl (fun _ _ _ h => h) rfl rfl ?hy (by first | assumption | go_simp) ?_
            case hy => (intro w' hSw; (try dsimp only at hSw); go_simp <;> (first | with_reducible rfl | omega | skip))
            simp only [Act.put, List.setIfInBounds_toArray, List.set_cons_zero, List.set_cons_succ]
            refine wpAnyE_tk (i := 8) (d := some 28) (v := ?_) rfl (by kernel_rfl) (by kernel_rfl) (by kernel_rfl) rfl (fun _ _ _ h => h) rfl rfl ?hy (by first | assumption | go_simp) ?_
            case hy => (intro w' hSw; (try dsimp only at hSw); go_simp <;> (first | with_reducible rfl | omega | skip))
            simp only [Act.put, List.setIfInBounds_toArray, List.set_cons_zero, List.set_cons_succ]
            refine wpAnyE_on (i := 9) (by kernel_rfl) rfl rfl ?_
            go_simp
            refine Calls.mono (HCO.out w4 HB4.out) ?_
            rintro e w5 ⟨rfl, hB5⟩
            have HB5 : Hid (Below W.heap.size W w5) := HB4.out.trans (hB5.mono HB4.out.size)
            have hS5 := HSS.out _ HB5.out
            clear hB5 hS4
            refine ⟨hS5, ?_⟩
            refine wpAnyE_on (i := 10) (by kernel_rfl) rfl rfl ?_
            go_simp
            refine Calls.mono (none_any w5) ?_
            rintro e w6 ⟨rfl, hB6⟩
            have HB6 : Hid (Below W.heap.size W w6) := HB5.out.trans (hB6.mono HB5.out.size)
            have hS6 := HSS.out _ HB6.out
            clear hB6 hS5
            refine ⟨hS6, ?_⟩
            unfold stV
            refine wpAnyE_tk (i := 11) (d := some 31) (v := .bool true) rfl (by kernel_rfl) (by kernel_rfl) (by kernel_rfl) rfl (fun _ _ _ h => h) rfl rfl ?hy (by first | assumption | go_simp) ?_
            case hy => (intro w' hSw; (try dsimp only at hSw); go_simp <;> (first | with_reducible rfl | omega | skip))
            simp only [Act.put, List.setIfInBounds_toArray, List.set_cons_zero, List.set_cons_succ]
            refine wpAnyE_tk (i := 12) (d := some 32) (v := .bool true) rfl (by kernel_rfl) (by kernel_rfl) (by kernel_rfl) rfl (fun _ _ _ h => h) rfl rfl ?hy (by first | assumption | go_simp) ?_
            case hy => (intro w' hSw; (try dsimp only at hSw); go_simp <;> (first | with_reducible rfl | omega | skip))
            simp only [Act.put, List.setIfInBounds_toArray, List.set_cons_zero, List.set_cons_succ]
            refine wpAnyE_done (by kernel_rfl) ?_ _
            clear hHeld
            go_wp2
            go_ret
            exact ⟨by rw [HXX.out]; rfl, HFB.out _ HB6.out⟩
        · have HXX : Hid (chkR ⟨c, s, L⟩ = 0) := by show _ = _; rw [HCK.out, hcd, hmy, har, decide_eq_false hs]; rfl
          rw [decide_eq_false hs] at heq
          clear hs hcd hmy har HCK
          refine wp_region_late (fun wx => wx.cell? ⟨w.heap.size, 0, none⟩ = some (.int .i64 c) ∧ wx.cell? ⟨w.heap.size, 1, none⟩ = some (.int .i64 s.1) ∧ wx.cell? ⟨w.heap.size, 2, none⟩ = some (.int .i64 s.2.1) ∧ wx.cell? ⟨w.heap.size, 3, none⟩ = some (.int .i64 s.2.2) ∧ wx.cell? ⟨w.heap.size, 4, none⟩ = some (.slice a L.length k)) 13 (by kernel_rfl) hS3 (fun hHeld => ?_)
          refine wpAnyE_tk (i := 0) (d := some 20) (v := ?_) rfl (by kernel_rfl) (by kernel_rfl) (by kernel_rfl) rfl (fun _ _ _ h => h) rfl rfl ?hy (by first | assumption | go_simp) ?_
          case hy => (intro w' hSw; (try dsimp only at hSw); go_simp <;> (first | with_reducible rfl | omega | skip))
          simp only [Act.put, List.setIfInBounds_toArray, List.set_cons_zero, List.set_cons_succ]
          refine wpAnyE_tk (i := 1) (d := some 21) (v := .agg #[.int .i64 s.1, .int .i64 s.2.1, .int .i64 s.2.2]) rfl (by kernel_rfl) (by kernel_rfl) (by kernel_rfl) rfl (fun _ _ _ h => h) rfl rfl ?hy (by first | assumption | go_simp) ?_
          case hy => (intro w' hSw; (try dsimp only at hSw); go_simp <;> (first | with_reducible rfl | omega | skip))
          simp only [Act.put, List.setIfInBounds_toArray, List.set_cons_zero, List.set_cons_succ]
          refine wpAnyE_on (i := 2) (by kernel_rfl) rfl rfl ?_
          go_simp
          refine Calls.mono (none_any w3.drew) ?_
          rintro e w4 ⟨rfl, hB4⟩
          have HB4 : Hid (Below W.heap.size W w4) := HB3.out.trans (((Below.refl _ w3).drew.trans hB4).mono HB3.out.size)
          have hS4 := HSS.out _ HB4.out
          clear hB4 hS3
          refine ⟨hS4, ?_⟩
          unfold stV
          refine wpAnyE_tk (i := 3) (d := some 23) (v := .bool false) rfl (by kernel_rfl) (by kernel_rfl) (by kernel_rfl) rfl (fun _ _ _ h => h) rfl rfl ?hy (by first | assumption | go_simp) ?_
          case hy => (intro w' hSw; (try dsimp only at hSw); go_simp <;> (first | with_reducible rfl | omega | skip))
          simp only [Act.put, List.setIfInBounds_toArray, List.set_cons_zero, List.set_cons_succ]
          refine wpAnyE_tk (i := 4) (d := some 24) (v := .bool false) rfl (by kernel_rfl) (by kernel_rfl) (by kernel_rfl) rfl (fun _ _ _ h => h) rfl rfl ?hy (by first | assumption | go_simp) ?_
          case hy => (intro w' hSw; (try dsimp only at hSw); go_simp <;> (first | with_reducible rfl | omega | skip))
          simp only [Act.put, List.setIfInBounds_toArray, List.set_cons_zero, List.set_cons_succ]
          refine wpAnyE_sk (i := 5) (d := some 25) rfl (by kernel_rfl) (by kernel_rfl) (by kernel_rfl) rfl (fun _ _ _ h => h) rfl rfl (by first | assumption | go_simp) ?_
          simp only [Act.put, List.setIfInBounds_toArray, List.set_cons_zero, List.set_cons_succ]
          refine wpAnyE_sk (i := 6) (d := some 26) rfl (by kernel_rfl) (by kernel_rfl) (by kernel_rfl) rfl (fun _ _ _ h => h) rfl rfl (by first | assumption | go_simp) ?_
          simp only [Act.put, List.setIfInBounds_toArray, List.set_cons_zero, List.set_cons_succ]
          refine wpAnyE_sk (i := 7) (d := some 27) rfl (by kernel_rfl) (by kernel_rfl) (by kernel_rfl) rfl (fun _ _ _ h => h) rfl rfl (by first | assumption | go_simp) ?_
          simp only [Act.put, List.setIfInBounds_toArray, List.set_cons_zero, List.set_cons_succ]
          refine wpAnyE_sk (i := 8) (d := some 28) rfl (by kernel_rfl) (by kernel_rfl) (by kernel_rfl) rfl (fun _ _ _ h => h) rfl rfl (by first | assumption | go_simp) ?_
          simp only [Act.put, List.setIfInBounds_toArray, List.set_cons_zero, List.set_cons_succ]
          refine wpAnyE_sk (i := 9) (d := some 29) rfl (by kernel_rfl) (by kernel_rfl) (by kernel_rfl) rfl (fun _ _ _ h => h) rfl rfl (by first | assumption | go_simp) ?_
          simp only [Act.put, List.setIfInBounds_toArray, List.set_cons_zero, List.set_cons_succ]
          refine wpAnyE_sk (i := 10) (d := some 30) rfl (by kernel_rfl) (by kernel_rfl) (by kernel_rfl) rfl (fun _ _ _ h => h) rfl rfl (by first | assumption | go_simp) ?_
          simp only [Act.put, List.setIfInBounds_toArray, List.set_cons_zero, List.set_cons_succ]
          refine wpAnyE_sk (i := 11) (d := some 31) rfl (by kernel_rfl) (by kernel_rfl) (by kernel_rfl) rfl (fun _ _ _ h => h) rfl rfl (by first | assumption | go_simp) ?_
          simp only [Act.put, List.setIfInBounds_toArray, List.set_cons_zero, List.set_cons_succ]
          refine wpAnyE_tk (i := 12) (d := some 32) (v := .bool false) rfl (by kernel_rfl) (by kernel_rfl) (by kernel_rfl) rfl (fun _ _ _ h => h) rfl rfl ?hy (by first | assumption | go_simp) ?_
          case hy => (intro w' hSw; (try dsimp only at hSw); go_simp <;> (first | with_reducible rfl | omega | skip))
          simp only [Act.put, List.setIfInBounds_toArray, List.set_cons_zero, List.set_cons_succ]
          refine wpAnyE_done (by kernel_rfl) ?_ _
          clear hHeld
          go_wp2
          go_ret
          exact ⟨by rw [HXX.out]; rfl, HFB.out _ HB4.out⟩
end Go.Proofs.YtbfgefgadplcjaaDoor
