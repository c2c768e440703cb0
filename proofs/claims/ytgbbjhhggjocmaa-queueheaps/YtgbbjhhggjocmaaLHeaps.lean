/-
  P7.5, P7.6: every script with two heaps by one order: all that is told; proved for every input.
-/
import Derived.Test.YtgbbjhhggjocmaaHsS
import Derived.Test.YtgbbjhhggjocmaaRows
import Derived.ProofKit
import Derived.ChangeMaps5
import Derived.OpenShut
import Derived.ShutString
import Derived.ChangeOld
import Derived.SizedLaws
namespace Go.Proofs.Ytgbbjhhggjocmaa.queueHeaps
open Go.ChangeShapes Go.WideShapes Go.ChangeAt Go.RowKit

set_option maxRecDepth 20000 in
set_option maxHeartbeats 4000000 in
theorem walk0 (a : Option Addr) (st : List (Int × Int × Int)) (c : Nat) (w : World) (h1 : Sg cel3 a st w) (hn : st.length ≤ 5864062014634) :
    Calls Try.prog 4 #[.slice a st.length c] w fun e w' => e = .returned (.bool true) ∧ Below w.heap.size w w' := by
  have HN : Hid (∀ wx, Calls Try.prog 22 #[.func (.func 23) #[] #[]] wx fun e w' => e = .returned (.pointer (some ⟨wx.heap.size, 0, none⟩)) ∧ Ht w' wx.heap.size 23 true [] 0 (.slice none 0 0) ∧ Below wx.heap.size wx w') := fun wx => (hnew_any 23 true bykey_cmp wx).mono (fun e w' hh => ⟨hh.1, Ht.new hh.2.1, hh.2.2⟩)
  have GN : Hid (∀ wx, Calls Try.prog 24 #[] wx fun e w' => e = .returned (.pointer (some ⟨wx.heap.size, 0, none⟩)) ∧ Gh w' wx.heap.size [] (.slice none 0 0) ∧ Below wx.heap.size wx w') := fun wx => rhnew_any wx
  have H1 : Hid (Sg cel3 a st w) := h1
  have hni : (st.length : Int) ≤ 5864062014634 := by omega
  clear h1
  go_enter Try.func4, Try.ntmps4
  go_wp2_with fail
  obtain ⟨W0, hW0⟩ : ∃ W0, W0 = (w.alloc (.cells #[.pointer none, .pointer none] 45)).alloc (.cells #[.pointer none, .pointer none] 47) := ⟨_, rfl⟩
  have HS0 : Hid (Hs w W0 w.heap.size (w.heap.size + 1) (fun _ => ⟨0, 0, 0, [], .slice none 0 0, .slice none 0 0⟩) 0 0) := by
    refine ⟨?_, ?_, fun i hi => absurd hi (by omega), fun i j hi => absurd hi (by omega), fun i hi => absurd hi (by omega), ?_, fun i hi => absurd hi (by omega), Nat.le_refl _, Nat.le_succ _, by omega, by omega⟩
    · rw [hW0]; exact (Lies.new w _ _).alloc _
    · have := Lies.new (w.alloc (.cells #[.pointer none, .pointer none] 45)) #[.pointer none, .pointer none] 47
      rw [World.size_alloc] at this
      rw [hW0]; exact this
    · rw [hW0]; exact ((Below.refl _ _).alloc (Nat.le_refl _) _).alloc (by simp) _
  rw [← hW0]
  clear hW0
  obtain ⟨BL, hBL⟩ : ∃ BL, BL = w.heap.size := ⟨_, rfl⟩
  obtain ⟨BM, hBM⟩ : ∃ BM, BM = w.heap.size + 1 := ⟨_, rfl⟩
  rw [← hBM, ← hBL] at HS0
  rw [← hBM, ← hBL]
  have HBL : Hid (BL = w.heap.size) := hBL
  have HBM : Hid (BM = w.heap.size + 1) := hBM
  clear hBL hBM
  go_loopw [19] (fun iv wr => ∃ (m : Nat) (D : Nat → Dt), iv = .int .i64 (m : Int) ∧ m ≤ 2 ∧ Hid (Hs w wr BL BM D 0 m)) (fun iv _ => 2 - (intOf iv).toNat)
  case atStart => exact ⟨0, _, rfl, by omega, HS0.out⟩
  case round =>
    obtain ⟨m, D, rfl, hm, HS⟩ := hrel
    clear HS0
    by_cases hlt : m < 2
    · have hmi : (m : Int) < 2 := by omega
      have hbl := HS.out.la.lt
      have hbm := HS.out.lm.lt
      have hbn := HS.out.bn
      have hbn2 := Ne.symm hbn
      clear hm
      go_wp2_with (first
        | (go_at_call 22; refine (HN.out _).mono ?_; rintro e w1 ⟨rfl, ht1, hb1⟩; have q1 := (HS.out.later hb1).cellA m hlt; have z1 := ((HS.out.later hb1).la.frozen m); have HT1 : Hid (Ht w1 wr.heap.size 23 true [] 0 (.slice none 0 0)) := ht1; have HB1 : Hid (Below wr.heap.size wr w1) := hb1; have HM1 : Hid (Lies w1 BM #[clM D m 0, clM D m 1] 47) := (HS.out.later hb1).lm; clear ht1 hb1)
        | (go_at_call 24; refine (GN.out _).mono ?_; rintro e w2 ⟨rfl, hg2, hb2⟩; have hl2 := (HM1.out.set_other (a := ⟨BL, m, none⟩) hbn2 (.pointer (some ⟨wr.heap.size, 0, none⟩))).below hb2 (by rw [World.size_setCell]; exact HM1.out.lt); have q2 := lies_two hl2 m hlt; have z2 := hl2.frozen m; have HG2 : Hid (Gh w2 w1.heap.size [] (.slice none 0 0)) := (by rw [World.size_setCell] at hg2; exact hg2); have HB2 : Hid (Below (w1.setCell ⟨BL, m, none⟩ (.pointer (some ⟨wr.heap.size, 0, none⟩))).heap.size (w1.setCell ⟨BL, m, none⟩ (.pointer (some ⟨wr.heap.size, 0, none⟩))) w2) := hb2; clear hg2 hb2 hl2))
      go_roundw
      case rel => exact ⟨m + 1, _, by go_num, by omega, Hs.put HS.out m (Nat.le_refl _) hlt wr.heap.size w1.heap.size (m + 1) (by omega) HB1.out HT1.out (Nat.le_refl _) HB2.out HG2.out (Nat.le_refl _) rfl⟩
      case measure => simp [intOf]; omega
    · obtain rfl : m = 2 := by omega
      clear hlt hm
      rw [show ((2 : Nat) : Int) = 2 from rfl]
      go_wp2_with fail
      have HS1 : Hid (Hs w wr BL BM D 0 2) := HS.out
      clear HS
      go_loopw [31] (fun iv wr => ∃ (k : Nat) (D : Nat → Dt), iv = .int .i64 (k : Int) ∧ k ≤ st.length ∧ Hid (Hs w wr BL BM D k 2)) (fun iv _ => st.length - (intOf iv).toNat)
      case atStart => exact ⟨0, D, rfl, Nat.zero_le _, HS1.out⟩
      case round =>
        obtain ⟨k, D, rfl, hk, HS⟩ := hrel
        clear HS1
        have hbl := HS.out.la.lt
        have hbm := HS.out.lm.lt
        have hbn := HS.out.bn
        have hbn2 := Ne.symm hbn
        by_cases hlt : k < st.length
        · obtain ⟨g1, o1, rfl, hg1, d0, d1, d2⟩ := (H1.out.later3 HS.out.bel).cell3 k hlt
          have hki : (k : Int) < (st.length : Int) := by omega
          obtain ⟨t, ht⟩ : ∃ t, t = st[k] := ⟨_, rfl⟩
          rw [← ht] at d0 d1 d2
          clear ht
          obtain ⟨T7, hT7⟩ : ∃ T7, T7 = wr.heap.size := ⟨_, rfl⟩
          obtain ⟨wo, hwo⟩ : ∃ wo, wo = wr.alloc (.cells #[.int .i64 t.1, .int .i64 t.2.1, .int .i64 t.2.2] 36) := ⟨_, rfl⟩
          have hbo : Below wr.heap.size wr wo := by rw [hwo]; exact (Below.refl _ _).alloc (Nat.le_refl _) _
          have HSO : Hid (Hs w wo BL BM D k 2) := HS.out.later hbo
          have HT7 : Hid (Lies wo T7 #[.int .i64 t.1, .int .i64 t.2.1, .int .i64 t.2.2] 36) := by rw [hwo, hT7]; exact Lies.new wr _ _
          have HWO : Hid (wr.alloc (.cells #[.int .i64 t.1, .int .i64 t.2.1, .int .i64 t.2.2] 36) = wo) := hwo.symm
          have HTW : Hid (wr.heap.size = T7) := hT7.symm
          have HZO : Hid (wo.heap.size = T7 + 1) := by rw [hwo, hT7]; simp [Hid]
          clear hwo hT7 hbo
          obtain ⟨who, dd, nn⟩ := t
          dsimp only at d0 d1 d2 HT7 HWO
          by_cases hneg : who < 0
          · go_wp2_with fail
            go_roundw
            case rel => exact ⟨k + 1, D, by go_num, by omega, by rw [HWO.out]; exact HSO.out.more⟩
            case measure => simp [intOf]; omega
          · by_cases hbig : 1 < who
            · go_wp2_with fail
              go_roundw
              case rel => exact ⟨k + 1, D, by go_num, by omega, by rw [HWO.out]; exact HSO.out.more⟩
              case measure => simp [intOf]; omega
            · obtain ⟨i, rfl⟩ : ∃ i : Nat, who = (i : Int) := ⟨who.toNat, by omega⟩
              have hi2 : i < 2 := by omega
              have hii : (i : Int) < 2 := by omega
              have cA : wr.cell? ⟨BL, i, none⟩ = some (.pointer (some ⟨(D i).h, 0, none⟩)) := by rw [HS.out.cellA i hi2, clA_at _ _ _ hi2]
              have cM : wr.cell? ⟨BM, i, none⟩ = some (.pointer (some ⟨(D i).g, 0, none⟩)) := by rw [HS.out.cellM i hi2, clM_at _ _ _ hi2]
              obtain ⟨d, hd⟩ : ∃ d, d = D i := ⟨_, rfl⟩
              rw [← hd] at cA cM
              have HD : Hid (d = D i) := hd
              have HPO : Hid (Pr wo d) := by rw [hd]; exact HSO.out.pr i hi2
              have HNP : Hid (d.np ≤ k) := by rw [hd]; exact HSO.out.nb i hi2
              have HK : Hid (k < st.length) := hlt
              have hBL7 : BL ≠ T7 := by have := HTW.out; omega
              have hBM7 : BM ≠ T7 := by have := HTW.out; omega
              clear hd hneg hbig
              by_cases hd0 : dd = 0
              · subst hd0
                have HFL : Hid (∀ q, Fd d q → q < T7) := by intro q hq; rw [HD.out] at hq; have := (HS.out.pr i hi2).lt q hq; have := HTW.out; omega

                go_wp2_with fail
                rw [HWO.out, HTW.out]
                obtain ⟨w2, hw2⟩ : ∃ w2, w2 = wo.alloc (.cells #[.int .i64 nn, .int .i64 (k : Int)] 31) := ⟨_, rfl⟩
                have hb2 : Below wo.heap.size wo w2 := by rw [hw2]; exact (Below.refl _ _).alloc (Nat.le_refl _) _
                have HX : Hid (Lies w2 (T7 + 1) #[.int .i64 nn, .int .i64 (k : Int)] 31) := by rw [hw2, ← HZO.out]; exact Lies.new wo _ _
                have HT2 : Hid (Lies w2 T7 #[.int .i64 (i : Int), .int .i64 0, .int .i64 nn] 36) := HT7.out.below hb2 HT7.out.lt
                have HP2 : Hid (Pr w2.drew d) := HPO.out.below hb2.drew
                have HS2 : Hid (Hs w w2.drew BL BM D k 2) := HSO.out.later hb2.drew
                rw [← hw2]
                clear hw2 hb2 HT7 HSO HPO HWO HTW HZO HS cA cM d0 d1 d2 hg1 hbl hbm
                by_cases hroom : d.M.length < 1048576
                · have HPU : Hid (Calls Try.prog 25 #[.pointer (some ⟨d.h, 0, none⟩), .agg #[.int .i64 nn, .int .i64 (k : Int)]] w2.drew fun e w' => e = .returned (.int .i64 0) ∧ ∃ v', Ht w' d.h 23 true (d.M ++ [((nn, (k : Int)), d.np)]) (d.np + 1) v' ∧ Chg (Fh d.h d.v) w2.drew w' ∧ (∀ q, v'.ownBlock = some q → d.v.ownBlock = some q ∨ w2.drew.heap.size ≤ q)) := hpush_t HP2.out.ht (nn, (k : Int)) hroom (by have := HNP.out; have := HK.out; omega)
                  have HGU : Hid (∀ wx, Gh wx d.g (d.M.map (·.1)) d.u → Calls Try.prog 26 #[.pointer (some ⟨d.g, 0, none⟩), .agg #[.int .i64 nn, .int .i64 (k : Int)]] wx fun e w' => e = .returned (.int .i64 0) ∧ ∃ u', Gh w' d.g (d.M.map (·.1) ++ [(nn, (k : Int))]) u' ∧ Chg (Fh d.g d.u) wx w' ∧ (∀ q, u'.ownBlock = some q → d.u.ownBlock = some q ∨ wx.heap.size ≤ q)) := fun wx h => rhpush_ok d.g _ d.u (nn, (k : Int)) wx h (by rw [List.length_map]; exact hroom)
                  refine wp_region_late (fun wx => wx.cell? ⟨T7 + 1, 0, none⟩ = some (.int .i64 nn) ∧ wx.cell? ⟨T7 + 1, 1, none⟩ = some (.int .i64 (k : Int))) 7 (by kernel_rfl) ⟨HX.out.cell 0, HX.out.cell 1⟩ (fun hHeld => ?_)
                  refine wpAnyE_tk (i := 0) (d := some 60) (v := ?_) rfl (by kernel_rfl) (by kernel_rfl) (by kernel_rfl) rfl (fun _ _ _ h => h) rfl rfl ?hy (by first | assumption | go_simp) ?_
                  case hy => (intro w' hSw; (try dsimp only at hSw); go_simp <;> (first | with_reducible rfl | omega | skip))
                  simp only [Act.put, List.setIfInBounds_toArray, List.set_cons_zero, List.set_cons_succ]
                  refine wpAnyE_tk (i := 1) (d := some 61) (v := .agg #[.int .i64 nn, .int .i64 (k : Int)]) rfl (by kernel_rfl) (by kernel_rfl) (by kernel_rfl) rfl (fun _ _ _ h => h) rfl rfl ?hy (by first | assumption | go_simp) ?_
                  case hy => (intro w' hSw; (try dsimp only at hSw); go_simp <;> (first | with_reducible rfl | omega | skip))
                  simp only [Act.put, List.setIfInBounds_toArray, List.set_cons_zero, List.set_cons_succ]
                  refine wpAnyE_tk (i := 3) (d := some 63) (v := ?_) rfl (by kernel_rfl) (by kernel_rfl) (by kernel_rfl) rfl (fun _ _ _ h => h) rfl rfl ?hy (by first | assumption | go_simp) ?_
                  case hy => (intro w' hSw; (try dsimp only at hSw); go_simp <;> (first | with_reducible rfl | omega | skip))
                  simp only [Act.put, List.setIfInBounds_toArray, List.set_cons_zero, List.set_cons_succ]
                  refine wpAnyE_tk (i := 4) (d := some 64) (v := .agg #[.int .i64 nn, .int .i64 (k : Int)]) rfl (by kernel_rfl) (by kernel_rfl) (by kernel_rfl) rfl (fun _ _ _ h => h) rfl rfl ?hy (by first | assumption | go_simp) ?_
                  case hy => (intro w' hSw; (try dsimp only at hSw); go_simp <;> (first | with_reducible rfl | omega | skip))
                  simp only [Act.put, List.setIfInBounds_toArray, List.set_cons_zero, List.set_cons_succ]
                  refine wpAnyE_on (i := 2) (by kernel_rfl) rfl rfl ?_
                  go_simp

                  refine Calls.mono HPU.out ?_
                  rintro e w3 ⟨rfl, v3, h3, c3, q3⟩
                  have hX3 := c3.lies (HX.out.drewN 1) (fun hk => by have := HFL.out _ (.inl hk); omega)
                  have hT3 := c3.lies (HT2.out.drewN 1) (fun hk => by have := HFL.out _ (.inl hk); omega)
                  refine ⟨⟨hX3.cell 0, hX3.cell 1⟩, ?_⟩
                  refine wpAnyE_on (i := 5) (by kernel_rfl) rfl rfl ?_
                  go_simp

                  refine Calls.mono (HGU.out w3 (HP2.out.gh.chg c3 (fun q hq hf => HP2.out.ap q hf hq))) ?_
                  rintro e wz ⟨rfl, u4, h4, c4, q4⟩
                  have hX4 := c4.lies hX3 (fun hk => by have := HFL.out _ (.inr hk); omega)
                  have hT4 := c4.lies hT3 (fun hk => by have := HFL.out _ (.inr hk); omega)
                  obtain ⟨p1, p2, p3⟩ := HP2.out.both h3 c3 q3 (Below.refl _ _) (by rw [List.map_append]; exact h4) c4 q4
                  refine ⟨⟨hX4.cell 0, hX4.cell 1⟩, ?_⟩
                  obtain ⟨D', hD'⟩ : ∃ D', D' = upd7 D i ⟨d.h, d.g, d.np + 1, d.M ++ [((nn, (k : Int)), d.np)], v3, u4⟩ := ⟨_, rfl⟩
                  have HSZ : Hid (Hs w wz BL BM D' (k + 1) 2) := by rw [hD']; exact HS2.out.step i hi2 _ (by rw [← HD.out]) (by rw [← HD.out]) p1 (by rw [← HD.out]; exact p2) (by rw [← HD.out]; exact p3) (k + 1) (Nat.le_succ _) (by have := HNP.out; show d.np + 1 ≤ _; omega)
                  have HT7 : Hid (Lies wz T7 #[.int .i64 (i : Int), .int .i64 0, .int .i64 nn] 36) := hT4
                  have hSX : wz.cell? ⟨T7 + 1, 0, none⟩ = some (.int .i64 nn) ∧ wz.cell? ⟨T7 + 1, 1, none⟩ = some (.int .i64 (k : Int)) := ⟨hX4.cell 0, hX4.cell 1⟩
                  clear h3 c3 q3 h4 c4 q4 p1 p2 p3 hX3 hT3 hX4 hT4 hD' HS2 HP2 HX HT2 HPU HGU
                  refine wpAnyE_on (i := 6) (by kernel_rfl) rfl rfl ?_
                  go_simp

                  first | refine wpAnyE_done (by kernel_rfl) ?_ _ | refine ⟨hSX, wpAnyE_done (by kernel_rfl) ?_ _⟩
                  clear hHeld hSX
                  go_wp2_with fail
                  have hD' := HSZ.out.pr i hi2
                  have t0 : wz.cell? ⟨T7, 0, none⟩ = some (.int .i64 (i : Int)) := HT7.out.cell 0
                  have a0 : wz.cell? ⟨BL, i, none⟩ = some (.pointer (some ⟨(D' i).h, 0, none⟩)) := by rw [HSZ.out.cellA i hi2, clA_at _ _ _ hi2]
                  have m0 : wz.cell? ⟨BM, i, none⟩ = some (.pointer (some ⟨(D' i).g, 0, none⟩)) := by rw [HSZ.out.cellM i hi2, clM_at _ _ _ hi2]
                  have HL1 : Hid (∀ m, Calls Try.prog 31 #[.pointer (some ⟨(D' i).h, 0, none⟩)] (wz.drewN m) fun e w' => e = .returned (.int .i64 ((D' i).M.length : Int)) ∧ w' = wz.drewN m) := fun m => hlen_t (hD'.ht.below (below_drewN wz m))
                  have HL2 : Hid (∀ m, Calls Try.prog 32 #[.pointer (some ⟨(D' i).g, 0, none⟩)] (wz.drewN m) fun e w' => e = .returned (.int .i64 ((D' i).M.length : Int)) ∧ w' = wz.drewN m) := fun m => by have := rhlen_any _ _ _ _ (hD'.gh.below (below_drewN wz m)); rw [List.length_map] at this; exact this
                  clear hD'
                  generalize (D' i).h = hbZ at *
                  generalize (D' i).g = gbZ at *
                  generalize (D' i).M.length = lnZ at *
                  go_quiet (first | (go_at_call 31; refine Calls.quiet_of_same (HL1.out _)) | (go_at_call 32; refine Calls.quiet_of_same (HL2.out _)))
                  go_wp2
                  go_roundw
                  case rel => exact ⟨k + 1, D', by go_num, by omega, HSZ.out.later (below_drewN wz _)⟩
                  case measure => simp [intOf]; omega

                · have hfull : d.M.length = 1048576 := by have := HP2.out.ht.len; omega
                  have HPU : Hid (Calls Try.prog 25 #[.pointer (some ⟨d.h, 0, none⟩), .agg #[.int .i64 nn, .int .i64 (k : Int)]] w2.drew fun e w' => e = .returned (.int .i64 4) ∧ Below w2.drew.heap.size w2.drew w') := hfull_t HP2.out.ht (nn, (k : Int)) hfull
                  have HGU : Hid (∀ wx, Gh wx d.g (d.M.map (·.1)) d.u → Calls Try.prog 26 #[.pointer (some ⟨d.g, 0, none⟩), .agg #[.int .i64 nn, .int .i64 (k : Int)]] wx fun e w' => e = .returned (.int .i64 4) ∧ Below wx.heap.size wx w') := fun wx h => rhpush_full d.g _ d.u (nn, (k : Int)) wx h (by rw [List.length_map]; exact hfull)
                  clear hfull hroom
                  refine wp_region_late (fun wx => wx.cell? ⟨T7 + 1, 0, none⟩ = some (.int .i64 nn) ∧ wx.cell? ⟨T7 + 1, 1, none⟩ = some (.int .i64 (k : Int))) 7 (by kernel_rfl) ⟨HX.out.cell 0, HX.out.cell 1⟩ (fun hHeld => ?_)
                  refine wpAnyE_tk (i := 0) (d := some 60) (v := ?_) rfl (by kernel_rfl) (by kernel_rfl) (by kernel_rfl) rfl (fun _ _ _ h => h) rfl rfl ?hy (by first | assumption | go_simp) ?_
                  case hy => (intro w' hSw; (try dsimp only at hSw); go_simp <;> (first | with_reducible rfl | omega | skip))
                  simp only [Act.put, List.setIfInBounds_toArray, List.set_cons_zero, List.set_cons_succ]
                  refine wpAnyE_tk (i := 1) (d := some 61) (v := .agg #[.int .i64 nn, .int .i64 (k : Int)]) rfl (by kernel_rfl) (by kernel_rfl) (by kernel_rfl) rfl (fun _ _ _ h => h) rfl rfl ?hy (by first | assumption | go_simp) ?_
                  case hy => (intro w' hSw; (try dsimp only at hSw); go_simp <;> (first | with_reducible rfl | omega | skip))
                  simp only [Act.put, List.setIfInBounds_toArray, List.set_cons_zero, List.set_cons_succ]
                  refine wpAnyE_tk (i := 3) (d := some 63) (v := ?_) rfl (by kernel_rfl) (by kernel_rfl) (by kernel_rfl) rfl (fun _ _ _ h => h) rfl rfl ?hy (by first | assumption | go_simp) ?_
                  case hy => (intro w' hSw; (try dsimp only at hSw); go_simp <;> (first | with_reducible rfl | omega | skip))
                  simp only [Act.put, List.setIfInBounds_toArray, List.set_cons_zero, List.set_cons_succ]
                  refine wpAnyE_tk (i := 4) (d := some 64) (v := .agg #[.int .i64 nn, .int .i64 (k : Int)]) rfl (by kernel_rfl) (by kernel_rfl) (by kernel_rfl) rfl (fun _ _ _ h => h) rfl rfl ?hy (by first | assumption | go_simp) ?_
                  case hy => (intro w' hSw; (try dsimp only at hSw); go_simp <;> (first | with_reducible rfl | omega | skip))
                  simp only [Act.put, List.setIfInBounds_toArray, List.set_cons_zero, List.set_cons_succ]
                  refine wpAnyE_on (i := 2) (by kernel_rfl) rfl rfl ?_
                  go_simp

                  refine Calls.mono HPU.out ?_
                  rintro e w3 ⟨rfl, b3⟩
                  have hX3 := (HX.out.drewN 1).below b3 HX.out.lt
                  have hT3 := (HT2.out.drewN 1).below b3 HT2.out.lt
                  refine ⟨⟨hX3.cell 0, hX3.cell 1⟩, ?_⟩
                  refine wpAnyE_on (i := 5) (by kernel_rfl) rfl rfl ?_
                  go_simp

                  refine Calls.mono (HGU.out w3 (HP2.out.gh.below b3)) ?_
                  rintro e wz ⟨rfl, b4⟩
                  have hX4 := hX3.below b4 hX3.lt
                  have hT4 := hT3.below b4 hT3.lt
                  refine ⟨⟨hX4.cell 0, hX4.cell 1⟩, ?_⟩
                  obtain ⟨D', hD'⟩ : ∃ D', D' = D := ⟨_, rfl⟩
                  have HSZ : Hid (Hs w wz BL BM D' (k + 1) 2) := by rw [hD']; exact ((HS2.out.later b3).later b4).more
                  have HT7 : Hid (Lies wz T7 #[.int .i64 (i : Int), .int .i64 0, .int .i64 nn] 36) := hT4
                  have hSX : wz.cell? ⟨T7 + 1, 0, none⟩ = some (.int .i64 nn) ∧ wz.cell? ⟨T7 + 1, 1, none⟩ = some (.int .i64 (k : Int)) := ⟨hX4.cell 0, hX4.cell 1⟩
                  clear b3 b4 hX3 hT3 hX4 hT4 hD' HS2 HP2 HX HT2 HPU HGU
                  refine wpAnyE_on (i := 6) (by kernel_rfl) rfl rfl ?_
                  go_simp

                  first | refine wpAnyE_done (by kernel_rfl) ?_ _ | refine ⟨hSX, wpAnyE_done (by kernel_rfl) ?_ _⟩
                  clear hHeld hSX
                  go_wp2_with fail
                  have hD' := HSZ.out.pr i hi2
                  have t0 : wz.cell? ⟨T7, 0, none⟩ = some (.int .i64 (i : Int)) := HT7.out.cell 0
                  have a0 : wz.cell? ⟨BL, i, none⟩ = some (.pointer (some ⟨(D' i).h, 0, none⟩)) := by rw [HSZ.out.cellA i hi2, clA_at _ _ _ hi2]
                  have m0 : wz.cell? ⟨BM, i, none⟩ = some (.pointer (some ⟨(D' i).g, 0, none⟩)) := by rw [HSZ.out.cellM i hi2, clM_at _ _ _ hi2]
                  have HL1 : Hid (∀ m, Calls Try.prog 31 #[.pointer (some ⟨(D' i).h, 0, none⟩)] (wz.drewN m) fun e w' => e = .returned (.int .i64 ((D' i).M.length : Int)) ∧ w' = wz.drewN m) := fun m => hlen_t (hD'.ht.below (below_drewN wz m))
                  have HL2 : Hid (∀ m, Calls Try.prog 32 #[.pointer (some ⟨(D' i).g, 0, none⟩)] (wz.drewN m) fun e w' => e = .returned (.int .i64 ((D' i).M.length : Int)) ∧ w' = wz.drewN m) := fun m => by have := rhlen_any _ _ _ _ (hD'.gh.below (below_drewN wz m)); rw [List.length_map] at this; exact this
                  clear hD'
                  generalize (D' i).h = hbZ at *
                  generalize (D' i).g = gbZ at *
                  generalize (D' i).M.length = lnZ at *
                  go_quiet (first | (go_at_call 31; refine Calls.quiet_of_same (HL1.out _)) | (go_at_call 32; refine Calls.quiet_of_same (HL2.out _)))
                  go_wp2
                  go_roundw
                  case rel => exact ⟨k + 1, D', by go_num, by omega, HSZ.out.later (below_drewN wz _)⟩
                  case measure => simp [intOf]; omega
              · have hd0' : (dd == 0) = false := by simpa using hd0
                by_cases hd1 : dd = 1
                · subst hd1
                  have HFL : Hid (∀ q, Fd d q → q < T7) := by intro q hq; rw [HD.out] at hq; have := (HS.out.pr i hi2).lt q hq; have := HTW.out; omega

                  obtain ⟨x, hx⟩ : ∃ x, x = topM true d.M := ⟨_, rfl⟩
                  obtain ⟨bb, hbb⟩ : ∃ bb, bb = !d.M.isEmpty := ⟨_, rfl⟩
                  have hinc := HPO.out.ht.inc
                  have hem : (d.M.map (·.1)).isEmpty = d.M.isEmpty := by cases d.M <;> rfl
                  have hlid : (d.M.map (·.1)).length ≤ 1048576 := by rw [List.length_map]; exact HPO.out.ht.len
                  have HPP : Hid (Calls Try.prog 27 #[.pointer (some ⟨d.h, 0, none⟩)] wo fun e w' => e = .returned (.tuple #[.agg #[.int .i64 x.1, .int .i64 x.2], .bool bb]) ∧ ∃ v', Ht w' d.h 23 true (resM true d.M) d.np v' ∧ Chg (Fh d.h d.v) wo w' ∧ v'.ownBlock = d.v.ownBlock) := by have := hpop_t HPO.out.ht; rw [← hx, ← hbb] at this; exact this
                  have HGP : Hid (∀ wx, Gh wx d.g (d.M.map (·.1)) d.u → Calls Try.prog 28 #[.pointer (some ⟨d.g, 0, none⟩)] wx fun e w' => e = .returned (.tuple #[.agg #[.int .i64 x.1, .int .i64 x.2], .bool bb]) ∧ ∃ u', Gh w' d.g ((resM true d.M).map (·.1)) u' ∧ Chg (Fh d.g d.u) wx w' ∧ (∀ q, u'.ownBlock = some q → d.u.ownBlock = some q ∨ wx.heap.size ≤ q)) := fun wx h => by have := rhpop_any d.g _ d.u wx h hlid; rw [rTop_eq hinc, rRes_eq hinc, hem, ← hx, ← hbb] at this; exact this
                  clear hx hbb hinc hem hlid
                  go_wp2_with (first
                    | (go_at_call 27; rw [HWO.out]; refine HPP.out.mono ?_; clear HPP; rintro e w3 ⟨rfl, v3, h3, c3, o3⟩; have HG3 : Hid (Gh (w3.alloc (.cells #[.int .i64 x.1, .int .i64 x.2] 31)) d.g (d.M.map (·.1)) d.u) := (HPO.out.gh.chg c3 (fun q hq hf => HPO.out.ap q hf hq)).below ((Below.refl _ _).alloc (Nat.le_refl _) _); have H3 : Hid (Ht w3 d.h 23 true (resM true d.M) d.np v3) := h3; have C3 : Hid (Chg (Fh d.h d.v) wo w3) := c3; have O3 : Hid (v3.ownBlock = d.v.ownBlock) := o3; have HX3 : Hid (Lies (w3.alloc (.cells #[.int .i64 x.1, .int .i64 x.2] 31)) w3.heap.size #[.int .i64 x.1, .int .i64 x.2] 31) := Lies.new w3 _ _; have HT3 : Hid (Lies (w3.alloc (.cells #[.int .i64 x.1, .int .i64 x.2] 31)) T7 #[.int .i64 (i : Int), .int .i64 1, .int .i64 nn] 36) := (c3.lies HT7.out (fun hk => by have := HFL.out _ (.inl hk); omega)).alloc _; have HZ3 : Hid (T7 + 1 ≤ w3.heap.size) := (by have := c3.size; rw [HZO.out] at this; exact this); clear h3 c3 o3)
                    | (go_at_call 28; refine (HGP.out _ HG3.out).mono ?_; clear HGP; rintro e w4 ⟨rfl, u4, h4, c4, q4⟩; have hX4 := (c4.lies HX3.out (fun hk => by have := HFL.out _ (.inr hk); have := HZ3.out; omega)).alloc (.cells #[.int .i64 x.1, .int .i64 x.2] 31); have HT4 : Hid (Lies (w4.alloc (.cells #[.int .i64 x.1, .int .i64 x.2] 31)) T7 #[.int .i64 (i : Int), .int .i64 1, .int .i64 nn] 36) := (c4.lies HT3.out (fun hk => by have := HFL.out _ (.inr hk); omega)).alloc _; have hY4 := Lies.new w4 #[.int .i64 x.1, .int .i64 x.2] 31; have n0 := hX4.cell 0; have n1 := hX4.cell 1; have m0 := hY4.cell 0; have m1 := hY4.cell 1; simp only [List.getElem?_toArray, List.getElem?_cons_zero, List.getElem?_cons_succ] at n0 n1 m0 m1; have H4 : Hid (Gh w4 d.g ((resM true d.M).map (·.1)) u4) := h4; have C4 : Hid (Chg (Fh d.g d.u) (w3.alloc (.cells #[.int .i64 x.1, .int .i64 x.2] 31)) w4) := c4; have Q4 : Hid (∀ q, u4.ownBlock = some q → d.u.ownBlock = some q ∨ (w3.alloc (.cells #[.int .i64 x.1, .int .i64 x.2] 31)).heap.size ≤ q) := q4; clear h4 c4 q4 hX4 hY4))
                  obtain ⟨p1, p2, p3⟩ := HPO.out.both H3.out C3.out (fun q hq => .inl (by rw [← O3.out]; exact hq)) ((Below.refl _ _).alloc (Nat.le_refl _) _) H4.out C4.out Q4.out
                  obtain ⟨D', hD'⟩ : ∃ D', D' = upd7 D i ⟨d.h, d.g, d.np, resM true d.M, v3, u4⟩ := ⟨_, rfl⟩
                  obtain ⟨wz, hwz⟩ : ∃ wz, wz = w4.alloc (.cells #[.int .i64 x.1, .int .i64 x.2] 31) := ⟨_, rfl⟩
                  have HSZ : Hid (Hs w wz BL BM D' (k + 1) 2) := by rw [hD', hwz]; exact (HSO.out.step i hi2 _ (by rw [← HD.out]) (by rw [← HD.out]) p1 (by rw [← HD.out]; exact p2) (by rw [← HD.out]; exact p3) (k + 1) (Nat.le_succ _) (by have := HNP.out; show d.np ≤ _; omega)).later ((Below.refl _ _).alloc (Nat.le_refl _) _)
                  rw [HTW.out, ← hwz]
                  rw [← hwz] at HT4
                  clear HT7
                  have HT7 := HT4
                  clear p1 p2 p3 hwz hD' HT4 H3 C3 O3 H4 C4 Q4 HG3 HX3 HT3 HZ3 HSO HPO HWO HTW HZO HS cA cM d0 d1 d2 hg1 hbl hbm n0 n1 m0 m1
                  have hD' := HSZ.out.pr i hi2
                  have t0 : wz.cell? ⟨T7, 0, none⟩ = some (.int .i64 (i : Int)) := HT7.out.cell 0
                  have a0 : wz.cell? ⟨BL, i, none⟩ = some (.pointer (some ⟨(D' i).h, 0, none⟩)) := by rw [HSZ.out.cellA i hi2, clA_at _ _ _ hi2]
                  have m0 : wz.cell? ⟨BM, i, none⟩ = some (.pointer (some ⟨(D' i).g, 0, none⟩)) := by rw [HSZ.out.cellM i hi2, clM_at _ _ _ hi2]
                  have HL1 : Hid (∀ m, Calls Try.prog 31 #[.pointer (some ⟨(D' i).h, 0, none⟩)] (wz.drewN m) fun e w' => e = .returned (.int .i64 ((D' i).M.length : Int)) ∧ w' = wz.drewN m) := fun m => hlen_t (hD'.ht.below (below_drewN wz m))
                  have HL2 : Hid (∀ m, Calls Try.prog 32 #[.pointer (some ⟨(D' i).g, 0, none⟩)] (wz.drewN m) fun e w' => e = .returned (.int .i64 ((D' i).M.length : Int)) ∧ w' = wz.drewN m) := fun m => by have := rhlen_any _ _ _ _ (hD'.gh.below (below_drewN wz m)); rw [List.length_map] at this; exact this
                  clear hD'
                  generalize (D' i).h = hbZ at *
                  generalize (D' i).g = gbZ at *
                  generalize (D' i).M.length = lnZ at *
                  go_quiet (first | (go_at_call 31; refine Calls.quiet_of_same (HL1.out _)) | (go_at_call 32; refine Calls.quiet_of_same (HL2.out _)))
                  go_wp2
                  go_roundw
                  case rel => exact ⟨k + 1, D', by go_num, by omega, HSZ.out.later (below_drewN wz _)⟩
                  case measure => simp [intOf]; omega
                · have hd1' : (dd == 1) = false := by simpa using hd1
                  by_cases hd2 : dd = 2
                  · subst hd2
                    have HFL : Hid (∀ q, Fd d q → q < T7) := by intro q hq; rw [HD.out] at hq; have := (HS.out.pr i hi2).lt q hq; have := HTW.out; omega

                    obtain ⟨x, hx⟩ : ∃ x, x = topM true d.M := ⟨_, rfl⟩
                    obtain ⟨bb, hbb⟩ : ∃ bb, bb = !d.M.isEmpty := ⟨_, rfl⟩
                    have hinc := HPO.out.ht.inc
                    have hem : (d.M.map (·.1)).isEmpty = d.M.isEmpty := by cases d.M <;> rfl
                    have hlid : (d.M.map (·.1)).length ≤ 1048576 := by rw [List.length_map]; exact HPO.out.ht.len
                    have HPP : Hid (Calls Try.prog 29 #[.pointer (some ⟨d.h, 0, none⟩)] wo fun e w' => e = .returned (.tuple #[.agg #[.int .i64 x.1, .int .i64 x.2], .bool bb]) ∧ Below wo.heap.size wo w') := by have := hpeek_t HPO.out.ht; rw [← hx, ← hbb] at this; exact this
                    have HGP : Hid (∀ wx, Gh wx d.g (d.M.map (·.1)) d.u → Calls Try.prog 30 #[.pointer (some ⟨d.g, 0, none⟩)] wx fun e w' => e = .returned (.tuple #[.agg #[.int .i64 x.1, .int .i64 x.2], .bool bb]) ∧ Below wx.heap.size wx w') := fun wx h => by have := rhpeek_any d.g _ d.u wx h hlid; rw [rTop_eq hinc, hem, ← hx, ← hbb] at this; exact this
                    clear hx hbb hinc hem hlid
                    go_wp2_with (first
                      | (go_at_call 29; rw [HWO.out]; refine HPP.out.mono ?_; clear HPP; rintro e w3 ⟨rfl, b3⟩; have HG3 : Hid (Gh (w3.alloc (.cells #[.int .i64 x.1, .int .i64 x.2] 31)) d.g (d.M.map (·.1)) d.u) := (HPO.out.gh.below b3).below ((Below.refl _ _).alloc (Nat.le_refl _) _); have B3 : Hid (Below wo.heap.size wo w3) := b3; have HX3 : Hid (Lies (w3.alloc (.cells #[.int .i64 x.1, .int .i64 x.2] 31)) w3.heap.size #[.int .i64 x.1, .int .i64 x.2] 31) := Lies.new w3 _ _; have HT3 : Hid (Lies (w3.alloc (.cells #[.int .i64 x.1, .int .i64 x.2] 31)) T7 #[.int .i64 (i : Int), .int .i64 2, .int .i64 nn] 36) := (HT7.out.below b3 HT7.out.lt).alloc _; clear b3)
                      | (go_at_call 30; refine (HGP.out _ HG3.out).mono ?_; clear HGP; rintro e w4 ⟨rfl, b4⟩; have hX4 := (HX3.out.below b4 HX3.out.lt).alloc (.cells #[.int .i64 x.1, .int .i64 x.2] 31); have HT4 : Hid (Lies (w4.alloc (.cells #[.int .i64 x.1, .int .i64 x.2] 31)) T7 #[.int .i64 (i : Int), .int .i64 2, .int .i64 nn] 36) := (HT3.out.below b4 HT3.out.lt).alloc _; have hY4 := Lies.new w4 #[.int .i64 x.1, .int .i64 x.2] 31; have n0 := hX4.cell 0; have n1 := hX4.cell 1; have m0 := hY4.cell 0; have m1 := hY4.cell 1; simp only [List.getElem?_toArray, List.getElem?_cons_zero, List.getElem?_cons_succ] at n0 n1 m0 m1; have B4 : Hid (Below (w3.alloc (.cells #[.int .i64 x.1, .int .i64 x.2] 31)).heap.size (w3.alloc (.cells #[.int .i64 x.1, .int .i64 x.2] 31)) w4) := b4; clear b4 hX4 hY4))
                    obtain ⟨D', hD'⟩ : ∃ D', D' = D := ⟨_, rfl⟩
                    obtain ⟨wz, hwz⟩ : ∃ wz, wz = w4.alloc (.cells #[.int .i64 x.1, .int .i64 x.2] 31) := ⟨_, rfl⟩
                    have HSZ : Hid (Hs w wz BL BM D' (k + 1) 2) := by rw [hD', hwz]; exact ((((HSO.out.later B3.out).later ((Below.refl _ _).alloc (Nat.le_refl _) _)).later B4.out).later ((Below.refl _ _).alloc (Nat.le_refl _) _)).more
                    rw [HTW.out, ← hwz]
                    rw [← hwz] at HT4
                    clear HT7
                    have HT7 := HT4
                    clear hwz hD' HT4 B3 B4 HG3 HX3 HT3 HSO HPO HWO HTW HZO HS cA cM d0 d1 d2 hg1 hbl hbm n0 n1 m0 m1
                    have hD' := HSZ.out.pr i hi2
                    have t0 : wz.cell? ⟨T7, 0, none⟩ = some (.int .i64 (i : Int)) := HT7.out.cell 0
                    have a0 : wz.cell? ⟨BL, i, none⟩ = some (.pointer (some ⟨(D' i).h, 0, none⟩)) := by rw [HSZ.out.cellA i hi2, clA_at _ _ _ hi2]
                    have m0 : wz.cell? ⟨BM, i, none⟩ = some (.pointer (some ⟨(D' i).g, 0, none⟩)) := by rw [HSZ.out.cellM i hi2, clM_at _ _ _ hi2]
                    have HL1 : Hid (∀ m, Calls Try.prog 31 #[.pointer (some ⟨(D' i).h, 0, none⟩)] (wz.drewN m) fun e w' => e = .returned (.int .i64 ((D' i).M.length : Int)) ∧ w' = wz.drewN m) := fun m => hlen_t (hD'.ht.below (below_drewN wz m))
                    have HL2 : Hid (∀ m, Calls Try.prog 32 #[.pointer (some ⟨(D' i).g, 0, none⟩)] (wz.drewN m) fun e w' => e = .returned (.int .i64 ((D' i).M.length : Int)) ∧ w' = wz.drewN m) := fun m => by have := rhlen_any _ _ _ _ (hD'.gh.below (below_drewN wz m)); rw [List.length_map] at this; exact this
                    clear hD'
                    generalize (D' i).h = hbZ at *
                    generalize (D' i).g = gbZ at *
                    generalize (D' i).M.length = lnZ at *
                    go_quiet (first | (go_at_call 31; refine Calls.quiet_of_same (HL1.out _)) | (go_at_call 32; refine Calls.quiet_of_same (HL2.out _)))
                    go_wp2
                    go_roundw
                    case rel => exact ⟨k + 1, D', by go_num, by omega, HSZ.out.later (below_drewN wz _)⟩
                    case measure => simp [intOf]; omega
                  · have hd2' : (dd == 2) = false := by simpa using hd2
                    by_cases hd3 : dd = 3
                    · subst hd3
                      have HFL : Hid (∀ q, Fd d q → q < T7) := by intro q hq; rw [HD.out] at hq; have := (HS.out.pr i hi2).lt q hq; have := HTW.out; omega

                      go_wp2_with fail
                      rw [HWO.out, HTW.out]
                      have t0 : wo.cell? ⟨T7, 0, none⟩ = some (.int .i64 (i : Int)) := HT7.out.cell 0
                      have HSP := HSO.out.later (below_drewN wo 1)
                      clear HSO HPO HWO HTW HS cA cM d0 d1 d2 hg1
                      refine wp_region_late (fun wx => wx.cell? ⟨T7, 0, none⟩ = some (.int .i64 (i : Int))) 5 (by kernel_rfl) (t0) (fun hHeld => ?_)
                      refine wpAnyE_tk (i := 0) (d := some 109) (v := ?_) rfl (by kernel_rfl) (by kernel_rfl) (by kernel_rfl) rfl (fun _ _ _ h => h) rfl rfl ?hy (by first | assumption | go_simp) ?_
                      case hy => (intro w' hSw; (try dsimp only at hSw); go_simp <;> (first | with_reducible rfl | omega | skip))
                      simp only [Act.put, List.setIfInBounds_toArray, List.set_cons_zero, List.set_cons_succ]
                      refine wpAnyE_tk (i := 1) (d := some 110) (v := ?_) rfl (by kernel_rfl) (by kernel_rfl) (by kernel_rfl) rfl (fun _ _ _ h => h) rfl rfl ?hy (by first | assumption | go_simp) ?_
                      case hy => (intro w' hSw; (try dsimp only at hSw); go_simp <;> (first | with_reducible rfl | omega | skip))
                      simp only [Act.put, List.setIfInBounds_toArray, List.set_cons_zero, List.set_cons_succ]
                      refine wpAnyE_on (i := 2) (by kernel_rfl) rfl rfl ?_
                      go_simp

                      refine Calls.mono (HN.out _) ?_
                      rintro e w1 ⟨rfl, ht1, hb1⟩
                      have hT1 := (HT7.out.drewN 1).below hb1 HT7.out.lt
                      have HS1 : Hid (Hs w w1 BL BM D k 2) := HSP.later hb1
                      have q1 := HS1.out.cellA i hi2
                      have z1 := HS1.out.la.frozen i
                      have u1 : w1.cell? ⟨T7, 0, none⟩ = some (.int .i64 (i : Int)) := hT1.cell 0
                      refine ⟨u1, ?_⟩
                      refine wpAnyE_on (i := 3) (by kernel_rfl) rfl rfl ?_
                      go_simp
                      refine wpAnyE_on (i := 4) (by kernel_rfl) rfl rfl ?_
                      go_simp

                      have hw2 : ∃ w2, w2 = w1.setCell ⟨BL, i, none⟩ (.pointer (some ⟨wo.heap.size, 0, none⟩)) := ⟨_, rfl⟩
                      obtain ⟨w2, hw2⟩ := hw2
                      have hT2 : Lies w2 T7 #[.int .i64 (i : Int), .int .i64 3, .int .i64 nn] 36 := by rw [hw2]; exact hT1.set_other (a := ⟨BL, i, none⟩) (Ne.symm hBL7) _
                      have HM2 : Hid (Lies w2 BM #[clM D 2 0, clM D 2 1] 47) := by rw [hw2]; exact HS1.out.lm.set_other (a := ⟨BL, i, none⟩) hbn2 _
                      have t2 : w2.cell? ⟨T7, 0, none⟩ = some (.int .i64 (i : Int)) := hT2.cell 0
                      rw [← hw2]
                      first
                        | refine wpAnyE_done (by kernel_rfl) ?_ _
                        | refine ⟨t2, wpAnyE_done (by kernel_rfl) ?_ _⟩
                      have HB1 : Hid (Below wo.drew.heap.size wo.drew w1) := hb1
                      have HH1 : Hid (Ht w1 wo.heap.size 23 true [] 0 (.slice none 0 0)) := ht1
                      have HW2 : Hid (w2 = w1.setCell ⟨BL, i, none⟩ (.pointer (some ⟨wo.heap.size, 0, none⟩))) := hw2
                      have HSQ : Hid (Hs w (wo.drewN 1) BL BM D k 2) := HSP
                      have HT2 : Hid (Lies w2 T7 #[.int .i64 (i : Int), .int .i64 3, .int .i64 nn] 36) := hT2
                      clear hHeld hb1 ht1 hw2 HSP hT1 hT2 q1 z1 u1 t0 hbl hbm
                      go_wp2_with fail
                      refine wp_region_late (fun wx => wx.cell? ⟨T7, 0, none⟩ = some (.int .i64 (i : Int))) 5 (by kernel_rfl) (t2) (fun hHeld => ?_)
                      refine wpAnyE_tk (i := 0) (d := some 113) (v := ?_) rfl (by kernel_rfl) (by kernel_rfl) (by kernel_rfl) rfl (fun _ _ _ h => h) rfl rfl ?hy (by first | assumption | go_simp) ?_
                      case hy => (intro w' hSw; (try dsimp only at hSw); go_simp <;> (first | with_reducible rfl | omega | skip))
                      simp only [Act.put, List.setIfInBounds_toArray, List.set_cons_zero, List.set_cons_succ]
                      refine wpAnyE_tk (i := 1) (d := some 114) (v := ?_) rfl (by kernel_rfl) (by kernel_rfl) (by kernel_rfl) rfl (fun _ _ _ h => h) rfl rfl ?hy (by first | assumption | go_simp) ?_
                      case hy => (intro w' hSw; (try dsimp only at hSw); go_simp <;> (first | with_reducible rfl | omega | skip))
                      simp only [Act.put, List.setIfInBounds_toArray, List.set_cons_zero, List.set_cons_succ]
                      refine wpAnyE_on (i := 2) (by kernel_rfl) rfl rfl ?_
                      go_simp

                      refine Calls.mono (GN.out _) ?_
                      rintro e w3 ⟨rfl, hg3, hb3⟩
                      have hT3 := (HT2.out.drewN 1).below hb3 HT2.out.lt
                      have hM3 := (HM2.out.drewN 1).below hb3 HM2.out.lt
                      have q3 := lies_two hM3 i hi2
                      have z3 := hM3.frozen i
                      have u3 : w3.cell? ⟨T7, 0, none⟩ = some (.int .i64 (i : Int)) := hT3.cell 0
                      refine ⟨u3, ?_⟩
                      refine wpAnyE_on (i := 3) (by kernel_rfl) rfl rfl ?_
                      go_simp
                      refine wpAnyE_on (i := 4) (by kernel_rfl) rfl rfl ?_
                      go_simp

                      obtain ⟨wz, hwz⟩ : ∃ wz, wz = w3.setCell ⟨BM, i, none⟩ (.pointer (some ⟨w2.heap.size, 0, none⟩)) := ⟨_, rfl⟩
                      have hTz : Lies wz T7 #[.int .i64 (i : Int), .int .i64 3, .int .i64 nn] 36 := by rw [hwz]; exact hT3.set_other (a := ⟨BM, i, none⟩) (Ne.symm hBM7) _
                      have t3 : wz.cell? ⟨T7, 0, none⟩ = some (.int .i64 (i : Int)) := hTz.cell 0
                      rw [← hwz]
                      first
                        | refine wpAnyE_done (by kernel_rfl) ?_ _
                        | refine ⟨t3, wpAnyE_done (by kernel_rfl) ?_ _⟩
                      obtain ⟨D', hD'⟩ : ∃ D', D' = upd7 D i ⟨wo.heap.size, w2.heap.size, 0, [], .slice none 0 0, .slice none 0 0⟩ := ⟨_, rfl⟩
                      have HSZ : Hid (Hs w wz BL BM D' (k + 1) 2) := by
                        rw [hD']
                        refine (Hs.put HSQ.out i (Nat.le_of_lt hi2) hi2 wo.heap.size w2.heap.size 2 (by omega) HB1.out HH1.out (Nat.le_refl _) ?_ hg3 ?_ hwz).more
                        · rw [← HW2.out]; exact (below_drewN w2 1).trans hb3
                        · rw [HW2.out, World.size_setCell]; exact Nat.le_refl _
                      clear HT7
                      have HT7 : Hid (Lies wz T7 #[.int .i64 (i : Int), .int .i64 3, .int .i64 nn] 36) := hTz
                      clear hHeld hg3 hb3 hT3 hM3 q3 z3 u3 t3 t2 hwz hD' hTz HSQ HB1 HH1 HW2 HT2 HM2 HS1 HZO
                      go_wp2_with fail
                      have hD' := HSZ.out.pr i hi2
                      have t0 : wz.cell? ⟨T7, 0, none⟩ = some (.int .i64 (i : Int)) := HT7.out.cell 0
                      have a0 : wz.cell? ⟨BL, i, none⟩ = some (.pointer (some ⟨(D' i).h, 0, none⟩)) := by rw [HSZ.out.cellA i hi2, clA_at _ _ _ hi2]
                      have m0 : wz.cell? ⟨BM, i, none⟩ = some (.pointer (some ⟨(D' i).g, 0, none⟩)) := by rw [HSZ.out.cellM i hi2, clM_at _ _ _ hi2]
                      have HL1 : Hid (∀ m, Calls Try.prog 31 #[.pointer (some ⟨(D' i).h, 0, none⟩)] (wz.drewN m) fun e w' => e = .returned (.int .i64 ((D' i).M.length : Int)) ∧ w' = wz.drewN m) := fun m => hlen_t (hD'.ht.below (below_drewN wz m))
                      have HL2 : Hid (∀ m, Calls Try.prog 32 #[.pointer (some ⟨(D' i).g, 0, none⟩)] (wz.drewN m) fun e w' => e = .returned (.int .i64 ((D' i).M.length : Int)) ∧ w' = wz.drewN m) := fun m => by have := rhlen_any _ _ _ _ (hD'.gh.below (below_drewN wz m)); rw [List.length_map] at this; exact this
                      clear hD'
                      generalize (D' i).h = hbZ at *
                      generalize (D' i).g = gbZ at *
                      generalize (D' i).M.length = lnZ at *
                      go_quiet (first | (go_at_call 31; refine Calls.quiet_of_same (HL1.out _)) | (go_at_call 32; refine Calls.quiet_of_same (HL2.out _)))
                      go_wp2
                      go_roundw
                      case rel => exact ⟨k + 1, D', by go_num, by omega, HSZ.out.later (below_drewN wz _)⟩
                      case measure => simp [intOf]; omega
                    · have hd3' : (dd == 3) = false := by simpa using hd3
                      have HSZ : Hid (Hs w wo BL BM D (k + 1) 2) := HSO.out.more
                      obtain ⟨D', hD'⟩ : ∃ D', D' = D := ⟨_, rfl⟩
                      rw [← hD'] at HSZ
                      obtain ⟨wz, hwz⟩ : ∃ wz, wz = wo := ⟨_, rfl⟩
                      go_wp2_with fail
                      rw [HWO.out, HTW.out, ← hwz]
                      rw [← hwz] at HSZ HT7
                      clear hwz hD' HSO HPO HWO HTW HZO HS cA cM d0 d1 d2 hg1 hbl hbm
                      have hD' := HSZ.out.pr i hi2
                      have t0 : wz.cell? ⟨T7, 0, none⟩ = some (.int .i64 (i : Int)) := HT7.out.cell 0
                      have a0 : wz.cell? ⟨BL, i, none⟩ = some (.pointer (some ⟨(D' i).h, 0, none⟩)) := by rw [HSZ.out.cellA i hi2, clA_at _ _ _ hi2]
                      have m0 : wz.cell? ⟨BM, i, none⟩ = some (.pointer (some ⟨(D' i).g, 0, none⟩)) := by rw [HSZ.out.cellM i hi2, clM_at _ _ _ hi2]
                      have HL1 : Hid (∀ m, Calls Try.prog 31 #[.pointer (some ⟨(D' i).h, 0, none⟩)] (wz.drewN m) fun e w' => e = .returned (.int .i64 ((D' i).M.length : Int)) ∧ w' = wz.drewN m) := fun m => hlen_t (hD'.ht.below (below_drewN wz m))
                      have HL2 : Hid (∀ m, Calls Try.prog 32 #[.pointer (some ⟨(D' i).g, 0, none⟩)] (wz.drewN m) fun e w' => e = .returned (.int .i64 ((D' i).M.length : Int)) ∧ w' = wz.drewN m) := fun m => by have := rhlen_any _ _ _ _ (hD'.gh.below (below_drewN wz m)); rw [List.length_map] at this; exact this
                      clear hD'
                      generalize (D' i).h = hbZ at *
                      generalize (D' i).g = gbZ at *
                      generalize (D' i).M.length = lnZ at *
                      go_quiet (first | (go_at_call 31; refine Calls.quiet_of_same (HL1.out _)) | (go_at_call 32; refine Calls.quiet_of_same (HL2.out _)))
                      go_wp2
                      go_roundw
                      case rel => exact ⟨k + 1, D', by go_num, by omega, HSZ.out.later (below_drewN wz _)⟩
                      case measure => simp [intOf]; omega
        · obtain rfl : k = st.length := by omega
          have hki : (st.length : Int) ≤ (st.length : Int) := Int.le_refl _
          have c0 : wr.cell? ⟨BL, 0, none⟩ = some (.pointer (some ⟨(D 0).h, 0, none⟩)) := HS.out.la.cell 0
          have c1 : wr.cell? ⟨BL, 1, none⟩ = some (.pointer (some ⟨(D 1).h, 0, none⟩)) := HS.out.la.cell 1
          clear hlt hk
          go_wp2
          go_ret
          exact ⟨rfl, HS.out.bel⟩

theorem walk {w : World} (a : Option Addr) (st : List (Int × Int × Int)) (c : Nat) (h1 : Sg cel3 a st w ∧ ∀ t ∈ st, In64 t.1 ∧ In64 t.2.1 ∧ In64 t.2.2) (hl : st.length ≤ 5864062014634) :
    Calls Try.prog 4 #[.slice a st.length c] w fun e w' => e = .returned (.bool true) ∧ Below w.heap.size w w' := walk0 a st c w h1.1 hl

theorem own : ownKnob Try.prog.godebug = none := by kernel_rfl
theorem laidOut : laidOutB Try.prog = true := by kernel_rfl
set_option maxRecDepth 100000 in
theorem contract (H : Type) (enc : TypeId × Value → H) (W : World) (base : Nat) (args : Array Value) (ds gs : List (DataW H)) (before : List MemPlace)
    (hval : ∀ (j : Nat) t v, Try.f4.params[j]? = some t → args[j]? = some v → Value.okWide Try.prog W .any base t v)
    (hW : DataW.Whole enc Try.prog Try.f4.params.toList Rows.queueHeapsSpec.vars false W args.toList ds gs before)
    (hsz : (DataW.weightsEach Try.prog (Try.f4.params.toList ++ Rows.queueHeapsSpec.plain.varTypes Try.prog) (ds ++ gs)).all (· ≤ reachBytes) = true)
    :
    Calls Try.prog 4 args W fun e W' => ∃ v, e = .returned v ∧ Rows.queueHeapsSpec.post enc Try.prog Try.f4 false true false false W args v W' := by
  have hW' := hW
  obtain ⟨p, q, hA0, hV, rfl, hfz, hnd⟩ := hW
  have hA : DataW.TrodAll enc Try.prog W 0 (fun _ => true) true Try.f4.params.toList args.toList ds p := hA0
  rw [Try.params4] at hA hval hsz
  obtain ⟨v0, vs0, d0, ds0, p0, q0, hargs, rfl, rfl, h0, r0⟩ := trodAll_cons hA
  obtain ⟨rfl, rfl, rfl⟩ := trodAll_nil r0
  obtain rfl : args = #[v0] := by cases args; simp_all
  obtain ⟨rfl, rfl⟩ := trodVars_none hV
  have k0 := h0
  have lt0 : ∀ x ∈ p0, x.block < W.heap.size := by obtain ⟨m, hm⟩ := k0; exact DataW.trod_lt m _ _ _ hm
  obtain ⟨a0, len0, cap0, rfl⟩ := okWide_slice Try.underlying22 (hval 0 22 v0 rfl rfl)
  obtain ⟨l0, e0, row0, bd0⟩ := open_ops h0
  clear hA0
  have s0 : l0.length ≤ 5864062014634 := by
    rcases bd0 with ⟨el, sp, rfl, hl⟩ | ⟨rfl, hl⟩
    · have := sized_slice hsz (j := 0) (t := 22) (e := 36) rfl rfl Try.underlying22
      rw [bytesO] at this
      simp only [reachBytes] at this
      omega
    · omega
  subst e0
  refine (walk a0 l0 cap0 row0 s0).mono fun e W' ⟨he, bel⟩ => ?_
  subst he
  exact ⟨_, rfl, _, _, _, [], _, [], hW', trodAll_mk1 (shut_bool Try.underlying4 _), trodAll_cons_mk (Below.trod laidOut (by kernel_rfl) (of_decide_eq_true (by kernel_rfl)) k0 bel lt0) trodAll_mk0, rfl, bel.frame _, fun h => by cases h⟩

set_option maxRecDepth 100000 in
theorem lifted (os : Os) (started : os.Started) (H : Type) (enc : TypeId × Value → H) :
    ReturnsInHanded {} Try.checked os 4 .any (Rows.queueHeapsSpec.pre6 enc Try.prog Try.f4 Rows.queueHeapsRow.domain false) (Rows.queueHeapsSpec.post enc Try.prog Try.f4 false true false false) := by
  refine returnsInHanded_of_change_sized (C := Try.checked) own started (by kernel_rfl) Try.func4
    (ChangeSpec.witness6 (enc := enc) (C := Try.checked) false ⟨#[], #[.slice none 0 0], []⟩ 8 (by kernel_rfl) (by kernel_rfl) (by kernel_rfl) (by kernel_rfl)) ?_
  intro W base args ds gs before hval0 hW hcnd hsz0 _
  exact contract H enc W base args ds gs before hval0 hW hsz0

theorem over : Rows.queueHeapsRow.holds Try.pinned (OpenSpec.ofChange Rows.queueHeapsSpec) :=
  OpenClaim.holds_of_wide 4 Try.f4 rfl rfl rfl rfl rfl rfl rfl ⟨rfl, rfl, rfl, rfl, rfl⟩ rfl rfl rfl rfl rfl (by kernel_rfl) Try.func4 (by kernel_rfl)
    (of_decide_eq_true (by kernel_rfl)) (by unfold Func.isWrapper; first | (rw [if_pos (by decide +kernel)]; kernel_rfl) | (rw [if_neg (by decide +kernel)]; exact ⟨rfl, rfl⟩))
    (fun os started H enc _ => lifted os started H enc)
end Go.Proofs.Ytgbbjhhggjocmaa.queueHeaps
namespace Go.Proofs.Ytgbbjhhggjocmaa
theorem queueHeaps_said : Rows.QueueHeapsSaid := queueHeaps.over
#print axioms queueHeaps_said
end Go.Proofs.Ytgbbjhhggjocmaa
