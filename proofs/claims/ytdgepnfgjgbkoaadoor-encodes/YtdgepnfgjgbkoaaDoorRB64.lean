/-
  The document's Base64.
-/
import Derived.Test.YtdgepnfgjgbkoaaDoorB64W
namespace Go.Proofs.YtdgepnfgjgbkoaaDoor
open Go.RowKit

theorem enc_three (l : List UInt8) (i : Nat) (hi : i % 3 = 0) (p q r : UInt8) (t : Nat) (ht : t = min (l.length - i) 3) (h0 : i < l.length) (hp : pad3 ((l.drop i).take t) = [p, q, r]) :
    e64L (l.take (i + t)) = e64L (l.take i) ++ (([ltr (p.toNat / 4), ltr (p.toNat % 4 * 16 + q.toNat / 16), ltr (q.toNat % 16 * 4 + r.toNat / 64), ltr (r.toNat % 64)].take (t + 1)) ++ List.replicate (3 - t) 61) := by
  have hl : ((l.drop i).take t).length = t := by rw [List.length_take, List.length_drop]; omega
  rw [enc_step l i t hi (by omega)]
  congr 1
  have := enc_pad ((l.drop i).take t) (by omega) (by omega) p q r hp
  rw [hl] at this
  exact this

set_option maxHeartbeats 4000000 in
set_option maxRecDepth 100000 in
theorem rb64_any (a : Option Addr) (l : List UInt8) (cap n : Nat) (w : World) (hn : n = l.length) (hb : Bts a l w) (hl : l.length ≤ 104857600) :
    Calls Tryd.prog 73 #[.slice a n cap] w fun e w' => e = .returned (.string ⟨(e64L l).toArray⟩) ∧ Below w.heap.size w w' := by
  have HB : Hid (Bts a l w) := hb
  have HN : Hid (n = l.length) := hn
  rw [← hn] at hl
  clear hb hn
  go_enter Tryd.func73, Tryd.ntmps73
  go_wp2_with fail
  go_loopw [3, 4] (fun v i wr => ∃ (k : Nat), k ≤ n + 2 ∧ k % 3 = 0 ∧ i = .int .i64 k ∧ Hid (wr.ownsRow w.heap.size 5 1 v (e64L (l.take k)).length (cellsB (e64L (l.take k)))) ∧ Hid (Below w.heap.size w wr)) (fun _ i _ => n + 3 - (intOf i).toNat)
  case atStart => exact ⟨0, by omega, rfl, rfl, own_nil _ _, Below.refl _ _⟩
  case round =>
    obtain ⟨k, hk, hk3, rfl, HO, HBe⟩ := hrel
    by_cases hlt : k < n
    · obtain ⟨t, ht⟩ : ∃ t, t = min (n - k) 3 := ⟨_, rfl⟩
      obtain ⟨p, q, r, hpad⟩ : ∃ p q r, pad3 ((l.drop k).take t) = [p, q, r] := by
        have : (pad3 ((l.drop k).take t)).length = 3 := by unfold pad3; simp; omega
        match h : pad3 ((l.drop k).take t), this with
        | [p, q, r], _ => exact ⟨p, q, r, rfl⟩
      have HE : Hid _ := enc_three l k hk3 p q r t (by rw [← HN.out]; exact ht) (by rw [← HN.out]; exact hlt) hpad
      obtain ⟨g, o, rfl, hg, hrow⟩ : ∃ g o, a = some ⟨g, o, none⟩ ∧ g < w.heap.size ∧ RowL l g o w := by
        rcases HB.out with h | h
        · have := HN.out
          rw [h] at this
          simp at this
          omega
        · exact h
      have HP : Hid (∀ j, j < t → ∀ x, [p, q, r][j]? = some x → wr.cell? ⟨g, o + (k + j), none⟩ = some (.int .u8 (x.toNat : Int))) := fun j hj x hx => by
        have hll := HN.out
        rw [HBe.out.cell (p := ⟨g, o + (k + j), none⟩) hg, hrow (k + j) (by omega)]
        rw [← hpad] at hx
        unfold pad3 at hx
        rw [List.getElem?_append_left (by rw [List.length_take, List.length_drop]; omega), List.getElem?_take, if_pos hj, List.getElem?_drop, List.getElem?_eq_getElem (by omega)] at hx
        injection hx with hx
        rw [hx]
      have HZ : Hid (∀ j, t ≤ j → ∀ x, [p, q, r][j]? = some x → x.toNat = 0) := fun j hj x hx => by
        have hll := HN.out
        rw [← hpad] at hx
        unfold pad3 at hx
        rw [List.getElem?_append_right (by rw [List.length_take, List.length_drop]; omega), List.getElem?_replicate] at hx
        split at hx
        · injection hx with hx
          rw [← hx]
          rfl
        · cases hx
      have hp := p.toNat_lt
      have hq := q.toNat_lt
      have hr := r.toNat_lt
      have ht123 : t = 1 ∧ k + 1 = n ∨ t = 2 ∧ k + 2 = n ∨ t = 3 ∧ k + 3 ≤ n := by omega
      clear hpad ht
      rcases ht123 with ⟨rfl, hkn⟩ | ⟨rfl, hkn⟩ | ⟨rfl, hkn⟩
      · have c0 := HP.out 0 (by omega) p rfl
        rw [Nat.add_zero] at c0
        have zq := HZ.out 1 (by omega) q rfl
        have zr := HZ.out 2 (by omega) r rfl
        have hnn : ¬ ((k : Int) + 1 < (n : Int)) := by omega
        have hnn2 : ¬ ((k : Int) + 2 < (n : Int)) := by omega
        clear HP HZ
        obtain ⟨P, hPe⟩ : ∃ P, P = p.toNat := ⟨_, rfl⟩
        obtain ⟨Q, hQe⟩ : ∃ Q, Q = q.toNat := ⟨_, rfl⟩
        obtain ⟨R, hRe⟩ : ∃ R, R = r.toNat := ⟨_, rfl⟩
        rw [← hPe] at hp c0
        rw [← hPe, ← hQe, ← hRe] at HE
        rw [← hQe] at hq zq
        rw [← hRe] at hr zr
        clear hPe hQe hRe
        have ZQ : Hid (Q = 0) := zq
        have ZR : Hid (R = 0) := zr
        clear zq zr
        go_wp2_with fail
        refine wp_loop_rounds 4 ?_
        rw [rounds_succ]
        go_wp2_with fail
        rw [rounds_succ]
        go_wp2_with fail
        rw [rounds_succ]
        go_wp2_with fail
        rw [rounds_succ]
        go_wp2_with fail
        have hT : (P : Int) * 256 * 256 = ((P * 65536 + Q * 256 + R : Nat) : Int) := by have := ZQ.out; have := ZR.out; omega
        generalize (P : Int) * 256 * 256 = Ti at hT ⊢
        have h0 : 0 ≤ Ti := by omega
        have h1 : Ti < 16777216 := by omega
        have b1 : (0 : Int) ≤ Ti / 262144 := by omega
        have b2 : Ti / 262144 < 64 := by omega
        have b3 : (0 : Int) ≤ Ti / 4096 % 64 := by omega
        have b4 : Ti / 4096 % 64 < 64 := by omega
        have b5 : (0 : Int) ≤ Ti / 64 % 64 := by omega
        have b6 : Ti / 64 % 64 < 64 := by omega
        have b7 : (0 : Int) ≤ Ti % 64 := by omega
        have b8 : Ti % 64 < 64 := by omega
        have b9 : (0 : Int) ≤ Ti / 4096 := by omega
        have b10 : (0 : Int) ≤ Ti / 64 := by omega
        have HTI : Hid (Ti = ((P * 65536 + Q * 256 + R : Nat) : Int)) := hT
        clear hT
        have d1 := ltr_at (Ti / 262144) (P / 4) (by have := HTI.out; omega) (by omega)
        have d2 := ltr_at (Ti / 4096 % 64) (P % 4 * 16 + Q / 16) (by have := HTI.out; omega) (by omega)
        have d3 := ltr_at (Ti / 64 % 64) (Q % 16 * 4 + R / 64) (by have := HTI.out; omega) (by omega)
        have d4 := ltr_at (Ti % 64) (R % 64) (by have := HTI.out; omega) (by omega)
        unfold letS at d1 d2 d3 d4
        dsimp only at d1 d2 d3 d4
        have t1 : Ti.tdiv 262144 = Ti / 262144 := Int.tdiv_eq_ediv_of_nonneg h0
        have t2 : Ti.tdiv 4096 = Ti / 4096 := Int.tdiv_eq_ediv_of_nonneg h0
        have t3 : Ti.tdiv 64 = Ti / 64 := Int.tdiv_eq_ediv_of_nonneg h0
        have t4 : (Ti / 4096).tmod 64 = Ti / 4096 % 64 := Int.tmod_eq_emod_of_nonneg b9
        have t5 : (Ti / 64).tmod 64 = Ti / 64 % 64 := Int.tmod_eq_emod_of_nonneg b10
        have t6 : Ti.tmod 64 = Ti % 64 := Int.tmod_eq_emod_of_nonneg h0
        have x1 : IntKind.i64.wrap (Ti / 262144) = Ti / 262144 := by rw [IntKind.wrap_i64]; omega
        have x2 : IntKind.i64.wrap (Ti / 4096) = Ti / 4096 := by rw [IntKind.wrap_i64]; omega
        have x3 : IntKind.i64.wrap (Ti / 64) = Ti / 64 := by rw [IntKind.wrap_i64]; omega
        have x4 : IntKind.i64.wrap (Ti / 4096 % 64) = Ti / 4096 % 64 := by rw [IntKind.wrap_i64]; omega
        have x5 : IntKind.i64.wrap (Ti / 64 % 64) = Ti / 64 % 64 := by rw [IntKind.wrap_i64]; omega
        have x6 : IntKind.i64.wrap (Ti % 64) = Ti % 64 := by rw [IntKind.wrap_i64]; omega
        refine wp_region_late (fun _ => True) 15 (by kernel_rfl) trivial (fun hHeld => ?_)
        refine wpAnyE_take (i := 0) (d := some 35) (v := ?_) rfl (by kernel_rfl) (by kernel_rfl) (by kernel_rfl) (by kernel_rfl) (fun _ _ _ h => h) rfl rfl ?hy (by assumption) ?_
        case hy => (intro w' hSw; clear hSw; go_simp <;> (try with_reducible rfl))
        simp only [Act.put, List.setIfInBounds_toArray, List.set_cons_zero, List.set_cons_succ]
        refine wpAnyE_take (i := 1) (d := some 36) (v := ?_) rfl (by kernel_rfl) (by kernel_rfl) (by kernel_rfl) (by kernel_rfl) (fun _ _ _ h => h) rfl rfl ?hy (by assumption) ?_
        case hy => (intro w' hSw; clear hSw; go_simp <;> (try with_reducible rfl))
        simp only [Act.put, List.setIfInBounds_toArray, List.set_cons_zero, List.set_cons_succ]
        refine wpAnyE_take (i := 2) (d := some 37) (v := ?_) rfl (by kernel_rfl) (by kernel_rfl) (by kernel_rfl) (by kernel_rfl) (fun _ _ _ h => h) rfl rfl ?hy (by assumption) ?_
        case hy => (intro w' hSw; clear hSw; go_simp <;> (try with_reducible rfl))
        simp only [Act.put, List.setIfInBounds_toArray, List.set_cons_zero, List.set_cons_succ]
        refine wpAnyE_take (i := 3) (d := some 38) (v := ?_) rfl (by kernel_rfl) (by kernel_rfl) (by kernel_rfl) (by kernel_rfl) (fun _ _ _ h => h) rfl rfl ?hy (by assumption) ?_
        case hy => (intro w' hSw; clear hSw; go_simp <;> (try with_reducible rfl))
        simp only [Act.put, List.setIfInBounds_toArray, List.set_cons_zero, List.set_cons_succ]
        refine wpAnyE_take (i := 4) (d := some 39) (v := ?_) rfl (by kernel_rfl) (by kernel_rfl) (by kernel_rfl) (by kernel_rfl) (fun _ _ _ h => h) rfl rfl ?hy (by assumption) ?_
        case hy => (intro w' hSw; clear hSw; go_simp <;> (try with_reducible rfl))
        simp only [Act.put, List.setIfInBounds_toArray, List.set_cons_zero, List.set_cons_succ]
        refine wpAnyE_take (i := 5) (d := some 40) (v := ?_) rfl (by kernel_rfl) (by kernel_rfl) (by kernel_rfl) (by kernel_rfl) (fun _ _ _ h => h) rfl rfl ?hy (by assumption) ?_
        case hy => (intro w' hSw; clear hSw; go_simp <;> (try with_reducible rfl))
        simp only [Act.put, List.setIfInBounds_toArray, List.set_cons_zero, List.set_cons_succ]
        refine wpAnyE_take (i := 6) (d := some 41) (v := ?_) rfl (by kernel_rfl) (by kernel_rfl) (by kernel_rfl) (by kernel_rfl) (fun _ _ _ h => h) rfl rfl ?hy (by assumption) ?_
        case hy => (intro w' hSw; clear hSw; go_simp <;> (try with_reducible rfl))
        simp only [Act.put, List.setIfInBounds_toArray, List.set_cons_zero, List.set_cons_succ]
        refine wpAnyE_take (i := 7) (d := some 42) (v := ?_) rfl (by kernel_rfl) (by kernel_rfl) (by kernel_rfl) (by kernel_rfl) (fun _ _ _ h => h) rfl rfl ?hy (by assumption) ?_
        case hy => (intro w' hSw; clear hSw; go_simp <;> (try with_reducible rfl))
        simp only [Act.put, List.setIfInBounds_toArray, List.set_cons_zero, List.set_cons_succ]
        refine wpAnyE_take (i := 8) (d := some 43) (v := ?_) rfl (by kernel_rfl) (by kernel_rfl) (by kernel_rfl) (by kernel_rfl) (fun _ _ _ h => h) rfl rfl ?hy (by assumption) ?_
        case hy => (intro w' hSw; clear hSw; go_simp <;> (try with_reducible rfl))
        simp only [Act.put, List.setIfInBounds_toArray, List.set_cons_zero, List.set_cons_succ]
        refine wpAnyE_take (i := 9) (d := some 44) (v := ?_) rfl (by kernel_rfl) (by kernel_rfl) (by kernel_rfl) (by kernel_rfl) (fun _ _ _ h => h) rfl rfl ?hy (by assumption) ?_
        case hy => (intro w' hSw; clear hSw; go_simp <;> (try with_reducible rfl))
        simp only [Act.put, List.setIfInBounds_toArray, List.set_cons_zero, List.set_cons_succ]
        refine wpAnyE_take (i := 10) (d := some 45) (v := ?_) rfl (by kernel_rfl) (by kernel_rfl) (by kernel_rfl) (by kernel_rfl) (fun _ _ _ h => h) rfl rfl ?hy (by assumption) ?_
        case hy => (intro w' hSw; clear hSw; go_simp <;> (try with_reducible rfl))
        simp only [Act.put, List.setIfInBounds_toArray, List.set_cons_zero, List.set_cons_succ]
        refine wpAnyE_take (i := 11) (d := some 46) (v := ?_) rfl (by kernel_rfl) (by kernel_rfl) (by kernel_rfl) (by kernel_rfl) (fun _ _ _ h => h) rfl rfl ?hy (by assumption) ?_
        case hy => (intro w' hSw; clear hSw; go_simp <;> (try with_reducible rfl))
        simp only [Act.put, List.setIfInBounds_toArray, List.set_cons_zero, List.set_cons_succ]
        refine wpAnyE_take (i := 12) (d := some 47) (v := ?_) rfl (by kernel_rfl) (by kernel_rfl) (by kernel_rfl) (by kernel_rfl) (fun _ _ _ h => h) rfl rfl ?hy (by assumption) ?_
        case hy => (intro w' hSw; clear hSw; go_simp <;> (try with_reducible rfl))
        simp only [Act.put, List.setIfInBounds_toArray, List.set_cons_zero, List.set_cons_succ]
        refine wpAnyE_take (i := 13) (d := some 48) (v := ?_) rfl (by kernel_rfl) (by kernel_rfl) (by kernel_rfl) (by kernel_rfl) (fun _ _ _ h => h) rfl rfl ?hy (by assumption) ?_
        case hy => (intro w' hSw; clear hSw; go_simp <;> (try with_reducible rfl))
        simp only [Act.put, List.setIfInBounds_toArray, List.set_cons_zero, List.set_cons_succ]
        refine wpAnyE_one (i := 14) (by kernel_rfl) rfl rfl ?_
        go_simp
        refine wpAnyE_one (i := 15) (by kernel_rfl) rfl rfl ?_
        go_simp
        refine wpAnyE_done (by kernel_rfl) ?_ _
        clear t1 t2 t3 t4 t5 t6 x1 x2 x3 x4 x5 x6 d1 d2 d3 d4 b1 b2 b3 b4 b5 b6 b7 b8 b9 b10 hHeld
        generalize ltr (P / 4) = L0 at HE ⊢
        generalize ltr (P % 4 * 16 + Q / 16) = L1 at HE ⊢
        generalize ltr (Q % 16 * 4 + R / 64) = L2 at HE ⊢
        generalize ltr (R % 64) = L3 at HE ⊢
        have HV : Hid (e64L (l.take (k + 1)) = e64L (l.take k) ++ [L0, L1, 61, 61]) := HE.out
        have hel := e64L_len (l.take k)
        rw [List.length_take] at hel
        have hel2 : (e64L (l.take k)).length ≤ 139810140 := by omega
        have HLN : Hid (∀ wx : World, Lies (wx.alloc (.cells #[.int .u8 (L0.toNat : Int), .int .u8 (L1.toNat : Int), .int .u8 61, .int .u8 61] 5)) wx.heap.size (rowV [L0, L1, 61, 61]) 5) := fun wx => Lies.new wx _ _
        have HTK : Hid (e64L (l.take (k + 3)) = e64L (l.take (k + 1))) := by
          show _ = _
          rw [List.take_of_length_le (by rw [← HN.out]; omega), List.take_of_length_le (by rw [← HN.out]; omega)]
        clear hel
        generalize e64L (l.take k) = EK at HO HV hel2
        go_wp2_with (at_builtin; refine wpList_append_keep rfl _ _ rfl w.heap.size _ EK.length EK rfl ((HO.out.alloc _).drew) (some ⟨wr.heap.size, 0, none⟩) [L0, L1, 61, 61] 4 4 rfl rfl (lies_bts (HLN.out _)) (fun e => by cases e) (by omega) (by have := HBe.out.size; simp; omega) ?_; intro v3 w3 hown3 hgrow3; have HO3 : Hid (w3.ownsRow w.heap.size 5 1 v3 (e64L (l.take (k + 3))).length (cellsB (e64L (l.take (k + 3))))) := (by show World.ownsRow _ _ _ _ _ _ _; rw [HTK.out, HV.out, List.length_append]; exact hown3); have HB3 : Hid (Below w.heap.size w w3) := ((HBe.out.alloc HBe.out.size _).drew).grown hgrow3 (by have := HBe.out.size; simp; omega) (fun q hq => (HO.out.lt q hq).1); clear hown3 hgrow3)
        go_roundw
        case rel => exact ⟨k + 3, by omega, by omega, by go_num, HO3, HB3⟩
        case measure => simp [intOf]; omega
      · have c0 := HP.out 0 (by omega) p rfl
        rw [Nat.add_zero] at c0
        have c1 := HP.out 1 (by omega) q rfl
        have zr := HZ.out 2 (by omega) r rfl
        have hnn2 : ¬ ((k : Int) + 2 < (n : Int)) := by omega
        clear HP HZ
        obtain ⟨P, hPe⟩ : ∃ P, P = p.toNat := ⟨_, rfl⟩
        obtain ⟨Q, hQe⟩ : ∃ Q, Q = q.toNat := ⟨_, rfl⟩
        obtain ⟨R, hRe⟩ : ∃ R, R = r.toNat := ⟨_, rfl⟩
        rw [← hPe] at hp c0
        rw [← hPe, ← hQe, ← hRe] at HE
        rw [← hQe] at hq c1
        rw [← hRe] at hr zr
        clear hPe hQe hRe
        have ZR : Hid (R = 0) := zr
        clear zr
        go_wp2_with fail
        refine wp_loop_rounds 4 ?_
        rw [rounds_succ]
        go_wp2_with fail
        rw [rounds_succ]
        go_wp2_with fail
        rw [rounds_succ]
        go_wp2_with fail
        rw [rounds_succ]
        go_wp2_with fail
        have hT : ((P : Int) * 256 + (Q : Int)) * 256 = ((P * 65536 + Q * 256 + R : Nat) : Int) := by have := ZR.out; omega
        generalize ((P : Int) * 256 + (Q : Int)) * 256 = Ti at hT ⊢
        have h0 : 0 ≤ Ti := by omega
        have h1 : Ti < 16777216 := by omega
        have b1 : (0 : Int) ≤ Ti / 262144 := by omega
        have b2 : Ti / 262144 < 64 := by omega
        have b3 : (0 : Int) ≤ Ti / 4096 % 64 := by omega
        have b4 : Ti / 4096 % 64 < 64 := by omega
        have b5 : (0 : Int) ≤ Ti / 64 % 64 := by omega
        have b6 : Ti / 64 % 64 < 64 := by omega
        have b7 : (0 : Int) ≤ Ti % 64 := by omega
        have b8 : Ti % 64 < 64 := by omega
        have b9 : (0 : Int) ≤ Ti / 4096 := by omega
        have b10 : (0 : Int) ≤ Ti / 64 := by omega
        have HTI : Hid (Ti = ((P * 65536 + Q * 256 + R : Nat) : Int)) := hT
        clear hT
        have d1 := ltr_at (Ti / 262144) (P / 4) (by have := HTI.out; omega) (by omega)
        have d2 := ltr_at (Ti / 4096 % 64) (P % 4 * 16 + Q / 16) (by have := HTI.out; omega) (by omega)
        have d3 := ltr_at (Ti / 64 % 64) (Q % 16 * 4 + R / 64) (by have := HTI.out; omega) (by omega)
        have d4 := ltr_at (Ti % 64) (R % 64) (by have := HTI.out; omega) (by omega)
        unfold letS at d1 d2 d3 d4
        dsimp only at d1 d2 d3 d4
        have t1 : Ti.tdiv 262144 = Ti / 262144 := Int.tdiv_eq_ediv_of_nonneg h0
        have t2 : Ti.tdiv 4096 = Ti / 4096 := Int.tdiv_eq_ediv_of_nonneg h0
        have t3 : Ti.tdiv 64 = Ti / 64 := Int.tdiv_eq_ediv_of_nonneg h0
        have t4 : (Ti / 4096).tmod 64 = Ti / 4096 % 64 := Int.tmod_eq_emod_of_nonneg b9
        have t5 : (Ti / 64).tmod 64 = Ti / 64 % 64 := Int.tmod_eq_emod_of_nonneg b10
        have t6 : Ti.tmod 64 = Ti % 64 := Int.tmod_eq_emod_of_nonneg h0
        have x1 : IntKind.i64.wrap (Ti / 262144) = Ti / 262144 := by rw [IntKind.wrap_i64]; omega
        have x2 : IntKind.i64.wrap (Ti / 4096) = Ti / 4096 := by rw [IntKind.wrap_i64]; omega
        have x3 : IntKind.i64.wrap (Ti / 64) = Ti / 64 := by rw [IntKind.wrap_i64]; omega
        have x4 : IntKind.i64.wrap (Ti / 4096 % 64) = Ti / 4096 % 64 := by rw [IntKind.wrap_i64]; omega
        have x5 : IntKind.i64.wrap (Ti / 64 % 64) = Ti / 64 % 64 := by rw [IntKind.wrap_i64]; omega
        have x6 : IntKind.i64.wrap (Ti % 64) = Ti % 64 := by rw [IntKind.wrap_i64]; omega
        refine wp_region_late (fun _ => True) 15 (by kernel_rfl) trivial (fun hHeld => ?_)
        refine wpAnyE_take (i := 0) (d := some 35) (v := ?_) rfl (by kernel_rfl) (by kernel_rfl) (by kernel_rfl) (by kernel_rfl) (fun _ _ _ h => h) rfl rfl ?hy (by assumption) ?_
        case hy => (intro w' hSw; clear hSw; go_simp <;> (try with_reducible rfl))
        simp only [Act.put, List.setIfInBounds_toArray, List.set_cons_zero, List.set_cons_succ]
        refine wpAnyE_take (i := 1) (d := some 36) (v := ?_) rfl (by kernel_rfl) (by kernel_rfl) (by kernel_rfl) (by kernel_rfl) (fun _ _ _ h => h) rfl rfl ?hy (by assumption) ?_
        case hy => (intro w' hSw; clear hSw; go_simp <;> (try with_reducible rfl))
        simp only [Act.put, List.setIfInBounds_toArray, List.set_cons_zero, List.set_cons_succ]
        refine wpAnyE_take (i := 2) (d := some 37) (v := ?_) rfl (by kernel_rfl) (by kernel_rfl) (by kernel_rfl) (by kernel_rfl) (fun _ _ _ h => h) rfl rfl ?hy (by assumption) ?_
        case hy => (intro w' hSw; clear hSw; go_simp <;> (try with_reducible rfl))
        simp only [Act.put, List.setIfInBounds_toArray, List.set_cons_zero, List.set_cons_succ]
        refine wpAnyE_take (i := 3) (d := some 38) (v := ?_) rfl (by kernel_rfl) (by kernel_rfl) (by kernel_rfl) (by kernel_rfl) (fun _ _ _ h => h) rfl rfl ?hy (by assumption) ?_
        case hy => (intro w' hSw; clear hSw; go_simp <;> (try with_reducible rfl))
        simp only [Act.put, List.setIfInBounds_toArray, List.set_cons_zero, List.set_cons_succ]
        refine wpAnyE_take (i := 4) (d := some 39) (v := ?_) rfl (by kernel_rfl) (by kernel_rfl) (by kernel_rfl) (by kernel_rfl) (fun _ _ _ h => h) rfl rfl ?hy (by assumption) ?_
        case hy => (intro w' hSw; clear hSw; go_simp <;> (try with_reducible rfl))
        simp only [Act.put, List.setIfInBounds_toArray, List.set_cons_zero, List.set_cons_succ]
        refine wpAnyE_take (i := 5) (d := some 40) (v := ?_) rfl (by kernel_rfl) (by kernel_rfl) (by kernel_rfl) (by kernel_rfl) (fun _ _ _ h => h) rfl rfl ?hy (by assumption) ?_
        case hy => (intro w' hSw; clear hSw; go_simp <;> (try with_reducible rfl))
        simp only [Act.put, List.setIfInBounds_toArray, List.set_cons_zero, List.set_cons_succ]
        refine wpAnyE_take (i := 6) (d := some 41) (v := ?_) rfl (by kernel_rfl) (by kernel_rfl) (by kernel_rfl) (by kernel_rfl) (fun _ _ _ h => h) rfl rfl ?hy (by assumption) ?_
        case hy => (intro w' hSw; clear hSw; go_simp <;> (try with_reducible rfl))
        simp only [Act.put, List.setIfInBounds_toArray, List.set_cons_zero, List.set_cons_succ]
        refine wpAnyE_take (i := 7) (d := some 42) (v := ?_) rfl (by kernel_rfl) (by kernel_rfl) (by kernel_rfl) (by kernel_rfl) (fun _ _ _ h => h) rfl rfl ?hy (by assumption) ?_
        case hy => (intro w' hSw; clear hSw; go_simp <;> (try with_reducible rfl))
        simp only [Act.put, List.setIfInBounds_toArray, List.set_cons_zero, List.set_cons_succ]
        refine wpAnyE_take (i := 8) (d := some 43) (v := ?_) rfl (by kernel_rfl) (by kernel_rfl) (by kernel_rfl) (by kernel_rfl) (fun _ _ _ h => h) rfl rfl ?hy (by assumption) ?_
        case hy => (intro w' hSw; clear hSw; go_simp <;> (try with_reducible rfl))
        simp only [Act.put, List.setIfInBounds_toArray, List.set_cons_zero, List.set_cons_succ]
        refine wpAnyE_take (i := 9) (d := some 44) (v := ?_) rfl (by kernel_rfl) (by kernel_rfl) (by kernel_rfl) (by kernel_rfl) (fun _ _ _ h => h) rfl rfl ?hy (by assumption) ?_
        case hy => (intro w' hSw; clear hSw; go_simp <;> (try with_reducible rfl))
        simp only [Act.put, List.setIfInBounds_toArray, List.set_cons_zero, List.set_cons_succ]
        refine wpAnyE_take (i := 10) (d := some 45) (v := ?_) rfl (by kernel_rfl) (by kernel_rfl) (by kernel_rfl) (by kernel_rfl) (fun _ _ _ h => h) rfl rfl ?hy (by assumption) ?_
        case hy => (intro w' hSw; clear hSw; go_simp <;> (try with_reducible rfl))
        simp only [Act.put, List.setIfInBounds_toArray, List.set_cons_zero, List.set_cons_succ]
        refine wpAnyE_take (i := 11) (d := some 46) (v := ?_) rfl (by kernel_rfl) (by kernel_rfl) (by kernel_rfl) (by kernel_rfl) (fun _ _ _ h => h) rfl rfl ?hy (by assumption) ?_
        case hy => (intro w' hSw; clear hSw; go_simp <;> (try with_reducible rfl))
        simp only [Act.put, List.setIfInBounds_toArray, List.set_cons_zero, List.set_cons_succ]
        refine wpAnyE_take (i := 12) (d := some 47) (v := ?_) rfl (by kernel_rfl) (by kernel_rfl) (by kernel_rfl) (by kernel_rfl) (fun _ _ _ h => h) rfl rfl ?hy (by assumption) ?_
        case hy => (intro w' hSw; clear hSw; go_simp <;> (try with_reducible rfl))
        simp only [Act.put, List.setIfInBounds_toArray, List.set_cons_zero, List.set_cons_succ]
        refine wpAnyE_take (i := 13) (d := some 48) (v := ?_) rfl (by kernel_rfl) (by kernel_rfl) (by kernel_rfl) (by kernel_rfl) (fun _ _ _ h => h) rfl rfl ?hy (by assumption) ?_
        case hy => (intro w' hSw; clear hSw; go_simp <;> (try with_reducible rfl))
        simp only [Act.put, List.setIfInBounds_toArray, List.set_cons_zero, List.set_cons_succ]
        refine wpAnyE_one (i := 14) (by kernel_rfl) rfl rfl ?_
        go_simp
        refine wpAnyE_one (i := 15) (by kernel_rfl) rfl rfl ?_
        go_simp
        refine wpAnyE_done (by kernel_rfl) ?_ _
        clear t1 t2 t3 t4 t5 t6 x1 x2 x3 x4 x5 x6 d1 d2 d3 d4 b1 b2 b3 b4 b5 b6 b7 b8 b9 b10 hHeld
        generalize ltr (P / 4) = L0 at HE ⊢
        generalize ltr (P % 4 * 16 + Q / 16) = L1 at HE ⊢
        generalize ltr (Q % 16 * 4 + R / 64) = L2 at HE ⊢
        generalize ltr (R % 64) = L3 at HE ⊢
        have HV : Hid (e64L (l.take (k + 2)) = e64L (l.take k) ++ [L0, L1, L2, 61]) := HE.out
        have hel := e64L_len (l.take k)
        rw [List.length_take] at hel
        have hel2 : (e64L (l.take k)).length ≤ 139810140 := by omega
        have HLN : Hid (∀ wx : World, Lies (wx.alloc (.cells #[.int .u8 (L0.toNat : Int), .int .u8 (L1.toNat : Int), .int .u8 (L2.toNat : Int), .int .u8 61] 5)) wx.heap.size (rowV [L0, L1, L2, 61]) 5) := fun wx => Lies.new wx _ _
        have HTK : Hid (e64L (l.take (k + 3)) = e64L (l.take (k + 2))) := by
          show _ = _
          rw [List.take_of_length_le (by rw [← HN.out]; omega), List.take_of_length_le (by rw [← HN.out]; omega)]
        clear hel
        generalize e64L (l.take k) = EK at HO HV hel2
        go_wp2_with (at_builtin; refine wpList_append_keep rfl _ _ rfl w.heap.size _ EK.length EK rfl ((HO.out.alloc _).drew) (some ⟨wr.heap.size, 0, none⟩) [L0, L1, L2, 61] 4 4 rfl rfl (lies_bts (HLN.out _)) (fun e => by cases e) (by omega) (by have := HBe.out.size; simp; omega) ?_; intro v3 w3 hown3 hgrow3; have HO3 : Hid (w3.ownsRow w.heap.size 5 1 v3 (e64L (l.take (k + 3))).length (cellsB (e64L (l.take (k + 3))))) := (by show World.ownsRow _ _ _ _ _ _ _; rw [HTK.out, HV.out, List.length_append]; exact hown3); have HB3 : Hid (Below w.heap.size w w3) := ((HBe.out.alloc HBe.out.size _).drew).grown hgrow3 (by have := HBe.out.size; simp; omega) (fun q hq => (HO.out.lt q hq).1); clear hown3 hgrow3)
        go_roundw
        case rel => exact ⟨k + 3, by omega, by omega, by go_num, HO3, HB3⟩
        case measure => simp [intOf]; omega
      · have c0 := HP.out 0 (by omega) p rfl
        rw [Nat.add_zero] at c0
        have c1 := HP.out 1 (by omega) q rfl
        have c2 := HP.out 2 (by omega) r rfl
        clear HP HZ
        obtain ⟨P, hPe⟩ : ∃ P, P = p.toNat := ⟨_, rfl⟩
        obtain ⟨Q, hQe⟩ : ∃ Q, Q = q.toNat := ⟨_, rfl⟩
        obtain ⟨R, hRe⟩ : ∃ R, R = r.toNat := ⟨_, rfl⟩
        rw [← hPe] at hp c0
        rw [← hPe, ← hQe, ← hRe] at HE
        rw [← hQe] at hq c1
        rw [← hRe] at hr c2
        clear hPe hQe hRe
        go_wp2_with fail
        refine wp_loop_rounds 4 ?_
        rw [rounds_succ]
        go_wp2_with fail
        rw [rounds_succ]
        go_wp2_with fail
        rw [rounds_succ]
        go_wp2_with fail
        rw [rounds_succ]
        go_wp2_with fail
        have hT : ((P : Int) * 256 + (Q : Int)) * 256 + (R : Int) = ((P * 65536 + Q * 256 + R : Nat) : Int) := by omega
        generalize ((P : Int) * 256 + (Q : Int)) * 256 + (R : Int) = Ti at hT ⊢
        have h0 : 0 ≤ Ti := by omega
        have h1 : Ti < 16777216 := by omega
        have b1 : (0 : Int) ≤ Ti / 262144 := by omega
        have b2 : Ti / 262144 < 64 := by omega
        have b3 : (0 : Int) ≤ Ti / 4096 % 64 := by omega
        have b4 : Ti / 4096 % 64 < 64 := by omega
        have b5 : (0 : Int) ≤ Ti / 64 % 64 := by omega
        have b6 : Ti / 64 % 64 < 64 := by omega
        have b7 : (0 : Int) ≤ Ti % 64 := by omega
        have b8 : Ti % 64 < 64 := by omega
        have b9 : (0 : Int) ≤ Ti / 4096 := by omega
        have b10 : (0 : Int) ≤ Ti / 64 := by omega
        have HTI : Hid (Ti = ((P * 65536 + Q * 256 + R : Nat) : Int)) := hT
        clear hT
        have d1 := ltr_at (Ti / 262144) (P / 4) (by have := HTI.out; omega) (by omega)
        have d2 := ltr_at (Ti / 4096 % 64) (P % 4 * 16 + Q / 16) (by have := HTI.out; omega) (by omega)
        have d3 := ltr_at (Ti / 64 % 64) (Q % 16 * 4 + R / 64) (by have := HTI.out; omega) (by omega)
        have d4 := ltr_at (Ti % 64) (R % 64) (by have := HTI.out; omega) (by omega)
        unfold letS at d1 d2 d3 d4
        dsimp only at d1 d2 d3 d4
        have t1 : Ti.tdiv 262144 = Ti / 262144 := Int.tdiv_eq_ediv_of_nonneg h0
        have t2 : Ti.tdiv 4096 = Ti / 4096 := Int.tdiv_eq_ediv_of_nonneg h0
        have t3 : Ti.tdiv 64 = Ti / 64 := Int.tdiv_eq_ediv_of_nonneg h0
        have t4 : (Ti / 4096).tmod 64 = Ti / 4096 % 64 := Int.tmod_eq_emod_of_nonneg b9
        have t5 : (Ti / 64).tmod 64 = Ti / 64 % 64 := Int.tmod_eq_emod_of_nonneg b10
        have t6 : Ti.tmod 64 = Ti % 64 := Int.tmod_eq_emod_of_nonneg h0
        have x1 : IntKind.i64.wrap (Ti / 262144) = Ti / 262144 := by rw [IntKind.wrap_i64]; omega
        have x2 : IntKind.i64.wrap (Ti / 4096) = Ti / 4096 := by rw [IntKind.wrap_i64]; omega
        have x3 : IntKind.i64.wrap (Ti / 64) = Ti / 64 := by rw [IntKind.wrap_i64]; omega
        have x4 : IntKind.i64.wrap (Ti / 4096 % 64) = Ti / 4096 % 64 := by rw [IntKind.wrap_i64]; omega
        have x5 : IntKind.i64.wrap (Ti / 64 % 64) = Ti / 64 % 64 := by rw [IntKind.wrap_i64]; omega
        have x6 : IntKind.i64.wrap (Ti % 64) = Ti % 64 := by rw [IntKind.wrap_i64]; omega
        refine wp_region_late (fun _ => True) 15 (by kernel_rfl) trivial (fun hHeld => ?_)
        refine wpAnyE_take (i := 0) (d := some 35) (v := ?_) rfl (by kernel_rfl) (by kernel_rfl) (by kernel_rfl) (by kernel_rfl) (fun _ _ _ h => h) rfl rfl ?hy (by assumption) ?_
        case hy => (intro w' hSw; clear hSw; go_simp <;> (try with_reducible rfl))
        simp only [Act.put, List.setIfInBounds_toArray, List.set_cons_zero, List.set_cons_succ]
        refine wpAnyE_take (i := 1) (d := some 36) (v := ?_) rfl (by kernel_rfl) (by kernel_rfl) (by kernel_rfl) (by kernel_rfl) (fun _ _ _ h => h) rfl rfl ?hy (by assumption) ?_
        case hy => (intro w' hSw; clear hSw; go_simp <;> (try with_reducible rfl))
        simp only [Act.put, List.setIfInBounds_toArray, List.set_cons_zero, List.set_cons_succ]
        refine wpAnyE_take (i := 2) (d := some 37) (v := ?_) rfl (by kernel_rfl) (by kernel_rfl) (by kernel_rfl) (by kernel_rfl) (fun _ _ _ h => h) rfl rfl ?hy (by assumption) ?_
        case hy => (intro w' hSw; clear hSw; go_simp <;> (try with_reducible rfl))
        simp only [Act.put, List.setIfInBounds_toArray, List.set_cons_zero, List.set_cons_succ]
        refine wpAnyE_take (i := 3) (d := some 38) (v := ?_) rfl (by kernel_rfl) (by kernel_rfl) (by kernel_rfl) (by kernel_rfl) (fun _ _ _ h => h) rfl rfl ?hy (by assumption) ?_
        case hy => (intro w' hSw; clear hSw; go_simp <;> (try with_reducible rfl))
        simp only [Act.put, List.setIfInBounds_toArray, List.set_cons_zero, List.set_cons_succ]
        refine wpAnyE_take (i := 4) (d := some 39) (v := ?_) rfl (by kernel_rfl) (by kernel_rfl) (by kernel_rfl) (by kernel_rfl) (fun _ _ _ h => h) rfl rfl ?hy (by assumption) ?_
        case hy => (intro w' hSw; clear hSw; go_simp <;> (try with_reducible rfl))
        simp only [Act.put, List.setIfInBounds_toArray, List.set_cons_zero, List.set_cons_succ]
        refine wpAnyE_take (i := 5) (d := some 40) (v := ?_) rfl (by kernel_rfl) (by kernel_rfl) (by kernel_rfl) (by kernel_rfl) (fun _ _ _ h => h) rfl rfl ?hy (by assumption) ?_
        case hy => (intro w' hSw; clear hSw; go_simp <;> (try with_reducible rfl))
        simp only [Act.put, List.setIfInBounds_toArray, List.set_cons_zero, List.set_cons_succ]
        refine wpAnyE_take (i := 6) (d := some 41) (v := ?_) rfl (by kernel_rfl) (by kernel_rfl) (by kernel_rfl) (by kernel_rfl) (fun _ _ _ h => h) rfl rfl ?hy (by assumption) ?_
        case hy => (intro w' hSw; clear hSw; go_simp <;> (try with_reducible rfl))
        simp only [Act.put, List.setIfInBounds_toArray, List.set_cons_zero, List.set_cons_succ]
        refine wpAnyE_take (i := 7) (d := some 42) (v := ?_) rfl (by kernel_rfl) (by kernel_rfl) (by kernel_rfl) (by kernel_rfl) (fun _ _ _ h => h) rfl rfl ?hy (by assumption) ?_
        case hy => (intro w' hSw; clear hSw; go_simp <;> (try with_reducible rfl))
        simp only [Act.put, List.setIfInBounds_toArray, List.set_cons_zero, List.set_cons_succ]
        refine wpAnyE_take (i := 8) (d := some 43) (v := ?_) rfl (by kernel_rfl) (by kernel_rfl) (by kernel_rfl) (by kernel_rfl) (fun _ _ _ h => h) rfl rfl ?hy (by assumption) ?_
        case hy => (intro w' hSw; clear hSw; go_simp <;> (try with_reducible rfl))
        simp only [Act.put, List.setIfInBounds_toArray, List.set_cons_zero, List.set_cons_succ]
        refine wpAnyE_take (i := 9) (d := some 44) (v := ?_) rfl (by kernel_rfl) (by kernel_rfl) (by kernel_rfl) (by kernel_rfl) (fun _ _ _ h => h) rfl rfl ?hy (by assumption) ?_
        case hy => (intro w' hSw; clear hSw; go_simp <;> (try with_reducible rfl))
        simp only [Act.put, List.setIfInBounds_toArray, List.set_cons_zero, List.set_cons_succ]
        refine wpAnyE_take (i := 10) (d := some 45) (v := ?_) rfl (by kernel_rfl) (by kernel_rfl) (by kernel_rfl) (by kernel_rfl) (fun _ _ _ h => h) rfl rfl ?hy (by assumption) ?_
        case hy => (intro w' hSw; clear hSw; go_simp <;> (try with_reducible rfl))
        simp only [Act.put, List.setIfInBounds_toArray, List.set_cons_zero, List.set_cons_succ]
        refine wpAnyE_take (i := 11) (d := some 46) (v := ?_) rfl (by kernel_rfl) (by kernel_rfl) (by kernel_rfl) (by kernel_rfl) (fun _ _ _ h => h) rfl rfl ?hy (by assumption) ?_
        case hy => (intro w' hSw; clear hSw; go_simp <;> (try with_reducible rfl))
        simp only [Act.put, List.setIfInBounds_toArray, List.set_cons_zero, List.set_cons_succ]
        refine wpAnyE_take (i := 12) (d := some 47) (v := ?_) rfl (by kernel_rfl) (by kernel_rfl) (by kernel_rfl) (by kernel_rfl) (fun _ _ _ h => h) rfl rfl ?hy (by assumption) ?_
        case hy => (intro w' hSw; clear hSw; go_simp <;> (try with_reducible rfl))
        simp only [Act.put, List.setIfInBounds_toArray, List.set_cons_zero, List.set_cons_succ]
        refine wpAnyE_take (i := 13) (d := some 48) (v := ?_) rfl (by kernel_rfl) (by kernel_rfl) (by kernel_rfl) (by kernel_rfl) (fun _ _ _ h => h) rfl rfl ?hy (by assumption) ?_
        case hy => (intro w' hSw; clear hSw; go_simp <;> (try with_reducible rfl))
        simp only [Act.put, List.setIfInBounds_toArray, List.set_cons_zero, List.set_cons_succ]
        refine wpAnyE_one (i := 14) (by kernel_rfl) rfl rfl ?_
        go_simp
        refine wpAnyE_one (i := 15) (by kernel_rfl) rfl rfl ?_
        go_simp
        refine wpAnyE_done (by kernel_rfl) ?_ _
        clear t1 t2 t3 t4 t5 t6 x1 x2 x3 x4 x5 x6 d1 d2 d3 d4 b1 b2 b3 b4 b5 b6 b7 b8 b9 b10 hHeld
        generalize ltr (P / 4) = L0 at HE ⊢
        generalize ltr (P % 4 * 16 + Q / 16) = L1 at HE ⊢
        generalize ltr (Q % 16 * 4 + R / 64) = L2 at HE ⊢
        generalize ltr (R % 64) = L3 at HE ⊢
        have HV : Hid (e64L (l.take (k + 3)) = e64L (l.take k) ++ [L0, L1, L2, L3]) := HE.out
        have hel := e64L_len (l.take k)
        rw [List.length_take] at hel
        have hel2 : (e64L (l.take k)).length ≤ 139810140 := by omega
        have HLN : Hid (∀ wx : World, Lies (wx.alloc (.cells #[.int .u8 (L0.toNat : Int), .int .u8 (L1.toNat : Int), .int .u8 (L2.toNat : Int), .int .u8 (L3.toNat : Int)] 5)) wx.heap.size (rowV [L0, L1, L2, L3]) 5) := fun wx => Lies.new wx _ _
        have HTK : Hid (e64L (l.take (k + 3)) = e64L (l.take (k + 3))) := by
          show _ = _
          rfl
        clear hel
        generalize e64L (l.take k) = EK at HO HV hel2
        go_wp2_with (at_builtin; refine wpList_append_keep rfl _ _ rfl w.heap.size _ EK.length EK rfl ((HO.out.alloc _).drew) (some ⟨wr.heap.size, 0, none⟩) [L0, L1, L2, L3] 4 4 rfl rfl (lies_bts (HLN.out _)) (fun e => by cases e) (by omega) (by have := HBe.out.size; simp; omega) ?_; intro v3 w3 hown3 hgrow3; have HO3 : Hid (w3.ownsRow w.heap.size 5 1 v3 (e64L (l.take (k + 3))).length (cellsB (e64L (l.take (k + 3))))) := (by show World.ownsRow _ _ _ _ _ _ _; rw [HTK.out, HV.out, List.length_append]; exact hown3); have HB3 : Hid (Below w.heap.size w w3) := ((HBe.out.alloc HBe.out.size _).drew).grown hgrow3 (by have := HBe.out.size; simp; omega) (fun q hq => (HO.out.lt q hq).1); clear hown3 hgrow3)
        go_roundw
        case rel => exact ⟨k + 3, by omega, by omega, by go_num, HO3, HB3⟩
        case measure => simp [intOf]; omega
    · have HE : Hid (e64L l = e64L (l.take k)) := by
        show _ = _
        rw [List.take_of_length_le (by rw [← HN.out]; omega)]
      have hbk := own_conv HO.out
      clear hk hk3
      go_wp2
      go_ret
      exact ⟨by rw [HE.out]; rfl, HBe.out⟩
end Go.Proofs.YtdgepnfgjgbkoaaDoor
