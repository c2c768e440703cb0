/-
  The document's q: what a byte becomes in Q.
-/
import Derived.Test.YtdgepnfgjgbkoaaDoorWp17
import Derived.Test.YtdgepnfgjgbkoaaDoorWt17
import Derived.Test.YtdgepnfgjgbkoaaDoorScP
namespace Go.Proofs.YtdgepnfgjgbkoaaDoor
open Go.RowKit

theorem qsf_is (c : UInt8) : qsf c = true ↔ ((48 ≤ c.toNat ∧ c.toNat ≤ 57) ∨ (65 ≤ c.toNat ∧ c.toNat ≤ 90) ∨ (97 ≤ c.toNat ∧ c.toNat ≤ 122) ∨ c.toNat = 33 ∨ c.toNat = 42 ∨ c.toNat = 43 ∨ c.toNat = 45 ∨ c.toNat = 47) := by
  have := u8_all (p := fun c => decide (qsf c = true ↔ ((48 ≤ c.toNat ∧ c.toNat ≤ 57) ∨ (65 ≤ c.toNat ∧ c.toNat ≤ 90) ∨ (97 ≤ c.toNat ∧ c.toNat ≤ 122) ∨ c.toNat = 33 ∨ c.toNat = 42 ∨ c.toNat = 43 ∨ c.toNat = 45 ∨ c.toNat = 47))) (by decide +kernel) c
  exact of_decide_eq_true this
def dX (k : Nat) : UInt8 := [48, 49, 50, 51, 52, 53, 54, 55, 56, 57, 65, 66, 67, 68, 69, 70].getD k 0
theorem dX_at (k : Nat) (hk : k < 16) : ∀ h, (⟨#[48, 49, 50, 51, 52, 53, 54, 55, 56, 57, 65, 66, 67, 68, 69, 70]⟩ : ByteArray)[k]'h = dX k := by
  have : ∀ k : Fin 16, (⟨#[48, 49, 50, 51, 52, 53, 54, 55, 56, 57, 65, 66, 67, 68, 69, 70]⟩ : ByteArray)[k.val]'(k.isLt) = dX k.val := by decide
  exact fun h => this ⟨k, hk⟩
theorem qB_hex (c : UInt8) (h1 : qsf c = false) (h2 : c ≠ 32) : qB c = [61, dX (c.toNat / 16), dX (c.toNat % 16)] := by
  have := u8_all (p := fun c => decide (qsf c = false → c ≠ 32 → qB c = [61, dX (c.toNat / 16), dX (c.toNat % 16)])) (by decide +kernel) c
  exact (of_decide_eq_true this) h1 h2
theorem new_row1 (w : World) (l : List UInt8) : Bts (some ⟨w.heap.size, 0, none⟩) l (w.alloc (.cells (rowV l) 5)) := .inr ⟨w.heap.size, 0, rfl, by simp, fun j hj => by
  rw [Nat.zero_add]
  exact (Lies.new w (rowV l) 5).cell j |>.trans (by rw [rowV_at l j hj])⟩
set_option maxRecDepth 100000 in
set_option maxHeartbeats 4000000 in
theorem vq_any (c : UInt8) (w : World) : Calls Tryd.prog 74 #[.int .u8 (c.toNat : Int)] w fun e w' => e = .returned (.string (bS (qB c))) ∧ Below w.heap.size w w' := by
  have hq := qsf_is c
  have hc := c.toNat_lt
  obtain ⟨n, hn⟩ : ∃ n, n = c.toNat := ⟨_, rfl⟩
  rw [← hn] at hq hc ⊢
  have HN : Hid (n = c.toNat) := hn
  clear hn
  go_enter Tryd.func74, Tryd.ntmps74
  go_upto_region 1 with fail
  go_cut [3] from 4 to 46 (fun v wc => wc = w ∧ v = .bool (qsf c))
  case first =>
    have yes : ((48 ≤ n ∧ n ≤ 57) ∨ (65 ≤ n ∧ n ≤ 90) ∨ (97 ≤ n ∧ n ≤ 122) ∨ n = 33 ∨ n = 42 ∨ n = 43 ∨ n = 45 ∨ n = 47) → Hid (qsf c = true) := fun h2 => hq.2 h2
    have no : ¬ ((48 ≤ n ∧ n ≤ 57) ∨ (65 ≤ n ∧ n ≤ 90) ∨ (97 ≤ n ∧ n ≤ 122) ∨ n = 33 ∨ n = 42 ∨ n = 43 ∨ n = 45 ∨ n = 47) → Hid (qsf c = false) := fun h2 => by
      show qsf c = false
      cases h : qsf c with
      | false => rfl
      | true => exact absurd (hq.1 h) h2
    have HY := yes
    have HNO := no
    clear hq yes no
    have e33 : ((n : Int) == 33) = decide (n = 33) := by rw [Bool.eq_iff_iff]; simp; omega
    have e42 : ((n : Int) == 42) = decide (n = 42) := by rw [Bool.eq_iff_iff]; simp; omega
    have e43 : ((n : Int) == 43) = decide (n = 43) := by rw [Bool.eq_iff_iff]; simp; omega
    have e45 : ((n : Int) == 45) = decide (n = 45) := by rw [Bool.eq_iff_iff]; simp; omega
    have e47 : ((n : Int) == 47) = decide (n = 47) := by rw [Bool.eq_iff_iff]; simp; omega
    by_cases a1 : 48 ≤ n
    · have a1i : 48 ≤ (n : Int) := by omega
      by_cases a2 : n ≤ 57
      · have a2i : (n : Int) ≤ 57 := by omega
        have HP := HY (by omega)
        clear HY HNO e33 e42 e43 e45 e47
        go_wp2_with fail
        go_meet
        exact ⟨rfl, by rw [HP.out]⟩
      · have a2i : ¬ (n : Int) ≤ 57 := by omega
        rw [decide_eq_false (by omega)] at e33 e42 e43 e45 e47
        by_cases b1 : 65 ≤ n
        · have b1i : 65 ≤ (n : Int) := by omega
          by_cases b2 : n ≤ 90
          · have b2i : (n : Int) ≤ 90 := by omega
            have HP := HY (by omega)
            clear HY HNO e33 e42 e43 e45 e47
            go_wp2_with fail
            go_meet
            exact ⟨rfl, by rw [HP.out]⟩
          · have b2i : ¬ (n : Int) ≤ 90 := by omega
            by_cases d1 : 97 ≤ n
            · have d1i : 97 ≤ (n : Int) := by omega
              by_cases d2 : n ≤ 122
              · have d2i : (n : Int) ≤ 122 := by omega
                have HP := HY (by omega)
                clear HY HNO e33 e42 e43 e45 e47
                go_wp2_with fail
                go_meet
                exact ⟨rfl, by rw [HP.out]⟩
              · have d2i : ¬ (n : Int) ≤ 122 := by omega
                have HP := HNO (by omega)
                clear HY HNO
                go_wp2_with fail
                go_meet
                exact ⟨rfl, by rw [HP.out]⟩
            · have d1i : ¬ 97 ≤ (n : Int) := by omega
              have HP := HNO (by omega)
              clear HY HNO
              go_wp2_with fail
              go_meet
              exact ⟨rfl, by rw [HP.out]⟩
        · have b1i : ¬ 65 ≤ (n : Int) := by omega
          have d1i : ¬ 97 ≤ (n : Int) := by omega
          have HP := HNO (by omega)
          clear HY HNO
          go_wp2_with fail
          go_meet
          exact ⟨rfl, by rw [HP.out]⟩
    · have a1i : ¬ 48 ≤ (n : Int) := by omega
      have b1i : ¬ 65 ≤ (n : Int) := by omega
      have d1i : ¬ 97 ≤ (n : Int) := by omega
      by_cases f1 : n = 33
      · have HP := HY (by omega)
        rw [decide_eq_true f1] at e33
        clear f1 HY HNO
        go_wp2_with fail
        go_meet
        exact ⟨rfl, by rw [HP.out]⟩
      rw [decide_eq_false f1] at e33
      by_cases f2 : n = 42
      · have HP := HY (by omega)
        rw [decide_eq_true f2] at e42
        clear f2 HY HNO
        go_wp2_with fail
        go_meet
        exact ⟨rfl, by rw [HP.out]⟩
      rw [decide_eq_false f2] at e42
      by_cases f3 : n = 43
      · have HP := HY (by omega)
        rw [decide_eq_true f3] at e43
        clear f3 HY HNO
        go_wp2_with fail
        go_meet
        exact ⟨rfl, by rw [HP.out]⟩
      rw [decide_eq_false f3] at e43
      by_cases f4 : n = 45
      · have HP := HY (by omega)
        rw [decide_eq_true f4] at e45
        clear f4 HY HNO
        go_wp2_with fail
        go_meet
        exact ⟨rfl, by rw [HP.out]⟩
      rw [decide_eq_false f4] at e45
      by_cases f5 : n = 47
      · have HP := HY (by omega)
        rw [decide_eq_true f5] at e47
        clear f5 HY HNO
        go_wp2_with fail
        go_meet
        exact ⟨rfl, by rw [HP.out]⟩
      rw [decide_eq_false f5] at e47
      have HP := HNO (by omega)
      clear HY HNO
      go_wp2_with fail
      go_meet
      exact ⟨rfl, by rw [HP.out]⟩
  case rest =>
    obtain ⟨rfl, rfl⟩ := hcut
    clear hq
    cases hs : qsf c with
    | true =>
      have h32 : ((n : Int) == 32) = false := by
        rw [beq_eq_false_iff_ne]
        intro h
        have h9 : c.toNat = 32 := by rw [← HN.out]; omega
        have : c = 32 := UInt8.toNat_inj.1 h9
        rw [this] at hs
        exact absurd hs (by decide)
      have HQB : Hid (bS (qB c) = ⟨#[c]⟩) := by show bS _ = _; unfold qB; rw [if_pos hs]; rfl
      have hb := new_row1 wc [c]
      have hcv : (convert 38 9 (.slice (some ⟨wc.heap.size, 0, none⟩) 1 1)).run Tryd.prog (wc.alloc (.cells #[.int .u8 (n : Int)] 5)) = .ok (.string ⟨#[c]⟩) (wc.alloc (.cells #[.int .u8 (n : Int)] 5)) := by
        have h := bts_back hb 1
        rw [show rowV [c] = #[.int .u8 (c.toNat : Int)] from rfl, ← HN.out] at h
        exact h
      clear hb hs
      go_wp2_with fail
      go_ret
      exact ⟨by rw [HQB.out]; rfl, (Below.refl _ _).alloc (Nat.le_refl _) _⟩
    | false =>
      by_cases hc32 : n = 32
      · have h32 : ((n : Int) == 32) = true := by rw [hc32]; rfl
        have HQB : Hid (bS (qB c) = ⟨#[95]⟩) := by
          have h9 : c.toNat = 32 := by rw [← HN.out]; exact hc32
          have : c = 32 := UInt8.toNat_inj.1 h9
          subst this
          rfl
        clear hc32 hs
        go_wp2_with fail
        go_ret
        exact ⟨by rw [HQB.out]; rfl, Below.refl _ _⟩
      · have h32 : ((n : Int) == 32) = false := by rw [beq_eq_false_iff_ne]; omega
        have h1 : ((n : Int) / 16).toNat = n / 16 := by omega
        have h2 : ((n : Int) % 16).toNat = n % 16 := by omega
        have x1 := dX_at (n / 16) (by omega)
        have x2 := dX_at (n % 16) (by omega)
        rw [← h1] at x1
        rw [← h2] at x2
        have HQB : Hid (bS (qB c) = ⟨#[61, dX (n / 16), dX (n % 16)]⟩) := by
          show bS (qB c) = _
          rw [qB_hex c hs (fun e => hc32 (by rw [HN.out, e]; rfl)), ← HN.out]
          rfl
        rw [h1] at x1
        rw [h2] at x2
        have HQB := HQB
        generalize dX (n / 16) = X at *
        generalize dX (n % 16) = Y at *
        have d1 : 0 ≤ (n : Int) / 16 := by omega
        have d2 : (n : Int) / 16 < 16 := by omega
        have d3 : 0 ≤ (n : Int) % 16 := by omega
        have d4 : (n : Int) % 16 < 16 := by omega
        have tm : (n : Int).tmod 16 = (n : Int) % 16 := Int.tmod_eq_emod_of_nonneg (by omega)
        have w1 : IntKind.u8.wrap ((n : Int) / 16) = (n : Int) / 16 := by rw [IntKind.wrap_u8]; omega
        have w2 : IntKind.u8.wrap ((n : Int) % 16) = (n : Int) % 16 := by rw [IntKind.wrap_u8]; omega
        have hb3 : Bts (some ⟨wc.heap.size, 0, none⟩) [61, X, Y] (wc.alloc (.cells #[.int .u8 61, .int .u8 (X.toNat : Int), .int .u8 (Y.toNat : Int)] 5)).drew := (new_row1 wc [61, X, Y]).below (Below.refl _ _).drew
        have hcv : (convert 38 9 (.slice (some ⟨wc.heap.size, 0, none⟩) 3 3)).run Tryd.prog (wc.alloc (.cells #[.int .u8 61, .int .u8 (X.toNat : Int), .int .u8 (Y.toNat : Int)] 5)).drew = .ok (.string ⟨#[61, X, Y]⟩) (wc.alloc (.cells #[.int .u8 61, .int .u8 (X.toNat : Int), .int .u8 (Y.toNat : Int)] 5)).drew := bts_back hb3 3
        clear hb3
        have HB1 : Hid (Below wc.heap.size wc (wc.alloc (.cells #[.int .u8 61, .int .u8 (X.toNat : Int), .int .u8 (Y.toNat : Int)] 5)).drew) := ((Below.refl _ wc).alloc (Nat.le_refl _) _).drew
        clear hc32 hs hc
        go_wp2_with fail
        refine wp_region_late (fun wx => Below wc.heap.size wc wx) 9 (by kernel_rfl) (Below.refl _ _).drew (fun hHeld => ?_)
        refine wpAnyE_tk (i := 0) (d := some 52) (v := .int .u8 (n : Int)) rfl (by kernel_rfl) (by kernel_rfl) (by kernel_rfl) rfl (fun _ _ _ h => h) rfl rfl ?hy (by assumption) ?_
        case hy => (intro w' hSw; go_simp <;> (first | with_reducible rfl | omega | skip))
        simp only [Act.put, List.setIfInBounds_toArray, List.set_cons_zero, List.set_cons_succ]
        refine wpAnyE_tk (i := 3) (d := some 55) (v := .int .u8 (n : Int)) rfl (by kernel_rfl) (by kernel_rfl) (by kernel_rfl) rfl (fun _ _ _ h => h) rfl rfl ?hy (by assumption) ?_
        case hy => (intro w' hSw; go_simp <;> (first | with_reducible rfl | omega | skip))
        simp only [Act.put, List.setIfInBounds_toArray, List.set_cons_zero, List.set_cons_succ]
        refine wpAnyE_tk (i := 1) (d := some 53) (v := .int .u8 ((n : Int) / 16)) rfl (by kernel_rfl) (by kernel_rfl) (by kernel_rfl) rfl (fun _ _ _ h => h) rfl rfl ?hy (by assumption) ?_
        case hy => (intro w' hSw; go_simp <;> (first | with_reducible rfl | omega | skip))
        simp only [Act.put, List.setIfInBounds_toArray, List.set_cons_zero, List.set_cons_succ]
        refine wpAnyE_tk (i := 4) (d := some 56) (v := .int .u8 ((n : Int) % 16)) rfl (by kernel_rfl) (by kernel_rfl) (by kernel_rfl) rfl (fun _ _ _ h => h) rfl rfl ?hy (by assumption) ?_
        case hy => (intro w' hSw; go_simp <;> (first | with_reducible rfl | omega | skip))
        simp only [Act.put, List.setIfInBounds_toArray, List.set_cons_zero, List.set_cons_succ]
        refine wpAnyE_tk (i := 2) (d := some 54) (v := .int .u8 (X.toNat : Int)) rfl (by kernel_rfl) (by kernel_rfl) (by kernel_rfl) rfl (fun _ _ _ h => h) rfl rfl ?hy (by assumption) ?_
        case hy => (intro w' hSw; go_simp <;> (first | with_reducible rfl | omega | skip))
        simp only [Act.put, List.setIfInBounds_toArray, List.set_cons_zero, List.set_cons_succ]
        refine wpAnyE_tk (i := 5) (d := some 57) (v := .int .u8 (Y.toNat : Int)) rfl (by kernel_rfl) (by kernel_rfl) (by kernel_rfl) rfl (fun _ _ _ h => h) rfl rfl ?hy (by assumption) ?_
        case hy => (intro w' hSw; go_simp <;> (first | with_reducible rfl | omega | skip))
        simp only [Act.put, List.setIfInBounds_toArray, List.set_cons_zero, List.set_cons_succ]
        refine wpAnyE_on (i := 6) (by kernel_rfl) rfl rfl ?_
        go_simp
        refine ⟨HB1.out, ?_⟩
        refine wpAnyE_on (i := 7) (by kernel_rfl) rfl rfl ?_
        go_simp
        refine ⟨HB1.out, ?_⟩
        refine wpAnyE_on (i := 8) (by kernel_rfl) rfl rfl ?_
        go_simp
        refine ⟨HB1.out, ?_⟩
        refine wpAnyE_done (by kernel_rfl) ?_ _
        clear hHeld
        go_wp2
        go_ret
        exact ⟨by rw [HQB.out]; rfl, HB1.out⟩
end Go.Proofs.YtdgepnfgjgbkoaaDoor
