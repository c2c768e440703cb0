/-
  The document's digits and PrintV4.
-/
import Derived.Test.YtnlgbopdbihnjaaGreatDoorRStp
import Derived.Test.YtnlgbopdbihnjaaGreatDoorPw8
import Derived.Test.YtnlgbopdbihnjaaGreatDoorCk8
import Derived.Test.YtnlgbopdbihnjaaGreatDoorRa8
namespace Go.Proofs.YtnlgbopdbihnjaaGreatDoor
open Go.RowKit

theorem dig_one : ∀ x : Fin 16, (⟨#[48, 49, 50, 51, 52, 53, 54, 55, 56, 57, 97, 98, 99, 100, 101, 102]⟩ : ByteArray).extract x.val (x.val + 1) = ⟨([hexC x.val] : List UInt8).toArray⟩ := by decide +kernel
theorem digF_len (f b n : Nat) : (digF f b n).length ≤ f + 1 := by
  induction f generalizing n with
  | zero => simp [digF]
  | succ f ih =>
    rw [digF]
    split
    · simp
    · rw [List.length_append]
      have := ih (n / b)
      simp
      omega
theorem list_size (l : List UInt8) : (⟨l.toArray⟩ : ByteArray).size = l.length := List.size_toArray ..
set_option maxHeartbeats 2000000 in
set_option maxRecDepth 100000 in
theorem rdig_any (b : Nat) (hb : 2 ≤ b) (hb2 : b ≤ 16) : ∀ (f n : Nat), f ≤ 16 → n < b ^ (f + 1) → n ≤ 1000000 → ∀ w : World, Calls Tryz.prog 69 #[.int .i64 (n : Nat), .int .i64 (b : Nat)] w fun e w' => e = .returned (.string ⟨(digF f b n).toArray⟩) ∧ Below w.heap.size w w' := by
  intro f
  induction f with
  | zero =>
    intro n _ hn hn2 w
    have hlt : (n : Int) < (b : Int) := by rw [Nat.zero_add, Nat.pow_one] at hn; omega
    have HD : Hid (digF 0 b n = [hexC (n % b)]) := rfl
    obtain ⟨x, hx⟩ : ∃ x, x = n % b := ⟨_, rfl⟩
    have hxb : x < b := by rw [hx]; exact Nat.mod_lt _ (by omega)
    have h1 : (n : Int).tmod (b : Int) = (x : Int) := by rw [hx, Int.tmod_eq_emod_of_nonneg (by omega)]; rfl
    have HX : Hid ((⟨#[48, 49, 50, 51, 52, 53, 54, 55, 56, 57, 97, 98, 99, 100, 101, 102]⟩ : ByteArray).extract x (x + 1) = ⟨([hexC x] : List UInt8).toArray⟩) := dig_one ⟨x, by omega⟩
    have hb0 : ¬ (b : Int) = 0 := by omega
    have KB : Hid (Below w.heap.size w w) := Below.refl _ _
    rw [← hx] at HD
    clear hx hn
    go_enter Tryz.func69, Tryz.ntmps69
    go_upto_region 1 with fail
    refine wp_region_late (fun wx => Below w.heap.size w wx) 9 (by kernel_rfl) (Below.refl _ w).drew (fun hHeld => ?_)
    refine wpAnyE_tk (i := 0) (d := some 6) (v := ?_) rfl (by kernel_rfl) (by kernel_rfl) (by kernel_rfl) rfl (fun _ _ _ h => h) rfl rfl ?hy (by assumption) ?_
    case hy => (intro w' hSw; (try dsimp only at hSw); go_simp <;> (first | with_reducible rfl | omega | skip))
    simp only [Act.put, List.setIfInBounds_toArray, List.set_cons_zero, List.set_cons_succ]
    refine wpAnyE_tk (i := 1) (d := some 7) (v := ?_) rfl (by kernel_rfl) (by kernel_rfl) (by kernel_rfl) rfl (fun _ _ _ h => h) rfl rfl ?hy (by assumption) ?_
    case hy => (intro w' hSw; (try dsimp only at hSw); go_simp <;> (first | with_reducible rfl | omega | skip))
    simp only [Act.put, List.setIfInBounds_toArray, List.set_cons_zero, List.set_cons_succ]
    refine wpAnyE_tk (i := 2) (d := some 8) (v := .int .i64 (x : Int)) rfl (by kernel_rfl) (by kernel_rfl) (by kernel_rfl) rfl (fun _ _ _ h => h) rfl rfl ?hy (by assumption) ?_
    case hy => (intro w' hSw; (try dsimp only at hSw); go_simp <;> (first | with_reducible rfl | omega | skip))
    simp only [Act.put, List.setIfInBounds_toArray, List.set_cons_zero, List.set_cons_succ]
    refine wpAnyE_tk (i := 3) (d := some 9) (v := ?_) rfl (by kernel_rfl) (by kernel_rfl) (by kernel_rfl) rfl (fun _ _ _ h => h) rfl rfl ?hy (by assumption) ?_
    case hy => (intro w' hSw; (try dsimp only at hSw); go_simp <;> (first | with_reducible rfl | omega | skip))
    simp only [Act.put, List.setIfInBounds_toArray, List.set_cons_zero, List.set_cons_succ]
    refine wpAnyE_tk (i := 4) (d := some 10) (v := ?_) rfl (by kernel_rfl) (by kernel_rfl) (by kernel_rfl) rfl (fun _ _ _ h => h) rfl rfl ?hy (by assumption) ?_
    case hy => (intro w' hSw; (try dsimp only at hSw); go_simp <;> (first | with_reducible rfl | omega | skip))
    simp only [Act.put, List.setIfInBounds_toArray, List.set_cons_zero, List.set_cons_succ]
    refine wpAnyE_tk (i := 5) (d := some 11) (v := .int .i64 (x : Int)) rfl (by kernel_rfl) (by kernel_rfl) (by kernel_rfl) rfl (fun _ _ _ h => h) rfl rfl ?hy (by assumption) ?_
    case hy => (intro w' hSw; (try dsimp only at hSw); go_simp <;> (first | with_reducible rfl | omega | skip))
    simp only [Act.put, List.setIfInBounds_toArray, List.set_cons_zero, List.set_cons_succ]
    refine wpAnyE_tk (i := 6) (d := some 12) (v := .int .i64 ((x : Int) + 1)) rfl (by kernel_rfl) (by kernel_rfl) (by kernel_rfl) rfl (fun _ _ _ h => h) rfl rfl ?hy (by assumption) ?_
    case hy => (intro w' hSw; (try dsimp only at hSw); go_simp <;> (first | with_reducible rfl | exact IntWalk.i64_in _ (by omega) | omega | skip))
    simp only [Act.put, List.setIfInBounds_toArray, List.set_cons_zero, List.set_cons_succ]
    refine wpAnyE_tk (i := 7) (d := some 13) (v := .string ((⟨#[48, 49, 50, 51, 52, 53, 54, 55, 56, 57, 97, 98, 99, 100, 101, 102]⟩ : ByteArray).extract x (x + 1))) rfl (by kernel_rfl) (by kernel_rfl) (by kernel_rfl) rfl (fun _ _ _ h => h) rfl rfl ?hy (by assumption) ?_
    case hy => (intro w' hSw; (try dsimp only at hSw); go_simp; rw [if_pos ⟨by omega, by omega⟩, if_pos (by omega)])
    simp only [Act.put, List.setIfInBounds_toArray, List.set_cons_zero, List.set_cons_succ]
    refine wpAnyE_tk (i := 8) (d := some 5) (v := .string ((⟨#[48, 49, 50, 51, 52, 53, 54, 55, 56, 57, 97, 98, 99, 100, 101, 102]⟩ : ByteArray).extract x (x + 1))) rfl (by kernel_rfl) (by kernel_rfl) (by kernel_rfl) rfl (fun _ _ _ h => h) rfl rfl ?hy (by assumption) ?_
    case hy => (intro w' hSw; (try dsimp only at hSw); go_simp <;> (first | with_reducible rfl | omega | skip))
    simp only [Act.put, List.setIfInBounds_toArray, List.set_cons_zero, List.set_cons_succ]
    refine wpAnyE_done (by kernel_rfl) ?_ _
    have KB1 : Hid (Below w.heap.size w w.drew) := KB.out.trans (((Below.refl _ w).drew).mono KB.out.size)
    have hb1 : Hid (Below w.heap.size w w.drew) := (Below.refl _ w).drew
    clear hHeld  KB
    generalize w.drew = y1 at KB1 hb1  ⊢
    go_wp2
    go_ret
    exact ⟨by rw [HD.out, ← HX.out]; rfl, KB1.out⟩
  | succ f ih =>
    intro n hf hn hn2 w
    obtain ⟨x, hx⟩ : ∃ x, x = n % b := ⟨_, rfl⟩
    have hxb : x < b := by rw [hx]; exact Nat.mod_lt _ (by omega)
    have h1 : (n : Int).tmod (b : Int) = (x : Int) := by rw [hx, Int.tmod_eq_emod_of_nonneg (by omega)]; rfl
    have HX : Hid ((⟨#[48, 49, 50, 51, 52, 53, 54, 55, 56, 57, 97, 98, 99, 100, 101, 102]⟩ : ByteArray).extract x (x + 1) = ⟨([hexC x] : List UInt8).toArray⟩) := dig_one ⟨x, by omega⟩
    have hb0 : ¬ (b : Int) = 0 := by omega
    have KB : Hid (Below w.heap.size w w) := Below.refl _ _
    by_cases hlt : n < b
    · have HD : Hid (digF (f + 1) b n = [hexC x]) := by show _ = _; rw [digF, if_pos hlt, hx]
      have hlt' : (n : Int) < (b : Int) := by omega
      clear hlt hx ih hn
      go_enter Tryz.func69, Tryz.ntmps69
      go_upto_region 1 with fail
      refine wp_region_late (fun wx => Below w.heap.size w wx) 9 (by kernel_rfl) (Below.refl _ w).drew (fun hHeld => ?_)
      refine wpAnyE_tk (i := 0) (d := some 6) (v := ?_) rfl (by kernel_rfl) (by kernel_rfl) (by kernel_rfl) rfl (fun _ _ _ h => h) rfl rfl ?hy (by assumption) ?_
      case hy => (intro w' hSw; (try dsimp only at hSw); go_simp <;> (first | with_reducible rfl | omega | skip))
      simp only [Act.put, List.setIfInBounds_toArray, List.set_cons_zero, List.set_cons_succ]
      refine wpAnyE_tk (i := 1) (d := some 7) (v := ?_) rfl (by kernel_rfl) (by kernel_rfl) (by kernel_rfl) rfl (fun _ _ _ h => h) rfl rfl ?hy (by assumption) ?_
      case hy => (intro w' hSw; (try dsimp only at hSw); go_simp <;> (first | with_reducible rfl | omega | skip))
      simp only [Act.put, List.setIfInBounds_toArray, List.set_cons_zero, List.set_cons_succ]
      refine wpAnyE_tk (i := 2) (d := some 8) (v := .int .i64 (x : Int)) rfl (by kernel_rfl) (by kernel_rfl) (by kernel_rfl) rfl (fun _ _ _ h => h) rfl rfl ?hy (by assumption) ?_
      case hy => (intro w' hSw; (try dsimp only at hSw); go_simp <;> (first | with_reducible rfl | omega | skip))
      simp only [Act.put, List.setIfInBounds_toArray, List.set_cons_zero, List.set_cons_succ]
      refine wpAnyE_tk (i := 3) (d := some 9) (v := ?_) rfl (by kernel_rfl) (by kernel_rfl) (by kernel_rfl) rfl (fun _ _ _ h => h) rfl rfl ?hy (by assumption) ?_
      case hy => (intro w' hSw; (try dsimp only at hSw); go_simp <;> (first | with_reducible rfl | omega | skip))
      simp only [Act.put, List.setIfInBounds_toArray, List.set_cons_zero, List.set_cons_succ]
      refine wpAnyE_tk (i := 4) (d := some 10) (v := ?_) rfl (by kernel_rfl) (by kernel_rfl) (by kernel_rfl) rfl (fun _ _ _ h => h) rfl rfl ?hy (by assumption) ?_
      case hy => (intro w' hSw; (try dsimp only at hSw); go_simp <;> (first | with_reducible rfl | omega | skip))
      simp only [Act.put, List.setIfInBounds_toArray, List.set_cons_zero, List.set_cons_succ]
      refine wpAnyE_tk (i := 5) (d := some 11) (v := .int .i64 (x : Int)) rfl (by kernel_rfl) (by kernel_rfl) (by kernel_rfl) rfl (fun _ _ _ h => h) rfl rfl ?hy (by assumption) ?_
      case hy => (intro w' hSw; (try dsimp only at hSw); go_simp <;> (first | with_reducible rfl | omega | skip))
      simp only [Act.put, List.setIfInBounds_toArray, List.set_cons_zero, List.set_cons_succ]
      refine wpAnyE_tk (i := 6) (d := some 12) (v := .int .i64 ((x : Int) + 1)) rfl (by kernel_rfl) (by kernel_rfl) (by kernel_rfl) rfl (fun _ _ _ h => h) rfl rfl ?hy (by assumption) ?_
      case hy => (intro w' hSw; (try dsimp only at hSw); go_simp <;> (first | with_reducible rfl | exact IntWalk.i64_in _ (by omega) | omega | skip))
      simp only [Act.put, List.setIfInBounds_toArray, List.set_cons_zero, List.set_cons_succ]
      refine wpAnyE_tk (i := 7) (d := some 13) (v := .string ((⟨#[48, 49, 50, 51, 52, 53, 54, 55, 56, 57, 97, 98, 99, 100, 101, 102]⟩ : ByteArray).extract x (x + 1))) rfl (by kernel_rfl) (by kernel_rfl) (by kernel_rfl) rfl (fun _ _ _ h => h) rfl rfl ?hy (by assumption) ?_
      case hy => (intro w' hSw; (try dsimp only at hSw); go_simp; rw [if_pos ⟨by omega, by omega⟩, if_pos (by omega)])
      simp only [Act.put, List.setIfInBounds_toArray, List.set_cons_zero, List.set_cons_succ]
      refine wpAnyE_tk (i := 8) (d := some 5) (v := .string ((⟨#[48, 49, 50, 51, 52, 53, 54, 55, 56, 57, 97, 98, 99, 100, 101, 102]⟩ : ByteArray).extract x (x + 1))) rfl (by kernel_rfl) (by kernel_rfl) (by kernel_rfl) rfl (fun _ _ _ h => h) rfl rfl ?hy (by assumption) ?_
      case hy => (intro w' hSw; (try dsimp only at hSw); go_simp <;> (first | with_reducible rfl | omega | skip))
      simp only [Act.put, List.setIfInBounds_toArray, List.set_cons_zero, List.set_cons_succ]
      refine wpAnyE_done (by kernel_rfl) ?_ _
      have KB1 : Hid (Below w.heap.size w w.drew) := KB.out.trans (((Below.refl _ w).drew).mono KB.out.size)
      have hb1 : Hid (Below w.heap.size w w.drew) := (Below.refl _ w).drew
      clear hHeld  KB
      generalize w.drew = y1 at KB1 hb1  ⊢
      go_wp2
      go_ret
      exact ⟨by rw [HD.out, ← HX.out]; rfl, KB1.out⟩
    · have hlt' : ¬ (n : Int) < (b : Int) := by omega
      have HD : Hid (digF (f + 1) b n = digF f b (n / b) ++ [hexC x]) := by show _ = _; rw [digF, if_neg hlt, hx]
      have HI : Hid (∀ w : World, Calls Tryz.prog 69 #[.int .i64 (n / b : Nat), .int .i64 (b : Nat)] w fun e w' => e = .returned (.string ⟨(digF f b (n / b)).toArray⟩) ∧ Below w.heap.size w w') := ih (n / b) (by omega) (by
        rw [Nat.pow_succ] at hn
        exact Nat.div_lt_of_lt_mul (by rw [Nat.mul_comm]; exact hn)) (Nat.le_trans (Nat.div_le_self _ _) hn2)
      obtain ⟨q, hq⟩ : ∃ q, q = n / b := ⟨_, rfl⟩
      rw [← hq] at HI HD
      have h2 : (n : Int).tdiv (b : Int) = (q : Int) := by rw [hq, Int.tdiv_eq_ediv_of_nonneg (by omega)]; rfl
      have hq3 : q ≤ 1000000 := by rw [hq]; exact Nat.le_trans (Nat.div_le_self _ _) hn2
      have hl := digF_len f b q
      have hsz : (⟨(digF f b q).toArray⟩ : ByteArray).size ≤ 17 := by rw [list_size]; omega
      have HAP : Hid ((⟨(digF f b q).toArray⟩ : ByteArray) ++ (⟨#[48, 49, 50, 51, 52, 53, 54, 55, 56, 57, 97, 98, 99, 100, 101, 102]⟩ : ByteArray).extract x (x + 1) = ⟨(digF f b q ++ [hexC x]).toArray⟩) := by rw [HX.out]; exact str_append _ _
      have hez : ((⟨#[48, 49, 50, 51, 52, 53, 54, 55, 56, 57, 97, 98, 99, 100, 101, 102]⟩ : ByteArray).extract x (x + 1)).size ≤ 17 := by rw [HX.out, list_size]; simp
      clear hlt hx ih hn hq hl
      generalize (⟨(digF f b q).toArray⟩ : ByteArray) = P at HI hsz HAP
      go_enter Tryz.func69, Tryz.ntmps69
      go_upto_region 1 with fail
      refine wp_region_late (fun wx => Below w.heap.size w wx) 9 (by kernel_rfl) (Below.refl _ w).drew (fun hHeld => ?_)
      refine wpAnyE_tk (i := 0) (d := some 6) (v := ?_) rfl (by kernel_rfl) (by kernel_rfl) (by kernel_rfl) rfl (fun _ _ _ h => h) rfl rfl ?hy (by assumption) ?_
      case hy => (intro w' hSw; (try dsimp only at hSw); go_simp <;> (first | with_reducible rfl | omega | skip))
      simp only [Act.put, List.setIfInBounds_toArray, List.set_cons_zero, List.set_cons_succ]
      refine wpAnyE_tk (i := 1) (d := some 7) (v := ?_) rfl (by kernel_rfl) (by kernel_rfl) (by kernel_rfl) rfl (fun _ _ _ h => h) rfl rfl ?hy (by assumption) ?_
      case hy => (intro w' hSw; (try dsimp only at hSw); go_simp <;> (first | with_reducible rfl | omega | skip))
      simp only [Act.put, List.setIfInBounds_toArray, List.set_cons_zero, List.set_cons_succ]
      refine wpAnyE_tk (i := 2) (d := some 8) (v := .int .i64 (x : Int)) rfl (by kernel_rfl) (by kernel_rfl) (by kernel_rfl) rfl (fun _ _ _ h => h) rfl rfl ?hy (by assumption) ?_
      case hy => (intro w' hSw; (try dsimp only at hSw); go_simp <;> (first | with_reducible rfl | omega | skip))
      simp only [Act.put, List.setIfInBounds_toArray, List.set_cons_zero, List.set_cons_succ]
      refine wpAnyE_tk (i := 3) (d := some 9) (v := ?_) rfl (by kernel_rfl) (by kernel_rfl) (by kernel_rfl) rfl (fun _ _ _ h => h) rfl rfl ?hy (by assumption) ?_
      case hy => (intro w' hSw; (try dsimp only at hSw); go_simp <;> (first | with_reducible rfl | omega | skip))
      simp only [Act.put, List.setIfInBounds_toArray, List.set_cons_zero, List.set_cons_succ]
      refine wpAnyE_tk (i := 4) (d := some 10) (v := ?_) rfl (by kernel_rfl) (by kernel_rfl) (by kernel_rfl) rfl (fun _ _ _ h => h) rfl rfl ?hy (by assumption) ?_
      case hy => (intro w' hSw; (try dsimp only at hSw); go_simp <;> (first | with_reducible rfl | omega | skip))
      simp only [Act.put, List.setIfInBounds_toArray, List.set_cons_zero, List.set_cons_succ]
      refine wpAnyE_tk (i := 5) (d := some 11) (v := .int .i64 (x : Int)) rfl (by kernel_rfl) (by kernel_rfl) (by kernel_rfl) rfl (fun _ _ _ h => h) rfl rfl ?hy (by assumption) ?_
      case hy => (intro w' hSw; (try dsimp only at hSw); go_simp <;> (first | with_reducible rfl | omega | skip))
      simp only [Act.put, List.setIfInBounds_toArray, List.set_cons_zero, List.set_cons_succ]
      refine wpAnyE_tk (i := 6) (d := some 12) (v := .int .i64 ((x : Int) + 1)) rfl (by kernel_rfl) (by kernel_rfl) (by kernel_rfl) rfl (fun _ _ _ h => h) rfl rfl ?hy (by assumption) ?_
      case hy => (intro w' hSw; (try dsimp only at hSw); go_simp <;> (first | with_reducible rfl | exact IntWalk.i64_in _ (by omega) | omega | skip))
      simp only [Act.put, List.setIfInBounds_toArray, List.set_cons_zero, List.set_cons_succ]
      refine wpAnyE_tk (i := 7) (d := some 13) (v := .string ((⟨#[48, 49, 50, 51, 52, 53, 54, 55, 56, 57, 97, 98, 99, 100, 101, 102]⟩ : ByteArray).extract x (x + 1))) rfl (by kernel_rfl) (by kernel_rfl) (by kernel_rfl) rfl (fun _ _ _ h => h) rfl rfl ?hy (by assumption) ?_
      case hy => (intro w' hSw; (try dsimp only at hSw); go_simp; rw [if_pos ⟨by omega, by omega⟩, if_pos (by omega)])
      simp only [Act.put, List.setIfInBounds_toArray, List.set_cons_zero, List.set_cons_succ]
      refine wpAnyE_tk (i := 8) (d := some 5) (v := .string ((⟨#[48, 49, 50, 51, 52, 53, 54, 55, 56, 57, 97, 98, 99, 100, 101, 102]⟩ : ByteArray).extract x (x + 1))) rfl (by kernel_rfl) (by kernel_rfl) (by kernel_rfl) rfl (fun _ _ _ h => h) rfl rfl ?hy (by assumption) ?_
      case hy => (intro w' hSw; (try dsimp only at hSw); go_simp <;> (first | with_reducible rfl | omega | skip))
      simp only [Act.put, List.setIfInBounds_toArray, List.set_cons_zero, List.set_cons_succ]
      refine wpAnyE_done (by kernel_rfl) ?_ _
      have KB1 : Hid (Below w.heap.size w w.drew) := KB.out.trans (((Below.refl _ w).drew).mono KB.out.size)
      have hb1 : Hid (Below w.heap.size w w.drew) := (Below.refl _ w).drew
      clear hHeld  KB
      generalize w.drew = y1 at KB1 hb1  ⊢
      generalize (⟨#[48, 49, 50, 51, 52, 53, 54, 55, 56, 57, 97, 98, 99, 100, 101, 102]⟩ : ByteArray).extract x (x + 1) = E at HAP hez ⊢
      have ad1 : ∀ W, (Op.stringOp .add P E).run Tryz.prog W = .ok (.string (P ++ E)) W := fun W => run_string_add_sum _ _ _ (by omega)
      go_wp2_with fail
      refine (HI.out _).mono ?_
      rintro e y ⟨rfl, hy⟩
      have KC : Hid (Below w.heap.size w y) := KB1.out.trans (hy.mono KB1.out.size)
      clear hy HI
      go_wp2_with fail
      go_ret
      exact ⟨by rw [HD.out, ← HAP.out]; rfl, KC.out⟩

set_option maxHeartbeats 8000000 in
set_option maxRecDepth 100000 in
theorem rpv4_any (q0 q1 q2 q3 : Nat) (h0 : q0 < 256) (h1 : q1 < 256) (h2 : q2 < 256) (h3 : q3 < 256) (w : World) : Calls Tryz.prog 27 #[.agg #[.int .u8 (q0 : Nat), .int .u8 (q1 : Nat), .int .u8 (q2 : Nat), .int .u8 (q3 : Nat)]] w fun e w' => e = .returned (.string ⟨(print4 [q0, q1, q2, q3]).toArray⟩) ∧ Below w.heap.size w w' := by
  have L1 : Hid (Lies (w.alloc (.cells #[.int .u8 (q0 : Nat), .int .u8 (q1 : Nat), .int .u8 (q2 : Nat), .int .u8 (q3 : Nat)] 46)) w.heap.size #[.int .u8 (q0 : Nat), .int .u8 (q1 : Nat), .int .u8 (q2 : Nat), .int .u8 (q3 : Nat)] 46) := Lies.new w _ _
  have KB : Hid (Below w.heap.size w (w.alloc (.cells #[.int .u8 (q0 : Nat), .int .u8 (q1 : Nat), .int .u8 (q2 : Nat), .int .u8 (q3 : Nat)] 46))) := (Below.refl _ _).alloc (Nat.le_refl _) _
  have HDG : ∀ q : Nat, q < 256 → Hid (∀ wx, Below w.heap.size w wx → Calls Tryz.prog 69 #[.int .i64 (q : Nat), .int .i64 10] wx fun e w' => e = .returned (.string ⟨(decD q).toArray⟩) ∧ Below wx.heap.size wx w') := fun q hq wx _ => by
    have := rdig_any 10 (by omega) (by omega) 16 q (by omega) (Nat.lt_of_lt_of_le hq (by decide)) (by omega) wx
    rw [digF_dec ⟨q, hq⟩] at this
    exact this
  have hdl : ∀ q : Nat, q < 256 → (⟨(decD q).toArray⟩ : ByteArray).size ≤ 3 := fun q hq => by
    rw [list_size]
    have : ∀ q : Fin 256, (decD q.val).length ≤ 3 := by decide +kernel
    exact this ⟨q, hq⟩
  have H0 := HDG q0 h0
  have H1 := HDG q1 h1
  have H2 := HDG q2 h2
  have H3 := HDG q3 h3
  have z0 := hdl q0 h0
  have z1 := hdl q1 h1
  have z2 := hdl q2 h2
  have z3 := hdl q3 h3
  have HP : Hid ((⟨(print4 [q0, q1, q2, q3]).toArray⟩ : ByteArray) = ⟨(decD q0).toArray⟩ ++ ⟨#[46]⟩ ++ ⟨(decD q1).toArray⟩ ++ ⟨#[46]⟩ ++ ⟨(decD q2).toArray⟩ ++ ⟨#[46]⟩ ++ ⟨(decD q3).toArray⟩) := by
    show _ = _
    rw [show (⟨#[46]⟩ : ByteArray) = ⟨([46] : List UInt8).toArray⟩ from rfl]
    simp only [str_append]
    congr 2
    simp [print4, joinL]
  clear HDG hdl
  generalize (⟨(decD q0).toArray⟩ : ByteArray) = D0 at H0 z0 HP
  generalize (⟨(decD q1).toArray⟩ : ByteArray) = D1 at H1 z1 HP
  generalize (⟨(decD q2).toArray⟩ : ByteArray) = D2 at H2 z2 HP
  generalize (⟨(decD q3).toArray⟩ : ByteArray) = D3 at H3 z3 HP
  have s46 : (⟨#[46]⟩ : ByteArray).size = 1 := rfl
  have a1 : ∀ W, (Op.stringOp .add D0 ⟨#[46]⟩).run Tryz.prog W = .ok (.string (D0 ++ ⟨#[46]⟩)) W := fun W => run_string_add_sum _ _ _ (by omega)
  have a2 : ∀ W, (Op.stringOp .add (D0 ++ ⟨#[46]⟩) D1).run Tryz.prog W = .ok (.string (D0 ++ ⟨#[46]⟩ ++ D1)) W := fun W => run_string_add_sum _ _ _ (by simp only [ByteArray.size_append]; omega)
  have a3 : ∀ W, (Op.stringOp .add (D0 ++ ⟨#[46]⟩ ++ D1) ⟨#[46]⟩).run Tryz.prog W = .ok (.string (D0 ++ ⟨#[46]⟩ ++ D1 ++ ⟨#[46]⟩)) W := fun W => run_string_add_sum _ _ _ (by simp only [ByteArray.size_append]; omega)
  have a4 : ∀ W, (Op.stringOp .add (D0 ++ ⟨#[46]⟩ ++ D1 ++ ⟨#[46]⟩) D2).run Tryz.prog W = .ok (.string (D0 ++ ⟨#[46]⟩ ++ D1 ++ ⟨#[46]⟩ ++ D2)) W := fun W => run_string_add_sum _ _ _ (by simp only [ByteArray.size_append]; omega)
  have a5 : ∀ W, (Op.stringOp .add (D0 ++ ⟨#[46]⟩ ++ D1 ++ ⟨#[46]⟩ ++ D2) ⟨#[46]⟩).run Tryz.prog W = .ok (.string (D0 ++ ⟨#[46]⟩ ++ D1 ++ ⟨#[46]⟩ ++ D2 ++ ⟨#[46]⟩)) W := fun W => run_string_add_sum _ _ _ (by simp only [ByteArray.size_append]; omega)
  have a6 : ∀ W, (Op.stringOp .add (D0 ++ ⟨#[46]⟩ ++ D1 ++ ⟨#[46]⟩ ++ D2 ++ ⟨#[46]⟩) D3).run Tryz.prog W = .ok (.string (D0 ++ ⟨#[46]⟩ ++ D1 ++ ⟨#[46]⟩ ++ D2 ++ ⟨#[46]⟩ ++ D3)) W := fun W => run_string_add_sum _ _ _ (by simp only [ByteArray.size_append]; omega)
  go_enter Tryz.func27, Tryz.ntmps27
  go_upto_region 1 with fail
  generalize w.alloc (.cells #[.int .u8 (q0 : Nat), .int .u8 (q1 : Nat), .int .u8 (q2 : Nat), .int .u8 (q3 : Nat)] 46) = v0 at L1 KB ⊢
  refine wp_region_late (fun wx => Below v0.heap.size v0 wx) 23 (by kernel_rfl) (Below.refl _ v0).drew (fun hHeld => ?_)
  refine wpAnyE_tk (i := 0) (d := some 3) (v := ?_) rfl (by kernel_rfl) (by kernel_rfl) (by kernel_rfl) rfl (fun _ _ _ h => h) rfl rfl ?hy (by assumption) ?_
  case hy => (intro w' hSw; (try dsimp only at hSw); go_simp <;> (first | with_reducible rfl | omega | skip))
  simp only [Act.put, List.setIfInBounds_toArray, List.set_cons_zero, List.set_cons_succ]
  refine wpAnyE_tk (i := 1) (d := some 4) (v := .int .u8 (q0 : Nat)) rfl (by kernel_rfl) (by kernel_rfl) (by kernel_rfl) rfl (fun _ _ _ h => h) rfl rfl ?hy (by assumption) ?_
  case hy => 
    intro w' hSw
    (try dsimp only at hSw)
    have cc : w'.cell? ⟨w.heap.size, 0, none⟩ = some (.int .u8 (q0 : Nat)) := by rw [(L1.out.below hSw L1.out.lt).cell 0]; rfl
    go_simp <;> (first | with_reducible rfl | omega | skip)
  simp only [Act.put, List.setIfInBounds_toArray, List.set_cons_zero, List.set_cons_succ]
  refine wpAnyE_tk (i := 2) (d := some 5) (v := .int .i64 (q0 : Nat)) rfl (by kernel_rfl) (by kernel_rfl) (by kernel_rfl) rfl (fun _ _ _ h => h) rfl rfl ?hy (by assumption) ?_
  case hy => (intro w' hSw; (try dsimp only at hSw); go_simp <;> (first | with_reducible rfl | exact IntWalk.i64_in _ (by omega) | omega | skip))
  simp only [Act.put, List.setIfInBounds_toArray, List.set_cons_zero, List.set_cons_succ]
  refine wpAnyE_tk (i := 5) (d := some 8) (v := ?_) rfl (by kernel_rfl) (by kernel_rfl) (by kernel_rfl) rfl (fun _ _ _ h => h) rfl rfl ?hy (by assumption) ?_
  case hy => (intro w' hSw; (try dsimp only at hSw); go_simp <;> (first | with_reducible rfl | omega | skip))
  simp only [Act.put, List.setIfInBounds_toArray, List.set_cons_zero, List.set_cons_succ]
  refine wpAnyE_tk (i := 6) (d := some 9) (v := .int .u8 (q1 : Nat)) rfl (by kernel_rfl) (by kernel_rfl) (by kernel_rfl) rfl (fun _ _ _ h => h) rfl rfl ?hy (by assumption) ?_
  case hy => 
    intro w' hSw
    (try dsimp only at hSw)
    have cc : w'.cell? ⟨w.heap.size, 1, none⟩ = some (.int .u8 (q1 : Nat)) := by rw [(L1.out.below hSw L1.out.lt).cell 1]; rfl
    go_simp <;> (first | with_reducible rfl | omega | skip)
  simp only [Act.put, List.setIfInBounds_toArray, List.set_cons_zero, List.set_cons_succ]
  refine wpAnyE_tk (i := 7) (d := some 10) (v := .int .i64 (q1 : Nat)) rfl (by kernel_rfl) (by kernel_rfl) (by kernel_rfl) rfl (fun _ _ _ h => h) rfl rfl ?hy (by assumption) ?_
  case hy => (intro w' hSw; (try dsimp only at hSw); go_simp <;> (first | with_reducible rfl | exact IntWalk.i64_in _ (by omega) | omega | skip))
  simp only [Act.put, List.setIfInBounds_toArray, List.set_cons_zero, List.set_cons_succ]
  refine wpAnyE_tk (i := 11) (d := some 14) (v := ?_) rfl (by kernel_rfl) (by kernel_rfl) (by kernel_rfl) rfl (fun _ _ _ h => h) rfl rfl ?hy (by assumption) ?_
  case hy => (intro w' hSw; (try dsimp only at hSw); go_simp <;> (first | with_reducible rfl | omega | skip))
  simp only [Act.put, List.setIfInBounds_toArray, List.set_cons_zero, List.set_cons_succ]
  refine wpAnyE_tk (i := 12) (d := some 15) (v := .int .u8 (q2 : Nat)) rfl (by kernel_rfl) (by kernel_rfl) (by kernel_rfl) rfl (fun _ _ _ h => h) rfl rfl ?hy (by assumption) ?_
  case hy => 
    intro w' hSw
    (try dsimp only at hSw)
    have cc : w'.cell? ⟨w.heap.size, 2, none⟩ = some (.int .u8 (q2 : Nat)) := by rw [(L1.out.below hSw L1.out.lt).cell 2]; rfl
    go_simp <;> (first | with_reducible rfl | omega | skip)
  simp only [Act.put, List.setIfInBounds_toArray, List.set_cons_zero, List.set_cons_succ]
  refine wpAnyE_tk (i := 13) (d := some 16) (v := .int .i64 (q2 : Nat)) rfl (by kernel_rfl) (by kernel_rfl) (by kernel_rfl) rfl (fun _ _ _ h => h) rfl rfl ?hy (by assumption) ?_
  case hy => (intro w' hSw; (try dsimp only at hSw); go_simp <;> (first | with_reducible rfl | exact IntWalk.i64_in _ (by omega) | omega | skip))
  simp only [Act.put, List.setIfInBounds_toArray, List.set_cons_zero, List.set_cons_succ]
  refine wpAnyE_tk (i := 17) (d := some 20) (v := ?_) rfl (by kernel_rfl) (by kernel_rfl) (by kernel_rfl) rfl (fun _ _ _ h => h) rfl rfl ?hy (by assumption) ?_
  case hy => (intro w' hSw; (try dsimp only at hSw); go_simp <;> (first | with_reducible rfl | omega | skip))
  simp only [Act.put, List.setIfInBounds_toArray, List.set_cons_zero, List.set_cons_succ]
  refine wpAnyE_tk (i := 18) (d := some 21) (v := .int .u8 (q3 : Nat)) rfl (by kernel_rfl) (by kernel_rfl) (by kernel_rfl) rfl (fun _ _ _ h => h) rfl rfl ?hy (by assumption) ?_
  case hy => 
    intro w' hSw
    (try dsimp only at hSw)
    have cc : w'.cell? ⟨w.heap.size, 3, none⟩ = some (.int .u8 (q3 : Nat)) := by rw [(L1.out.below hSw L1.out.lt).cell 3]; rfl
    go_simp <;> (first | with_reducible rfl | omega | skip)
  simp only [Act.put, List.setIfInBounds_toArray, List.set_cons_zero, List.set_cons_succ]
  refine wpAnyE_tk (i := 19) (d := some 22) (v := .int .i64 (q3 : Nat)) rfl (by kernel_rfl) (by kernel_rfl) (by kernel_rfl) rfl (fun _ _ _ h => h) rfl rfl ?hy (by assumption) ?_
  case hy => (intro w' hSw; (try dsimp only at hSw); go_simp <;> (first | with_reducible rfl | exact IntWalk.i64_in _ (by omega) | omega | skip))
  simp only [Act.put, List.setIfInBounds_toArray, List.set_cons_zero, List.set_cons_succ]
  refine wpAnyE_on (i := 3) (by kernel_rfl) rfl rfl ?_
  go_simp
  refine Calls.mono (H0.out _ (KB.out.trans (((Below.refl _ v0).drew).mono KB.out.size))) ?_
  rintro e y1 ⟨rfl, hc1⟩
  have hx1 : Below v0.heap.size v0 y1 := ((Below.refl _ v0).drew).trans hc1
  refine ⟨hx1, ?_⟩
  clear hc1
  refine wpAnyE_tk (i := 4) (d := some 7) (v := ?_) rfl (by kernel_rfl) (by kernel_rfl) (by kernel_rfl) rfl (fun _ _ _ h => h) rfl rfl ?hy (by assumption) ?_
  case hy => (intro w' hSw; (try dsimp only at hSw); go_simp <;> (first | with_reducible rfl | omega | skip))
  simp only [Act.put, List.setIfInBounds_toArray, List.set_cons_zero, List.set_cons_succ]
  refine wpAnyE_on (i := 8) (by kernel_rfl) rfl rfl ?_
  go_simp
  refine Calls.mono (H1.out _ (KB.out.trans ((hx1).mono KB.out.size))) ?_
  rintro e y2 ⟨rfl, hc2⟩
  have hx2 : Below v0.heap.size v0 y2 := hx1.trans (hc2.mono hx1.size)
  refine ⟨hx2, ?_⟩
  clear hc2
  refine wpAnyE_tk (i := 9) (d := some 12) (v := ?_) rfl (by kernel_rfl) (by kernel_rfl) (by kernel_rfl) rfl (fun _ _ _ h => h) rfl rfl ?hy (by assumption) ?_
  case hy => (intro w' hSw; (try dsimp only at hSw); go_simp <;> (first | with_reducible rfl | omega | skip))
  simp only [Act.put, List.setIfInBounds_toArray, List.set_cons_zero, List.set_cons_succ]
  refine wpAnyE_tk (i := 10) (d := some 13) (v := ?_) rfl (by kernel_rfl) (by kernel_rfl) (by kernel_rfl) rfl (fun _ _ _ h => h) rfl rfl ?hy (by assumption) ?_
  case hy => (intro w' hSw; (try dsimp only at hSw); go_simp <;> (first | with_reducible rfl | omega | skip))
  simp only [Act.put, List.setIfInBounds_toArray, List.set_cons_zero, List.set_cons_succ]
  refine wpAnyE_on (i := 14) (by kernel_rfl) rfl rfl ?_
  go_simp
  refine Calls.mono (H2.out _ (KB.out.trans ((hx2).mono KB.out.size))) ?_
  rintro e y3 ⟨rfl, hc3⟩
  have hx3 : Below v0.heap.size v0 y3 := hx2.trans (hc3.mono hx2.size)
  refine ⟨hx3, ?_⟩
  clear hc3
  refine wpAnyE_tk (i := 15) (d := some 18) (v := ?_) rfl (by kernel_rfl) (by kernel_rfl) (by kernel_rfl) rfl (fun _ _ _ h => h) rfl rfl ?hy (by assumption) ?_
  case hy => (intro w' hSw; (try dsimp only at hSw); go_simp <;> (first | with_reducible rfl | omega | skip))
  simp only [Act.put, List.setIfInBounds_toArray, List.set_cons_zero, List.set_cons_succ]
  refine wpAnyE_tk (i := 16) (d := some 19) (v := ?_) rfl (by kernel_rfl) (by kernel_rfl) (by kernel_rfl) rfl (fun _ _ _ h => h) rfl rfl ?hy (by assumption) ?_
  case hy => (intro w' hSw; (try dsimp only at hSw); go_simp <;> (first | with_reducible rfl | omega | skip))
  simp only [Act.put, List.setIfInBounds_toArray, List.set_cons_zero, List.set_cons_succ]
  refine wpAnyE_on (i := 20) (by kernel_rfl) rfl rfl ?_
  go_simp
  refine Calls.mono (H3.out _ (KB.out.trans ((hx3).mono KB.out.size))) ?_
  rintro e y4 ⟨rfl, hc4⟩
  have hx4 : Below v0.heap.size v0 y4 := hx3.trans (hc4.mono hx3.size)
  refine ⟨hx4, ?_⟩
  clear hc4
  refine wpAnyE_tk (i := 21) (d := some 24) (v := ?_) rfl (by kernel_rfl) (by kernel_rfl) (by kernel_rfl) rfl (fun _ _ _ h => h) rfl rfl ?hy (by assumption) ?_
  case hy => (intro w' hSw; (try dsimp only at hSw); go_simp <;> (first | with_reducible rfl | omega | skip))
  simp only [Act.put, List.setIfInBounds_toArray, List.set_cons_zero, List.set_cons_succ]
  refine wpAnyE_tk (i := 22) (d := some 2) (v := ?_) rfl (by kernel_rfl) (by kernel_rfl) (by kernel_rfl) rfl (fun _ _ _ h => h) rfl rfl ?hy (by assumption) ?_
  case hy => (intro w' hSw; (try dsimp only at hSw); go_simp <;> (first | with_reducible rfl | omega | skip))
  simp only [Act.put, List.setIfInBounds_toArray, List.set_cons_zero, List.set_cons_succ]
  refine wpAnyE_done (by kernel_rfl) ?_ _
  have KB5 : Hid (Below w.heap.size w y4) := KB.out.trans ((hx4).mono KB.out.size)
  have L1n : Hid (Lies y4 (w.heap.size) #[.int .u8 (q0 : Nat), .int .u8 (q1 : Nat), .int .u8 (q2 : Nat), .int .u8 (q3 : Nat)] 46) := L1.out.below (hx4) L1.out.lt
  clear L1
  have L1 := L1n
  clear L1n
  have hb5 : Hid (Below v0.heap.size v0 y4) := hx4
  clear hHeld hx1 hx2 hx3 hx4 KB
  go_wp2
  go_ret
  exact ⟨by rw [HP.out]; rfl, KB5.out⟩
end Go.Proofs.YtnlgbopdbihnjaaGreatDoor
/-
  The document's joined.
-/
namespace Go.Proofs.YtnlgbopdbihnjaaGreatDoor
open Go.RowKit

theorem hexD_len (n : Nat) : (hexD n).length ≤ 17 := by
  have := digF_len 16 16 n
  rw [digF_hex] at this
  exact this
theorem rhex_any (n : Nat) (hn : n < 65536) (w : World) : Calls Tryz.prog 69 #[.int .i64 (n : Nat), .int .i64 16] w fun e w' => e = .returned (.string ⟨(hexD n).toArray⟩) ∧ Below w.heap.size w w' := by
  have := rdig_any 16 (by omega) (by omega) 16 n (by omega) (Nat.lt_of_lt_of_le hn (by decide)) (by omega) w
  rw [digF_hex] at this
  exact this
theorem join_short (sep : List UInt8) (m : Nat) (L : List (List UInt8)) (h : ∀ x ∈ L, x.length ≤ m) : (joinL sep L).length ≤ L.length * (m + sep.length) := by
  induction L with
  | nil => simp [joinL]
  | cons x L ih =>
    cases L with
    | nil =>
      have := h x (by simp)
      simp [joinL]
      omega
    | cons y r =>
      have h1 := h x (by simp)
      have h2 := ih fun z hz => h z (by simp [hz])
      rw [joinL, List.length_append, List.length_append]
      rw [List.length_cons, Nat.add_mul]
      omega
set_option maxHeartbeats 4000000 in
set_option maxRecDepth 100000 in
theorem rjoin_any (a : Option Addr) (l : List Nat) (cap : Nat) (w : World) (hn : Nts .i64 a (natI l) w) (hl : l.length ≤ 8) (hx : ∀ x ∈ l, x < 65536) (hc : l.length ≤ cap) :
    Calls Tryz.prog 70 #[.slice a l.length cap] w fun e w' => e = .returned (.string ⟨(joinL [58] (l.map hexD)).toArray⟩) ∧ Below w.heap.size w w' := by
  have HL : Hid (Nts .i64 a (natI l) w) := hn
  have HX : Hid (∀ x ∈ l, x < 65536) := hx
  clear hn hx
  go_enter Tryz.func70, Tryz.ntmps70
  go_wp2_with fail
  go_loopw [3, 8] (fun u c wr => ∃ i : Nat, i ≤ l.length ∧ c = .int .i64 i ∧ Hid (Below w.heap.size w wr) ∧ Hid (wr.ownsRow w.heap.size 9 1 u i (cellsS ((l.take i).map hexD)))) (fun _ c _ => l.length - (intOf c).toNat)
  case atStart => exact ⟨0, by omega, rfl, Below.refl _ _, ⟨rfl, .inl ⟨rfl, rfl⟩⟩⟩
  case round =>
    obtain ⟨i, hi, rfl, HB, HO⟩ := hrel
    by_cases hlt : i < l.length
    · have hlt' : (i : Int) < (l.length : Int) := by omega
      have hi0 : (0 : Int) ≤ (i : Int) := by omega
      obtain ⟨g, o, rfl, hg, hcell⟩ := (HL.out.below HB.out).cell i (by rw [natI_length]; exact hlt)
      have hv : (natI l)[i]'(by rw [natI_length]; exact hlt) = (l[i] : Int) := by simp [natI]
      rw [hv] at hcell
      have hx1 := HX.out _ (List.getElem_mem hlt)
      have HTK : Hid ((l.take (i + 1)).map hexD = (l.take i).map hexD ++ [hexD l[i]]) := by
        show _ = _
        rw [List.take_succ_eq_append_getElem hlt, List.map_append]
        rfl
      generalize l[i] = x at hcell hx1 HTK
      have HD := rhex_any x hx1
      generalize hexD x = y at HTK HD
      clear hv
      go_wp2_with fail
      refine (HD _).mono ?_
      rintro e w3 ⟨rfl, b3⟩
      have HB3 : Hid (Below w.heap.size w w3) := HB.out.trans (b3.mono HB.out.size)
      have HO3 : Hid (w3.ownsRow w.heap.size 9 1 u3 i (cellsS ((l.take i).map hexD))) := ownN_below HO.out b3
      have hzw := HB3.out.size
      clear b3 HB HO HD
      go_wp2_with (at_builtin; refine wpList_append_str rfl _ _ rfl w.heap.size _ i ((l.take i).map hexD) rfl (ownN_below HO3.out ((Below.refl _ _).alloc (Nat.le_refl _) _)) w3.heap.size y 1 rfl (by simp) (by omega) (by simp; omega) ?_)
      intro v4 w4 hown4 hgrow4
      have hg4 := grown_on (World.grownBy_alloc w3 _ (u3 : Value).ownBlock) hgrow4 (fun _ h => .inl h.symm)
      have HB9 : Hid (Below w.heap.size w w4) := HB3.out.grown hg4 HB3.out.size (fun q hq => (HO3.out.lt q hq).1)
      have HO9 : Hid (w4.ownsRow w.heap.size 9 1 v4 (i + 1) (cellsS ((l.take (i + 1)).map hexD))) := by
        show World.ownsRow _ _ _ _ _ _ _
        rw [HTK.out, List.map_take]
        exact hown4
      clear hown4 hgrow4 hg4 HO3 HB3
      go_wp2
      go_roundw
      case rel => exact ⟨i + 1, by omega, by go_num, HB9, HO9⟩
      case measure => simp [intOf]; omega
    · obtain rfl : i = l.length := by omega
      have hlt' : ¬ (l.length : Int) < (l.length : Int) := by omega
      have HJ : Hid (Calls Tryz.prog 50 #[u3, .string ⟨#[58]⟩] wr fun e w' => e = .returned (.string ⟨(joinL [58] (l.map hexD)).toArray⟩) ∧ Below wr.heap.size wr w') := by
        have ho := HO.out
        rw [List.take_of_length_le (Nat.le_refl _)] at ho
        by_cases hnil : l = []
        · subst hnil
          obtain ⟨_, h2⟩ := ho
          obtain ⟨a', c', rfl⟩ : ∃ a' c', u3 = .slice a' 0 c' := by
            rcases h2 with ⟨h, _⟩ | ⟨g, c, cur, h, _⟩
            · exact ⟨_, _, h⟩
            · exact ⟨_, _, h⟩
          exact (Tryz.strings_Join_none a' c' ⟨#[58]⟩ wr).mono fun e w' h => ⟨h.1, by rw [h.2]; exact Below.refl _ _⟩
        · have hlen := join_short [58] 17 (l.map hexD) fun x hx => by
            obtain ⟨y, _, rfl⟩ := List.mem_map.1 hx
            exact hexD_len y
          rw [List.length_map] at hlen
          have hlen2 : (joinL [58] (l.map hexD)).length ≤ 1000 := by
            have : l.length * (17 + ([58] : List UInt8).length) ≤ 8 * 18 := Nat.mul_le_mul hl (Nat.le_refl _)
            omega
          exact join_own ho (by simpa using hnil) ⟨#[58]⟩ (by rw [List.length_map]; omega) (Nat.le_trans hlen2 (by decide))
      obtain ⟨J, hJ⟩ : ∃ J, J = joinL [58] (l.map hexD) := ⟨_, rfl⟩
      rw [← hJ] at HJ
      have HE : Hid (J = joinL [58] (l.map hexD)) := hJ
      clear hJ
      clear HO
      go_wp2_with fail
      refine HJ.out.mono ?_
      rintro e w3 ⟨rfl, b3⟩
      have HB3 : Hid (Below w.heap.size w w3) := HB.out.trans (b3.mono HB.out.size)
      clear b3 HJ HB
      go_wp2_with fail
      go_ret
      exact ⟨by rw [← HE.out]; rfl, HB3.out⟩
end Go.Proofs.YtnlgbopdbihnjaaGreatDoor
