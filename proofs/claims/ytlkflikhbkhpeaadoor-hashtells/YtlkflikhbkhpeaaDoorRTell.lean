/-
  A digest as digits, the document's.
-/
import Derived.Test.YtlkflikhbkhpeaaDoorTell
namespace Go.Proofs.YtlkflikhbkhpeaaDoor
open Go.RowKit

theorem run_cut_dig (n : Nat) (hn : n < 16) (w : World) : (Instr.slice 9 (.string digS) (some (.int .u8 (n : Int))) (some (.int .u8 ((n + 1 : Nat) : Int))) none).run Tryd.prog w = .ok (.string ⟨#[hx n]⟩) w := by
  have b1 : (Instr.sliceBound (.int .u8 ((n : Int) + 1)) digS.size .sliceAlen).run Tryd.prog w = .ok (n + 1) w := by
    rw [run_sliceBound _ _ _ _ _ (by omega) (by show (n : Int) + 1 ≤ ((16 : Nat) : Int); omega)]
    rfl
  have b2 : (Instr.sliceBound (.int .u8 (n : Int)) (n + 1) .sliceB).run Tryd.prog w = .ok n w := by
    rw [run_sliceBound _ _ _ _ _ (by omega) (by omega)]
    rfl
  simp [Instr.slice, run_underlying Tryd.underlying9, Instr.sliceBounds, b1, b2, digS_cut n hn]

theorem join_two (l : List UInt8) (a b : UInt8) : (⟨l.toArray⟩ ++ ⟨#[a]⟩ ++ ⟨#[b]⟩ : ByteArray) = ⟨(l ++ [a, b]).toArray⟩ := by
  apply ByteArray.ext
  simp

set_option maxHeartbeats 1000000 in
set_option maxRecDepth 100000 in
theorem rtell_any (l : List UInt8) (hl : l.length = 16) (w : World) : Calls Tryd.prog 16 #[.agg (rowV l)] w fun e w' => e = .returned (.string ⟨(tl l).toArray⟩) ∧ Below w.heap.size w w' := by
  have HL : Hid (l.length = 16) := hl
  clear hl
  go_enter Tryd.func16, Tryd.ntmps16
  go_wp2_with fail
  go_loopw [4, 5] (fun u i wr => ∃ (k : Nat) (s : ByteArray), k ≤ 16 ∧ i = .int .i64 k ∧ u = .string s ∧ s.size ≤ 1000 ∧ Hid (s = ⟨(tl (l.take k)).toArray⟩) ∧ Hid (∃ n, wr = (w.alloc (.cells (rowV l) 23)).drewN n)) (fun _ i _ => 16 - (intOf i).toNat)
  case atStart => exact ⟨0, ⟨#[]⟩, by omega, rfl, rfl, by decide, rfl, 0, rfl⟩
  case round =>
    obtain ⟨k, s, hk, rfl, rfl, hss, HS, HD⟩ := hrel
    obtain ⟨nd, hnd⟩ := HD.out
    clear HD
    have HLie : Hid (Lies wr w.heap.size (rowV l) 23) := by rw [hnd]; exact (Lies.new w _ _).drewN nd
    have HWR : Hid (wr = (w.alloc (.cells (rowV l) 23)).drewN nd) := hnd
    clear hnd
    by_cases hlt : k < 16
    · have hkl : k < l.length := by rw [HL.out]; exact hlt
      have hc := (HLie.out.cell k).trans (rowV_at l k hkl)
      have HTL : Hid (tl (l.take (k + 1)) = tl (l.take k) ++ [hx (l[k].toNat / 16), hx (l[k].toNat % 16)]) := tl_snoc l k hkl
      generalize l[k] = x at hc HTL
      have hx8 := x.toNat_lt
      have i1 := run_cut_dig (x.toNat / 16) (by omega)
      have i2 := run_cut_dig (x.toNat % 16) (by omega)
      have e1 : (x.toNat : Int).tdiv 16 = ((x.toNat / 16 : Nat) : Int) := by rw [Int.tdiv_eq_ediv_of_nonneg (by omega)]; omega
      have e2 : (x.toNat : Int).tmod 16 = ((x.toNat % 16 : Nat) : Int) := by rw [Int.tmod_eq_emod_of_nonneg (by omega)]; omega
      generalize hd1 : hx (x.toNat / 16) = d1 at i1 HTL
      generalize hd2 : hx (x.toNat % 16) = d2 at i2 HTL
      clear hd1 hd2
      obtain ⟨n1, hn1⟩ : ∃ n1, n1 = x.toNat / 16 := ⟨_, rfl⟩
      obtain ⟨n2, hn2⟩ : ∃ n2, n2 = x.toNat % 16 := ⟨_, rfl⟩
      rw [← hn1] at i1 e1
      rw [← hn2] at i2 e2
      have e3 : IntKind.u8.wrap (n1 : Int) = (n1 : Int) := by rw [IntKind.wrap_u8]; omega
      have e4 : IntKind.u8.wrap (n2 : Int) = (n2 : Int) := by rw [IntKind.wrap_u8]; omega
      have e5 : IntKind.u8.wrap ((n1 : Int) + 1) = ((n1 + 1 : Nat) : Int) := by rw [IntKind.wrap_u8]; omega
      have e6 : IntKind.u8.wrap ((n2 : Int) + 1) = ((n2 + 1 : Nat) : Int) := by rw [IntKind.wrap_u8]; omega
      obtain ⟨m1, hm1⟩ : ∃ m1, m1 = n1 + 1 := ⟨_, rfl⟩
      obtain ⟨m2, hm2⟩ : ∃ m2, m2 = n2 + 1 := ⟨_, rfl⟩
      rw [← hm1] at i1 e5
      rw [← hm2] at i2 e6
      clear hn1 hn2 hm1 hm2
      unfold digS at i1 i2
      have kI : (k : Int) < 16 := by omega
      have c1 : ¬ 9223372036854775807 < s.size + 1 := by omega
      have c2 : ¬ 9223372036854775807 < s.size + 1 + 1 := by omega
      go_wp2_with fail
      refine wp_region_late (fun w' => w'.cell? ⟨w.heap.size, k, none⟩ = some (.int .u8 (x.toNat : Int))) 25 (by kernel_rfl) hc (fun hHeld => ?_)
      refine wpAnyE_take (i := 0) (d := some 10) (v := ?_) rfl (by kernel_rfl) (by kernel_rfl) (by kernel_rfl) (by kernel_rfl) (fun _ _ _ h => h) rfl rfl ?hy (by assumption) ?_
      case hy => (intro w' hSw; (try dsimp only at hSw); go_simp <;> (try with_reducible rfl))
      simp only [Act.put, List.setIfInBounds_toArray, List.set_cons_zero, List.set_cons_succ]
      refine wpAnyE_take (i := 1) (d := some 11) (v := ?_) rfl (by kernel_rfl) (by kernel_rfl) (by kernel_rfl) (by kernel_rfl) (fun _ _ _ h => h) rfl rfl ?hy (by assumption) ?_
      case hy => (intro w' hSw; (try dsimp only at hSw); go_simp <;> (try with_reducible rfl))
      simp only [Act.put, List.setIfInBounds_toArray, List.set_cons_zero, List.set_cons_succ]
      refine wpAnyE_take (i := 2) (d := some 12) (v := ?_) rfl (by kernel_rfl) (by kernel_rfl) (by kernel_rfl) (by kernel_rfl) (fun _ _ _ h => h) rfl rfl ?hy (by assumption) ?_
      case hy => (intro w' hSw; (try dsimp only at hSw); go_simp <;> (try with_reducible rfl))
      simp only [Act.put, List.setIfInBounds_toArray, List.set_cons_zero, List.set_cons_succ]
      refine wpAnyE_take (i := 3) (d := some 13) (v := ?_) rfl (by kernel_rfl) (by kernel_rfl) (by kernel_rfl) (by kernel_rfl) (fun _ _ _ h => h) rfl rfl ?hy (by assumption) ?_
      case hy => (intro w' hSw; (try dsimp only at hSw); go_simp <;> (try with_reducible rfl))
      simp only [Act.put, List.setIfInBounds_toArray, List.set_cons_zero, List.set_cons_succ]
      refine wpAnyE_take (i := 4) (d := some 14) (v := ?_) rfl (by kernel_rfl) (by kernel_rfl) (by kernel_rfl) (by kernel_rfl) (fun _ _ _ h => h) rfl rfl ?hy (by assumption) ?_
      case hy => (intro w' hSw; (try dsimp only at hSw); go_simp <;> (try with_reducible rfl))
      simp only [Act.put, List.setIfInBounds_toArray, List.set_cons_zero, List.set_cons_succ]
      refine wpAnyE_take (i := 5) (d := some 15) (v := ?_) rfl (by kernel_rfl) (by kernel_rfl) (by kernel_rfl) (by kernel_rfl) (fun _ _ _ h => h) rfl rfl ?hy (by assumption) ?_
      case hy => (intro w' hSw; (try dsimp only at hSw); go_simp <;> (try with_reducible rfl))
      simp only [Act.put, List.setIfInBounds_toArray, List.set_cons_zero, List.set_cons_succ]
      refine wpAnyE_take (i := 6) (d := some 16) (v := ?_) rfl (by kernel_rfl) (by kernel_rfl) (by kernel_rfl) (by kernel_rfl) (fun _ _ _ h => h) rfl rfl ?hy (by assumption) ?_
      case hy => (intro w' hSw; (try dsimp only at hSw); go_simp <;> (try with_reducible rfl))
      simp only [Act.put, List.setIfInBounds_toArray, List.set_cons_zero, List.set_cons_succ]
      refine wpAnyE_take (i := 7) (d := some 17) (v := ?_) rfl (by kernel_rfl) (by kernel_rfl) (by kernel_rfl) (by kernel_rfl) (fun _ _ _ h => h) rfl rfl ?hy (by assumption) ?_
      case hy => (intro w' hSw; (try dsimp only at hSw); go_simp <;> (try with_reducible rfl))
      simp only [Act.put, List.setIfInBounds_toArray, List.set_cons_zero, List.set_cons_succ]
      refine wpAnyE_take (i := 8) (d := some 18) (v := ?_) rfl (by kernel_rfl) (by kernel_rfl) (by kernel_rfl) (by kernel_rfl) (fun _ _ _ h => h) rfl rfl ?hy (by assumption) ?_
      case hy => (intro w' hSw; (try dsimp only at hSw); go_simp <;> (try with_reducible rfl))
      simp only [Act.put, List.setIfInBounds_toArray, List.set_cons_zero, List.set_cons_succ]
      refine wpAnyE_take (i := 9) (d := some 19) (v := ?_) rfl (by kernel_rfl) (by kernel_rfl) (by kernel_rfl) (by kernel_rfl) (fun _ _ _ h => h) rfl rfl ?hy (by assumption) ?_
      case hy => (intro w' hSw; (try dsimp only at hSw); go_simp <;> (try with_reducible rfl))
      simp only [Act.put, List.setIfInBounds_toArray, List.set_cons_zero, List.set_cons_succ]
      refine wpAnyE_take (i := 10) (d := some 20) (v := ?_) rfl (by kernel_rfl) (by kernel_rfl) (by kernel_rfl) (by kernel_rfl) (fun _ _ _ h => h) rfl rfl ?hy (by assumption) ?_
      case hy => (intro w' hSw; (try dsimp only at hSw); go_simp <;> (try with_reducible rfl))
      simp only [Act.put, List.setIfInBounds_toArray, List.set_cons_zero, List.set_cons_succ]
      refine wpAnyE_take (i := 11) (d := some 21) (v := ?_) rfl (by kernel_rfl) (by kernel_rfl) (by kernel_rfl) (by kernel_rfl) (fun _ _ _ h => h) rfl rfl ?hy (by assumption) ?_
      case hy => (intro w' hSw; (try dsimp only at hSw); go_simp <;> (try with_reducible rfl))
      simp only [Act.put, List.setIfInBounds_toArray, List.set_cons_zero, List.set_cons_succ]
      refine wpAnyE_take (i := 12) (d := some 22) (v := ?_) rfl (by kernel_rfl) (by kernel_rfl) (by kernel_rfl) (by kernel_rfl) (fun _ _ _ h => h) rfl rfl ?hy (by assumption) ?_
      case hy => (intro w' hSw; (try dsimp only at hSw); go_simp <;> (try with_reducible rfl))
      simp only [Act.put, List.setIfInBounds_toArray, List.set_cons_zero, List.set_cons_succ]
      refine wpAnyE_take (i := 13) (d := some 23) (v := ?_) rfl (by kernel_rfl) (by kernel_rfl) (by kernel_rfl) (by kernel_rfl) (fun _ _ _ h => h) rfl rfl ?hy (by assumption) ?_
      case hy => (intro w' hSw; (try dsimp only at hSw); go_simp <;> (try with_reducible rfl))
      simp only [Act.put, List.setIfInBounds_toArray, List.set_cons_zero, List.set_cons_succ]
      refine wpAnyE_take (i := 14) (d := some 24) (v := ?_) rfl (by kernel_rfl) (by kernel_rfl) (by kernel_rfl) (by kernel_rfl) (fun _ _ _ h => h) rfl rfl ?hy (by assumption) ?_
      case hy => (intro w' hSw; (try dsimp only at hSw); go_simp <;> (try with_reducible rfl))
      simp only [Act.put, List.setIfInBounds_toArray, List.set_cons_zero, List.set_cons_succ]
      refine wpAnyE_take (i := 15) (d := some 25) (v := ?_) rfl (by kernel_rfl) (by kernel_rfl) (by kernel_rfl) (by kernel_rfl) (fun _ _ _ h => h) rfl rfl ?hy (by assumption) ?_
      case hy => (intro w' hSw; (try dsimp only at hSw); go_simp <;> (try with_reducible rfl))
      simp only [Act.put, List.setIfInBounds_toArray, List.set_cons_zero, List.set_cons_succ]
      refine wpAnyE_take (i := 16) (d := some 26) (v := ?_) rfl (by kernel_rfl) (by kernel_rfl) (by kernel_rfl) (by kernel_rfl) (fun _ _ _ h => h) rfl rfl ?hy (by assumption) ?_
      case hy => (intro w' hSw; (try dsimp only at hSw); go_simp <;> (try with_reducible rfl))
      simp only [Act.put, List.setIfInBounds_toArray, List.set_cons_zero, List.set_cons_succ]
      refine wpAnyE_take (i := 17) (d := some 27) (v := ?_) rfl (by kernel_rfl) (by kernel_rfl) (by kernel_rfl) (by kernel_rfl) (fun _ _ _ h => h) rfl rfl ?hy (by assumption) ?_
      case hy => (intro w' hSw; (try dsimp only at hSw); go_simp <;> (try with_reducible rfl))
      simp only [Act.put, List.setIfInBounds_toArray, List.set_cons_zero, List.set_cons_succ]
      refine wpAnyE_take (i := 18) (d := some 28) (v := ?_) rfl (by kernel_rfl) (by kernel_rfl) (by kernel_rfl) (by kernel_rfl) (fun _ _ _ h => h) rfl rfl ?hy (by assumption) ?_
      case hy => (intro w' hSw; (try dsimp only at hSw); go_simp <;> (try with_reducible rfl))
      simp only [Act.put, List.setIfInBounds_toArray, List.set_cons_zero, List.set_cons_succ]
      refine wpAnyE_take (i := 19) (d := some 29) (v := ?_) rfl (by kernel_rfl) (by kernel_rfl) (by kernel_rfl) (by kernel_rfl) (fun _ _ _ h => h) rfl rfl ?hy (by assumption) ?_
      case hy => (intro w' hSw; (try dsimp only at hSw); go_simp <;> (try with_reducible rfl))
      simp only [Act.put, List.setIfInBounds_toArray, List.set_cons_zero, List.set_cons_succ]
      refine wpAnyE_take (i := 20) (d := some 30) (v := ?_) rfl (by kernel_rfl) (by kernel_rfl) (by kernel_rfl) (by kernel_rfl) (fun _ _ _ h => h) rfl rfl ?hy (by assumption) ?_
      case hy => (intro w' hSw; (try dsimp only at hSw); go_simp <;> (try with_reducible rfl))
      simp only [Act.put, List.setIfInBounds_toArray, List.set_cons_zero, List.set_cons_succ]
      refine wpAnyE_take (i := 21) (d := some 31) (v := ?_) rfl (by kernel_rfl) (by kernel_rfl) (by kernel_rfl) (by kernel_rfl) (fun _ _ _ h => h) rfl rfl ?hy (by assumption) ?_
      case hy => (intro w' hSw; (try dsimp only at hSw); go_simp <;> (try with_reducible rfl))
      simp only [Act.put, List.setIfInBounds_toArray, List.set_cons_zero, List.set_cons_succ]
      refine wpAnyE_take (i := 22) (d := some 32) (v := ?_) rfl (by kernel_rfl) (by kernel_rfl) (by kernel_rfl) (by kernel_rfl) (fun _ _ _ h => h) rfl rfl ?hy (by assumption) ?_
      case hy => (intro w' hSw; (try dsimp only at hSw); go_simp <;> (try with_reducible rfl))
      simp only [Act.put, List.setIfInBounds_toArray, List.set_cons_zero, List.set_cons_succ]
      refine wpAnyE_take (i := 23) (d := some 33) (v := ?_) rfl (by kernel_rfl) (by kernel_rfl) (by kernel_rfl) (by kernel_rfl) (fun _ _ _ h => h) rfl rfl ?hy (by assumption) ?_
      case hy => (intro w' hSw; (try dsimp only at hSw); go_simp <;> (try with_reducible rfl))
      simp only [Act.put, List.setIfInBounds_toArray, List.set_cons_zero, List.set_cons_succ]
      refine wpAnyE_take (i := 24) (d := some 34) (v := ?_) rfl (by kernel_rfl) (by kernel_rfl) (by kernel_rfl) (by kernel_rfl) (fun _ _ _ h => h) rfl rfl ?hy (by assumption) ?_
      case hy => (intro w' hSw; (try dsimp only at hSw); go_simp <;> (try with_reducible rfl))
      simp only [Act.put, List.setIfInBounds_toArray, List.set_cons_zero, List.set_cons_succ]
      refine wpAnyE_one (i := 25) (by kernel_rfl) rfl rfl ?_
      go_simp
      refine wpAnyE_done (by kernel_rfl) ?_ _
      clear hc i1 i2 e1 e2 e3 e4 e5 e6 c1 c2 hHeld
      go_wp2
      go_roundw
      case rel =>
        have E := join_two (tl (l.take k)) d1 d2
        rw [← HTL.out, ← HS.out] at E
        refine ⟨k + 1, _, by omega, by go_num, rfl, ?_, E, nd + 1, by rw [HWR.out]; rfl⟩
        rw [E]
        show ((tl (l.take (k + 1))).toArray).size ≤ 1000
        rw [List.size_toArray, tl_length, List.length_take]
        omega
      case measure => simp [intOf]; omega
    · obtain rfl : k = 16 := by omega
      have e : s = ⟨(tl l).toArray⟩ := by
        have h := HS.out
        rw [List.take_of_length_le (by rw [HL.out]; omega)] at h
        exact h
      subst e
      go_wp2
      go_ret
      exact ⟨rfl, by rw [HWR.out]; exact below_drew w _ nd⟩
end Go.Proofs.YtlkflikhbkhpeaaDoor
