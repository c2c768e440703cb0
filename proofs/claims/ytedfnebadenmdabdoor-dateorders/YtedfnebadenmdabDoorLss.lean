/-
  Dates in their order: the plain mathematics, and the contract of the statements' less.
-/
import Derived.Test.YtedfnebadenmdabDoorCald
import Derived.Deep.QuietTactic
import Derived.BigQuiet
namespace Go.Proofs.YtedfnebadenmdabDoor
open Go.RowKit

theorem below_draws {B : Nat} {a w : World} (h : Below B a w) (n : Nat) : Below B a (w.drewN n) := ⟨h.os, h.tape, h.output, h.size, h.block⟩
/-- Lists of numbers, compared from the first on. -/
def ltL : List Int → List Int → Bool
  | x :: xs, y :: ys => if x ≠ y then decide (x < y) else ltL xs ys
  | _, _ => false
def ptL (x : Dt) : List Int := [x.y, x.mo, x.d, x.h, x.mi, x.s]
theorem ltL_drop (a b : List Int) (k : Nat) (ha : k < a.length) (hb : k < b.length) : ltL (a.drop k) (b.drop k) = if a[k] ≠ b[k] then decide (a[k] < b[k]) else ltL (a.drop (k + 1)) (b.drop (k + 1)) := by
  rw [List.drop_eq_getElem_cons ha, List.drop_eq_getElem_cons hb, ltL]
theorem sec_order {a b : Dt} (ha : May a) (hb : May b) (hz : a.z = b.z) : (secD a < secD b ↔ ltL (ptL a) (ptL b) = true) ∧ (secD a = secD b ↔ a = b) := by
  refine ⟨?_, fun h => secD_uniq ha hb hz h, fun h => by rw [h]⟩
  have h0 := ha.h0; have h1 := ha.h1; have h2 := ha.m0; have h3 := ha.m1; have h4 := ha.s0; have h5 := ha.s1
  have k0 := hb.h0; have k1 := hb.h1; have k2 := hb.m0; have k3 := hb.m1; have k4 := hb.s0; have k5 := hb.s1
  have da := ha.day
  have db := hb.day
  unfold secD
  rw [hz]
  unfold ptL
  by_cases ey : a.y = b.y
  · by_cases em : a.mo = b.mo
    · by_cases ed : a.d = b.d
      · rw [ey, em, ed]
        by_cases eh : a.h = b.h
        · by_cases ei : a.mi = b.mi
          · by_cases es : a.s = b.s
            · simp [ltL, eh, ei, es]
            · simp only [ltL, ne_eq, not_true_eq_false, if_false, eh, ei, es, not_false_eq_true, if_true, decide_eq_true_eq]
              omega
          · simp only [ltL, ne_eq, not_true_eq_false, if_false, eh, ei, not_false_eq_true, if_true, decide_eq_true_eq]
            omega
        · simp only [ltL, ne_eq, not_true_eq_false, if_false, eh, not_false_eq_true, if_true, decide_eq_true_eq]
          omega
      · have e1 : numD a.y a.mo a.d - numD b.y b.mo b.d = a.d - b.d := by unfold numD; rw [ey, em]; omega
        simp only [ltL, ne_eq, ey, em, ed, not_true_eq_false, if_false, not_false_eq_true, if_true, decide_eq_true_eq]
        rw [ey, em] at e1
        rw [ey, em] at *
        omega
    · rw [ey] at da
      simp only [ltL, ne_eq, ey, em, not_true_eq_false, if_false, not_false_eq_true, if_true, decide_eq_true_eq]
      rcases Int.lt_or_gt_of_ne em with h | h
      · have := numD_lt_month da db h
        omega
      · have := numD_lt_month db da h
        omega
  · simp only [ltL, ne_eq, ey, not_false_eq_true, if_true, decide_eq_true_eq]
    rcases Int.lt_or_gt_of_ne ey with h | h
    · have := numD_lt_year da db h
      omega
    · have := numD_lt_year db da h
      omega

def ptC (x : Dt) : Array Value := #[.int .i64 x.y, .int .i64 x.mo, .int .i64 x.d, .int .i64 x.h, .int .i64 x.mi, .int .i64 x.s]
theorem ptC_at (x : Dt) (k : Nat) (hk : k < 6) : (ptC x)[k]? = some (.int .i64 ((ptL x)[k]'(by simpa [ptL] using hk))) := by
  have hc : k = 0 ∨ k = 1 ∨ k = 2 ∨ k = 3 ∨ k = 4 ∨ k = 5 := by omega
  rcases hc with rfl | rfl | rfl | rfl | rfl | rfl <;> rfl
set_option maxHeartbeats 4000000 in
theorem less_any (a b : Dt) (w : World) (ha : a.In) (hb : b.In) :
    Calls Tryd.prog 13 #[dtV a, dtV b] w fun e w' => e = .returned (.bool (ltL (ptL a) (ptL b))) ∧ Below w.heap.size w w' := by
  obtain ⟨a0, a1, a2, a3, a4, a5, a6, a7, a8, a9, a10, a11, _, _⟩ := ha
  obtain ⟨b0, b1, b2, b3, b4, b5, b6, b7, b8, b9, b10, b11, _, _⟩ := hb
  have HB4 : Hid (Below w.heap.size w ((((w.alloc (.cells (dtC a) 34)).alloc (.cells (dtC b) 34)).alloc (.cells (ptC a) 3)).alloc (.cells (ptC b) 3))) := ((((Below.refl _ _).alloc (Nat.le_refl _) _).alloc (by simp) _).alloc (by simp; omega) _).alloc (by simp; omega) _
  have HL1 : Hid (Lies ((((w.alloc (.cells (dtC a) 34)).alloc (.cells (dtC b) 34)).alloc (.cells (ptC a) 3)).alloc (.cells (ptC b) 3)) (w.heap.size + 1 + 1) (ptC a) 3) := (new_two w _ _ _ _).alloc _
  have HL2 : Hid (Lies ((((w.alloc (.cells (dtC a) 34)).alloc (.cells (dtC b) 34)).alloc (.cells (ptC a) 3)).alloc (.cells (ptC b) 3)) (w.heap.size + 1 + 1 + 1) (ptC b) 3) := by
    have := Lies.new (((w.alloc (.cells (dtC a) 34)).alloc (.cells (dtC b) 34)).alloc (.cells (ptC a) 3)) (ptC b) 3
    show Lies _ _ _ _
    simpa using this
  have EA : Hid (∀ k (hk : k < 6), (ptC a)[k]? = some (.int .i64 ((ptL a)[k]'(by simpa [ptL] using hk)))) := ptC_at a
  have EB : Hid (∀ k (hk : k < 6), (ptC b)[k]? = some (.int .i64 ((ptL b)[k]'(by simpa [ptL] using hk)))) := ptC_at b
  unfold dtV
  go_enter Tryd.func13, Tryd.ntmps13
  go_wp2
  have HB4' := HB4.out
  have HL1' := HL1.out
  have HL2' := HL2.out
  generalize hCA : ptC a = CA at HB4' HL1' HL2' EA
  generalize hCB : ptC b = CB at HB4' HL1' HL2' EB
  unfold ptC at hCA hCB
  rw [hCA, hCB]
  unfold dtC at HB4' HL1' HL2'
  clear HB4 HL1 HL2 hCA hCB
  generalize (((w.alloc (.cells #[.int .i16 a.y, .int .i8 a.mo, .int .i8 a.d, .int .i8 a.h, .int .i8 a.mi, .int .i8 a.s, .int .i16 a.z] 34)).alloc (.cells #[.int .i16 b.y, .int .i8 b.mo, .int .i8 b.d, .int .i8 b.h, .int .i8 b.mi, .int .i8 b.s, .int .i16 b.z] 34)).alloc (.cells CA 3)).alloc (.cells CB 3) = w4 at HB4' HL1' HL2' ⊢
  generalize w.heap.size + 1 + 1 + 1 = Q at HL2' ⊢
  generalize w.heap.size + 1 + 1 = P at HL1' ⊢
  have HB4 : Hid (Below w.heap.size w w4) := HB4'
  have HL1 : Hid (Lies w4 P CA 3) := HL1'
  have HL2 : Hid (Lies w4 Q CB 3) := HL2'
  clear HB4' HL1' HL2'
  go_loopw [48] (fun i wr => ∃ k : Nat, k ≤ 6 ∧ i = .int .i64 (k : Int) ∧ Hid (Below w4.heap.size w4 wr ∧ ltL (ptL a) (ptL b) = ltL ((ptL a).drop k) ((ptL b).drop k))) (fun i _ => 6 - (intOf i).toNat)
  case atStart => exact ⟨0, by omega, rfl, Below.refl _ _, rfl⟩
  case round =>
    obtain ⟨k, hk, rfl, HI⟩ := hrel
    by_cases hlt : k < 6
    · have la : k < (ptL a).length := by simpa [ptL] using hlt
      have lb : k < (ptL b).length := by simpa [ptL] using hlt
      have ca := (HL1.out.below HI.out.1 HL1.out.lt).cell k
      have cb := (HL2.out.below HI.out.1 HL2.out.lt).cell k
      rw [EA.out k hlt] at ca
      rw [EB.out k hlt] at cb
      have hst := ltL_drop (ptL a) (ptL b) k la lb
      have HBW : Hid (Below w.heap.size w wr) := HB4.out.trans (HI.out.1.mono HB4.out.size)
      generalize (ptL a)[k] = x at ca hst
      generalize (ptL b)[k] = y at cb hst
      have hki : (k : Int) < 6 := by omega
      by_cases hxy : x = y
      · have HN : Hid (Below w4.heap.size w4 wr ∧ ltL (ptL a) (ptL b) = ltL ((ptL a).drop (k + 1)) ((ptL b).drop (k + 1))) := ⟨HI.out.1, by rw [HI.out.2, hst, if_neg (by simpa using hxy)]⟩
        subst hxy
        clear hst HI
        go_wp2_with fail
        go_quiet (fail)
        go_wp2
        go_roundw
        case rel => exact ⟨k + 1, by omega, by go_num, below_draws HN.out.1 _, HN.out.2⟩
        case measure => simp [intOf]; omega
      · have HF : Hid (ltL (ptL a) (ptL b) = decide (x < y)) := by show _ = _; rw [HI.out.2, hst, if_pos hxy]
        have hne : (x != y) = true := by simpa using hxy
        clear hst HI hxy
        go_wp2_with fail
        go_quiet (fail)
        go_wp2_with fail
        go_quiet (fail)
        go_wp2
        go_ret
        exact ⟨ret_b HF.out.symm, below_draws (below_draws HBW.out _) _⟩
    · have HF : Hid (ltL (ptL a) (ptL b) = false) := by
        show _ = _
        obtain rfl : k = 6 := by omega
        rw [HI.out.2]
        rfl
      have HBW : Hid (Below w.heap.size w wr) := HB4.out.trans (HI.out.1.mono HB4.out.size)
      have hki : ¬ (k : Int) < 6 := by omega
      clear HI
      go_wp2
      go_ret
      exact ⟨ret_b HF.out.symm, HBW.out⟩
end Go.Proofs.YtedfnebadenmdabDoor
