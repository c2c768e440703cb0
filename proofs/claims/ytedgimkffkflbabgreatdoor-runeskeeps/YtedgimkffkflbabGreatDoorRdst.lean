/-
  The program's reading of a step, and the place of the last mark.
-/
import Derived.Test.YtedgimkffkflbabGreatDoorIs4
import Derived.Test.YtedgimkffkflbabGreatDoorCtr
import Derived.Test.YtedgimkffkflbabGreatDoorBase2
namespace Go.Proofs.YtedgimkffkflbabGreatDoor
open Go.RowKit

set_option maxHeartbeats 1000000 in
set_option maxRecDepth 100000 in
theorem libs_any (s : ByteArray) (w : World) (hs : s.size ≤ 9223372036854775806) : Calls Tryz.prog 61 #[.string s, .int .u8 45] w fun e w' => e = .returned (.int .i64 (lastI s.data.toList s.size)) ∧ w' = w := by
  go_enter Tryz.func61, Tryz.ntmps61
  go_wp2
  go_loop [5] (fun i => ∃ k : Nat, i = .int .i64 ((k : Int) - 1) ∧ k ≤ s.size ∧ Hid (lastI s.data.toList s.size = lastI s.data.toList k)) (fun i => (intOf i + 1).toNat)
  case atStart => exact ⟨s.size, rfl, Nat.le_refl _, rfl⟩
  case round =>
    obtain ⟨k, rfl, hk, HE⟩ := hrel
    cases k with
    | zero =>
      have HZ : Hid (lastI s.data.toList s.size = -1) := HE.out
      go_wp2
      go_ret
      exact ⟨ret_i64 HZ.out.symm, rfl⟩
    | succ k =>
      have hks : k < s.size := by omega
      have e1 : ((k + 1 : Nat) : Int) - 1 = (k : Int) := by omega
      rw [e1]
      have hg : s.data.toList[k]? = some s[k] := by rw [List.getElem?_eq_getElem (by rw [len_list]; exact hks), at_list s k hks]
      by_cases hb : s[k] = 45
      · have HZ : Hid (lastI s.data.toList s.size = k) := by
          have := HE.out
          conv at this => rhs; unfold lastI
          rw [hg, if_pos (by rw [hb])] at this
          exact this
        have q : (((s[k].toNat : Nat) : Int) == 45) = true := by rw [hb]; rfl
        clear hb hg
        go_wp2
        go_ret
        exact ⟨ret_i64 HZ.out.symm, rfl⟩
      · have HZ : Hid (lastI s.data.toList s.size = lastI s.data.toList k) := by
          have := HE.out
          conv at this => rhs; unfold lastI
          rw [hg, if_neg (fun e => hb (by injection e))] at this
          exact this
        have q : (((s[k].toNat : Nat) : Int) == 45) = false := by
          have : s[k].toNat ≠ 45 := fun e => hb (UInt8.toNat_inj.1 (by rw [e]; rfl))
          simp
          omega
        clear hb hg
        go_wp2
        go_round
        case rel => exact ⟨k, by first | rfl | go_num, by omega, HZ⟩
        case measure => simp [intOf]
set_option maxHeartbeats 1000000 in
set_option maxRecDepth 100000 in
theorem lib_any (s : ByteArray) (w : World) (hs : s.size ≤ 9223372036854775806) : Calls Tryz.prog 32 #[.string s, .int .u8 45] w fun e w' => e = .returned (.int .i64 (lastI s.data.toList s.size)) ∧ w' = w := by
  have hc := libs_any s w hs
  go_enter Tryz.func32, Tryz.ntmps32
  go_wp2_with fail
  refine hc.mono ?_
  rintro e w' ⟨rfl, rfl⟩
  go_wp2
  go_ret
  exact ⟨rfl, rfl⟩
theorem dig_is (c : UInt8) : isB 2 (c.toNat : Int) = decide (48 ≤ c.toNat ∧ c.toNat ≤ 57) := by
  have h : ∀ b : Fin 256, isB 2 (b.val : Int) = decide (48 ≤ b.val ∧ b.val ≤ 57) := by decide +kernel
  exact h ⟨c.toNat, c.toNat_lt⟩
def wthV (b : UInt8) : Nat := (wth b).getD 0
set_option maxHeartbeats 1000000 in
set_option maxRecDepth 100000 in
theorem dval_any (b : UInt8) (w : World) (ht : Table w) : Calls Tryz.prog 63 #[.int .u8 (b.toNat : Int)] w fun e w' => e = .returned (.tuple #[.int .u8 (wthV b : Nat), .bool (wth b).isSome]) ∧ w' = w := by
  have hc := is_any 2 (b.toNat : Int) w ht
  rw [dig_is] at hc
  have hb := b.toNat_lt
  clear ht
  by_cases h1 : 48 ≤ b.toNat ∧ b.toNat ≤ 57
  · have HV : Hid (wth b = some (b.toNat - 48 + 26)) := by show _ = _; unfold wth; rw [if_pos h1]
    rw [decide_eq_true h1] at hc
    have e1 : (b.toNat : Int) - 48 + 26 = ((b.toNat - 48 + 26 : Nat) : Int) := by omega
    have w1 : IntKind.u8.wrap ((b.toNat : Int) - 48) = (b.toNat : Int) - 48 := by rw [IntKind.wrap_u8]; omega
    have w2 : IntKind.u8.wrap ((b.toNat : Int) - 48 + 26) = (b.toNat : Int) - 48 + 26 := by rw [IntKind.wrap_u8]; omega
    have HE1 : Hid ((b.toNat : Int) - 48 + 26 = ((b.toNat - 48 + 26 : Nat) : Int)) := e1
    clear e1
    go_enter Tryz.func63, Tryz.ntmps63
    go_wp2_with fail
    refine hc.mono ?_
    rintro e w' ⟨rfl, rfl⟩
    go_wp2
    go_ret2
    refine ⟨?_, rfl⟩
    unfold wthV
    rw [HV.out]
    show Ending.returned (.tuple #[.int .u8 ((b.toNat : Int) - 48 + 26), .bool true]) = _
    rw [HE1.out]
    rfl
  · rw [decide_eq_false h1] at hc
    by_cases h2 : 97 ≤ b.toNat ∧ b.toNat ≤ 122
    · have HV : Hid (wth b = some (b.toNat - 97)) := by show _ = _; unfold wth; rw [if_neg h1, if_pos h2]
      have q1 : (97 : Int) ≤ (b.toNat : Int) := by omega
      have q2 : (b.toNat : Int) ≤ 122 := by omega
      have HE1 : Hid ((b.toNat : Int) - 97 = ((b.toNat - 97 : Nat) : Int)) := by show _ = _; omega
      go_enter Tryz.func63, Tryz.ntmps63
      go_wp2_with fail
      refine hc.mono ?_
      rintro e w' ⟨rfl, rfl⟩
      go_wp2
      go_ret2
      refine ⟨?_, rfl⟩
      unfold wthV
      rw [HV.out]
      show Ending.returned (.tuple #[.int .u8 ((b.toNat : Int) - 97), .bool true]) = _
      rw [HE1.out]
      rfl
    · by_cases h3 : 65 ≤ b.toNat ∧ b.toNat ≤ 90
      · have HV : Hid (wth b = some (b.toNat - 65)) := by show _ = _; unfold wth; rw [if_neg h1, if_neg h2, if_pos h3]
        have q0 : ¬ (97 : Int) ≤ (b.toNat : Int) := by omega
        have q1 : (65 : Int) ≤ (b.toNat : Int) := by omega
        have q2 : (b.toNat : Int) ≤ 90 := by omega
        have HE1 : Hid ((b.toNat : Int) - 65 = ((b.toNat - 65 : Nat) : Int)) := by show _ = _; omega
        go_enter Tryz.func63, Tryz.ntmps63
        go_wp2_with fail
        refine hc.mono ?_
        rintro e w' ⟨rfl, rfl⟩
        go_wp2
        go_ret2
        refine ⟨?_, rfl⟩
        unfold wthV
        rw [HV.out]
        show Ending.returned (.tuple #[.int .u8 ((b.toNat : Int) - 65), .bool true]) = _
        rw [HE1.out]
        rfl
      · have HV : Hid (wth b = none) := by show _ = _; unfold wth; rw [if_neg h1, if_neg h2, if_neg h3]
        have d1 : (decide ((97 : Int) ≤ (b.toNat : Int)) && decide ((b.toNat : Int) ≤ 122)) = false := by simp; omega
        by_cases q1 : (97 : Int) ≤ (b.toNat : Int)
        · have q2 : ¬ (b.toNat : Int) ≤ 122 := by omega
          have q3 : (65 : Int) ≤ (b.toNat : Int) := by omega
          have q4 : ¬ (b.toNat : Int) ≤ 90 := by omega
          clear d1
          go_enter Tryz.func63, Tryz.ntmps63
          go_wp2_with fail
          refine hc.mono ?_
          rintro e w' ⟨rfl, rfl⟩
          go_wp2
          go_ret2
          refine ⟨?_, rfl⟩
          unfold wthV
          rw [HV.out]
          rfl
        · by_cases q3 : (65 : Int) ≤ (b.toNat : Int)
          · have q4 : ¬ (b.toNat : Int) ≤ 90 := by omega
            clear d1
            go_enter Tryz.func63, Tryz.ntmps63
            go_wp2_with fail
            refine hc.mono ?_
            rintro e w' ⟨rfl, rfl⟩
            go_wp2
            go_ret2
            refine ⟨?_, rfl⟩
            unfold wthV
            rw [HV.out]
            rfl
          · clear d1
            go_enter Tryz.func63, Tryz.ntmps63
            go_wp2_with fail
            refine hc.mono ?_
            rintro e w' ⟨rfl, rfl⟩
            go_wp2
            go_ret2
            refine ⟨?_, rfl⟩
            unfold wthV
            rw [HV.out]
            rfl

/-- What readStep tells. -/
def rdV (r : (Nat × Nat) ⊕ (Nat × Nat)) : Value := match r with
  | .inl (c, at') => .tuple #[.int .i64 0, .int .i64 0, .agg #[.int .i64 (c : Nat), .int .i64 (at' : Nat)]]
  | .inr (s, b) => .tuple #[.int .i64 (s : Nat), .int .i64 (b : Nat), .agg #[.int .i64 0, .int .i64 0]]
theorem rdS_drop (bias : Nat) (l : List UInt8) (i at' sum wt : Nat) (h : at' < l.length) :
    rdS bias (l.drop at') i at' sum wt = match wth l[at'] with
      | none => .inl (51, at')
      | some v => if 2147483647 < sum + v * wt then .inl (52, at') else if v < bnd i bias then .inr (sum + v * wt, at' + 1) else rdS bias (l.drop (at' + 1)) (i + 1) (at' + 1) (sum + v * wt) (wt * (36 - bnd i bias)) := by
  rw [List.drop_eq_getElem_cons h]
  rfl

set_option maxHeartbeats 2000000 in
set_option maxRecDepth 100000 in
theorem rds_any (s : ByteArray) (from' bias : Nat) (w : World) (ht : Table w) (hg0 : 2 < w.heap.size) (hs : s.size ≤ 4294967296) (hf : from' ≤ s.size) (hb : bias ≤ 8589934592) :
    Calls Tryz.prog 35 #[.string s, .int .i64 from', .int .i64 bias] w fun e w' => e = .returned (rdV (rdS bias (s.data.toList.drop from') 0 from' 0 1)) ∧ Below w.heap.size w w' := by
  have HT : Hid (Table w) := ht
  clear ht
  generalize hR : rdS bias (s.data.toList.drop from') 0 from' 0 1 = R
  have HR : Hid (R = rdS bias (s.data.toList.drop from') 0 from' 0 1) := hR.symm
  clear hR
  go_enter Tryz.func35, Tryz.ntmps35
  go_wp2
  have HS0 : Hid (Lies (w.alloc (.cells #[.int .i64 0, .int .i64 0] 30)) w.heap.size #[.int .i64 0, .int .i64 0] 30) := Lies.new w _ _
  have HB0 : Hid (Below w.heap.size w (w.alloc (.cells #[.int .i64 0, .int .i64 0] 30))) := (Below.refl _ _).alloc (Nat.le_refl _) _
  have HTA : Hid (Table (w.alloc (.cells #[.int .i64 0, .int .i64 0] 30))) := fun c hc => (HB0.out.cell (p := ⟨2, c, none⟩) hg0).trans (HT.out c hc)
  generalize w.alloc (.cells #[.int .i64 0, .int .i64 0] 30) = wa at HS0 HB0 HTA ⊢
  have c0 := HS0.out.cell 0
  have c1 := HS0.out.cell 1
  have f0 := HS0.out.frozen 0
  have f1 := HS0.out.frozen 1
  simp at c0 c1
  go_loop [6, 9, 10] (fun sv wv av => ∃ (i sum wt : Nat), sv = .int .i64 sum ∧ wv = .int .i64 wt ∧ av = .int .i64 ((from' + i : Nat) : Int) ∧ from' + i ≤ s.size ∧ sum ≤ 2147483647 ∧ wt ≤ 75161927645 ∧ 1 ≤ wt ∧ Hid (R = rdS bias (s.data.toList.drop (from' + i)) i (from' + i) sum wt)) (fun _ _ av => s.size - (intOf av).toNat)
  case atStart => exact ⟨0, 0, 1, rfl, rfl, rfl, hf, by omega, by omega, by omega, HR⟩
  case round =>
    obtain ⟨i, sum, wt, rfl, rfl, rfl, hat, hsum, hwt, hwt1, HE⟩ := hrel
    by_cases hlt : from' + i < s.size
    · have hlt' : from' + i < s.data.toList.length := by rw [len_list]; exact hlt
      have HD := HE.out
      rw [rdS_drop bias _ i (from' + i) sum wt hlt', at_list s _ hlt] at HD
      have hdv := dval_any (s[from' + i]) wa HTA.out
      have hbn := bound_any i bias (by omega) hb wa
      have hb1 := bnd_pos i bias
      have hb2 := bnd_le i bias
      unfold wthV at hdv
      cases hv : wth s[from' + i] with
      | none =>
        rw [hv] at hdv HD
        have HD2 : Hid (R = .inl (51, from' + i)) := HD
        clear HD HE
        have hlt2 : ((from' + i : Nat) : Int) < (s.size : Int) := by omega
        generalize hAT : from' + i = AT at *
        go_wp2_with fail
        refine hdv.mono ?_
        rintro e w' ⟨rfl, rfl⟩
        go_wp2
        (try simp only [Exit.inBlock, Exit.then])
        refine bodyPost_ret (v := .tuple #[.int .i64 0, .int .i64 0, .agg #[.int .i64 51, .int .i64 (AT : Nat)]]) (by simp [results, Tryz.results35, go_sem, c0, c1]) rfl ⟨by rw [HD2.out]; rfl, (HB0.out.setCell (p := ⟨w.heap.size, 0, none⟩) (Nat.le_refl _) _).setCell (p := ⟨w.heap.size, 1, none⟩) (Nat.le_refl _) _⟩
      | some v =>
        rw [hv] at hdv HD
        simp only [Option.getD_some, Option.isSome_some] at hdv
        simp only at HD
        have hv36 := wth_lt hv
        have hvw : v * wt ≤ 35 * 75161927645 := Nat.mul_le_mul (by omega) hwt
        have hmul : (v : Int) * (wt : Int) = ((v * wt : Nat) : Int) := by push_cast; rfl
        have hai : ((from' + i : Nat) : Int) - (from' : Int) = (i : Int) := by omega
        generalize bnd i bias = t at *
        by_cases h1 : 2147483647 < sum + v * wt
        · rw [if_pos h1] at HD
          have HD2 : Hid (R = .inl (52, from' + i)) := HD
          clear HD HE
          generalize v * wt = vw at *
          generalize hAT : from' + i = AT at *
          have h1' : (2147483647 : Int) < (sum : Int) + (vw : Int) := by omega
          go_wp2_with fail
          refine hdv.mono ?_
          rintro e w' ⟨rfl, rfl⟩
          go_wp2_with fail
          refine hbn.mono ?_
          rintro e w' ⟨rfl, rfl⟩
          go_wp2
          (try simp only [Exit.inBlock, Exit.then])
          refine bodyPost_ret (v := .tuple #[.int .i64 0, .int .i64 0, .agg #[.int .i64 52, .int .i64 (AT : Nat)]]) (by simp [results, Tryz.results35, go_sem, c0, c1]) rfl ⟨by rw [HD2.out]; rfl, (HB0.out.setCell (p := ⟨w.heap.size, 0, none⟩) (Nat.le_refl _) _).setCell (p := ⟨w.heap.size, 1, none⟩) (Nat.le_refl _) _⟩
        · rw [if_neg h1] at HD
          have hwv : 1 ≤ v → wt ≤ v * wt := fun h => Nat.le_mul_of_pos_left _ h
          by_cases h2 : v < t
          · rw [if_pos h2] at HD
            have HD2 : Hid (R = .inr (sum + v * wt, from' + i + 1)) := HD
            clear HD HE hwv
            generalize v * wt = vw at *
            generalize hAT : from' + i = AT at *
            have h1' : ¬ (2147483647 : Int) < (sum : Int) + (vw : Int) := by omega
            have h2' : (v : Int) < (t : Int) := by omega
            go_wp2_with fail
            refine hdv.mono ?_
            rintro e w' ⟨rfl, rfl⟩
            go_wp2_with fail
            refine hbn.mono ?_
            rintro e w' ⟨rfl, rfl⟩
            go_wp2
            (try simp only [Exit.inBlock, Exit.then])
            refine bodyPost_ret (v := .tuple #[.int .i64 ((sum : Int) + vw), .int .i64 ((AT : Int) + 1), .agg #[.int .i64 0, .int .i64 0]]) (by simp [results, Tryz.results35, go_sem, c0, c1]) rfl ⟨by rw [HD2.out]; simp [rdV], (HB0.out.setCell (p := ⟨w.heap.size, 0, none⟩) (Nat.le_refl _) _).setCell (p := ⟨w.heap.size, 1, none⟩) (Nat.le_refl _) _⟩
          · rw [if_neg h2] at HD
            have hwt2 := hwv (by omega)
            have hwt3 : wt * (36 - t) ≤ 2147483647 * 35 := Nat.mul_le_mul (by omega) (by omega)
            have hwt4 : 1 ≤ wt * (36 - t) := Nat.mul_pos (by omega) (by omega)
            have hmul2 : (wt : Int) * (36 - (t : Int)) = ((wt * (36 - t) : Nat) : Int) := by
              rw [show (36 : Int) - t = ((36 - t : Nat) : Int) from by omega]
              push_cast
              rfl
            have HD2 : Hid (R = rdS bias (s.data.toList.drop (from' + (i + 1))) (i + 1) (from' + (i + 1)) (sum + v * wt) (wt * (36 - t))) := HD
            clear HD HE hwv
            generalize v * wt = vw at *
            generalize wt * (36 - t) = wt' at *
            have HV36 : Hid (from' + i + 1 = from' + (i + 1)) := rfl
            generalize hAT : from' + i = AT at *
            clear hAT
            have h1' : ¬ (2147483647 : Int) < (sum : Int) + (vw : Int) := by omega
            have h2' : ¬ (v : Int) < (t : Int) := by omega
            go_wp2_with fail
            refine hdv.mono ?_
            rintro e w' ⟨rfl, rfl⟩
            go_wp2_with fail
            refine hbn.mono ?_
            rintro e w' ⟨rfl, rfl⟩
            go_wp2
            go_round
            case rel =>
              have := HV36.out
              exact ⟨i + 1, sum + vw, wt', by first | rfl | go_num, by first | rfl | go_num, by rw [← this]; go_num, by omega, by omega, by omega, by omega, HD2⟩
            case measure => simp [intOf]; omega
    · have HD2 : Hid (R = .inl (51, s.size)) := by
        have := HE.out
        rw [List.drop_eq_nil_of_le (by rw [len_list]; omega)] at this
        rw [show from' + i = s.size from by omega] at this
        exact this
      have hlt2 : ¬ ((from' + i : Nat) : Int) < (s.size : Int) := by omega
      clear HE
      go_wp2
      (try simp only [Exit.inBlock, Exit.then])
      refine bodyPost_ret (v := .tuple #[.int .i64 0, .int .i64 0, .agg #[.int .i64 51, .int .i64 (s.size : Nat)]]) (by simp [results, Tryz.results35, go_sem, c0, c1]) rfl ⟨by rw [HD2.out]; rfl, (HB0.out.setCell (p := ⟨w.heap.size, 0, none⟩) (Nat.le_refl _) _).setCell (p := ⟨w.heap.size, 1, none⟩) (Nat.le_refl _) _⟩
end Go.Proofs.YtedgimkffkflbabGreatDoor
