/-
  The document's step.
-/
import Derived.Test.YtedgimkffkflbabGreatDoorRPn
namespace Go.Proofs.YtedgimkffkflbabGreatDoor
open Go.RowKit

set_option maxHeartbeats 4000000 in
set_option maxRecDepth 100000 in
theorem dstep_any (s : ByteArray) (from' bias : Nat) (w : World) (hs : s.size ≤ 4294967296) (hf : from' ≤ s.size) (hb : bias ≤ 8589934592) :
    Calls Tryz.prog 27 #[.string s, .int .i64 from', .int .i64 bias] w fun e w' => e = .returned (rdV (rdS bias (s.data.toList.drop from') 0 from' 0 1)) ∧ Below w.heap.size w w' := by
  generalize hR : rdS bias (s.data.toList.drop from') 0 from' 0 1 = R
  have HR : Hid (R = rdS bias (s.data.toList.drop from') 0 from' 0 1) := hR.symm
  clear hR
  go_enter Tryz.func27, Tryz.ntmps27
  go_wp2
  have HS0 : Hid (Lies (w.alloc (.cells #[.int .i64 0, .int .i64 0] 30)) w.heap.size #[.int .i64 0, .int .i64 0] 30) := Lies.new w _ _
  have HB0 : Hid (Below w.heap.size w (w.alloc (.cells #[.int .i64 0, .int .i64 0] 30))) := (Below.refl _ _).alloc (Nat.le_refl _) _
  generalize w.alloc (.cells #[.int .i64 0, .int .i64 0] 30) = wa at HS0 HB0 ⊢
  go_loopw [1, 9, 10, 11, 12] (fun av sv wv iv _ wr => ∃ (i sum wt : Nat), sv = .int .i64 sum ∧ wv = .int .i64 wt ∧ av = .int .i64 ((from' + i : Nat) : Int) ∧ iv = .int .i64 i ∧ from' + i ≤ s.size ∧ sum ≤ 2147483647 ∧ wt ≤ 75161927645 ∧ 1 ≤ wt ∧ Hid (R = rdS bias (s.data.toList.drop (from' + i)) i (from' + i) sum wt) ∧ Hid (Below w.heap.size w wr) ∧ Hid (Lies wr w.heap.size #[.int .i64 0, .int .i64 0] 30)) (fun av _ _ _ _ _ => s.size - (intOf av).toNat)
  case atStart => exact ⟨0, 0, 1, rfl, rfl, rfl, rfl, hf, by omega, by omega, by omega, HR, HB0, HS0⟩
  case round =>
    obtain ⟨i, sum, wt, rfl, rfl, rfl, rfl, hat, hsum, hwt, hwt1, HE, HBr, HSr⟩ := hrel
    by_cases hlt : from' + i < s.size
    · have hil : i ≤ 4294967296 := by omega
      have hlt' : from' + i < s.data.toList.length := by rw [len_list]; exact hlt
      have HD := HE.out
      rw [rdS_drop bias _ i (from' + i) sum wt hlt', at_list s _ hlt] at HD
      have HDV : Hid (∀ wx, Calls Tryz.prog 59 #[.int .u8 (s[from' + i].toNat : Int)] wx fun e w' => e = .returned (.int .i64 (worN s[from' + i])) ∧ Below wx.heap.size wx w') := fun wx => dworth_any s[from' + i] wx
      have HBN : Hid (∀ wx, Calls Tryz.prog 60 #[.int .i64 i, .int .i64 bias] wx fun e w' => e = .returned (.int .i64 (bnd i bias)) ∧ w' = wx) := fun wx => dbound_any i bias (by omega) hb wx
      have hb1 := bnd_pos i bias
      have hb2 := bnd_le i bias
      unfold worN at HDV
      cases hv : wth s[from' + i] with
      | none =>
        rw [hv] at HDV HD
        have HD2 : Hid (R = .inl (51, from' + i)) := HD
        clear HD HE
        have hlt2 : ((from' + i : Nat) : Int) < (s.size : Int) := by omega
        generalize hAT : from' + i = AT at *
        go_wp2_with fail
        refine (HDV.out _).mono ?_
        rintro e w1 ⟨rfl, b1⟩
        have HB : Hid (Below w.heap.size w w1) := HBr.out.trans (b1.mono HBr.out.size)
        have HS : Hid (Lies w1 w.heap.size #[.int .i64 0, .int .i64 0] 30) := HSr.out.below b1 HSr.out.lt
        have c0 := HS.out.cell 0
        have c1 := HS.out.cell 1
        have f0 := HS.out.frozen 0
        have f1 := HS.out.frozen 1
        simp at c0 c1
        have HZ : Hid (Lies ((w1.setCell ⟨w.heap.size, 0, none⟩ (.int .i64 51)).setCell ⟨w.heap.size, 1, none⟩ (.int .i64 (AT : Nat))) w.heap.size #[.int .i64 51, .int .i64 (AT : Nat)] 30) := (HS.out.set 0 _).set 1 _
        have z0 := HZ.out.cell 0
        have z1 := HZ.out.cell 1
        simp at z0 z1
        go_wp2
        (try simp only [Exit.inBlock, Exit.then])
        refine bodyPost_ret (v := .tuple #[.int .i64 0, .int .i64 0, .agg #[.int .i64 51, .int .i64 (AT : Nat)]]) (by simp [results, Tryz.results27, go_sem, z0, z1]) rfl ⟨by rw [HD2.out]; simp [rdV], (HB.out.setCell (p := ⟨w.heap.size, 0, none⟩) (Nat.le_refl _) _).setCell (p := ⟨w.heap.size, 1, none⟩) (Nat.le_refl _) _⟩
      | some v =>
        rw [hv] at HDV HD
        simp only at HD HDV
        have hv36 := wth_lt hv
        have hvw : v * wt ≤ 35 * 75161927645 := Nat.mul_le_mul (by omega) hwt
        have hmul : (v : Int) * (wt : Int) = ((v * wt : Nat) : Int) := by push_cast; rfl
        generalize bnd i bias = t at *
        by_cases h1 : 2147483647 < sum + v * wt
        · rw [if_pos h1] at HD
          have HD2 : Hid (R = .inl (52, from' + i)) := HD
          clear HD HE
          generalize v * wt = vw at *
          generalize hAT : from' + i = AT at *
          have h1' : (2147483647 : Int) < (sum : Int) + (vw : Int) := by omega
          go_wp2_with fail
          refine (HDV.out _).mono ?_
          rintro e w1 ⟨rfl, b1⟩
          have HB : Hid (Below w.heap.size w w1) := HBr.out.trans (b1.mono HBr.out.size)
          have HS : Hid (Lies w1 w.heap.size #[.int .i64 0, .int .i64 0] 30) := HSr.out.below b1 HSr.out.lt
          clear HBr HSr
          go_wp2_with fail
          refine (HDV.out _).mono ?_
          rintro e w2 ⟨rfl, b2⟩
          have HB : Hid (Below w.heap.size w w2) := HB.out.trans (b2.mono HB.out.size)
          have HS : Hid (Lies w2 w.heap.size #[.int .i64 0, .int .i64 0] 30) := HS.out.below b2 HS.out.lt
          have c0 := HS.out.cell 0
          have c1 := HS.out.cell 1
          have f0 := HS.out.frozen 0
          have f1 := HS.out.frozen 1
          simp at c0 c1
          have HZ : Hid (Lies ((w2.setCell ⟨w.heap.size, 0, none⟩ (.int .i64 52)).setCell ⟨w.heap.size, 1, none⟩ (.int .i64 (AT : Nat))) w.heap.size #[.int .i64 52, .int .i64 (AT : Nat)] 30) := (HS.out.set 0 _).set 1 _
          have z0 := HZ.out.cell 0
          have z1 := HZ.out.cell 1
          simp at z0 z1
          go_wp2
          (try simp only [Exit.inBlock, Exit.then])
          refine bodyPost_ret (v := .tuple #[.int .i64 0, .int .i64 0, .agg #[.int .i64 52, .int .i64 (AT : Nat)]]) (by simp [results, Tryz.results27, go_sem, z0, z1]) rfl ⟨by rw [HD2.out]; simp [rdV], (HB.out.setCell (p := ⟨w.heap.size, 0, none⟩) (Nat.le_refl _) _).setCell (p := ⟨w.heap.size, 1, none⟩) (Nat.le_refl _) _⟩
        · rw [if_neg h1] at HD
          have hwv : 1 ≤ v → wt ≤ v * wt := fun h => Nat.le_mul_of_pos_left _ h
          by_cases h2 : v < t
          · rw [if_pos h2] at HD
            have HD2 : Hid (R = .inr (sum + v * wt, from' + i + 1)) := HD
            clear HD HE hwv
            generalize v * wt = vw at *
            generalize hAT : from' + i = AT at *
            have h1' : ¬ (2147483647 : Int) < (sum : Int) + (vw : Int) := by omega
            have h2' : (v : Int) < (t : Int) := by omega
            go_wp2_with fail
            refine (HDV.out _).mono ?_
            rintro e w1 ⟨rfl, b1⟩
            have HB : Hid (Below w.heap.size w w1) := HBr.out.trans (b1.mono HBr.out.size)
            have HS : Hid (Lies w1 w.heap.size #[.int .i64 0, .int .i64 0] 30) := HSr.out.below b1 HSr.out.lt
            clear HBr HSr
            go_wp2_with fail
            refine (HDV.out _).mono ?_
            rintro e w2 ⟨rfl, b2⟩
            have HB : Hid (Below w.heap.size w w2) := HB.out.trans (b2.mono HB.out.size)
            have HS : Hid (Lies w2 w.heap.size #[.int .i64 0, .int .i64 0] 30) := HS.out.below b2 HS.out.lt
            go_wp2_with fail
            refine (HBN.out _).mono ?_
            rintro e w3 ⟨rfl, rfl⟩
            have c0 := HS.out.cell 0
            have c1 := HS.out.cell 1
            have f0 := HS.out.frozen 0
            have f1 := HS.out.frozen 1
            simp at c0 c1
            go_wp2
            (try simp only [Exit.inBlock, Exit.then])
            refine bodyPost_ret (v := .tuple #[.int .i64 ((sum : Int) + vw), .int .i64 ((AT : Int) + 1), .agg #[.int .i64 0, .int .i64 0]]) (by simp [results, Tryz.results27, go_sem, c0, c1]) rfl ⟨by rw [HD2.out]; simp [rdV], (HB.out.setCell (p := ⟨w.heap.size, 0, none⟩) (Nat.le_refl _) _).setCell (p := ⟨w.heap.size, 1, none⟩) (Nat.le_refl _) _⟩
          · rw [if_neg h2] at HD
            have hwt2 := hwv (by omega)
            have hwt3 : wt * (36 - t) ≤ 2147483647 * 35 := Nat.mul_le_mul (by omega) (by omega)
            have hwt4 : 1 ≤ wt * (36 - t) := Nat.mul_pos (by omega) (by omega)
            have hmul2 : (wt : Int) * (36 - (t : Int)) = ((wt * (36 - t) : Nat) : Int) := by
              rw [show (36 : Int) - t = ((36 - t : Nat) : Int) from by omega]
              push_cast
              rfl
            have HD2 : Hid (R = rdS bias (s.data.toList.drop (from' + (i + 1))) (i + 1) (from' + (i + 1)) (sum + v * wt) (wt * (36 - t))) := HD
            clear HD HE hwv
            generalize v * wt = vw at *
            generalize wt * (36 - t) = wt' at *
            have HV36 : Hid (from' + i + 1 = from' + (i + 1)) := rfl
            generalize hAT : from' + i = AT at *
            clear hAT
            have h1' : ¬ (2147483647 : Int) < (sum : Int) + (vw : Int) := by omega
            have h2' : ¬ (v : Int) < (t : Int) := by omega
            go_wp2_with fail
            refine (HDV.out _).mono ?_
            rintro e w1 ⟨rfl, b1⟩
            have HB : Hid (Below w.heap.size w w1) := HBr.out.trans (b1.mono HBr.out.size)
            have HS : Hid (Lies w1 w.heap.size #[.int .i64 0, .int .i64 0] 30) := HSr.out.below b1 HSr.out.lt
            clear HBr HSr
            go_wp2_with fail
            refine (HDV.out _).mono ?_
            rintro e w2 ⟨rfl, b2⟩
            have HB : Hid (Below w.heap.size w w2) := HB.out.trans (b2.mono HB.out.size)
            have HS : Hid (Lies w2 w.heap.size #[.int .i64 0, .int .i64 0] 30) := HS.out.below b2 HS.out.lt
            go_wp2_with fail
            refine (HBN.out _).mono ?_
            rintro e w3 ⟨rfl, rfl⟩
            go_wp2_with fail
            refine (HBN.out _).mono ?_
            rintro e w4 ⟨rfl, rfl⟩
            go_wp2
            go_roundw
            case rel =>
              have := HV36.out
              exact ⟨i + 1, sum + vw, wt', by first | rfl | go_num, by first | rfl | go_num, by rw [← this]; go_num, by go_num, by omega, by omega, by omega, by omega, HD2, HB, HS⟩
            case measure => simp [intOf]; omega
    · have HD2 : Hid (R = .inl (51, s.size)) := by
        have := HE.out
        rw [List.drop_eq_nil_of_le (by rw [len_list]; omega)] at this
        rw [show from' + i = s.size from by omega] at this
        exact this
      have hlt2 : ¬ ((from' + i : Nat) : Int) < (s.size : Int) := by omega
      have HB := HBr
      have HS := HSr
      clear HE HBr HSr
      generalize hAT : from' + i = AT at *
      obtain rfl : AT = s.size := by omega
      have c0 := HS.out.cell 0
      have c1 := HS.out.cell 1
      have f0 := HS.out.frozen 0
      have f1 := HS.out.frozen 1
      simp at c0 c1
      have HZ : Hid (Lies ((wr.setCell ⟨w.heap.size, 0, none⟩ (.int .i64 51)).setCell ⟨w.heap.size, 1, none⟩ (.int .i64 (s.size : Nat))) w.heap.size #[.int .i64 51, .int .i64 (s.size : Nat)] 30) := (HS.out.set 0 _).set 1 _
      have z0 := HZ.out.cell 0
      have z1 := HZ.out.cell 1
      simp at z0 z1
      go_wp2
      (try simp only [Exit.inBlock, Exit.then])
      refine bodyPost_ret (v := .tuple #[.int .i64 0, .int .i64 0, .agg #[.int .i64 51, .int .i64 (s.size : Nat)]]) (by simp [results, Tryz.results27, go_sem, z0, z1]) rfl ⟨by rw [HD2.out]; simp [rdV], (HB.out.setCell (p := ⟨w.heap.size, 0, none⟩) (Nat.le_refl _) _).setCell (p := ⟨w.heap.size, 1, none⟩) (Nat.le_refl _) _⟩
end Go.Proofs.YtedgimkffkflbabGreatDoor
