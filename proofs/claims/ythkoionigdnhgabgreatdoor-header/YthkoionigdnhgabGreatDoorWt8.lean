/-
  The contracts of domain.wrongTagged and beginsSixth.
-/
import Derived.Test.YthkoionigdnhgabGreatDoorWe8
import Derived.Test.YthkoionigdnhgabGreatDoorRowl
import Derived.Test.YthkoionigdnhgabGreatDoorGa8
namespace Go.Proofs.YthkoionigdnhgabGreatDoor
open Go.RowKit

theorem badN_spB (c : Int) (f : UInt8 → Bool) (h : ∀ b : UInt8, isB c (b.toNat : Int) = f b) : ∀ l : List UInt8, badN c l = spB f l
  | [] => rfl
  | b :: r => by
    rw [badN, spB, badN_spB c f h r, h b]
theorem ext_take (s : ByteArray) (k : Nat) : (s.extract 0 k).data.toList = s.data.toList.take k := by
  rw [ext_list]
  simp

set_option maxHeartbeats 1000000 in
set_option maxRecDepth 100000 in
theorem wtw_any (b : Nat) (p : Nat) (w : World) (hc : w.cell? ⟨b, 0, none⟩ = some (.int .i64 (p : Nat))) :
    Calls Tryz.prog 156 #[.pointer (some ⟨b, 0, none⟩)] w fun e w' => e = .returned (.agg #[.int .i64 83, .int .i64 (p : Nat)]) ∧ Below w.heap.size w w' := by
  have hb : b < w.heap.size := World.block_lt_of_cell? w _ hc
  have HL : Hid (Lies ((w.alloc (.cells #[.int .i64 0, .int .i64 0] 41)).setRow w.heap.size #[.int .i64 83, .int .i64 (p : Int)]) w.heap.size #[.int .i64 83, .int .i64 (p : Int)] 41) := (Lies.new w _ _).row _
  have HL0 : Hid (Lies (w.alloc (.cells #[.int .i64 0, .int .i64 0] 41)) w.heap.size #[.int .i64 0, .int .i64 0] 41) := Lies.new w _ _
  have HB : Hid (Below w.heap.size w ((w.alloc (.cells #[.int .i64 0, .int .i64 0] 41)).setRow w.heap.size #[.int .i64 83, .int .i64 (p : Int)])) := below_row ((Below.refl _ _).alloc (Nat.le_refl _) _) (Nat.le_refl _) _
  go_enter Tryz.func156, Tryz.ntmps156
  go_wp2_with (refine wpList_store_row rfl 41 _ _ rfl w.heap.size rfl _ #[.int .i64 83, .int .i64 (p : Int)] rfl 41 HL0.out infoSp rfl (by simp [Value.oneCell']) rfl ?_)
  exact bodyPost_ret (results_row (p := 1) (by kernel_rfl) _ _ w.heap.size 41 _ (0, 0) _ rfl HL.out Tryz.underlying41 rfl infoSp) rfl ⟨rfl, HB.out⟩
/-- The blocks of wrongTagged: the result, the place. -/
structure WtS (w : World) (a : Nat) (wr : World) : Prop where
  r : Lies wr w.heap.size #[.int .i64 0, .int .i64 0] 41
  pa : Lies wr (w.heap.size + 1) #[.int .i64 (a : Nat)] 3
  below : Below w.heap.size w wr
theorem WtS.later {w wr wx : World} {a : Nat} (h : WtS w a wr) (hb : Below wr.heap.size wr wx) : WtS w a wx :=
  ⟨h.r.below hb h.r.lt, h.pa.below hb h.pa.lt, h.below.trans (hb.mono (Nat.le_of_lt h.r.lt))⟩
theorem WtS.setA {w wr : World} {a : Nat} (h : WtS w a wr) (m : Nat) : WtS w m (wr.setCell ⟨w.heap.size + 1, 0, none⟩ (.int .i64 (m : Nat))) :=
  ⟨h.r.set_other (a := ⟨w.heap.size + 1, 0, none⟩) (by show w.heap.size ≠ w.heap.size + 1; omega) _, h.pa.set 0 _, h.below.setCell (p := ⟨w.heap.size + 1, 0, none⟩) (by show w.heap.size ≤ w.heap.size + 1; omega) _⟩
theorem WtS.ret {w wr : World} {a : Nat} (h : WtS w a wr) (ds : Array Value) (R : Ending → World → Prop) (tmps : Array Value) (hq : tmps.getD 4 undef = .pointer (some ⟨w.heap.size, 0, none⟩)) (hd : ds.size = 2)
    (hR : R (.returned (.agg ds)) (wr.setRow w.heap.size ds)) : bodyPost Tryz.prog Tryz.f119 R .ret { tmps := tmps, defers := [] } (wr.setRow w.heap.size ds) :=
  bodyPost_ret (results_row (p := 4) (by kernel_rfl) tmps _ w.heap.size 41 ds (0, 0) _ hq (h.r.row ds) Tryz.underlying41 rfl (by rw [hd]; exact infoSp)) rfl hR

set_option maxHeartbeats 4000000 in
set_option maxRecDepth 100000 in
theorem wt_any (t : ByteArray) (k : Nat) (w : World) (ht : Table w) (hg : 2 < w.heap.size) (hk : k < t.size) (hs : t.size ≤ 255) :
    Calls Tryz.prog 119 #[.string t, .int .i64 (k : Nat)] w fun e w' => e = .returned (.agg (spotV (tagged t.data.toList k))) ∧ Below w.heap.size w w' := by
  have HT : Hid (∀ wx, Below w.heap.size w wx → Table wx) := fun wx hb => ht.below hg hb
  obtain ⟨n, hn⟩ : ∃ n, n = spB lbB (t.data.toList.take k) := ⟨_, rfl⟩
  obtain ⟨m, hm⟩ : ∃ m, m = spB plB (t.data.toList.drop (k + 1)) := ⟨_, rfl⟩
  have hnk : n ≤ k := by
    rw [hn]
    refine Nat.le_trans (spB_le _ _) ?_
    rw [List.length_take]
    omega
  have hml : k + 1 + m ≤ t.size := by
    have := spB_le plB (t.data.toList.drop (k + 1))
    rw [List.length_drop, len_list] at this
    omega
  have HTG : Hid (tagged t.data.toList k = if n < k ∨ k = 0 ∨ t.data.toList[k - 1]? = some 45 then (83, n) else if k + 1 + m < t.size ∨ m = 0 then (83, k + 1 + m) else (0, 0)) := by
    show _ = _
    unfold tagged
    rw [← hn, ← hm, len_list]
  have HBAD : Hid (∀ wx, Below w.heap.size w wx → Calls Tryz.prog 48 #[.int .i64 10, .string (t.extract 0 k)] wx fun e w' => e = .returned (.int .i64 (n : Nat)) ∧ w' = wx) := fun wx hb => by
    have := bad_anyT 10 (t.extract 0 k) wx (HT.out wx hb) (by rw [ByteArray.size_extract]; unfold maxLen; omega)
    rw [ext_take, badN_spB 10 lbB (fun b => (ld_is b).2.2.1), ← hn] at this
    exact this
  have HSPAN : Hid (∀ wx, Below w.heap.size w wx → Calls Tryz.prog 61 #[.int .i64 7, .string t, .int .i64 ((k : Int) + 1)] wx fun e w' => e = .returned (.int .i64 ((k + 1 + m : Nat) : Int)) ∧ w' = wx) := fun wx hb => by
    have := span_anyT 7 ((k + 1 : Nat) : Int) t wx (HT.out wx hb) (by unfold maxLen; omega)
    rw [spanI_nat, badN_spB 7 plB (fun b => (ld_is b).2.2.2.1), ← hm] at this
    exact this
  have H0 : Hid (WtS w n ((w.alloc (.cells #[.int .i64 0, .int .i64 0] 41)).alloc (.cells #[.int .i64 (n : Nat)] 3))) := ⟨(Lies.new w _ _).alloc _, new_one w _ _ _, ((Below.refl _ _).alloc (Nat.le_refl _) _).alloc (by simp) _⟩
  have hk' : (k : Int) ≤ (t.size : Int) := by omega
  have hext : min k t.size = k := by omega
  clear hn hm ht hg
  go_enter Tryz.func119, Tryz.ntmps119
  go_wp2_with fail
  refine (HBAD.out _ ((Below.refl _ _).alloc (Nat.le_refl _) _)).mono ?_
  rintro e w1 ⟨rfl, rfl⟩
  by_cases h1 : n < k
  · have h1' : (n : Int) < (k : Int) := by omega
    have HV : Hid (tagged t.data.toList k = (83, n)) := by show _ = _; rw [HTG.out, if_pos (Or.inl h1)]
    have hc := H0.out.pa.cell 0
    clear HTG h1 HBAD HSPAN
    go_wp2_with fail
    refine (wtw_any (w.heap.size + 1) n _ hc).mono ?_
    rintro e w5 ⟨rfl, hb5⟩
    have HS5 : Hid (WtS w n w5) := H0.out.later hb5
    clear hb5 H0
    go_wp2_with (refine wpList_store_row rfl 41 _ _ rfl w.heap.size rfl _ #[.int .i64 83, .int .i64 (n : Int)] rfl 41 HS5.out.r infoSp rfl (by simp [Value.oneCell']) rfl ?_)
    exact HS5.out.ret #[.int .i64 83, .int .i64 (n : Int)] _ _ rfl rfl ⟨by rw [HV.out]; rfl, below_row HS5.out.below (Nat.le_refl _) _⟩
  · obtain rfl : n = k := by omega
    have h1' : ¬ (n : Int) < (n : Int) := by omega
    by_cases h0 : n = 0
    · subst h0
      have HV : Hid (tagged t.data.toList 0 = (83, 0)) := by show _ = _; rw [HTG.out, if_pos (Or.inr (Or.inl rfl))]
      have hc := H0.out.pa.cell 0
      clear HTG HBAD HSPAN
      go_wp2_with fail
      refine (wtw_any (w.heap.size + 1) 0 _ hc).mono ?_
      rintro e w5 ⟨rfl, hb5⟩
      have HS5 : Hid (WtS w 0 w5) := H0.out.later hb5
      clear hb5 H0
      go_wp2_with (refine wpList_store_row rfl 41 _ _ rfl w.heap.size rfl _ #[.int .i64 83, .int .i64 0] rfl 41 HS5.out.r infoSp rfl (by simp [Value.oneCell']) rfl ?_)
      exact HS5.out.ret #[.int .i64 83, .int .i64 0] _ _ rfl rfl ⟨by rw [HV.out]; rfl, below_row HS5.out.below (Nat.le_refl _) _⟩
    · obtain ⟨j, rfl⟩ : ∃ j, n = j + 1 := ⟨n - 1, by omega⟩
      have hj : j < t.size := by omega
      have h0' : ((j : Int) + 1 == 0) = false := by rw [beq_eq_false_iff_ne]; omega
      have hlast : t.data.toList[j + 1 - 1]? = some t[j] := by rw [Nat.add_sub_cancel, list_at t j hj]
      have HTG2 : Hid (tagged t.data.toList (j + 1) = if t[j] = 45 then (83, j + 1) else if j + 1 + 1 + m < t.size ∨ m = 0 then (83, j + 1 + 1 + m) else (0, 0)) := by
        show _ = _
        rw [HTG.out, hlast]
        simp
      clear HTG hlast h0 h1
      by_cases h45 : t[j] = 45
      · have hn45 : ((t[j].toNat : Int) == 45) = true := by rw [h45]; rfl
        have HV : Hid (tagged t.data.toList (j + 1) = (83, j + 1)) := by show _ = _; rw [HTG2.out, if_pos h45]
        have hc := H0.out.pa.cell 0
        clear HTG2 HBAD HSPAN h45
        go_wp2_with fail
        refine (wtw_any (w.heap.size + 1) (j + 1) _ hc).mono ?_
        rintro e w5 ⟨rfl, hb5⟩
        have HS5 : Hid (WtS w (j + 1) w5) := H0.out.later hb5
        clear hb5 H0
        go_wp2_with (refine wpList_store_row rfl 41 _ _ rfl w.heap.size rfl _ #[.int .i64 83, .int .i64 ((j + 1 : Nat) : Int)] rfl 41 HS5.out.r infoSp rfl (by simp [Value.oneCell']) rfl ?_)
        exact HS5.out.ret #[.int .i64 83, .int .i64 ((j + 1 : Nat) : Int)] _ _ rfl rfl ⟨by rw [HV.out]; rfl, below_row HS5.out.below (Nat.le_refl _) _⟩
      · have hn45 : ((t[j].toNat : Int) == 45) = false := by
          rw [beq_eq_false_iff_ne]
          intro e
          exact h45 (UInt8.toNat_inj.1 (by rw [show (45 : UInt8).toNat = 45 from rfl]; omega))
        have HTG3 : Hid (tagged t.data.toList (j + 1) = if j + 1 + 1 + m < t.size ∨ m = 0 then (83, j + 1 + 1 + m) else (0, 0)) := by show _ = _; rw [HTG2.out, if_neg h45]
        clear HTG2 h45 HBAD
        go_wp2_with fail
        refine (HSPAN.out _ H0.out.below).mono ?_
        rintro e w2 ⟨rfl, rfl⟩
        clear HSPAN
        generalize (w.alloc (.cells #[.int .i64 0, .int .i64 0] 41)).alloc (.cells #[.int .i64 ((j + 1 : Nat) : Int)] 3) = W1 at H0 ⊢
        obtain ⟨q, hq⟩ : ∃ q, q = j + 1 + 1 + m := ⟨_, rfl⟩
        rw [← hq] at HTG3 hml ⊢
        have HS1 : Hid (WtS w q (W1.setCell ⟨w.heap.size + 1, 0, none⟩ (.int .i64 (q : Int)))) := H0.out.setA q
        have hc1 := H0.out.pa.cell 0
        have hf1 := H0.out.pa.frozen 0
        have hz1 := H0.out.pa.lt
        simp at hc1
        by_cases hend : q < t.size ∨ m = 0
        · have HV : Hid (tagged t.data.toList (j + 1) = (83, q)) := by show _ = _; rw [HTG3.out, if_pos hend]
          have hc2 := HS1.out.pa.cell 0
          by_cases hlt : q < t.size
          · have hlt' : (q : Int) < (t.size : Int) := by omega
            clear HTG3 hend H0 hq
            go_wp2_with fail
            refine (wtw_any (w.heap.size + 1) q _ hc2).mono ?_
            rintro e w5 ⟨rfl, hb5⟩
            have HS5 : Hid (WtS w q w5) := HS1.out.later hb5
            clear hb5 HS1
            go_wp2_with (refine wpList_store_row rfl 41 _ _ rfl w.heap.size rfl _ #[.int .i64 83, .int .i64 (q : Int)] rfl 41 HS5.out.r infoSp rfl (by simp [Value.oneCell']) rfl ?_)
            exact HS5.out.ret #[.int .i64 83, .int .i64 (q : Int)] _ _ rfl rfl ⟨by rw [HV.out]; rfl, below_row HS5.out.below (Nat.le_refl _) _⟩
          · have hlt' : ¬ (q : Int) < (t.size : Int) := by omega
            have heq : ((q : Int) == (j : Int) + 1 + 1) = true := by rw [beq_iff_eq]; omega
            clear HTG3 hend H0 hq
            go_wp2_with fail
            refine (wtw_any (w.heap.size + 1) q _ hc2).mono ?_
            rintro e w5 ⟨rfl, hb5⟩
            have HS5 : Hid (WtS w q w5) := HS1.out.later hb5
            clear hb5 HS1
            go_wp2_with (refine wpList_store_row rfl 41 _ _ rfl w.heap.size rfl _ #[.int .i64 83, .int .i64 (q : Int)] rfl 41 HS5.out.r infoSp rfl (by simp [Value.oneCell']) rfl ?_)
            exact HS5.out.ret #[.int .i64 83, .int .i64 (q : Int)] _ _ rfl rfl ⟨by rw [HV.out]; rfl, below_row HS5.out.below (Nat.le_refl _) _⟩
        · have HV : Hid (tagged t.data.toList (j + 1) = (0, 0)) := by show _ = _; rw [HTG3.out, if_neg hend]
          have hlt' : ¬ (q : Int) < (t.size : Int) := by omega
          have heq : ((q : Int) == (j : Int) + 1 + 1) = false := by rw [beq_eq_false_iff_ne]; omega
          clear HTG3 hend H0 hq
          go_wp2_with (refine wpList_store_row rfl 41 _ _ rfl w.heap.size rfl _ #[.int .i64 0, .int .i64 0] rfl 41 HS1.out.r infoSp rfl (by simp [Value.oneCell']) rfl ?_)
          exact HS1.out.ret #[.int .i64 0, .int .i64 0] _ _ rfl rfl ⟨by rw [HV.out]; rfl, below_row HS1.out.below (Nat.le_refl _) _⟩

theorem up_six_fin : ∀ b : Fin 256, (upB (UInt8.ofNat b.val) = 73 ↔ smB (UInt8.ofNat b.val) = 105) ∧ (upB (UInt8.ofNat b.val) = 80 ↔ smB (UInt8.ofNat b.val) = 112) ∧ (upB (UInt8.ofNat b.val) = 86 ↔ smB (UInt8.ofNat b.val) = 118) ∧ (upB (UInt8.ofNat b.val) = 54 ↔ smB (UInt8.ofNat b.val) = 54) ∧ (upB (UInt8.ofNat b.val) = 58 ↔ smB (UInt8.ofNat b.val) = 58) := by decide +kernel
theorem up_six (c : UInt8) : (upB c = 73 ↔ smB c = 105) ∧ (upB c = 80 ↔ smB c = 112) ∧ (upB c = 86 ↔ smB c = 118) ∧ (upB c = 54 ↔ smB c = 54) ∧ (upB c = 58 ↔ smB c = 58) := by
  have := up_six_fin ⟨c.toNat, c.toNat_lt⟩
  simpa using this
theorem same_sixB (t : ByteArray) (h : 5 ≤ t.size) : sameB (t.extract 0 5) ⟨#[73, 80, 118, 54, 58]⟩ = sixB t.data.toList := by
  have hl : 5 ≤ t.data.toList.length := by rw [len_list]; exact h
  unfold sameB sixB
  rw [decide_eq_true hl, Bool.true_and]
  have e1 : (upS (t.extract 0 5)).toList = upL (t.data.toList.take 5) := by
    show (upS (t.extract 0 5)).toList = _
    rw [ByteArray.toList_eq]
    unfold upS
    rw [ext_take]
  have e2 : (upS ⟨#[73, 80, 118, 54, 58]⟩).toList = [73, 80, 86, 54, 58] := by
    rw [ByteArray.toList_eq]
    rfl
  rw [e1, e2]
  match h5 : t.data.toList.take 5, (show (t.data.toList.take 5).length = 5 by rw [List.length_take]; omega) with
  | [a, b, c, d, e], _ =>
    rw [Bool.eq_iff_iff, beq_iff_eq, decide_eq_true_eq]
    simp only [upL, sml, List.map_cons, List.map_nil, List.cons.injEq, and_true]
    rw [(up_six a).1, (up_six b).2.1, (up_six c).2.2.1, (up_six d).2.2.2.1, (up_six e).2.2.2.2]
set_option maxHeartbeats 1000000 in
set_option maxRecDepth 100000 in
theorem six_any (t : ByteArray) (w : World) : Calls Tryz.prog 118 #[.string t] w fun e w' => e = .returned (.bool (sixB t.data.toList)) ∧ Below w.heap.size w w' := by
  by_cases h5 : 5 ≤ t.size
  · have h5' : (5 : Int) ≤ (t.size : Int) := by omega
    have HS : Hid (Calls Tryz.prog 17 #[.string (t.extract 0 5), .string ⟨#[73, 80, 118, 54, 58]⟩] w fun e w' => e = .returned (.bool (sixB t.data.toList)) ∧ Below w.heap.size w w') := by
      have := same_any (t.extract 0 5) ⟨#[73, 80, 118, 54, 58]⟩ w (by rw [ByteArray.size_extract]; unfold maxLen; omega) (by unfold maxLen; decide)
      rw [same_sixB t h5] at this
      exact this
    obtain ⟨r, hr⟩ : ∃ r, r = sixB t.data.toList := ⟨_, rfl⟩
    have HR : Hid (r = sixB t.data.toList) := hr
    rw [← hr] at HS
    clear hr
    go_enter Tryz.func118, Tryz.ntmps118
    go_wp2_with fail
    refine HS.out.mono ?_
    rintro e w1 ⟨rfl, hb1⟩
    have HB1 : Hid (Below w.heap.size w w1) := hb1
    clear hb1
    go_wp2_with fail
    go_ret
    exact ⟨by rw [← HR.out]; rfl, HB1.out⟩
  · have h5' : ¬ (5 : Int) ≤ (t.size : Int) := by omega
    have hr : sixB t.data.toList = false := by
      unfold sixB
      rw [decide_eq_false (by rw [len_list]; exact h5), Bool.false_and]
    rw [hr]
    go_enter Tryz.func118, Tryz.ntmps118
    go_wp2_with fail
    go_ret
    exact ⟨rfl, Below.refl _ _⟩
end Go.Proofs.YthkoionigdnhgabGreatDoor
