/-
  The contract of octet.Same.
-/
import Derived.Test.YtnlgbopdbihnjaaGreatDoorRowl
import Derived.Test.YtnlgbopdbihnjaaGreatDoorWe8
import Derived.Test.YtnlgbopdbihnjaaGreatDoorBase2
import Derived.Test.YtnlgbopdbihnjaaGreatDoorDmR
import Derived.Deep.DeepCutAuto
import Derived.Test.YtnlgbopdbihnjaaGreatDoorLate5
namespace Go.Proofs.YtnlgbopdbihnjaaGreatDoor
open Go.RowKit

/-- Two texts are the same but for capitals. -/
def sameB (a b : ByteArray) : Bool := (upS a).toList == (upS b).toList

set_option maxHeartbeats 400000 in
theorem same_any (a b : ByteArray) (w : World) (ha : a.size ≤ maxLen) (hb : b.size ≤ maxLen) :
    Calls Tryz.prog 45 #[.string a, .string b] w fun e w' => e = .returned (.bool (sameB a b)) ∧ Below w.heap.size w w' := by
  go_enter Tryz.func45, Tryz.ntmps45
  go_wp2_with fail
  refine (upper_any a _ ha).mono ?_
  rintro e w1 ⟨rfl, hb1⟩
  go_wp2_with fail
  refine (upper_any b _ hb).mono ?_
  rintro e w2 ⟨rfl, hb2⟩
  go_wp2
  go_ret
  exact ⟨rfl, hb1.trans (hb2.mono hb1.size)⟩
end Go.Proofs.YtnlgbopdbihnjaaGreatDoor
/-
  The contracts of domain.wrongTagged and beginsSixth.
-/
namespace Go.Proofs.YtnlgbopdbihnjaaGreatDoor
open Go.RowKit

theorem badN_spB (c : Int) (f : UInt8 → Bool) (h : ∀ b : UInt8, isB c (b.toNat : Int) = f b) : ∀ l : List UInt8, badN c l = spB f l
  | [] => rfl
  | b :: r => by
    rw [badN, spB, badN_spB c f h r, h b]
theorem ext_take (s : ByteArray) (k : Nat) : (s.extract 0 k).data.toList = s.data.toList.take k := by
  rw [ext_list]
  simp

set_option maxHeartbeats 1000000 in
set_option maxRecDepth 100000 in
theorem wtw_any (b : Nat) (p : Nat) (w : World) (hc : w.cell? ⟨b, 0, none⟩ = some (.int .i64 (p : Nat))) :
    Calls Tryz.prog 108 #[.pointer (some ⟨b, 0, none⟩)] w fun e w' => e = .returned (.agg #[.int .i64 83, .int .i64 (p : Nat)]) ∧ Below w.heap.size w w' := by
  have hb : b < w.heap.size := World.block_lt_of_cell? w _ hc
  have HL : Hid (Lies ((w.alloc (.cells #[.int .i64 0, .int .i64 0] 30)).setRow w.heap.size #[.int .i64 83, .int .i64 (p : Int)]) w.heap.size #[.int .i64 83, .int .i64 (p : Int)] 30) := (Lies.new w _ _).row _
  have HL0 : Hid (Lies (w.alloc (.cells #[.int .i64 0, .int .i64 0] 30)) w.heap.size #[.int .i64 0, .int .i64 0] 30) := Lies.new w _ _
  have HB : Hid (Below w.heap.size w ((w.alloc (.cells #[.int .i64 0, .int .i64 0] 30)).setRow w.heap.size #[.int .i64 83, .int .i64 (p : Int)])) := below_row ((Below.refl _ _).alloc (Nat.le_refl _) _) (Nat.le_refl _) _
  go_enter Tryz.func108, Tryz.ntmps108
  go_wp2_with (refine wpList_store_row rfl 30 _ _ rfl w.heap.size rfl _ #[.int .i64 83, .int .i64 (p : Int)] rfl 30 HL0.out infoSp rfl (by simp [Value.oneCell']) rfl ?_)
  exact bodyPost_ret (results_row (p := 1) (by kernel_rfl) _ _ w.heap.size 30 _ (0, 0) _ rfl HL.out Tryz.underlying30 rfl infoSp) rfl ⟨rfl, HB.out⟩
/-- The blocks of wrongTagged: the result, the place. -/
structure WtS (w : World) (a : Nat) (wr : World) : Prop where
  r : Lies wr w.heap.size #[.int .i64 0, .int .i64 0] 30
  pa : Lies wr (w.heap.size + 1) #[.int .i64 (a : Nat)] 3
  below : Below w.heap.size w wr
theorem WtS.later {w wr wx : World} {a : Nat} (h : WtS w a wr) (hb : Below wr.heap.size wr wx) : WtS w a wx :=
  ⟨h.r.below hb h.r.lt, h.pa.below hb h.pa.lt, h.below.trans (hb.mono (Nat.le_of_lt h.r.lt))⟩
theorem WtS.setA {w wr : World} {a : Nat} (h : WtS w a wr) (m : Nat) : WtS w m (wr.setCell ⟨w.heap.size + 1, 0, none⟩ (.int .i64 (m : Nat))) :=
  ⟨h.r.set_other (a := ⟨w.heap.size + 1, 0, none⟩) (by show w.heap.size ≠ w.heap.size + 1; omega) _, h.pa.set 0 _, h.below.setCell (p := ⟨w.heap.size + 1, 0, none⟩) (by show w.heap.size ≤ w.heap.size + 1; omega) _⟩
theorem WtS.ret {w wr : World} {a : Nat} (h : WtS w a wr) (ds : Array Value) (R : Ending → World → Prop) (tmps : Array Value) (hq : tmps.getD 4 undef = .pointer (some ⟨w.heap.size, 0, none⟩)) (hd : ds.size = 2)
    (hR : R (.returned (.agg ds)) (wr.setRow w.heap.size ds)) : bodyPost Tryz.prog Tryz.f76 R .ret { tmps := tmps, defers := [] } (wr.setRow w.heap.size ds) :=
  bodyPost_ret (results_row (p := 4) (by kernel_rfl) tmps _ w.heap.size 30 ds (0, 0) _ hq (h.r.row ds) Tryz.underlying30 rfl (by rw [hd]; exact infoSp)) rfl hR

set_option maxHeartbeats 4000000 in
set_option maxRecDepth 100000 in
theorem wt_any (t : ByteArray) (k : Nat) (w : World) (ht : Table w) (hg : 0 < w.heap.size) (hk : k < t.size) (hs : t.size ≤ 255) :
    Calls Tryz.prog 76 #[.string t, .int .i64 (k : Nat)] w fun e w' => e = .returned (.agg (spotV (tagged t.data.toList k))) ∧ Below w.heap.size w w' := by
  have HT : Hid (∀ wx, Below w.heap.size w wx → Table wx) := fun wx hb => ht.below hg hb
  obtain ⟨n, hn⟩ : ∃ n, n = spB lbB (t.data.toList.take k) := ⟨_, rfl⟩
  obtain ⟨m, hm⟩ : ∃ m, m = spB plB (t.data.toList.drop (k + 1)) := ⟨_, rfl⟩
  have hnk : n ≤ k := by
    rw [hn]
    refine Nat.le_trans (spB_le _ _) ?_
    rw [List.length_take]
    omega
  have hml : k + 1 + m ≤ t.size := by
    have := spB_le plB (t.data.toList.drop (k + 1))
    rw [List.length_drop, len_list] at this
    omega
  have HTG : Hid (tagged t.data.toList k = if n < k ∨ k = 0 ∨ t.data.toList[k - 1]? = some 45 then (83, n) else if k + 1 + m < t.size ∨ m = 0 then (83, k + 1 + m) else (0, 0)) := by
    show _ = _
    unfold tagged
    rw [← hn, ← hm, len_list]
  have HBAD : Hid (∀ wx, Below w.heap.size w wx → Calls Tryz.prog 84 #[.int .i64 10, .string (t.extract 0 k)] wx fun e w' => e = .returned (.int .i64 (n : Nat)) ∧ w' = wx) := fun wx hb => by
    have := bad_anyT 10 (t.extract 0 k) wx (HT.out wx hb) (by rw [ByteArray.size_extract]; unfold maxLen; omega)
    rw [ext_take, badN_spB 10 lbB (fun b => (ld_is b).2.2.1), ← hn] at this
    exact this
  have HSPAN : Hid (∀ wx, Below w.heap.size w wx → Calls Tryz.prog 109 #[.int .i64 7, .string t, .int .i64 ((k : Int) + 1)] wx fun e w' => e = .returned (.int .i64 ((k + 1 + m : Nat) : Int)) ∧ w' = wx) := fun wx hb => by
    have := span_anyT 7 ((k + 1 : Nat) : Int) t wx (HT.out wx hb) (by unfold maxLen; omega)
    rw [spanI_nat, badN_spB 7 plB (fun b => (ld_is b).2.2.2.1), ← hm] at this
    exact this
  have H0 : Hid (WtS w n ((w.alloc (.cells #[.int .i64 0, .int .i64 0] 30)).alloc (.cells #[.int .i64 (n : Nat)] 3))) := ⟨(Lies.new w _ _).alloc _, new_one w _ _ _, ((Below.refl _ _).alloc (Nat.le_refl _) _).alloc (by simp) _⟩
  have hk' : (k : Int) ≤ (t.size : Int) := by omega
  have hext : min k t.size = k := by omega
  clear hn hm ht hg
  go_enter Tryz.func76, Tryz.ntmps76
  go_wp2_with fail
  refine (HBAD.out _ ((Below.refl _ _).alloc (Nat.le_refl _) _)).mono ?_
  rintro e w1 ⟨rfl, rfl⟩
  by_cases h1 : n < k
  · have h1' : (n : Int) < (k : Int) := by omega
    have HV : Hid (tagged t.data.toList k = (83, n)) := by show _ = _; rw [HTG.out, if_pos (Or.inl h1)]
    have hc := H0.out.pa.cell 0
    clear HTG h1 HBAD HSPAN
    go_wp2_with fail
    refine (wtw_any (w.heap.size + 1) n _ hc).mono ?_
    rintro e w5 ⟨rfl, hb5⟩
    have HS5 : Hid (WtS w n w5) := H0.out.later hb5
    clear hb5 H0
    go_wp2_with (refine wpList_store_row rfl 30 _ _ rfl w.heap.size rfl _ #[.int .i64 83, .int .i64 (n : Int)] rfl 30 HS5.out.r infoSp rfl (by simp [Value.oneCell']) rfl ?_)
    exact HS5.out.ret #[.int .i64 83, .int .i64 (n : Int)] _ _ rfl rfl ⟨by rw [HV.out]; rfl, below_row HS5.out.below (Nat.le_refl _) _⟩
  · obtain rfl : n = k := by omega
    have h1' : ¬ (n : Int) < (n : Int) := by omega
    by_cases h0 : n = 0
    · subst h0
      have HV : Hid (tagged t.data.toList 0 = (83, 0)) := by show _ = _; rw [HTG.out, if_pos (Or.inr (Or.inl rfl))]
      have hc := H0.out.pa.cell 0
      clear HTG HBAD HSPAN
      go_wp2_with fail
      refine (wtw_any (w.heap.size + 1) 0 _ hc).mono ?_
      rintro e w5 ⟨rfl, hb5⟩
      have HS5 : Hid (WtS w 0 w5) := H0.out.later hb5
      clear hb5 H0
      go_wp2_with (refine wpList_store_row rfl 30 _ _ rfl w.heap.size rfl _ #[.int .i64 83, .int .i64 0] rfl 30 HS5.out.r infoSp rfl (by simp [Value.oneCell']) rfl ?_)
      exact HS5.out.ret #[.int .i64 83, .int .i64 0] _ _ rfl rfl ⟨by rw [HV.out]; rfl, below_row HS5.out.below (Nat.le_refl _) _⟩
    · obtain ⟨j, rfl⟩ : ∃ j, n = j + 1 := ⟨n - 1, by omega⟩
      have hj : j < t.size := by omega
      have h0' : ((j : Int) + 1 == 0) = false := by rw [beq_eq_false_iff_ne]; omega
      have hlast : t.data.toList[j + 1 - 1]? = some t[j] := by rw [Nat.add_sub_cancel, list_at t j hj]
      have HTG2 : Hid (tagged t.data.toList (j + 1) = if t[j] = 45 then (83, j + 1) else if j + 1 + 1 + m < t.size ∨ m = 0 then (83, j + 1 + 1 + m) else (0, 0)) := by
        show _ = _
        rw [HTG.out, hlast]
        simp
      clear HTG hlast h0 h1
      by_cases h45 : t[j] = 45
      · have hn45 : ((t[j].toNat : Int) == 45) = true := by rw [h45]; rfl
        have HV : Hid (tagged t.data.toList (j + 1) = (83, j + 1)) := by show _ = _; rw [HTG2.out, if_pos h45]
        have hc := H0.out.pa.cell 0
        clear HTG2 HBAD HSPAN h45
        go_wp2_with fail
        refine (wtw_any (w.heap.size + 1) (j + 1) _ hc).mono ?_
        rintro e w5 ⟨rfl, hb5⟩
        have HS5 : Hid (WtS w (j + 1) w5) := H0.out.later hb5
        clear hb5 H0
        go_wp2_with (refine wpList_store_row rfl 30 _ _ rfl w.heap.size rfl _ #[.int .i64 83, .int .i64 ((j + 1 : Nat) : Int)] rfl 30 HS5.out.r infoSp rfl (by simp [Value.oneCell']) rfl ?_)
        exact HS5.out.ret #[.int .i64 83, .int .i64 ((j + 1 : Nat) : Int)] _ _ rfl rfl ⟨by rw [HV.out]; rfl, below_row HS5.out.below (Nat.le_refl _) _⟩
      · have hn45 : ((t[j].toNat : Int) == 45) = false := by
          rw [beq_eq_false_iff_ne]
          intro e
          exact h45 (UInt8.toNat_inj.1 (by rw [show (45 : UInt8).toNat = 45 from rfl]; omega))
        have HTG3 : Hid (tagged t.data.toList (j + 1) = if j + 1 + 1 + m < t.size ∨ m = 0 then (83, j + 1 + 1 + m) else (0, 0)) := by show _ = _; rw [HTG2.out, if_neg h45]
        clear HTG2 h45 HBAD
        go_wp2_with fail
        refine (HSPAN.out _ H0.out.below).mono ?_
        rintro e w2 ⟨rfl, rfl⟩
        clear HSPAN
        generalize (w.alloc (.cells #[.int .i64 0, .int .i64 0] 30)).alloc (.cells #[.int .i64 ((j + 1 : Nat) : Int)] 3) = W1 at H0 ⊢
        obtain ⟨q, hq⟩ : ∃ q, q = j + 1 + 1 + m := ⟨_, rfl⟩
        rw [← hq] at HTG3 hml ⊢
        have HS1 : Hid (WtS w q (W1.setCell ⟨w.heap.size + 1, 0, none⟩ (.int .i64 (q : Int)))) := H0.out.setA q
        have hc1 := H0.out.pa.cell 0
        have hf1 := H0.out.pa.frozen 0
        have hz1 := H0.out.pa.lt
        simp at hc1
        by_cases hend : q < t.size ∨ m = 0
        · have HV : Hid (tagged t.data.toList (j + 1) = (83, q)) := by show _ = _; rw [HTG3.out, if_pos hend]
          have hc2 := HS1.out.pa.cell 0
          by_cases hlt : q < t.size
          · have hlt' : (q : Int) < (t.size : Int) := by omega
            clear HTG3 hend H0 hq
            go_wp2_with fail
            refine (wtw_any (w.heap.size + 1) q _ hc2).mono ?_
            rintro e w5 ⟨rfl, hb5⟩
            have HS5 : Hid (WtS w q w5) := HS1.out.later hb5
            clear hb5 HS1
            go_wp2_with (refine wpList_store_row rfl 30 _ _ rfl w.heap.size rfl _ #[.int .i64 83, .int .i64 (q : Int)] rfl 30 HS5.out.r infoSp rfl (by simp [Value.oneCell']) rfl ?_)
            exact HS5.out.ret #[.int .i64 83, .int .i64 (q : Int)] _ _ rfl rfl ⟨by rw [HV.out]; rfl, below_row HS5.out.below (Nat.le_refl _) _⟩
          · have hlt' : ¬ (q : Int) < (t.size : Int) := by omega
            have heq : ((q : Int) == (j : Int) + 1 + 1) = true := by rw [beq_iff_eq]; omega
            clear HTG3 hend H0 hq
            go_wp2_with fail
            refine (wtw_any (w.heap.size + 1) q _ hc2).mono ?_
            rintro e w5 ⟨rfl, hb5⟩
            have HS5 : Hid (WtS w q w5) := HS1.out.later hb5
            clear hb5 HS1
            go_wp2_with (refine wpList_store_row rfl 30 _ _ rfl w.heap.size rfl _ #[.int .i64 83, .int .i64 (q : Int)] rfl 30 HS5.out.r infoSp rfl (by simp [Value.oneCell']) rfl ?_)
            exact HS5.out.ret #[.int .i64 83, .int .i64 (q : Int)] _ _ rfl rfl ⟨by rw [HV.out]; rfl, below_row HS5.out.below (Nat.le_refl _) _⟩
        · have HV : Hid (tagged t.data.toList (j + 1) = (0, 0)) := by show _ = _; rw [HTG3.out, if_neg hend]
          have hlt' : ¬ (q : Int) < (t.size : Int) := by omega
          have heq : ((q : Int) == (j : Int) + 1 + 1) = false := by rw [beq_eq_false_iff_ne]; omega
          clear HTG3 hend H0 hq
          go_wp2_with (refine wpList_store_row rfl 30 _ _ rfl w.heap.size rfl _ #[.int .i64 0, .int .i64 0] rfl 30 HS1.out.r infoSp rfl (by simp [Value.oneCell']) rfl ?_)
          exact HS1.out.ret #[.int .i64 0, .int .i64 0] _ _ rfl rfl ⟨by rw [HV.out]; rfl, below_row HS1.out.below (Nat.le_refl _) _⟩

theorem up_six_fin : ∀ b : Fin 256, (upB (UInt8.ofNat b.val) = 73 ↔ smB (UInt8.ofNat b.val) = 105) ∧ (upB (UInt8.ofNat b.val) = 80 ↔ smB (UInt8.ofNat b.val) = 112) ∧ (upB (UInt8.ofNat b.val) = 86 ↔ smB (UInt8.ofNat b.val) = 118) ∧ (upB (UInt8.ofNat b.val) = 54 ↔ smB (UInt8.ofNat b.val) = 54) ∧ (upB (UInt8.ofNat b.val) = 58 ↔ smB (UInt8.ofNat b.val) = 58) := by decide +kernel
theorem up_six (c : UInt8) : (upB c = 73 ↔ smB c = 105) ∧ (upB c = 80 ↔ smB c = 112) ∧ (upB c = 86 ↔ smB c = 118) ∧ (upB c = 54 ↔ smB c = 54) ∧ (upB c = 58 ↔ smB c = 58) := by
  have := up_six_fin ⟨c.toNat, c.toNat_lt⟩
  simpa using this
theorem same_sixB (t : ByteArray) (h : 5 ≤ t.size) : sameB (t.extract 0 5) ⟨#[73, 80, 118, 54, 58]⟩ = sixB t.data.toList := by
  have hl : 5 ≤ t.data.toList.length := by rw [len_list]; exact h
  unfold sameB sixB
  rw [decide_eq_true hl, Bool.true_and]
  have e1 : (upS (t.extract 0 5)).toList = upL (t.data.toList.take 5) := by
    show (upS (t.extract 0 5)).toList = _
    rw [ByteArray.toList_eq]
    unfold upS
    rw [ext_take]
  have e2 : (upS ⟨#[73, 80, 118, 54, 58]⟩).toList = [73, 80, 86, 54, 58] := by
    rw [ByteArray.toList_eq]
    rfl
  rw [e1, e2]
  match h5 : t.data.toList.take 5, (show (t.data.toList.take 5).length = 5 by rw [List.length_take]; omega) with
  | [a, b, c, d, e], _ =>
    rw [Bool.eq_iff_iff, beq_iff_eq, decide_eq_true_eq]
    simp only [upL, sml, List.map_cons, List.map_nil, List.cons.injEq, and_true]
    rw [(up_six a).1, (up_six b).2.1, (up_six c).2.2.1, (up_six d).2.2.2.1, (up_six e).2.2.2.2]
set_option maxHeartbeats 1000000 in
set_option maxRecDepth 100000 in
theorem six_any (t : ByteArray) (w : World) : Calls Tryz.prog 75 #[.string t] w fun e w' => e = .returned (.bool (sixB t.data.toList)) ∧ Below w.heap.size w w' := by
  by_cases h5 : 5 ≤ t.size
  · have h5' : (5 : Int) ≤ (t.size : Int) := by omega
    have HS : Hid (Calls Tryz.prog 45 #[.string (t.extract 0 5), .string ⟨#[73, 80, 118, 54, 58]⟩] w fun e w' => e = .returned (.bool (sixB t.data.toList)) ∧ Below w.heap.size w w') := by
      have := same_any (t.extract 0 5) ⟨#[73, 80, 118, 54, 58]⟩ w (by rw [ByteArray.size_extract]; unfold maxLen; omega) (by unfold maxLen; decide)
      rw [same_sixB t h5] at this
      exact this
    obtain ⟨r, hr⟩ : ∃ r, r = sixB t.data.toList := ⟨_, rfl⟩
    have HR : Hid (r = sixB t.data.toList) := hr
    rw [← hr] at HS
    clear hr
    go_enter Tryz.func75, Tryz.ntmps75
    go_wp2_with fail
    refine HS.out.mono ?_
    rintro e w1 ⟨rfl, hb1⟩
    have HB1 : Hid (Below w.heap.size w w1) := hb1
    clear hb1
    go_wp2_with fail
    go_ret
    exact ⟨by rw [← HR.out]; rfl, HB1.out⟩
  · have h5' : ¬ (5 : Int) ≤ (t.size : Int) := by omega
    have hr : sixB t.data.toList = false := by
      unfold sixB
      rw [decide_eq_false (by rw [len_list]; exact h5), Bool.false_and]
    rw [hr]
    go_enter Tryz.func75, Tryz.ntmps75
    go_wp2_with fail
    go_ret
    exact ⟨rfl, Below.refl _ _⟩
end Go.Proofs.YtnlgbopdbihnjaaGreatDoor
/-
  The contracts of domain.fourthHost and of literal's told.
-/
namespace Go.Proofs.YtnlgbopdbihnjaaGreatDoor
open Go.RowKit

theorem infoHo : (Tryz.prog.info? 28).map (·.size) = some 18 := by kernel_rfl
/-- A host's cells. -/
def hostC (h : Ho) : Array Value := (Value.int .i64 h.k :: Value.string ⟨h.n.toArray⟩ :: h.a.map fun n => Value.int .u8 (n : Nat)).toArray
def hostV (h : Ho) : Value := .agg (hostC h)
theorem hostC_size (h : Ho) (ha : h.a.length = 16) : (hostC h).size = 18 := by simp [hostC, ha]
theorem hostC_one (h : Ho) : (hostC h).all (·.oneCell') = true := by
  rw [Array.all_eq_true_iff_forall_mem]
  intro v hv
  unfold hostC at hv
  rw [List.mem_toArray] at hv
  rcases List.mem_cons.1 hv with rfl | hv
  · rfl
  · rcases List.mem_cons.1 hv with rfl | hv
    · rfl
    · obtain ⟨n, _, rfl⟩ := List.mem_map.1 hv
      rfl
theorem hostC_ho0 : hostC ho0 = #[.int .i64 0, .string ⟨#[]⟩, .int .u8 0, .int .u8 0, .int .u8 0, .int .u8 0, .int .u8 0, .int .u8 0, .int .u8 0, .int .u8 0, .int .u8 0, .int .u8 0, .int .u8 0, .int .u8 0, .int .u8 0, .int .u8 0, .int .u8 0, .int .u8 0] := rfl
set_option maxHeartbeats 4000000 in
set_option maxRecDepth 100000 in
theorem fh_any (x y z u : Nat) (w : World) : Calls Tryz.prog 61 #[.agg (bytesV [x, y, z, u])] w fun e w' => e = .returned (hostV (fourH [x, y, z, u])) ∧ Below w.heap.size w w' := by
  have hu5 : (Tryz.prog.info? 5).map (·.size) = some 1 := by kernel_rfl
  have hL0 : Hid (Lies (((w.alloc (.cells (bytesV [x, y, z, u]) 46)).alloc (.cells #[.int .i64 0, .string ⟨#[]⟩, .int .u8 0, .int .u8 0, .int .u8 0, .int .u8 0, .int .u8 0, .int .u8 0, .int .u8 0, .int .u8 0, .int .u8 0, .int .u8 0, .int .u8 0, .int .u8 0, .int .u8 0, .int .u8 0, .int .u8 0, .int .u8 0] 28)).alloc (.cells #[.int .i64 2, .string ⟨#[]⟩, .int .u8 0, .int .u8 0, .int .u8 0, .int .u8 0, .int .u8 0, .int .u8 0, .int .u8 0, .int .u8 0, .int .u8 0, .int .u8 0, .int .u8 0, .int .u8 0, .int .u8 0, .int .u8 0, .int .u8 0, .int .u8 0] 28)) w.heap.size (bytesV [x, y, z, u]) 46) := ((Lies.new w _ _).alloc _).alloc _
  have hL1 : Hid (Lies (((w.alloc (.cells (bytesV [x, y, z, u]) 46)).alloc (.cells #[.int .i64 0, .string ⟨#[]⟩, .int .u8 0, .int .u8 0, .int .u8 0, .int .u8 0, .int .u8 0, .int .u8 0, .int .u8 0, .int .u8 0, .int .u8 0, .int .u8 0, .int .u8 0, .int .u8 0, .int .u8 0, .int .u8 0, .int .u8 0, .int .u8 0] 28)).alloc (.cells #[.int .i64 2, .string ⟨#[]⟩, .int .u8 0, .int .u8 0, .int .u8 0, .int .u8 0, .int .u8 0, .int .u8 0, .int .u8 0, .int .u8 0, .int .u8 0, .int .u8 0, .int .u8 0, .int .u8 0, .int .u8 0, .int .u8 0, .int .u8 0, .int .u8 0] 28)) (w.heap.size + 1) #[.int .i64 0, .string ⟨#[]⟩, .int .u8 0, .int .u8 0, .int .u8 0, .int .u8 0, .int .u8 0, .int .u8 0, .int .u8 0, .int .u8 0, .int .u8 0, .int .u8 0, .int .u8 0, .int .u8 0, .int .u8 0, .int .u8 0, .int .u8 0, .int .u8 0] 28) := (new_one w _ _ _).alloc _
  have hL2 : Hid (Lies (((w.alloc (.cells (bytesV [x, y, z, u]) 46)).alloc (.cells #[.int .i64 0, .string ⟨#[]⟩, .int .u8 0, .int .u8 0, .int .u8 0, .int .u8 0, .int .u8 0, .int .u8 0, .int .u8 0, .int .u8 0, .int .u8 0, .int .u8 0, .int .u8 0, .int .u8 0, .int .u8 0, .int .u8 0, .int .u8 0, .int .u8 0] 28)).alloc (.cells #[.int .i64 2, .string ⟨#[]⟩, .int .u8 0, .int .u8 0, .int .u8 0, .int .u8 0, .int .u8 0, .int .u8 0, .int .u8 0, .int .u8 0, .int .u8 0, .int .u8 0, .int .u8 0, .int .u8 0, .int .u8 0, .int .u8 0, .int .u8 0, .int .u8 0] 28)) (w.heap.size + 1 + 1) #[.int .i64 2, .string ⟨#[]⟩, .int .u8 0, .int .u8 0, .int .u8 0, .int .u8 0, .int .u8 0, .int .u8 0, .int .u8 0, .int .u8 0, .int .u8 0, .int .u8 0, .int .u8 0, .int .u8 0, .int .u8 0, .int .u8 0, .int .u8 0, .int .u8 0] 28) := new_two w _ _ _ _
  have hB : Hid (Below w.heap.size w (((w.alloc (.cells (bytesV [x, y, z, u]) 46)).alloc (.cells #[.int .i64 0, .string ⟨#[]⟩, .int .u8 0, .int .u8 0, .int .u8 0, .int .u8 0, .int .u8 0, .int .u8 0, .int .u8 0, .int .u8 0, .int .u8 0, .int .u8 0, .int .u8 0, .int .u8 0, .int .u8 0, .int .u8 0, .int .u8 0, .int .u8 0] 28)).alloc (.cells #[.int .i64 2, .string ⟨#[]⟩, .int .u8 0, .int .u8 0, .int .u8 0, .int .u8 0, .int .u8 0, .int .u8 0, .int .u8 0, .int .u8 0, .int .u8 0, .int .u8 0, .int .u8 0, .int .u8 0, .int .u8 0, .int .u8 0, .int .u8 0, .int .u8 0] 28))) := (((Below.refl _ _).alloc (Nat.le_refl _) _).alloc (by simp) _).alloc (by simp; omega) _
  go_enter Tryz.func61, Tryz.ntmps61
  go_wp2_with fail
  generalize ((w.alloc (.cells (bytesV [x, y, z, u]) 46)).alloc (.cells #[.int .i64 0, .string ⟨#[]⟩, .int .u8 0, .int .u8 0, .int .u8 0, .int .u8 0, .int .u8 0, .int .u8 0, .int .u8 0, .int .u8 0, .int .u8 0, .int .u8 0, .int .u8 0, .int .u8 0, .int .u8 0, .int .u8 0, .int .u8 0, .int .u8 0] 28)).alloc (.cells #[.int .i64 2, .string ⟨#[]⟩, .int .u8 0, .int .u8 0, .int .u8 0, .int .u8 0, .int .u8 0, .int .u8 0, .int .u8 0, .int .u8 0, .int .u8 0, .int .u8 0, .int .u8 0, .int .u8 0, .int .u8 0, .int .u8 0, .int .u8 0, .int .u8 0] 28) = wA at hL0 hL1 hL2 hB ⊢
  obtain ⟨cs, hcs⟩ : ∃ cs : List Value, cs = [.int .u8 (x : Nat), .int .u8 (y : Nat), .int .u8 (z : Nat), .int .u8 (u : Nat)] := ⟨_, rfl⟩
  have hL2d : Lies wA.drew (w.heap.size + 1 + 1) #[.int .i64 2, .string ⟨#[]⟩, .int .u8 0, .int .u8 0, .int .u8 0, .int .u8 0, .int .u8 0, .int .u8 0, .int .u8 0, .int .u8 0, .int .u8 0, .int .u8 0, .int .u8 0, .int .u8 0, .int .u8 0, .int .u8 0, .int .u8 0, .int .u8 0] 28 := hL2.out
  have hL0d : Lies wA.drew w.heap.size (bytesV [x, y, z, u]) 46 := hL0.out
  have hL1d : Lies wA.drew (w.heap.size + 1) #[.int .i64 0, .string ⟨#[]⟩, .int .u8 0, .int .u8 0, .int .u8 0, .int .u8 0, .int .u8 0, .int .u8 0, .int .u8 0, .int .u8 0, .int .u8 0, .int .u8 0, .int .u8 0, .int .u8 0, .int .u8 0, .int .u8 0, .int .u8 0, .int .u8 0] 28 := hL1.out
  have hcp := run_copy_row (P := Tryz.prog) wA.drew 88 88 3 5 (w.heap.size + 1 + 1) 2 16 16 ⟨w.heap.size, 0, none⟩ 4 4 #[.int .i64 2, .string ⟨#[]⟩, .int .u8 0, .int .u8 0, .int .u8 0, .int .u8 0, .int .u8 0, .int .u8 0, .int .u8 0, .int .u8 0, .int .u8 0, .int .u8 0, .int .u8 0, .int .u8 0, .int .u8 0, .int .u8 0, .int .u8 0, .int .u8 0] 28 cs Tryz.underlying88 hu5 hL2d (by rw [hcs]; rfl) (fun j v hv => by
    rw [Addr.add_lit, Nat.zero_add, hL0d.cell]
    rw [hcs] at hv
    unfold bytesV
    rw [List.getElem?_toArray]
    exact hv) (by rw [hcs]; simp) (fun v hv => by
    rw [hcs] at hv
    simp at hv
    rcases hv with rfl | rfl | rfl | rfl <;> rfl)
  have hrow : (((#[.int .i64 2, .string ⟨#[]⟩, .int .u8 0, .int .u8 0, .int .u8 0, .int .u8 0, .int .u8 0, .int .u8 0, .int .u8 0, .int .u8 0, .int .u8 0, .int .u8 0, .int .u8 0, .int .u8 0, .int .u8 0, .int .u8 0, .int .u8 0, .int .u8 0] : Array Value).toList.take 2 ++ cs ++ (#[.int .i64 2, .string ⟨#[]⟩, .int .u8 0, .int .u8 0, .int .u8 0, .int .u8 0, .int .u8 0, .int .u8 0, .int .u8 0, .int .u8 0, .int .u8 0, .int .u8 0, .int .u8 0, .int .u8 0, .int .u8 0, .int .u8 0, .int .u8 0, .int .u8 0] : Array Value).toList.drop (2 + cs.length)).toArray) = hostC (fourH [x, y, z, u]) := by rw [hcs]; rfl
  have hcl : cs.length = 4 := by rw [hcs]; rfl
  rw [hrow, hcl] at hcp
  have HL3 : Hid (Lies (wA.drew.setRow (w.heap.size + 1 + 1) (hostC (fourH [x, y, z, u]))) (w.heap.size + 1 + 1) (hostC (fourH [x, y, z, u])) 28) := hL2d.row _
  have HL4 : Hid (Lies (wA.drew.setRow (w.heap.size + 1 + 1) (hostC (fourH [x, y, z, u]))) (w.heap.size + 1) #[.int .i64 0, .string ⟨#[]⟩, .int .u8 0, .int .u8 0, .int .u8 0, .int .u8 0, .int .u8 0, .int .u8 0, .int .u8 0, .int .u8 0, .int .u8 0, .int .u8 0, .int .u8 0, .int .u8 0, .int .u8 0, .int .u8 0, .int .u8 0, .int .u8 0] 28) := hL1d.row_other (show w.heap.size + 1 ≠ w.heap.size + 1 + 1 by omega) _
  have HB2 : Hid (Below w.heap.size w (wA.drew.setRow (w.heap.size + 1 + 1) (hostC (fourH [x, y, z, u])))) := below_row hB.out.drew (show w.heap.size ≤ w.heap.size + 1 + 1 by omega) _
  have hsz := hostC_size (fourH [x, y, z, u]) rfl
  have hon := hostC_one (fourH [x, y, z, u])
  have HFH : Hid (hostV (fourH [x, y, z, u]) = .agg (hostC (fourH [x, y, z, u]))) := rfl
  have hz : w.heap.size + 1 + 1 < wA.heap.size := hL2.out.lt
  generalize hostC (fourH [x, y, z, u]) = HC at hcp HL3 HL4 HB2 hsz hon HFH
  clear hrow hcl hcs hL0 hL1 hL2 hB hu5 hL0d hL1d hL2d
  go_region
  generalize wA.drew.setRow (w.heap.size + 1 + 1) HC = wB at HL3 HL4 HB2 ⊢
  have hz2 := HL3.out.lt
  clear hcp
  go_wp2_with (first | (refine wpList_load_row rfl 28 _ rfl (w.heap.size + 1 + 1) rfl HC 28 _ HL3.out Tryz.underlying28 rfl (by rw [hsz]; exact infoHo) ?_) | (refine wpList_store_row rfl 28 _ _ rfl (w.heap.size + 1) rfl _ HC rfl 28 HL4.out (by rw [hsz]; exact infoHo) (by rw [hsz]; rfl) hon rfl ?_))
  exact bodyPost_ret (results_row (p := 2) (by kernel_rfl) _ _ (w.heap.size + 1) 28 _ (0, 0) _ rfl (HL4.out.row _) Tryz.underlying28 rfl (by rw [hsz]; exact infoHo)) rfl ⟨by rw [HFH.out], below_row HB2.out (by omega) _⟩
end Go.Proofs.YtnlgbopdbihnjaaGreatDoor
/-
  The contract of literal's told.
-/
namespace Go.Proofs.YtnlgbopdbihnjaaGreatDoor
open Go.RowKit

/-- A host's two blocks as results: told of a host and a spot. -/
theorem ret_host {P : Program} {fn : Func} {p q : Tmp} (h : fn.results = #[.cell p 28, .cell q 30]) (hu1 : P.underlying 28 = Tryz.prog.underlying 28) (hu2 : P.underlying 30 = Tryz.prog.underlying 30) (hi1 : P.info? 28 = Tryz.prog.info? 28) (hi2 : P.info? 30 = Tryz.prog.info? 30) (tmps : Array Value) (w : World) (g1 g2 : Nat) (x : Ho) (hx : x.a.length = 16) (e : Nat × Nat)
    (hp : tmps.getD p undef = .pointer (some ⟨g1, 0, none⟩)) (hq : tmps.getD q undef = .pointer (some ⟨g2, 0, none⟩)) (hg1 : Lies w g1 (hostC x) 28) (hg2 : Lies w g2 (spotV e) 30) :
    (results fn tmps).run P w = .ok (.tuple #[hostV x, .agg (spotV e)]) w :=
  results_two h tmps w g1 g2 28 30 (hostC x) (spotV e) (0, 0) (0, 0) _ _ hp hq hg1 hg2 (hu1.trans Tryz.underlying28) rfl (by rw [hi1, hostC_size x hx]; exact infoHo) (hu2.trans Tryz.underlying30) rfl (by rw [hi2]; exact infoSp)
theorem told_len {p : Nat} {h : Ho} {e : Nat × Nat} (ha : h.a.length = 16) : (told p h e).1.a.length = 16 := by
  unfold told
  split
  · exact ha
  · rfl
/-- A row stored and a row loaded, as single operations of a drawn region. -/
theorem oper_store_row {P : Program} {op : Oper} {a : Act} {w : World} {K : Act → World → Prop} {Q : Exit → Act → World → Prop} (ty : TypeId) (x y : Operand) (ho : op.op = .store ty x y)
    (g : Nat) (hx : a.eval x = .pointer (some ⟨g, 0, none⟩)) (old cs : Array Value) (hy : a.eval y = .agg cs) (t : TypeId) (hc : Lies w g old t)
    (hi : (P.info? ty).map (·.size) = some cs.size) (hs : old.size = cs.size) (h1 : cs.all (·.oneCell') = true) (hdst : op.dst = none) (h : K a (w.setRow g cs)) : op.wp P a w K Q := by
  unfold Oper.wp execOp
  simp only [ho, hx, hy, Instr.storeAt, Instr.sureAddr, Sem.run_bind, Sem.run_pure, Result.andThen_ok, run_storeVar_row w g t ty old cs hc hi hs h1]
  have e : a.put op.dst undef = a := by rw [hdst]; rfl
  exact (show K (a.put op.dst undef) (w.setRow g cs) from by rw [e]; exact h)
set_option maxHeartbeats 4000000 in
set_option maxRecDepth 100000 in
theorem told_any (h : Ho) (ha : h.a.length = 16) (e : Nat × Nat) (b p : Nat) (w : World) (hc : w.cell? ⟨b, 0, none⟩ = some (.int .i64 (p : Nat))) (hp : p + e.2 ≤ 1000000000000000) :
    Calls Tryz.prog 74 #[hostV h, .agg (spotV e), .pointer (some ⟨b, 0, none⟩)] w fun en w' => en = .returned (.tuple #[hostV (told p h e).1, .agg (spotV (told p h e).2)]) ∧ Below w.heap.size w w' := by
  have hb : b < w.heap.size := World.block_lt_of_cell? w _ hc
  have hsz := hostC_size h ha
  have hon := hostC_one h
  obtain ⟨HC, hHC⟩ : ∃ HC, HC = hostC h := ⟨_, rfl⟩
  have e1 : hostV h = .agg HC := by rw [hHC]; rfl
  have L0 : Hid (Lies ((((w.alloc (.cells HC 28)).alloc (.cells #[.int .i64 (e.1 : Nat), .int .i64 (e.2 : Nat)] 30)).alloc (.cells #[.int .i64 0, .string ⟨#[]⟩, .int .u8 0, .int .u8 0, .int .u8 0, .int .u8 0, .int .u8 0, .int .u8 0, .int .u8 0, .int .u8 0, .int .u8 0, .int .u8 0, .int .u8 0, .int .u8 0, .int .u8 0, .int .u8 0, .int .u8 0, .int .u8 0] 28)).alloc (.cells #[.int .i64 0, .int .i64 0] 30)) w.heap.size HC 28) := (((Lies.new w _ _).alloc _).alloc _).alloc _
  have L1 : Hid (Lies ((((w.alloc (.cells HC 28)).alloc (.cells #[.int .i64 (e.1 : Nat), .int .i64 (e.2 : Nat)] 30)).alloc (.cells #[.int .i64 0, .string ⟨#[]⟩, .int .u8 0, .int .u8 0, .int .u8 0, .int .u8 0, .int .u8 0, .int .u8 0, .int .u8 0, .int .u8 0, .int .u8 0, .int .u8 0, .int .u8 0, .int .u8 0, .int .u8 0, .int .u8 0, .int .u8 0, .int .u8 0] 28)).alloc (.cells #[.int .i64 0, .int .i64 0] 30)) (w.heap.size + 1) #[.int .i64 (e.1 : Nat), .int .i64 (e.2 : Nat)] 30) := ((new_one w _ _ _).alloc _).alloc _
  have L2 : Hid (Lies ((((w.alloc (.cells HC 28)).alloc (.cells #[.int .i64 (e.1 : Nat), .int .i64 (e.2 : Nat)] 30)).alloc (.cells #[.int .i64 0, .string ⟨#[]⟩, .int .u8 0, .int .u8 0, .int .u8 0, .int .u8 0, .int .u8 0, .int .u8 0, .int .u8 0, .int .u8 0, .int .u8 0, .int .u8 0, .int .u8 0, .int .u8 0, .int .u8 0, .int .u8 0, .int .u8 0, .int .u8 0] 28)).alloc (.cells #[.int .i64 0, .int .i64 0] 30)) (w.heap.size + 2) #[.int .i64 0, .string ⟨#[]⟩, .int .u8 0, .int .u8 0, .int .u8 0, .int .u8 0, .int .u8 0, .int .u8 0, .int .u8 0, .int .u8 0, .int .u8 0, .int .u8 0, .int .u8 0, .int .u8 0, .int .u8 0, .int .u8 0, .int .u8 0, .int .u8 0] 28) := (new_two w _ _ _ _).alloc _
  have L3x : (Lies ((((w.alloc (.cells HC 28)).alloc (.cells #[.int .i64 (e.1 : Nat), .int .i64 (e.2 : Nat)] 30)).alloc (.cells #[.int .i64 0, .string ⟨#[]⟩, .int .u8 0, .int .u8 0, .int .u8 0, .int .u8 0, .int .u8 0, .int .u8 0, .int .u8 0, .int .u8 0, .int .u8 0, .int .u8 0, .int .u8 0, .int .u8 0, .int .u8 0, .int .u8 0, .int .u8 0, .int .u8 0] 28)).alloc (.cells #[.int .i64 0, .int .i64 0] 30)) (w.heap.size + 3) #[.int .i64 0, .int .i64 0] 30) := by
    have := Lies.new (((w.alloc (.cells HC 28)).alloc (.cells #[.int .i64 (e.1 : Nat), .int .i64 (e.2 : Nat)] 30)).alloc (.cells #[.int .i64 0, .string ⟨#[]⟩, .int .u8 0, .int .u8 0, .int .u8 0, .int .u8 0, .int .u8 0, .int .u8 0, .int .u8 0, .int .u8 0, .int .u8 0, .int .u8 0, .int .u8 0, .int .u8 0, .int .u8 0, .int .u8 0, .int .u8 0, .int .u8 0] 28)) #[.int .i64 0, .int .i64 0] 30
    simpa using this
  have L3x : (Lies ((((w.alloc (.cells HC 28)).alloc (.cells #[.int .i64 (e.1 : Nat), .int .i64 (e.2 : Nat)] 30)).alloc (.cells #[.int .i64 0, .string ⟨#[]⟩, .int .u8 0, .int .u8 0, .int .u8 0, .int .u8 0, .int .u8 0, .int .u8 0, .int .u8 0, .int .u8 0, .int .u8 0, .int .u8 0, .int .u8 0, .int .u8 0, .int .u8 0, .int .u8 0, .int .u8 0, .int .u8 0] 28)).alloc (.cells #[.int .i64 0, .int .i64 0] 30)) (w.heap.size + 3) #[.int .i64 0, .int .i64 0] 30) := L3x
  clear L3x
  have L3 : Hid (Lies ((((w.alloc (.cells HC 28)).alloc (.cells #[.int .i64 (e.1 : Nat), .int .i64 (e.2 : Nat)] 30)).alloc (.cells #[.int .i64 0, .string ⟨#[]⟩, .int .u8 0, .int .u8 0, .int .u8 0, .int .u8 0, .int .u8 0, .int .u8 0, .int .u8 0, .int .u8 0, .int .u8 0, .int .u8 0, .int .u8 0, .int .u8 0, .int .u8 0, .int .u8 0, .int .u8 0, .int .u8 0] 28)).alloc (.cells #[.int .i64 0, .int .i64 0] 30)) (w.heap.size + 3) #[.int .i64 0, .int .i64 0] 30) := L3x
  clear L3x
  have HB : Hid (Below w.heap.size w ((((w.alloc (.cells HC 28)).alloc (.cells #[.int .i64 (e.1 : Nat), .int .i64 (e.2 : Nat)] 30)).alloc (.cells #[.int .i64 0, .string ⟨#[]⟩, .int .u8 0, .int .u8 0, .int .u8 0, .int .u8 0, .int .u8 0, .int .u8 0, .int .u8 0, .int .u8 0, .int .u8 0, .int .u8 0, .int .u8 0, .int .u8 0, .int .u8 0, .int .u8 0, .int .u8 0, .int .u8 0] 28)).alloc (.cells #[.int .i64 0, .int .i64 0] 30))) := ((((Below.refl _ _).alloc (Nat.le_refl _) _).alloc (by simp) _).alloc (by simp; omega) _).alloc (by simp; omega) _
  rw [e1]
  unfold spotV
  rw [← hHC] at hsz hon
  have HHC : Hid (HC = hostC h) := hHC
  clear hHC e1
  go_enter Tryz.func74, Tryz.ntmps74
  go_upto_region 1 with fail
  generalize (((w.alloc (.cells HC 28)).alloc (.cells #[.int .i64 (e.1 : Nat), .int .i64 (e.2 : Nat)] 30)).alloc (.cells #[.int .i64 0, .string ⟨#[]⟩, .int .u8 0, .int .u8 0, .int .u8 0, .int .u8 0, .int .u8 0, .int .u8 0, .int .u8 0, .int .u8 0, .int .u8 0, .int .u8 0, .int .u8 0, .int .u8 0, .int .u8 0, .int .u8 0, .int .u8 0, .int .u8 0] 28)).alloc (.cells #[.int .i64 0, .int .i64 0] 30) = wA at L0 L1 L2 L3 HB ⊢
  have hc1 := L1.out.cell 0
  have hc2 := L1.out.cell 1
  simp at hc1 hc2
  have hcb : wA.cell? ⟨b, 0, none⟩ = some (.int .i64 (p : Int)) := (HB.out.cell (p := ⟨b, 0, none⟩) hb).trans hc
  have hz := L3.out.lt
  clear hc
  by_cases h0 : e.1 = 0
  · have HV : Hid (told p h e = (h, (0, 0))) := by show _ = _; unfold told; rw [if_pos h0]
    have h0' : ((e.1 : Int) == 0) = true := by rw [beq_iff_eq]; omega
    go_wp2_with (first | (refine wpList_load_row rfl 28 _ rfl w.heap.size rfl HC 28 _ L0.out Tryz.underlying28 rfl (by rw [hsz]; exact infoHo) ?_) | (refine wpList_store_row rfl 28 _ _ rfl (w.heap.size + 2) rfl _ HC rfl 28 L2.out (by rw [hsz]; exact infoHo) (by rw [hsz]; rfl) hon rfl ?_) | (refine wpList_store_row rfl 30 _ _ rfl (w.heap.size + 3) rfl _ #[.int .i64 0, .int .i64 0] rfl 30 (L3.out.row_other (by omega) _) infoSp rfl (by simp [Value.oneCell']) rfl ?_))
    refine bodyPost_ret (ret_host (x := h) (e := (0, 0)) (p := 5) (q := 6) (by kernel_rfl) rfl rfl rfl rfl _ _ (w.heap.size + 2) (w.heap.size + 3) ha rfl rfl ?_ ?_) rfl ⟨by rw [HV.out]; rfl, below_row (below_row HB.out (by omega) _) (by omega) _⟩
    · rw [← HHC.out]
      exact (L2.out.row _).row_other (by omega) _
    · exact (L3.out.row_other (by omega) _).row _
  · have HV : Hid (told p h e = (ho0, (e.1, p + e.2))) := by show _ = _; unfold told; rw [if_neg h0]
    have h0' : ((e.1 : Int) == 0) = false := by rw [beq_eq_false_iff_ne]; omega
    have hsum : (p : Int) + (e.2 : Int) ≤ 1000000000000000 := by omega
    clear h0
    go_wp2_with fail
    have HSV : Hid (∀ wx, Below wA.heap.size wA wx ∨ (∃ cs ds, wx = (wA.drew.setRow (w.heap.size + 2) cs).setRow (w.heap.size + 3) ds) ∨ (∃ cs, wx = wA.drew.setRow (w.heap.size + 2) cs) → wx.cell? ⟨w.heap.size + 1, 0, none⟩ = some (.int .i64 (e.1 : Int)) ∧ wx.cell? ⟨w.heap.size + 1, 1, none⟩ = some (.int .i64 (e.2 : Int)) ∧ wx.cell? ⟨b, 0, none⟩ = some (.int .i64 (p : Int))) := fun wx hwx => by
      have hBx : Below (w.heap.size + 2) wA wx := by
        rcases hwx with hwx | ⟨cs, ds, rfl⟩ | ⟨cs, rfl⟩
        · exact hwx.mono (by omega)
        · exact below_row (below_row ((Below.refl _ wA).drew) (Nat.le_refl _) _) (by omega) _
        · exact below_row ((Below.refl _ wA).drew) (Nat.le_refl _) _
      exact ⟨(hBx.cell (p := ⟨w.heap.size + 1, 0, none⟩) (by show w.heap.size + 1 < w.heap.size + 2; omega)).trans hc1, (hBx.cell (p := ⟨w.heap.size + 1, 1, none⟩) (by show w.heap.size + 1 < w.heap.size + 2; omega)).trans hc2, (hBx.cell (p := ⟨b, 0, none⟩) (by show b < w.heap.size + 2; omega)).trans hcb⟩
    have hwr : IntKind.i64.wrap ((p : Int) + (e.2 : Int)) = (p : Int) + (e.2 : Int) := by
      rw [IntKind.wrap_i64]
      omega
    refine wp_region_late (fun wx => wx.cell? ⟨w.heap.size + 1, 0, none⟩ = some (.int .i64 (e.1 : Int)) ∧ wx.cell? ⟨w.heap.size + 1, 1, none⟩ = some (.int .i64 (e.2 : Int)) ∧ wx.cell? ⟨b, 0, none⟩ = some (.int .i64 (p : Int))) 10 (by kernel_rfl) ⟨hc1, hc2, hcb⟩ (fun hHeld => ?_)
    refine wpAnyE_tk (i := 0) (d := some 10) (v := .agg #[.int .i64 0, .string ⟨#[]⟩, .int .u8 0, .int .u8 0, .int .u8 0, .int .u8 0, .int .u8 0, .int .u8 0, .int .u8 0, .int .u8 0, .int .u8 0, .int .u8 0, .int .u8 0, .int .u8 0, .int .u8 0, .int .u8 0, .int .u8 0, .int .u8 0]) rfl (by kernel_rfl) (by kernel_rfl) (by kernel_rfl) rfl (fun _ _ _ h => h) rfl rfl ?hy (by first | assumption | go_simp) ?_
    case hy => (intro w' hSw; (try dsimp only at hSw); go_simp <;> (first | with_reducible rfl | omega | skip))
    simp only [Act.put, List.setIfInBounds_toArray, List.set_cons_zero, List.set_cons_succ]
    refine wpAnyE_tk (i := 1) (d := some 11) (v := ?_) rfl (by kernel_rfl) (by kernel_rfl) (by kernel_rfl) rfl (fun _ _ _ h => h) rfl rfl ?hy (by first | assumption | go_simp) ?_
    case hy => (intro w' hSw; (try dsimp only at hSw); go_simp <;> (first | with_reducible rfl | omega | skip))
    simp only [Act.put, List.setIfInBounds_toArray, List.set_cons_zero, List.set_cons_succ]
    refine wpAnyE_tk (i := 2) (d := some 12) (v := ?_) rfl (by kernel_rfl) (by kernel_rfl) (by kernel_rfl) rfl (fun _ _ _ h => h) rfl rfl ?hy (by first | assumption | go_simp) ?_
    case hy => (intro w' hSw; (try dsimp only at hSw); go_simp <;> (first | with_reducible rfl | omega | skip))
    simp only [Act.put, List.setIfInBounds_toArray, List.set_cons_zero, List.set_cons_succ]
    refine wpAnyE_tk (i := 3) (d := some 13) (v := ?_) rfl (by kernel_rfl) (by kernel_rfl) (by kernel_rfl) rfl (fun _ _ _ h => h) rfl rfl ?hy (by first | assumption | go_simp) ?_
    case hy => (intro w' hSw; (try dsimp only at hSw); go_simp <;> (first | with_reducible rfl | omega | skip))
    simp only [Act.put, List.setIfInBounds_toArray, List.set_cons_zero, List.set_cons_succ]
    refine wpAnyE_tk (i := 4) (d := some 14) (v := ?_) rfl (by kernel_rfl) (by kernel_rfl) (by kernel_rfl) rfl (fun _ _ _ h => h) rfl rfl ?hy (by first | assumption | go_simp) ?_
    case hy => (intro w' hSw; (try dsimp only at hSw); go_simp <;> (first | with_reducible rfl | omega | skip))
    simp only [Act.put, List.setIfInBounds_toArray, List.set_cons_zero, List.set_cons_succ]
    refine wpAnyE_tk (i := 5) (d := some 15) (v := ?_) rfl (by kernel_rfl) (by kernel_rfl) (by kernel_rfl) rfl (fun _ _ _ h => h) rfl rfl ?hy (by first | assumption | go_simp) ?_
    case hy => (intro w' hSw; (try dsimp only at hSw); go_simp <;> (first | with_reducible rfl | omega | skip))
    simp only [Act.put, List.setIfInBounds_toArray, List.set_cons_zero, List.set_cons_succ]
    refine wpAnyE_tk (i := 6) (d := some 16) (v := .int .i64 ((p : Int) + (e.2 : Int))) rfl (by kernel_rfl) (by kernel_rfl) (by kernel_rfl) rfl (fun _ _ _ h => h) rfl rfl ?hy (by first | assumption | go_simp) ?_
    case hy => (intro w' hSw; (try dsimp only at hSw); go_simp <;> (first | with_reducible rfl | omega | skip))
    simp only [Act.put, List.setIfInBounds_toArray, List.set_cons_zero, List.set_cons_succ]
    refine wpAnyE_tk (i := 7) (d := some 17) (v := ?_) rfl (by kernel_rfl) (by kernel_rfl) (by kernel_rfl) rfl (fun _ _ _ h => h) rfl rfl ?hy (by first | assumption | go_simp) ?_
    case hy => (intro w' hSw; (try dsimp only at hSw); go_simp <;> (first | with_reducible rfl | omega | skip))
    simp only [Act.put, List.setIfInBounds_toArray, List.set_cons_zero, List.set_cons_succ]
    refine wpAnyE_on (i := 8) (by kernel_rfl) rfl rfl ?_
    refine oper_store_row 28 _ _ rfl (w.heap.size + 2) rfl #[.int .i64 0, .string ⟨#[]⟩, .int .u8 0, .int .u8 0, .int .u8 0, .int .u8 0, .int .u8 0, .int .u8 0, .int .u8 0, .int .u8 0, .int .u8 0, .int .u8 0, .int .u8 0, .int .u8 0, .int .u8 0, .int .u8 0, .int .u8 0, .int .u8 0] #[.int .i64 0, .string ⟨#[]⟩, .int .u8 0, .int .u8 0, .int .u8 0, .int .u8 0, .int .u8 0, .int .u8 0, .int .u8 0, .int .u8 0, .int .u8 0, .int .u8 0, .int .u8 0, .int .u8 0, .int .u8 0, .int .u8 0, .int .u8 0, .int .u8 0] rfl 28 L2.out infoHo rfl (by simp [Value.oneCell']) rfl ?_
    refine ⟨Or.inr (HSV.out _ (Or.inr (Or.inr ⟨_, rfl⟩))), ?_⟩
    refine wpAnyE_on (i := 9) (by kernel_rfl) rfl rfl ?_
    refine oper_store_row 30 _ _ rfl (w.heap.size + 3) rfl #[.int .i64 0, .int .i64 0] #[.int .i64 (e.1 : Int), .int .i64 ((p : Int) + (e.2 : Int))] rfl 30 (L3.out.row_other (by omega) _) infoSp rfl (by simp [Value.oneCell']) rfl ?_
    refine ⟨Or.inr (HSV.out _ (Or.inr (Or.inl ⟨_, _, rfl⟩))), ?_⟩
    refine wpAnyE_done (by kernel_rfl) ?_ _
    clear hHeld
    go_wp2
    refine bodyPost_ret (ret_host (x := ho0) (e := (e.1, p + e.2)) (p := 5) (q := 6) (by kernel_rfl) rfl rfl rfl rfl _ _ (w.heap.size + 2) (w.heap.size + 3) rfl rfl rfl ?_ ?_) rfl ⟨by rw [HV.out]; rfl, below_row (below_row HB.out.drew (by omega) _) (by omega) _⟩
    · exact (L2.out.row _).row_other (by omega) _
    · exact (L3.out.row_other (by omega) _).row _
end Go.Proofs.YtnlgbopdbihnjaaGreatDoor
