/-
  The contract of domain.wrongDomain: it tells what the plain form tells.
-/
import Derived.Test.YthkoionigdnhgabGreatDoorWd8
namespace Go.Proofs.YthkoionigdnhgabGreatDoor
open Go.RowKit

/-- The blocks of wrongDomain: the text, the result, the place, where the label begins, how much is well-formed. -/
structure WdS (w : World) (s : ByteArray) (a b f : Nat) (wr : World) : Prop where
  t : Lies wr w.heap.size #[.string s] 9
  r : Lies wr (w.heap.size + 1) #[.int .i64 0, .int .i64 0] 41
  pa : Lies wr (w.heap.size + 2) #[.int .i64 (a : Nat)] 3
  pb : Lies wr (w.heap.size + 3) #[.int .i64 (b : Nat)] 3
  pf : Lies wr (w.heap.size + 4) #[.int .i64 (f : Nat)] 3
  below : Below w.heap.size w wr
theorem WdS.later {w wr wx : World} {s : ByteArray} {a b f : Nat} (h : WdS w s a b f wr) (hb : Below wr.heap.size wr wx) : WdS w s a b f wx :=
  ⟨h.t.below hb h.t.lt, h.r.below hb h.r.lt, h.pa.below hb h.pa.lt, h.pb.below hb h.pb.lt, h.pf.below hb h.pf.lt, h.below.trans (hb.mono (Nat.le_of_lt h.t.lt))⟩
theorem WdS.setA {w wr : World} {s : ByteArray} {a b f : Nat} (h : WdS w s a b f wr) (m : Nat) : WdS w s m b f (wr.setCell ⟨w.heap.size + 2, 0, none⟩ (.int .i64 (m : Nat))) :=
  ⟨h.t.set_other (a := ⟨w.heap.size + 2, 0, none⟩) (by show w.heap.size ≠ w.heap.size + 2; omega) _, h.r.set_other (a := ⟨w.heap.size + 2, 0, none⟩) (by show w.heap.size + 1 ≠ w.heap.size + 2; omega) _, h.pa.set 0 _, h.pb.set_other (a := ⟨w.heap.size + 2, 0, none⟩) (by show w.heap.size + 3 ≠ w.heap.size + 2; omega) _, h.pf.set_other (a := ⟨w.heap.size + 2, 0, none⟩) (by show w.heap.size + 4 ≠ w.heap.size + 2; omega) _, h.below.setCell (p := ⟨w.heap.size + 2, 0, none⟩) (by show w.heap.size ≤ w.heap.size + 2; omega) _⟩
theorem WdS.setB {w wr : World} {s : ByteArray} {a b f : Nat} (h : WdS w s a b f wr) (m : Nat) : WdS w s a m f (wr.setCell ⟨w.heap.size + 3, 0, none⟩ (.int .i64 (m : Nat))) :=
  ⟨h.t.set_other (a := ⟨w.heap.size + 3, 0, none⟩) (by show w.heap.size ≠ w.heap.size + 3; omega) _, h.r.set_other (a := ⟨w.heap.size + 3, 0, none⟩) (by show w.heap.size + 1 ≠ w.heap.size + 3; omega) _, h.pa.set_other (a := ⟨w.heap.size + 3, 0, none⟩) (by show w.heap.size + 2 ≠ w.heap.size + 3; omega) _, h.pb.set 0 _, h.pf.set_other (a := ⟨w.heap.size + 3, 0, none⟩) (by show w.heap.size + 4 ≠ w.heap.size + 3; omega) _, h.below.setCell (p := ⟨w.heap.size + 3, 0, none⟩) (by show w.heap.size ≤ w.heap.size + 3; omega) _⟩
theorem WdS.setF {w wr : World} {s : ByteArray} {a b f : Nat} (h : WdS w s a b f wr) (m : Nat) : WdS w s a b m (wr.setCell ⟨w.heap.size + 4, 0, none⟩ (.int .i64 (m : Nat))) :=
  ⟨h.t.set_other (a := ⟨w.heap.size + 4, 0, none⟩) (by show w.heap.size ≠ w.heap.size + 4; omega) _, h.r.set_other (a := ⟨w.heap.size + 4, 0, none⟩) (by show w.heap.size + 1 ≠ w.heap.size + 4; omega) _, h.pa.set_other (a := ⟨w.heap.size + 4, 0, none⟩) (by show w.heap.size + 2 ≠ w.heap.size + 4; omega) _, h.pb.set_other (a := ⟨w.heap.size + 4, 0, none⟩) (by show w.heap.size + 3 ≠ w.heap.size + 4; omega) _, h.pf.set 0 _, h.below.setCell (p := ⟨w.heap.size + 4, 0, none⟩) (by show w.heap.size ≤ w.heap.size + 4; omega) _⟩
theorem WdS.cells {w wr : World} {s : ByteArray} {a b f : Nat} (h : WdS w s a b f wr) : wr.cell? ⟨w.heap.size, 0, none⟩ = some (.string s) ∧ wr.cell? ⟨w.heap.size + 2, 0, none⟩ = some (.int .i64 (a : Nat)) ∧ wr.cell? ⟨w.heap.size + 3, 0, none⟩ = some (.int .i64 (b : Nat)) ∧ wr.cell? ⟨w.heap.size + 4, 0, none⟩ = some (.int .i64 (f : Nat)) ∧ wr.frozen? ⟨w.heap.size + 2, 0, none⟩ = false ∧ wr.frozen? ⟨w.heap.size + 3, 0, none⟩ = false ∧ wr.frozen? ⟨w.heap.size + 4, 0, none⟩ = false ∧ w.heap.size + 4 < wr.heap.size :=
  ⟨h.t.cell 0, h.pa.cell 0, h.pb.cell 0, h.pf.cell 0, h.pa.frozen 0, h.pb.frozen 0, h.pf.frozen 0, h.pf.lt⟩
theorem WdS.ret {w wr : World} {s : ByteArray} {a b f : Nat} (h : WdS w s a b f wr) (ds : Array Value) (R : Ending → World → Prop) (tmps : Array Value) (hq : tmps.getD 4 undef = .pointer (some ⟨w.heap.size + 1, 0, none⟩)) (hd : ds.size = 2)
    (hR : R (.returned (.agg ds)) (wr.setRow (w.heap.size + 1) ds)) : bodyPost Tryz.prog Tryz.f75 R .ret { tmps := tmps, defers := [] } (wr.setRow (w.heap.size + 1) ds) :=
  bodyPost_ret (results_row (p := 4) (by kernel_rfl) tmps _ (w.heap.size + 1) 41 ds (0, 0) _ hq (h.r.row ds) Tryz.underlying41 rfl (by rw [hd]; exact infoSp)) rfl hR
theorem mE_iff {s : ByteArray} {a b : Nat} {h : Bool} (hh : b < a → h = decide (s.data.toList[a - 1]? = some 45)) : (0 < a - b ∧ h = false) ↔ mE s a b = true := by
  unfold mE
  constructor
  · rintro ⟨h1, h2⟩
    have := hh (by omega)
    rw [h2] at this
    rw [decide_eq_true (show b < a by omega), ← this]
    rfl
  · intro h1
    rw [Bool.and_eq_true, decide_eq_true_eq] at h1
    have := hh h1.1
    rw [← this] at h1
    refine ⟨by omega, ?_⟩
    cases h
    · rfl
    · simp at h1
theorem wdGo_dot {F a n : Nat} {h : Bool} {c : UInt8} {r : List UInt8} (hc : c = 46) : wdGo F a n h (c :: r) = if 0 < n ∧ h = false then wdGo F (a + 1) 0 false r else some a := by
  rw [wdGo, if_pos hc]
theorem wdGo_else {F a n : Nat} {h : Bool} {c : UInt8} {r : List UInt8} (hc : ¬ c = 46) : wdGo F a n h (c :: r) = if n = 63 ∨ stB F a n c = false then some a else wdGo F (a + 1) (n + 1) (decide (c = 45)) r := by
  rw [wdGo, if_neg hc]

set_option maxHeartbeats 8000000 in
set_option maxRecDepth 100000 in
theorem wd_any (s : ByteArray) (wide : Bool) (w : World) (ht : Table w) (hg : 2 < w.heap.size) (hf : Fst w) :
    Calls Tryz.prog 75 #[.string s, .bool wide] w fun e w' => e = .returned (.agg (spotV (wd wide s.data.toList))) ∧ Below w.heap.size w w' := by
  have HT : Hid (∀ wx, Below w.heap.size w wx → Table wx) := fun wx hb => ht.below hg hb
  have HF : Hid (∀ wx, Below w.heap.size w wx → Fst wx) := fun wx hb => hf.below hb hf.lt
  have HL0 : Hid (Lies ((w.alloc (.cells #[.string s] 9)).alloc (.cells #[.int .i64 0, .int .i64 0] 41)) (w.heap.size + 1) #[.int .i64 0, .int .i64 0] 41) := new_one w _ _ _
  have HB0 : Hid (Below w.heap.size w ((w.alloc (.cells #[.string s] 9)).alloc (.cells #[.int .i64 0, .int .i64 0] 41))) := ((Below.refl _ _).alloc (Nat.le_refl _) _).alloc (by simp) _
  have hT0 : Lies ((w.alloc (.cells #[.string s] 9)).alloc (.cells #[.int .i64 0, .int .i64 0] 41)) w.heap.size #[.string s] 9 := (Lies.new w _ _).alloc _
  clear ht hf hg
  by_cases h255 : 255 < s.size
  · have HW : Hid (wd wide s.data.toList = (81, 255)) := by
      show _ = _
      unfold wd
      rw [if_pos (by rw [len_list]; exact h255)]
    have h255' : (255 : Int) < (s.size : Int) := by omega
    clear hT0
    go_enter Tryz.func75, Tryz.ntmps75
    go_wp2_with (refine wpList_store_row rfl 41 _ _ rfl (w.heap.size + 1) rfl _ #[.int .i64 81, .int .i64 255] rfl 41 HL0.out infoSp rfl (by simp [Value.oneCell']) rfl ?_)
    exact bodyPost_ret (results_row (p := 4) (by kernel_rfl) _ _ (w.heap.size + 1) 41 _ (0, 0) _ rfl (HL0.out.row _) Tryz.underlying41 rfl infoSp) rfl ⟨by rw [HW.out]; rfl, below_row HB0.out (by omega) _⟩
  · have hs : s.size ≤ 255 := by omega
    have hs' : ¬ (255 : Int) < (s.size : Int) := by omega
    have H0 : Hid (WdS w s 0 0 0 (((((w.alloc (.cells #[.string s] 9)).alloc (.cells #[.int .i64 0, .int .i64 0] 41)).alloc (.cells #[.int .i64 0] 3)).alloc (.cells #[.int .i64 0] 3)).alloc (.cells #[.int .i64 0] 3))) := by
      have h0 : WdS w s 0 0 0 (((((w.alloc (.cells #[.string s] 9)).alloc (.cells #[.int .i64 0, .int .i64 0] 41)).alloc (.cells #[.int .i64 0] 3)).alloc (.cells #[.int .i64 0] 3)).alloc (.cells #[.int .i64 0] 3)) :=
        ⟨((hT0.alloc _).alloc _).alloc _, ((HL0.out.alloc _).alloc _).alloc _, ((new_two w _ _ _ _).alloc _).alloc _, by
          have := (Lies.new (((w.alloc (.cells #[.string s] 9)).alloc (.cells #[.int .i64 0, .int .i64 0] 41)).alloc (.cells #[.int .i64 0] 3)) #[.int .i64 0] 3).alloc (.cells #[.int .i64 0] 3)
          simpa using this, by
          have := Lies.new ((((w.alloc (.cells #[.string s] 9)).alloc (.cells #[.int .i64 0, .int .i64 0] 41)).alloc (.cells #[.int .i64 0] 3)).alloc (.cells #[.int .i64 0] 3)) #[.int .i64 0] 3
          simpa using this, ((HB0.out.alloc (by simp; omega) _).alloc (by simp; omega) _).alloc (by simp; omega) _⟩
      exact h0
    clear hT0 HL0 HB0 h255
    cases wide
    · obtain ⟨F, hF⟩ : ∃ F, F = 0 := ⟨_, rfl⟩
      have HWD : Hid (wd false s.data.toList = match wdGo F 0 0 false s.data.toList with | none => (0, 0) | some a => (80, a)) := by
        show _ = _
        unfold wd
        rw [if_neg (by rw [len_list]; omega), hF]
        rfl
      have HS0 : Hid (WdS w s 0 0 F (((((w.alloc (.cells #[.string s] 9)).alloc (.cells #[.int .i64 0, .int .i64 0] 41)).alloc (.cells #[.int .i64 0] 3)).alloc (.cells #[.int .i64 0] 3)).alloc (.cells #[.int .i64 0] 3))) := by rw [hF]; exact H0
      clear H0 hF
      go_enter Tryz.func75, Tryz.ntmps75
      go_wp2_with fail
      go_loopw [21] (fun _ wr => ∃ (a b : Nat) (h : Bool), a ≤ s.size ∧ b ≤ a ∧ Hid (WdS w s a b F wr) ∧ Hid (b < a → h = decide (s.data.toList[a - 1]? = some 45)) ∧ Hid (wdGo F 0 0 false s.data.toList = wdGo F a (a - b) h (s.data.toList.drop a))) (fun _ wr => s.size - (match wr.cell? ⟨w.heap.size + 2, 0, none⟩ with | some v => (intOf v).toNat | none => 0))
      case atStart => exact ⟨0, 0, false, by omega, by omega, HS0, fun h => absurd h (by omega), rfl⟩
      case round =>
        obtain ⟨a, b, h, ha, hba, HS, HH, HV⟩ := hrel
        clear HS0
        obtain ⟨c0, c2, c3, c4, f2, f3, f4, hz⟩ := HS.out.cells
        have HME : Hid ((match wr.cell? ⟨w.heap.size + 2, 0, none⟩ with | some v => (intOf v).toNat | none => 0) = a) := by
          show _ = _
          rw [c2]
          simp [intOf]
        have HM : Hid (∀ wx, WdS w s a b F wx → Calls Tryz.prog 116 #[.pointer (some ⟨w.heap.size + 2, 0, none⟩), .pointer (some ⟨w.heap.size + 3, 0, none⟩), .pointer (some ⟨w.heap.size, 0, none⟩)] wx fun e w' => e = .returned (.bool (mE s a b)) ∧ w' = wx) := fun wx hx => wdm_any _ _ _ s a b wx hx.cells.2.1 hx.cells.2.2.1 hx.cells.1 ha hs
        have hiff := mE_iff HH.out
        have HIFF : Hid ((0 < a - b ∧ h = false) ↔ mE s a b = true) := hiff
        obtain ⟨m, hm⟩ : ∃ m, m = mE s a b := ⟨_, rfl⟩
        rw [← hm] at HM HIFF
        clear hm hiff
        by_cases hlt : a < s.size
        · have hlt' : (a : Int) < (s.size : Int) := by omega
          have hd := drop_head s a hlt
          by_cases h46 : s[a] = 46
          · have hn46 : ((s[a].toNat : Int) == 46) = true := by rw [h46]; rfl
            have HV2 : Hid (wdGo F 0 0 false s.data.toList = if 0 < a - b ∧ h = false then wdGo F (a + 1) 0 false (s.data.toList.drop (a + 1)) else some a) := by
              show _ = _
              rw [HV.out, hd, wdGo_dot h46]
            clear HV hd h46
            cases m
            · have HV3 : Hid (wdGo F 0 0 false s.data.toList = some a) := by
                show _ = _
                rw [HV2.out, if_neg (fun hh => by have := HIFF.out.1 hh; cases this)]
              have HSx := HS
              clear HV2 HIFF HME HH
              go_wp2_with fail
              refine (HM.out _ HS.out).mono ?_
              rintro e w2 ⟨rfl, rfl⟩
              clear HM HS
              go_wp2_with fail
              refine (wdw_any (w.heap.size + 2) (a) _ HSx.out.cells.2.1).mono ?_
              rintro e w5 ⟨rfl, hb5⟩
              have HS5 := HSx.out.later hb5
              clear hb5
              have HS6 : Hid (WdS w s (a) b F w5) := HS5
              clear HS5
              go_wp2_with (refine wpList_store_row rfl 41 _ _ rfl (w.heap.size + 1) rfl _ #[.int .i64 80, .int .i64 ((a : Nat) : Int)] rfl 41 HS6.out.r infoSp rfl (by simp [Value.oneCell']) rfl ?_)
              exact HS6.out.ret #[.int .i64 80, .int .i64 ((a : Nat) : Int)] _ _ rfl rfl ⟨by rw [HWD.out, HV3.out]; rfl, below_row HS6.out.below (by omega) _⟩
            · have HV3 : Hid (wdGo F 0 0 false s.data.toList = wdGo F (a + 1) (a + 1 - (a + 1)) false (s.data.toList.drop (a + 1))) := by
                show _ = _
                rw [HV2.out, if_pos (HIFF.out.2 rfl), Nat.sub_self]
              have HSn : Hid (WdS w s (a + 1) (a + 1) F ((wr.setCell ⟨w.heap.size + 3, 0, none⟩ (.int .i64 ((a : Int) + 1))).setCell ⟨w.heap.size + 2, 0, none⟩ (.int .i64 ((a : Int) + 1)))) := (HS.out.setB (a + 1)).setA (a + 1)
              clear HV2 HIFF HH
              go_wp2_with fail
              refine (HM.out _ HS.out).mono ?_
              rintro e w2 ⟨rfl, rfl⟩
              clear HM HS
              go_wp2_with fail
              go_roundw
              case rel => exact ⟨a + 1, a + 1, false, by omega, by omega, HSn, fun h => absurd h (by omega), HV3⟩
              case measure =>
                rw [HSn.out.cells.2.1, HME.out]
                simp [intOf]
                omega
          · have hn46 : ((s[a].toNat : Int) == 46) = false := by
              rw [beq_eq_false_iff_ne]
              intro e
              exact h46 (UInt8.toNat_inj.1 (by rw [show (46 : UInt8).toNat = 46 from rfl]; omega))
            have HV2 : Hid (wdGo F 0 0 false s.data.toList = if a - b = 63 ∨ stB F a (a - b) s[a] = false then some a else wdGo F (a + 1) (a - b + 1) (decide (s[a] = 45)) (s.data.toList.drop (a + 1))) := by
              show _ = _
              rw [HV.out, hd, wdGo_else h46]
            have HST : Hid (Calls Tryz.prog 117 #[.pointer (some ⟨w.heap.size, 0, none⟩), .pointer (some ⟨w.heap.size + 2, 0, none⟩), .pointer (some ⟨w.heap.size + 3, 0, none⟩), .pointer (some ⟨w.heap.size + 4, 0, none⟩)] wr fun e w' => e = .returned (.bool (stB F a (a - b) s[a])) ∧ w' = wr) := wds_any _ _ _ _ s a b F wr (HT.out _ HS.out.below) c2 c3 c0 c4 hlt
            have HNX : Hid (decide (s[a] = 45) = decide (s.data.toList[a + 1 - 1]? = some 45)) := by
              show _ = _
              rw [Nat.add_sub_cancel, list_at s a hlt]
              simp
            clear HV hd h46 HM HIFF HH
            obtain ⟨st, hst⟩ : ∃ st, st = stB F a (a - b) s[a] := ⟨_, rfl⟩
            rw [← hst] at HV2 HST
            clear hst
            by_cases h63 : a - b = 63
            · have h63' : ((a : Int) - (b : Int) == 63) = true := by rw [beq_iff_eq]; omega
              have HV3 : Hid (wdGo F 0 0 false s.data.toList = some a) := by
                show _ = _
                rw [HV2.out, if_pos (Or.inl h63)]
              have HSx := HS
              clear HV2 HME HS HST HNX h63
              go_wp2_with fail
              refine (wdw_any (w.heap.size + 2) (a) _ HSx.out.cells.2.1).mono ?_
              rintro e w5 ⟨rfl, hb5⟩
              have HS5 := HSx.out.later hb5
              clear hb5
              have HS6 : Hid (WdS w s (a) b F w5) := HS5
              clear HS5
              go_wp2_with (refine wpList_store_row rfl 41 _ _ rfl (w.heap.size + 1) rfl _ #[.int .i64 80, .int .i64 ((a : Nat) : Int)] rfl 41 HS6.out.r infoSp rfl (by simp [Value.oneCell']) rfl ?_)
              exact HS6.out.ret #[.int .i64 80, .int .i64 ((a : Nat) : Int)] _ _ rfl rfl ⟨by rw [HWD.out, HV3.out]; rfl, below_row HS6.out.below (by omega) _⟩
            · have h63' : ((a : Int) - (b : Int) == 63) = false := by rw [beq_eq_false_iff_ne]; omega
              cases st
              · have HV3 : Hid (wdGo F 0 0 false s.data.toList = some a) := by
                  show _ = _
                  rw [HV2.out, if_pos (Or.inr rfl)]
                have HSx := HS
                clear HV2 HME HS HNX h63
                go_wp2_with fail
                refine HST.out.mono ?_
                rintro e w2 ⟨rfl, rfl⟩
                clear HST
                go_wp2_with fail
                refine (wdw_any (w.heap.size + 2) (a) _ HSx.out.cells.2.1).mono ?_
                rintro e w5 ⟨rfl, hb5⟩
                have HS5 := HSx.out.later hb5
                clear hb5
                have HS6 : Hid (WdS w s (a) b F w5) := HS5
                clear HS5
                go_wp2_with (refine wpList_store_row rfl 41 _ _ rfl (w.heap.size + 1) rfl _ #[.int .i64 80, .int .i64 ((a : Nat) : Int)] rfl 41 HS6.out.r infoSp rfl (by simp [Value.oneCell']) rfl ?_)
                exact HS6.out.ret #[.int .i64 80, .int .i64 ((a : Nat) : Int)] _ _ rfl rfl ⟨by rw [HWD.out, HV3.out]; rfl, below_row HS6.out.below (by omega) _⟩
              · have HV3 : Hid (wdGo F 0 0 false s.data.toList = wdGo F (a + 1) (a + 1 - b) (decide (s[a] = 45)) (s.data.toList.drop (a + 1))) := by
                  show _ = _
                  rw [HV2.out, if_neg (fun hh => by rcases hh with hh | hh; exact h63 hh; cases hh), show a + 1 - b = a - b + 1 from by omega]
                have HSn : Hid (WdS w s (a + 1) b F (wr.setCell ⟨w.heap.size + 2, 0, none⟩ (.int .i64 ((a : Int) + 1)))) := HS.out.setA (a + 1)
                clear HV2 HS h63
                go_wp2_with fail
                refine HST.out.mono ?_
                rintro e w2 ⟨rfl, rfl⟩
                clear HST
                go_wp2_with fail
                go_roundw
                case rel => exact ⟨a + 1, b, decide (s[a] = 45), by omega, by omega, HSn, fun _ => HNX.out, HV3⟩
                case measure =>
                  rw [HSn.out.cells.2.1, HME.out]
                  simp [intOf]
                  omega
        · obtain rfl : a = s.size := by omega
          have hlt' : ¬ (s.size : Int) < (s.size : Int) := by omega
          have HV2 : Hid (wdGo F 0 0 false s.data.toList = if 0 < s.size - b ∧ h = false then none else some s.size) := by
            show _ = _
            rw [HV.out, drop_end s s.size (Nat.le_refl _), wdGo]
          clear HV HME HH
          cases m
          · have HV3 : Hid (wdGo F 0 0 false s.data.toList = some s.size) := by
              show _ = _
              rw [HV2.out, if_neg (fun hh => by have := HIFF.out.1 hh; cases this)]
            have HSx := HS
            clear HV2 HIFF
            go_wp2_with fail
            refine (HM.out _ HS.out).mono ?_
            rintro e w2 ⟨rfl, rfl⟩
            clear HM HS
            go_wp2_with fail
            refine (wdw_any (w.heap.size + 2) (s.size) _ HSx.out.cells.2.1).mono ?_
            rintro e w5 ⟨rfl, hb5⟩
            have HS5 := HSx.out.later hb5
            clear hb5
            have HS6 : Hid (WdS w s (s.size) b F w5) := HS5
            clear HS5
            go_wp2_with (refine wpList_store_row rfl 41 _ _ rfl (w.heap.size + 1) rfl _ #[.int .i64 80, .int .i64 ((s.size : Nat) : Int)] rfl 41 HS6.out.r infoSp rfl (by simp [Value.oneCell']) rfl ?_)
            exact HS6.out.ret #[.int .i64 80, .int .i64 ((s.size : Nat) : Int)] _ _ rfl rfl ⟨by rw [HWD.out, HV3.out]; rfl, below_row HS6.out.below (by omega) _⟩
          · have HV3 : Hid (wdGo F 0 0 false s.data.toList = none) := by
              show _ = _
              rw [HV2.out, if_pos (HIFF.out.2 rfl)]
            clear HV2 HIFF
            go_wp2_with fail
            refine (HM.out _ HS.out).mono ?_
            rintro e w2 ⟨rfl, rfl⟩
            clear HM
            go_wp2_with (refine wpList_store_row rfl 41 _ _ rfl (w.heap.size + 1) rfl _ #[.int .i64 0, .int .i64 0] rfl 41 HS.out.r infoSp rfl (by simp [Value.oneCell']) rfl ?_)
            exact HS.out.ret #[.int .i64 0, .int .i64 0] _ _ rfl rfl ⟨by rw [HWD.out, HV3.out]; rfl, below_row HS.out.below (by omega) _⟩
    · obtain ⟨F, hF⟩ : ∃ F, F = badU s.data.toList := ⟨_, rfl⟩
      have HWD : Hid (wd true s.data.toList = match wdGo F 0 0 false s.data.toList with | none => (0, 0) | some a => (80, a)) := by
        show _ = _
        unfold wd
        rw [if_neg (by rw [len_list]; omega), hF]
        rfl
      have c40 := H0.out.cells.2.2.2.1
      go_enter Tryz.func75, Tryz.ntmps75
      go_wp2_with fail
      refine (ubs_any s _ (HF.out _ H0.out.below) (by omega)).mono ?_
      rintro e w1 ⟨rfl, hb1⟩
      rw [← hF]
      have HS1 := H0.out.later hb1
      obtain ⟨c0, c2, c3, c4, f2, f3, f4, hz⟩ := HS1.cells
      have HS0 : Hid (WdS w s 0 0 F (w1.setCell ⟨w.heap.size + 4, 0, none⟩ (.int .i64 (F : Nat)))) := HS1.setF F
      clear H0 hF c40 hb1 HS1
      go_wp2_with fail
      clear c0 c2 c3 c4 f2 f3 f4 hz
      go_loopw [21] (fun _ wr => ∃ (a b : Nat) (h : Bool), a ≤ s.size ∧ b ≤ a ∧ Hid (WdS w s a b F wr) ∧ Hid (b < a → h = decide (s.data.toList[a - 1]? = some 45)) ∧ Hid (wdGo F 0 0 false s.data.toList = wdGo F a (a - b) h (s.data.toList.drop a))) (fun _ wr => s.size - (match wr.cell? ⟨w.heap.size + 2, 0, none⟩ with | some v => (intOf v).toNat | none => 0))
      case atStart => exact ⟨0, 0, false, by omega, by omega, HS0, fun h => absurd h (by omega), rfl⟩
      case round =>
        obtain ⟨a, b, h, ha, hba, HS, HH, HV⟩ := hrel
        clear HS0
        obtain ⟨c0, c2, c3, c4, f2, f3, f4, hz⟩ := HS.out.cells
        have HME : Hid ((match wr.cell? ⟨w.heap.size + 2, 0, none⟩ with | some v => (intOf v).toNat | none => 0) = a) := by
          show _ = _
          rw [c2]
          simp [intOf]
        have HM : Hid (∀ wx, WdS w s a b F wx → Calls Tryz.prog 116 #[.pointer (some ⟨w.heap.size + 2, 0, none⟩), .pointer (some ⟨w.heap.size + 3, 0, none⟩), .pointer (some ⟨w.heap.size, 0, none⟩)] wx fun e w' => e = .returned (.bool (mE s a b)) ∧ w' = wx) := fun wx hx => wdm_any _ _ _ s a b wx hx.cells.2.1 hx.cells.2.2.1 hx.cells.1 ha hs
        have hiff := mE_iff HH.out
        have HIFF : Hid ((0 < a - b ∧ h = false) ↔ mE s a b = true) := hiff
        obtain ⟨m, hm⟩ : ∃ m, m = mE s a b := ⟨_, rfl⟩
        rw [← hm] at HM HIFF
        clear hm hiff
        by_cases hlt : a < s.size
        · have hlt' : (a : Int) < (s.size : Int) := by omega
          have hd := drop_head s a hlt
          by_cases h46 : s[a] = 46
          · have hn46 : ((s[a].toNat : Int) == 46) = true := by rw [h46]; rfl
            have HV2 : Hid (wdGo F 0 0 false s.data.toList = if 0 < a - b ∧ h = false then wdGo F (a + 1) 0 false (s.data.toList.drop (a + 1)) else some a) := by
              show _ = _
              rw [HV.out, hd, wdGo_dot h46]
            clear HV hd h46
            cases m
            · have HV3 : Hid (wdGo F 0 0 false s.data.toList = some a) := by
                show _ = _
                rw [HV2.out, if_neg (fun hh => by have := HIFF.out.1 hh; cases this)]
              have HSx := HS
              clear HV2 HIFF HME HH
              go_wp2_with fail
              refine (HM.out _ HS.out).mono ?_
              rintro e w2 ⟨rfl, rfl⟩
              clear HM HS
              go_wp2_with fail
              refine (wdw_any (w.heap.size + 2) (a) _ HSx.out.cells.2.1).mono ?_
              rintro e w5 ⟨rfl, hb5⟩
              have HS5 := HSx.out.later hb5
              clear hb5
              have HS6 : Hid (WdS w s (a) b F w5) := HS5
              clear HS5
              go_wp2_with (refine wpList_store_row rfl 41 _ _ rfl (w.heap.size + 1) rfl _ #[.int .i64 80, .int .i64 ((a : Nat) : Int)] rfl 41 HS6.out.r infoSp rfl (by simp [Value.oneCell']) rfl ?_)
              exact HS6.out.ret #[.int .i64 80, .int .i64 ((a : Nat) : Int)] _ _ rfl rfl ⟨by rw [HWD.out, HV3.out]; rfl, below_row HS6.out.below (by omega) _⟩
            · have HV3 : Hid (wdGo F 0 0 false s.data.toList = wdGo F (a + 1) (a + 1 - (a + 1)) false (s.data.toList.drop (a + 1))) := by
                show _ = _
                rw [HV2.out, if_pos (HIFF.out.2 rfl), Nat.sub_self]
              have HSn : Hid (WdS w s (a + 1) (a + 1) F ((wr.setCell ⟨w.heap.size + 3, 0, none⟩ (.int .i64 ((a : Int) + 1))).setCell ⟨w.heap.size + 2, 0, none⟩ (.int .i64 ((a : Int) + 1)))) := (HS.out.setB (a + 1)).setA (a + 1)
              clear HV2 HIFF HH
              go_wp2_with fail
              refine (HM.out _ HS.out).mono ?_
              rintro e w2 ⟨rfl, rfl⟩
              clear HM HS
              go_wp2_with fail
              go_roundw
              case rel => exact ⟨a + 1, a + 1, false, by omega, by omega, HSn, fun h => absurd h (by omega), HV3⟩
              case measure =>
                rw [HSn.out.cells.2.1, HME.out]
                simp [intOf]
                omega
          · have hn46 : ((s[a].toNat : Int) == 46) = false := by
              rw [beq_eq_false_iff_ne]
              intro e
              exact h46 (UInt8.toNat_inj.1 (by rw [show (46 : UInt8).toNat = 46 from rfl]; omega))
            have HV2 : Hid (wdGo F 0 0 false s.data.toList = if a - b = 63 ∨ stB F a (a - b) s[a] = false then some a else wdGo F (a + 1) (a - b + 1) (decide (s[a] = 45)) (s.data.toList.drop (a + 1))) := by
              show _ = _
              rw [HV.out, hd, wdGo_else h46]
            have HST : Hid (Calls Tryz.prog 117 #[.pointer (some ⟨w.heap.size, 0, none⟩), .pointer (some ⟨w.heap.size + 2, 0, none⟩), .pointer (some ⟨w.heap.size + 3, 0, none⟩), .pointer (some ⟨w.heap.size + 4, 0, none⟩)] wr fun e w' => e = .returned (.bool (stB F a (a - b) s[a])) ∧ w' = wr) := wds_any _ _ _ _ s a b F wr (HT.out _ HS.out.below) c2 c3 c0 c4 hlt
            have HNX : Hid (decide (s[a] = 45) = decide (s.data.toList[a + 1 - 1]? = some 45)) := by
              show _ = _
              rw [Nat.add_sub_cancel, list_at s a hlt]
              simp
            clear HV hd h46 HM HIFF HH
            obtain ⟨st, hst⟩ : ∃ st, st = stB F a (a - b) s[a] := ⟨_, rfl⟩
            rw [← hst] at HV2 HST
            clear hst
            by_cases h63 : a - b = 63
            · have h63' : ((a : Int) - (b : Int) == 63) = true := by rw [beq_iff_eq]; omega
              have HV3 : Hid (wdGo F 0 0 false s.data.toList = some a) := by
                show _ = _
                rw [HV2.out, if_pos (Or.inl h63)]
              have HSx := HS
              clear HV2 HME HS HST HNX h63
              go_wp2_with fail
              refine (wdw_any (w.heap.size + 2) (a) _ HSx.out.cells.2.1).mono ?_
              rintro e w5 ⟨rfl, hb5⟩
              have HS5 := HSx.out.later hb5
              clear hb5
              have HS6 : Hid (WdS w s (a) b F w5) := HS5
              clear HS5
              go_wp2_with (refine wpList_store_row rfl 41 _ _ rfl (w.heap.size + 1) rfl _ #[.int .i64 80, .int .i64 ((a : Nat) : Int)] rfl 41 HS6.out.r infoSp rfl (by simp [Value.oneCell']) rfl ?_)
              exact HS6.out.ret #[.int .i64 80, .int .i64 ((a : Nat) : Int)] _ _ rfl rfl ⟨by rw [HWD.out, HV3.out]; rfl, below_row HS6.out.below (by omega) _⟩
            · have h63' : ((a : Int) - (b : Int) == 63) = false := by rw [beq_eq_false_iff_ne]; omega
              cases st
              · have HV3 : Hid (wdGo F 0 0 false s.data.toList = some a) := by
                  show _ = _
                  rw [HV2.out, if_pos (Or.inr rfl)]
                have HSx := HS
                clear HV2 HME HS HNX h63
                go_wp2_with fail
                refine HST.out.mono ?_
                rintro e w2 ⟨rfl, rfl⟩
                clear HST
                go_wp2_with fail
                refine (wdw_any (w.heap.size + 2) (a) _ HSx.out.cells.2.1).mono ?_
                rintro e w5 ⟨rfl, hb5⟩
                have HS5 := HSx.out.later hb5
                clear hb5
                have HS6 : Hid (WdS w s (a) b F w5) := HS5
                clear HS5
                go_wp2_with (refine wpList_store_row rfl 41 _ _ rfl (w.heap.size + 1) rfl _ #[.int .i64 80, .int .i64 ((a : Nat) : Int)] rfl 41 HS6.out.r infoSp rfl (by simp [Value.oneCell']) rfl ?_)
                exact HS6.out.ret #[.int .i64 80, .int .i64 ((a : Nat) : Int)] _ _ rfl rfl ⟨by rw [HWD.out, HV3.out]; rfl, below_row HS6.out.below (by omega) _⟩
              · have HV3 : Hid (wdGo F 0 0 false s.data.toList = wdGo F (a + 1) (a + 1 - b) (decide (s[a] = 45)) (s.data.toList.drop (a + 1))) := by
                  show _ = _
                  rw [HV2.out, if_neg (fun hh => by rcases hh with hh | hh; exact h63 hh; cases hh), show a + 1 - b = a - b + 1 from by omega]
                have HSn : Hid (WdS w s (a + 1) b F (wr.setCell ⟨w.heap.size + 2, 0, none⟩ (.int .i64 ((a : Int) + 1)))) := HS.out.setA (a + 1)
                clear HV2 HS h63
                go_wp2_with fail
                refine HST.out.mono ?_
                rintro e w2 ⟨rfl, rfl⟩
                clear HST
                go_wp2_with fail
                go_roundw
                case rel => exact ⟨a + 1, b, decide (s[a] = 45), by omega, by omega, HSn, fun _ => HNX.out, HV3⟩
                case measure =>
                  rw [HSn.out.cells.2.1, HME.out]
                  simp [intOf]
                  omega
        · obtain rfl : a = s.size := by omega
          have hlt' : ¬ (s.size : Int) < (s.size : Int) := by omega
          have HV2 : Hid (wdGo F 0 0 false s.data.toList = if 0 < s.size - b ∧ h = false then none else some s.size) := by
            show _ = _
            rw [HV.out, drop_end s s.size (Nat.le_refl _), wdGo]
          clear HV HME HH
          cases m
          · have HV3 : Hid (wdGo F 0 0 false s.data.toList = some s.size) := by
              show _ = _
              rw [HV2.out, if_neg (fun hh => by have := HIFF.out.1 hh; cases this)]
            have HSx := HS
            clear HV2 HIFF
            go_wp2_with fail
            refine (HM.out _ HS.out).mono ?_
            rintro e w2 ⟨rfl, rfl⟩
            clear HM HS
            go_wp2_with fail
            refine (wdw_any (w.heap.size + 2) (s.size) _ HSx.out.cells.2.1).mono ?_
            rintro e w5 ⟨rfl, hb5⟩
            have HS5 := HSx.out.later hb5
            clear hb5
            have HS6 : Hid (WdS w s (s.size) b F w5) := HS5
            clear HS5
            go_wp2_with (refine wpList_store_row rfl 41 _ _ rfl (w.heap.size + 1) rfl _ #[.int .i64 80, .int .i64 ((s.size : Nat) : Int)] rfl 41 HS6.out.r infoSp rfl (by simp [Value.oneCell']) rfl ?_)
            exact HS6.out.ret #[.int .i64 80, .int .i64 ((s.size : Nat) : Int)] _ _ rfl rfl ⟨by rw [HWD.out, HV3.out]; rfl, below_row HS6.out.below (by omega) _⟩
          · have HV3 : Hid (wdGo F 0 0 false s.data.toList = none) := by
              show _ = _
              rw [HV2.out, if_pos (HIFF.out.2 rfl)]
            clear HV2 HIFF
            go_wp2_with fail
            refine (HM.out _ HS.out).mono ?_
            rintro e w2 ⟨rfl, rfl⟩
            clear HM
            go_wp2_with (refine wpList_store_row rfl 41 _ _ rfl (w.heap.size + 1) rfl _ #[.int .i64 0, .int .i64 0] rfl 41 HS.out.r infoSp rfl (by simp [Value.oneCell']) rfl ?_)
            exact HS.out.ret #[.int .i64 0, .int .i64 0] _ _ rfl rfl ⟨by rw [HWD.out, HV3.out]; rfl, below_row HS.out.below (by omega) _⟩
end Go.Proofs.YthkoionigdnhgabGreatDoor
