/-
  The contract of the program's Print, for zones below 0.
-/
import Derived.Test.YtedfnebadenmdabDoorPrt
namespace Go.Proofs.YtedfnebadenmdabDoor
open Go.RowKit

set_option maxHeartbeats 8000000 in
theorem print_neg (y m1 d h mi sc z wd zh zm : Nat) (w : World) (ht : Ahd w) (hp : PowTab w) (hm : May ⟨y, (m1 : Int) + 1, d, h, mi, sc, -(z : Int)⟩) (hwd : wdN (numD y ((m1 : Int) + 1) d) = (wd : Int)) (hz1 : 1 ≤ z) (hzh : z / 60 = zh) (hzm : z % 60 = zm) :
    Calls Tryd.prog 15 #[dtV ⟨y, (m1 : Int) + 1, d, h, mi, sc, -(z : Int)⟩] w fun e w' => e = .returned (.tuple #[.string (printB wd d m1 y h mi sc ⟨#[45]⟩ zh zm), .int .i64 0]) ∧ Below w.heap.size w w' := by
  have HT : Hid (Ahd w) := ht
  have HP : Hid (PowTab w) := hp
  have hday := hm.day
  obtain ⟨q1, q2, q3, q4, q5, q6⟩ := hm.day
  have ql := longN_pos (y : Int) ((m1 : Int) + 1)
  have t0 := hm.h0; have t1 := hm.h1; have t2 := hm.m0; have t3 := hm.m1; have t4 := hm.s0; have t5 := hm.s1; have t6 := hm.z0; have t7 := hm.z1
  simp only at q1 q2 q3 q4 q5 q6 t0 t1 t2 t3 t4 t5 t6 t7
  have hin : Dt.In ⟨y, (m1 : Int) + 1, d, h, mi, sc, -(z : Int)⟩ := ⟨by simp only []; omega, by simp only []; omega, by simp only []; omega, by simp only []; omega, by simp only []; omega, by simp only []; omega, by simp only []; omega, by simp only []; omega, by simp only []; omega, by simp only []; omega, by simp only []; omega, by simp only []; omega, by simp only []; omega, by simp only []; omega⟩
  have HC : Hid (∀ w, Ahd w → Calls Tryd.prog 21 #[dtV ⟨y, (m1 : Int) + 1, d, h, mi, sc, -(z : Int)⟩] w fun e w' => e = .returned (.int .i64 0) ∧ Below w.heap.size w w') := fun w h => by
    have := check_any _ w h hin
    rw [(chk_may _).2 hm] at this
    exact this
  have HD : Hid (∀ w, Ahd w → Calls Tryd.prog 22 #[.int .i16 (y : Int), .int .i8 ((m1 : Int) + 1), .int .i8 (d : Int)] w fun e w' => e = .returned (.tuple #[.int .i64 (numD y ((m1 : Int) + 1) d), .int .i64 0]) ∧ w' = w) := fun w h => by
    have := days_any (y : Int) ((m1 : Int) + 1) (d : Int) w h (by omega) (by omega) (by omega) (by omega) (by omega) (by omega)
    rw [if_pos hday, if_pos hday] at this
    exact this
  have HWD : Hid (∀ w, Calls Tryd.prog 9 #[.int .i64 (numD y ((m1 : Int) + 1) d)] w fun e w' => e = .returned (.int .i8 (wd : Int)) ∧ w' = w) := fun w => by
    have := wday_any (numD y ((m1 : Int) + 1) d) w
    rw [hwd] at this
    exact this
  have hwd6 : wd ≤ 6 := by have := wdN_in (numD y ((m1 : Int) + 1) d); omega
  have HN1 : Hid (∀ w, Calls Tryd.prog 24 #[.string wdS, .int .i8 (wd : Int)] w fun x w' => x = .returned (.string (nmS wdS wd)) ∧ w' = w) := fun w => name_any wdS wd w (by have : wdS.size = 21 := rfl; omega) (by decide)
  have HN2 : Hid (∀ w, Calls Tryd.prog 24 #[.string moS, .int .i8 (m1 : Int)] w fun x w' => x = .returned (.string (nmS moS m1)) ∧ w' = w) := fun w => name_any moS m1 w (by have : moS.size = 36 := rfl; omega) (by decide)
  have HB1 : Hid (Below w.heap.size w (w.alloc (.cells (dtC ⟨y, (m1 : Int) + 1, d, h, mi, sc, -(z : Int)⟩) 34))) := (Below.refl _ _).alloc (Nat.le_refl _) _
  have HL1 : Hid (Lies (w.alloc (.cells (dtC ⟨y, (m1 : Int) + 1, d, h, mi, sc, -(z : Int)⟩) 34)) w.heap.size (dtC ⟨y, (m1 : Int) + 1, d, h, mi, sc, -(z : Int)⟩) 34) := Lies.new w _ _
  have HC1 := HC.out _ (HT.out.below HB1.out)
  unfold dtV dtC at HC1
  have z16 : IntKind.i16.wrap ((z : Int) / 60) = (zh : Int) := by
    rw [IntWalk.i16_in _ (by omega)]
    omega
  have z17 : (z : Int).tmod 60 = (zm : Int) := by
    rw [Int.tmod_eq_emod_of_nonneg (by omega)]
    omega
  have HPD : Hid (∀ (n wd : Nat), n ≤ 9999 → wd ≤ 4 → ∀ w, PowTab w → Calls Tryd.prog 25 #[.int .i16 (n : Int), .int .i64 (wd : Int)] w fun e w' => e = .returned (.string (padS wd n)) ∧ Below w.heap.size w w') := fun n wd h1 h2 w h => padded_any n wd h1 h2 w h
  have HP1 : Hid _ := HPD.out d 1 (by omega) (by omega)
  have HP2 : Hid _ := HPD.out y 4 (by omega) (by omega)
  have HP3 : Hid _ := HPD.out h 2 (by omega) (by omega)
  have HP4 : Hid _ := HPD.out mi 2 (by omega) (by omega)
  have HP5 : Hid _ := HPD.out sc 2 (by omega) (by omega)
  have HP6 : Hid _ := HPD.out zh 2 (by omega) (by omega)
  have HP7 : Hid _ := HPD.out zm 2 (by omega) (by omega)
  have HFIN' : Hid (∀ A1 A2 P1 P2 P3 P4 P5 P6 P7 : ByteArray, A1 = nmS wdS wd → A2 = nmS moS m1 → P1 = padS 1 d → P2 = padS 4 y → P3 = padS 2 h → P4 = padS 2 mi → P5 = padS 2 sc → P6 = padS 2 zh → P7 = padS 2 zm → A1 ++ ⟨#[44, 32]⟩ ++ P1 ++ ⟨#[32]⟩ ++ A2 ++ ⟨#[32]⟩ ++ P2 ++ ⟨#[32]⟩ ++ P3 ++ ⟨#[58]⟩ ++ P4 ++ ⟨#[58]⟩ ++ P5 ++ ⟨#[32]⟩ ++ ⟨#[45]⟩ ++ P6 ++ P7 = printB wd d m1 y h mi sc ⟨#[45]⟩ zh zm) := fun A1 A2 P1 P2 P3 P4 P5 P6 P7 a b c d e f g h i => by subst a b c d e f g h i; rfl
  have HFIN : Hid _ := HFIN'.out _ _ _ _ _ _ _ _ _ rfl rfl rfl rfl rfl rfl rfl rfl rfl
  have w1 : IntKind.i16.wrap (d : Int) = (d : Int) := IntWalk.i16_in _ (by omega)
  have w2' : IntKind.i16.wrap (h : Int) = (h : Int) := IntWalk.i16_in _ (by omega)
  have w3' : IntKind.i16.wrap (mi : Int) = (mi : Int) := IntWalk.i16_in _ (by omega)
  have w4' : IntKind.i16.wrap (sc : Int) = (sc : Int) := IntWalk.i16_in _ (by omega)
  have w5' : IntKind.i8.wrap (m1 : Int) = (m1 : Int) := IntWalk.i8_in _ (by omega)
  have w6' : IntKind.i8.wrap ((m1 : Int) + 1 - 1) = (m1 : Int) := by rw [IntWalk.i8_in _ (by omega)]; omega
  have sA1 : (nmS wdS wd).size ≤ 100 := by rw [nmS_size wdS wd (by have : wdS.size = 21 := rfl; omega)]; omega
  have sA2 : (nmS moS m1).size ≤ 100 := by rw [nmS_size moS m1 (by have : moS.size = 36 := rfl; omega)]; omega
  have sP1 : (padS 1 d).size ≤ 100 := padS_le 1 d (by omega) (by omega)
  have sP2 : (padS 4 y).size ≤ 100 := padS_le 4 y (by omega) (by omega)
  have sP3 : (padS 2 h).size ≤ 100 := padS_le 2 h (by omega) (by omega)
  have sP4 : (padS 2 mi).size ≤ 100 := padS_le 2 mi (by omega) (by omega)
  have sP5 : (padS 2 sc).size ≤ 100 := padS_le 2 sc (by omega) (by omega)
  have sP6 : (padS 2 zh).size ≤ 100 := padS_le 2 zh (by omega) (by omega)
  have sP7 : (padS 2 zm).size ≤ 100 := padS_le 2 zm (by omega) (by omega)
  generalize nmS wdS wd = A1 at HN1 HFIN sA1
  generalize nmS moS m1 = A2 at HN2 HFIN sA2
  generalize padS 1 d = P1 at HP1 HFIN sP1
  generalize padS 4 y = P2 at HP2 HFIN sP2
  generalize padS 2 h = P3 at HP3 HFIN sP3
  generalize padS 2 mi = P4 at HP4 HFIN sP4
  generalize padS 2 sc = P5 at HP5 HFIN sP5
  generalize padS 2 zh = P6 at HP6 HFIN sP6
  generalize padS 2 zm = P7 at HP7 HFIN sP7
  clear HPD
  clear HFIN'
  unfold wdS at HN1
  unfold moS at HN2
  have hzn : -(z : Int) < 0 := by omega
  clear ht hp hm hday hin hwd HC hzh hzm
  unfold dtV
  generalize numD y ((m1 : Int) + 1) d = N at HD HWD
  go_enter Tryd.func15, Tryd.ntmps15
  go_wp2_with fail
  refine Calls.mono HC1 ?_
  rintro e w2 ⟨rfl, hb2⟩
  have HL2 : Hid (Lies w2 w.heap.size (dtC ⟨y, (m1 : Int) + 1, d, h, mi, sc, -(z : Int)⟩) 34) := HL1.out.below hb2 HL1.out.lt
  have HB2 : Hid (Below w.heap.size w w2) := HB1.out.trans (hb2.mono HB1.out.size)
  have HS : Hid (∀ wx, Below w2.heap.size w2 wx → wx.cell? ⟨w.heap.size, 0, none⟩ = some (.int .i16 (y : Int)) ∧ wx.cell? ⟨w.heap.size, 1, none⟩ = some (.int .i8 ((m1 : Int) + 1)) ∧ wx.cell? ⟨w.heap.size, 2, none⟩ = some (.int .i8 (d : Int)) ∧ wx.cell? ⟨w.heap.size, 3, none⟩ = some (.int .i8 (h : Int)) ∧ wx.cell? ⟨w.heap.size, 4, none⟩ = some (.int .i8 (mi : Int)) ∧ wx.cell? ⟨w.heap.size, 5, none⟩ = some (.int .i8 (sc : Int))) := fun wx hb => by
    have l := HL2.out.below hb HL2.out.lt
    exact ⟨l.cell 0, l.cell 1, l.cell 2, l.cell 3, l.cell 4, l.cell 5⟩
  have c0 := HL2.out.cell 0
  have c1 := HL2.out.cell 1
  have c2 := HL2.out.cell 2
  have c6 := HL2.out.cell 6
  simp only [dtC, List.getElem?_toArray, List.getElem?_cons_zero, List.getElem?_cons_succ] at c0 c1 c2 c6
  have HD2 := HD.out w2 (HT.out.below HB2.out)
  clear hb2 HL1 HB1 HC1 HL2 HD
  generalize w.heap.size = D at HS c0 c1 c2 c6 ⊢
  go_wp2_with fail
  refine Calls.mono HD2 ?_
  rintro e w3 ⟨rfl, rfl⟩
  clear HD2
  go_wp2_with fail
  go_quiet (fail)
  go_wp2_with fail
  clear c0 c1 c2 c6
  have HSV : Hid (∀ wx, Below (w3.drewN nq).heap.size (w3.drewN nq) wx → wx.cell? ⟨D, 0, none⟩ = some (.int .i16 (y : Int)) ∧ wx.cell? ⟨D, 1, none⟩ = some (.int .i8 ((m1 : Int) + 1)) ∧ wx.cell? ⟨D, 2, none⟩ = some (.int .i8 (d : Int)) ∧ wx.cell? ⟨D, 3, none⟩ = some (.int .i8 (h : Int)) ∧ wx.cell? ⟨D, 4, none⟩ = some (.int .i8 (mi : Int)) ∧ wx.cell? ⟨D, 5, none⟩ = some (.int .i8 (sc : Int))) := fun wx hb => HS.out wx ((below_drewN w3 nq).trans hb)
  have HBV : Hid (Below w.heap.size w (w3.drewN nq)) := HB2.out.trans ((below_drewN w3 nq).mono HB2.out.size)
  have HPV : Hid (PowTab (w3.drewN nq)) := HP.out.below HBV.out
  clear HS HB2
  generalize w3.drewN nq = v at HSV HBV HPV ⊢
  refine wp_region_late (fun wx => wx.cell? ⟨D, 0, none⟩ = some (.int .i16 (y : Int)) ∧ wx.cell? ⟨D, 1, none⟩ = some (.int .i8 ((m1 : Int) + 1)) ∧ wx.cell? ⟨D, 2, none⟩ = some (.int .i8 (d : Int)) ∧ wx.cell? ⟨D, 3, none⟩ = some (.int .i8 (h : Int)) ∧ wx.cell? ⟨D, 4, none⟩ = some (.int .i8 (mi : Int)) ∧ wx.cell? ⟨D, 5, none⟩ = some (.int .i8 (sc : Int))) 52 (by kernel_rfl) (HSV.out _ (below_drew1 _)) (fun hHeld => ?_)
  refine wpAnyE_tk (i := 0) (d := some 30) (v := ?_) rfl (by kernel_rfl) (by kernel_rfl) (by kernel_rfl) rfl (fun _ _ _ h => h) rfl rfl ?hy (by assumption) ?_
  case hy => (intro w' hSw; (try dsimp only at hSw); go_simp <;> (first | with_reducible rfl | omega))
  simp only [Act.put, List.setIfInBounds_toArray, List.set_cons_zero, List.set_cons_succ]
  refine wpAnyE_tk (i := 4) (d := some 34) (v := ?_) rfl (by kernel_rfl) (by kernel_rfl) (by kernel_rfl) rfl (fun _ _ _ h => h) rfl rfl ?hy (by assumption) ?_
  case hy => (intro w' hSw; (try dsimp only at hSw); go_simp <;> (first | with_reducible rfl | omega))
  simp only [Act.put, List.setIfInBounds_toArray, List.set_cons_zero, List.set_cons_succ]
  refine wpAnyE_tk (i := 5) (d := some 35) (v := .int .i8 (d : Int)) rfl (by kernel_rfl) (by kernel_rfl) (by kernel_rfl) rfl (fun _ _ _ h => h) rfl rfl ?hy (by assumption) ?_
  case hy => (intro w' hSw; (try dsimp only at hSw); go_simp <;> (first | with_reducible rfl | omega))
  simp only [Act.put, List.setIfInBounds_toArray, List.set_cons_zero, List.set_cons_succ]
  refine wpAnyE_tk (i := 6) (d := some 36) (v := .int .i16 (d : Int)) rfl (by kernel_rfl) (by kernel_rfl) (by kernel_rfl) rfl (fun _ _ _ h => h) rfl rfl ?hy (by assumption) ?_
  case hy => (intro w' hSw; (try dsimp only at hSw); go_simp <;> (first | with_reducible rfl | omega))
  simp only [Act.put, List.setIfInBounds_toArray, List.set_cons_zero, List.set_cons_succ]
  refine wpAnyE_tk (i := 10) (d := some 40) (v := ?_) rfl (by kernel_rfl) (by kernel_rfl) (by kernel_rfl) rfl (fun _ _ _ h => h) rfl rfl ?hy (by assumption) ?_
  case hy => (intro w' hSw; (try dsimp only at hSw); go_simp <;> (first | with_reducible rfl | omega))
  simp only [Act.put, List.setIfInBounds_toArray, List.set_cons_zero, List.set_cons_succ]
  refine wpAnyE_tk (i := 11) (d := some 41) (v := .int .i8 ((m1 : Int) + 1)) rfl (by kernel_rfl) (by kernel_rfl) (by kernel_rfl) rfl (fun _ _ _ h => h) rfl rfl ?hy (by assumption) ?_
  case hy => (intro w' hSw; (try dsimp only at hSw); go_simp <;> (first | with_reducible rfl | omega))
  simp only [Act.put, List.setIfInBounds_toArray, List.set_cons_zero, List.set_cons_succ]
  refine wpAnyE_tk (i := 12) (d := some 42) (v := .int .i8 (m1 : Int)) rfl (by kernel_rfl) (by kernel_rfl) (by kernel_rfl) rfl (fun _ _ _ h => h) rfl rfl ?hy (by assumption) ?_
  case hy => (intro w' hSw; (try dsimp only at hSw); go_simp <;> (first | with_reducible rfl | omega))
  simp only [Act.put, List.setIfInBounds_toArray, List.set_cons_zero, List.set_cons_succ]
  refine wpAnyE_tk (i := 16) (d := some 46) (v := ?_) rfl (by kernel_rfl) (by kernel_rfl) (by kernel_rfl) rfl (fun _ _ _ h => h) rfl rfl ?hy (by assumption) ?_
  case hy => (intro w' hSw; (try dsimp only at hSw); go_simp <;> (first | with_reducible rfl | omega))
  simp only [Act.put, List.setIfInBounds_toArray, List.set_cons_zero, List.set_cons_succ]
  refine wpAnyE_tk (i := 17) (d := some 47) (v := .int .i16 (y : Int)) rfl (by kernel_rfl) (by kernel_rfl) (by kernel_rfl) rfl (fun _ _ _ h => h) rfl rfl ?hy (by assumption) ?_
  case hy => (intro w' hSw; (try dsimp only at hSw); go_simp <;> (first | with_reducible rfl | omega))
  simp only [Act.put, List.setIfInBounds_toArray, List.set_cons_zero, List.set_cons_succ]
  refine wpAnyE_tk (i := 21) (d := some 51) (v := ?_) rfl (by kernel_rfl) (by kernel_rfl) (by kernel_rfl) rfl (fun _ _ _ h => h) rfl rfl ?hy (by assumption) ?_
  case hy => (intro w' hSw; (try dsimp only at hSw); go_simp <;> (first | with_reducible rfl | omega))
  simp only [Act.put, List.setIfInBounds_toArray, List.set_cons_zero, List.set_cons_succ]
  refine wpAnyE_tk (i := 22) (d := some 52) (v := .int .i8 (h : Int)) rfl (by kernel_rfl) (by kernel_rfl) (by kernel_rfl) rfl (fun _ _ _ h => h) rfl rfl ?hy (by assumption) ?_
  case hy => (intro w' hSw; (try dsimp only at hSw); go_simp <;> (first | with_reducible rfl | omega))
  simp only [Act.put, List.setIfInBounds_toArray, List.set_cons_zero, List.set_cons_succ]
  refine wpAnyE_tk (i := 23) (d := some 53) (v := .int .i16 (h : Int)) rfl (by kernel_rfl) (by kernel_rfl) (by kernel_rfl) rfl (fun _ _ _ h => h) rfl rfl ?hy (by assumption) ?_
  case hy => (intro w' hSw; (try dsimp only at hSw); go_simp <;> (first | with_reducible rfl | omega))
  simp only [Act.put, List.setIfInBounds_toArray, List.set_cons_zero, List.set_cons_succ]
  refine wpAnyE_tk (i := 27) (d := some 57) (v := ?_) rfl (by kernel_rfl) (by kernel_rfl) (by kernel_rfl) rfl (fun _ _ _ h => h) rfl rfl ?hy (by assumption) ?_
  case hy => (intro w' hSw; (try dsimp only at hSw); go_simp <;> (first | with_reducible rfl | omega))
  simp only [Act.put, List.setIfInBounds_toArray, List.set_cons_zero, List.set_cons_succ]
  refine wpAnyE_tk (i := 28) (d := some 58) (v := .int .i8 (mi : Int)) rfl (by kernel_rfl) (by kernel_rfl) (by kernel_rfl) rfl (fun _ _ _ h => h) rfl rfl ?hy (by assumption) ?_
  case hy => (intro w' hSw; (try dsimp only at hSw); go_simp <;> (first | with_reducible rfl | omega))
  simp only [Act.put, List.setIfInBounds_toArray, List.set_cons_zero, List.set_cons_succ]
  refine wpAnyE_tk (i := 29) (d := some 59) (v := .int .i16 (mi : Int)) rfl (by kernel_rfl) (by kernel_rfl) (by kernel_rfl) rfl (fun _ _ _ h => h) rfl rfl ?hy (by assumption) ?_
  case hy => (intro w' hSw; (try dsimp only at hSw); go_simp <;> (first | with_reducible rfl | omega))
  simp only [Act.put, List.setIfInBounds_toArray, List.set_cons_zero, List.set_cons_succ]
  refine wpAnyE_tk (i := 33) (d := some 63) (v := ?_) rfl (by kernel_rfl) (by kernel_rfl) (by kernel_rfl) rfl (fun _ _ _ h => h) rfl rfl ?hy (by assumption) ?_
  case hy => (intro w' hSw; (try dsimp only at hSw); go_simp <;> (first | with_reducible rfl | omega))
  simp only [Act.put, List.setIfInBounds_toArray, List.set_cons_zero, List.set_cons_succ]
  refine wpAnyE_tk (i := 34) (d := some 64) (v := .int .i8 (sc : Int)) rfl (by kernel_rfl) (by kernel_rfl) (by kernel_rfl) rfl (fun _ _ _ h => h) rfl rfl ?hy (by assumption) ?_
  case hy => (intro w' hSw; (try dsimp only at hSw); go_simp <;> (first | with_reducible rfl | omega))
  simp only [Act.put, List.setIfInBounds_toArray, List.set_cons_zero, List.set_cons_succ]
  refine wpAnyE_tk (i := 35) (d := some 65) (v := .int .i16 (sc : Int)) rfl (by kernel_rfl) (by kernel_rfl) (by kernel_rfl) rfl (fun _ _ _ h => h) rfl rfl ?hy (by assumption) ?_
  case hy => (intro w' hSw; (try dsimp only at hSw); go_simp <;> (first | with_reducible rfl | omega))
  simp only [Act.put, List.setIfInBounds_toArray, List.set_cons_zero, List.set_cons_succ]
  refine wpAnyE_tk (i := 39) (d := some 69) (v := ?_) rfl (by kernel_rfl) (by kernel_rfl) (by kernel_rfl) rfl (fun _ _ _ h => h) rfl rfl ?hy (by assumption) ?_
  case hy => (intro w' hSw; (try dsimp only at hSw); go_simp <;> (first | with_reducible rfl | omega))
  simp only [Act.put, List.setIfInBounds_toArray, List.set_cons_zero, List.set_cons_succ]
  refine wpAnyE_tk (i := 41) (d := some 71) (v := ?_) rfl (by kernel_rfl) (by kernel_rfl) (by kernel_rfl) rfl (fun _ _ _ h => h) rfl rfl ?hy (by assumption) ?_
  case hy => (intro w' hSw; (try dsimp only at hSw); go_simp <;> (first | with_reducible rfl | omega))
  simp only [Act.put, List.setIfInBounds_toArray, List.set_cons_zero, List.set_cons_succ]
  refine wpAnyE_tk (i := 42) (d := some 72) (v := .int .i16 (zh : Int)) rfl (by kernel_rfl) (by kernel_rfl) (by kernel_rfl) rfl (fun _ _ _ h => h) rfl rfl ?hy (by assumption) ?_
  case hy => (intro w' hSw; (try dsimp only at hSw); go_simp <;> (first | with_reducible rfl | omega))
  simp only [Act.put, List.setIfInBounds_toArray, List.set_cons_zero, List.set_cons_succ]
  refine wpAnyE_tk (i := 45) (d := some 75) (v := ?_) rfl (by kernel_rfl) (by kernel_rfl) (by kernel_rfl) rfl (fun _ _ _ h => h) rfl rfl ?hy (by assumption) ?_
  case hy => (intro w' hSw; (try dsimp only at hSw); go_simp <;> (first | with_reducible rfl | omega))
  simp only [Act.put, List.setIfInBounds_toArray, List.set_cons_zero, List.set_cons_succ]
  refine wpAnyE_tk (i := 46) (d := some 76) (v := .int .i16 (zm : Int)) rfl (by kernel_rfl) (by kernel_rfl) (by kernel_rfl) rfl (fun _ _ _ h => h) rfl rfl ?hy (by assumption) ?_
  case hy => (intro w' hSw; (try dsimp only at hSw); go_simp <;> (first | with_reducible rfl | omega))
  simp only [Act.put, List.setIfInBounds_toArray, List.set_cons_zero, List.set_cons_succ]
  refine wpAnyE_tk (i := 49) (d := some 79) (v := ?_) rfl (by kernel_rfl) (by kernel_rfl) (by kernel_rfl) rfl (fun _ _ _ h => h) rfl rfl ?hy (by assumption) ?_
  case hy => (intro w' hSw; (try dsimp only at hSw); go_simp <;> (first | with_reducible rfl | omega))
  simp only [Act.put, List.setIfInBounds_toArray, List.set_cons_zero, List.set_cons_succ]
  refine wpAnyE_on (i := 1) (by kernel_rfl) rfl rfl ?_
  go_simp
  refine Calls.mono (HWD.out _) ?_
  rintro e wq ⟨rfl, rfl⟩
  refine ⟨HSV.out _ (below_drew1 _), ?_⟩
  refine wpAnyE_on (i := 2) (by kernel_rfl) rfl rfl ?_
  go_simp
  refine Calls.mono (HN1.out _) ?_
  rintro e wq ⟨rfl, rfl⟩
  refine ⟨HSV.out _ (below_drew1 _), ?_⟩
  have K0 : Hid (Below v.heap.size v v.drew) := below_drew1 v
  refine wpAnyE_tk (i := 3) (d := some 33) (v := .string (A1 ++ ⟨#[44, 32]⟩)) rfl (by kernel_rfl) (by kernel_rfl) (by kernel_rfl) rfl (fun _ _ _ h => h) rfl rfl ?hy (by assumption) ?_
  case hy => (intro w' hSw; (try dsimp only at hSw); go_simp <;> (first | with_reducible rfl | omega))
  simp only [Act.put, List.setIfInBounds_toArray, List.set_cons_zero, List.set_cons_succ]
  refine wpAnyE_on (i := 7) (by kernel_rfl) rfl rfl ?_
  go_simp
  refine Calls.mono (HP1.out _ (HPV.out.below K0.out)) ?_
  rintro e v1 ⟨rfl, hb⟩
  have K1 : Hid (Below v.heap.size v v1) := K0.out.trans (hb.mono K0.out.size)
  clear hb hHeld
  have hHeld := HSV.out _ K1.out
  refine ⟨hHeld, ?_⟩
  refine wpAnyE_tk (i := 8) (d := some 38) (v := .string (A1 ++ ⟨#[44, 32]⟩ ++ P1)) rfl (by kernel_rfl) (by kernel_rfl) (by kernel_rfl) rfl (fun _ _ _ h => h) rfl rfl ?hy (by assumption) ?_
  case hy => (intro w' hSw; (try dsimp only at hSw); go_simp <;> (first | with_reducible rfl | omega))
  simp only [Act.put, List.setIfInBounds_toArray, List.set_cons_zero, List.set_cons_succ]
  refine wpAnyE_tk (i := 9) (d := some 39) (v := .string (A1 ++ ⟨#[44, 32]⟩ ++ P1 ++ ⟨#[32]⟩)) rfl (by kernel_rfl) (by kernel_rfl) (by kernel_rfl) rfl (fun _ _ _ h => h) rfl rfl ?hy (by assumption) ?_
  case hy => (intro w' hSw; (try dsimp only at hSw); go_simp <;> (first | with_reducible rfl | omega))
  simp only [Act.put, List.setIfInBounds_toArray, List.set_cons_zero, List.set_cons_succ]
  refine wpAnyE_on (i := 13) (by kernel_rfl) rfl rfl ?_
  go_simp
  refine Calls.mono (HN2.out _) ?_
  rintro e wq ⟨rfl, rfl⟩
  refine ⟨hHeld, ?_⟩
  refine wpAnyE_tk (i := 14) (d := some 44) (v := .string (A1 ++ ⟨#[44, 32]⟩ ++ P1 ++ ⟨#[32]⟩ ++ A2)) rfl (by kernel_rfl) (by kernel_rfl) (by kernel_rfl) rfl (fun _ _ _ h => h) rfl rfl ?hy (by assumption) ?_
  case hy => (intro w' hSw; (try dsimp only at hSw); go_simp <;> (first | with_reducible rfl | omega))
  simp only [Act.put, List.setIfInBounds_toArray, List.set_cons_zero, List.set_cons_succ]
  refine wpAnyE_tk (i := 15) (d := some 45) (v := .string (A1 ++ ⟨#[44, 32]⟩ ++ P1 ++ ⟨#[32]⟩ ++ A2 ++ ⟨#[32]⟩)) rfl (by kernel_rfl) (by kernel_rfl) (by kernel_rfl) rfl (fun _ _ _ h => h) rfl rfl ?hy (by assumption) ?_
  case hy => (intro w' hSw; (try dsimp only at hSw); go_simp <;> (first | with_reducible rfl | omega))
  simp only [Act.put, List.setIfInBounds_toArray, List.set_cons_zero, List.set_cons_succ]
  refine wpAnyE_on (i := 18) (by kernel_rfl) rfl rfl ?_
  go_simp
  refine Calls.mono (HP2.out _ (HPV.out.below K1.out)) ?_
  rintro e v2 ⟨rfl, hb⟩
  have K2 : Hid (Below v.heap.size v v2) := K1.out.trans (hb.mono K1.out.size)
  clear hb hHeld
  have hHeld := HSV.out _ K2.out
  refine ⟨hHeld, ?_⟩
  refine wpAnyE_tk (i := 19) (d := some 49) (v := .string (A1 ++ ⟨#[44, 32]⟩ ++ P1 ++ ⟨#[32]⟩ ++ A2 ++ ⟨#[32]⟩ ++ P2)) rfl (by kernel_rfl) (by kernel_rfl) (by kernel_rfl) rfl (fun _ _ _ h => h) rfl rfl ?hy (by assumption) ?_
  case hy => (intro w' hSw; (try dsimp only at hSw); go_simp <;> (first | with_reducible rfl | omega))
  simp only [Act.put, List.setIfInBounds_toArray, List.set_cons_zero, List.set_cons_succ]
  refine wpAnyE_tk (i := 20) (d := some 50) (v := .string (A1 ++ ⟨#[44, 32]⟩ ++ P1 ++ ⟨#[32]⟩ ++ A2 ++ ⟨#[32]⟩ ++ P2 ++ ⟨#[32]⟩)) rfl (by kernel_rfl) (by kernel_rfl) (by kernel_rfl) rfl (fun _ _ _ h => h) rfl rfl ?hy (by assumption) ?_
  case hy => (intro w' hSw; (try dsimp only at hSw); go_simp <;> (first | with_reducible rfl | omega))
  simp only [Act.put, List.setIfInBounds_toArray, List.set_cons_zero, List.set_cons_succ]
  refine wpAnyE_on (i := 24) (by kernel_rfl) rfl rfl ?_
  go_simp
  refine Calls.mono (HP3.out _ (HPV.out.below K2.out)) ?_
  rintro e v3 ⟨rfl, hb⟩
  have K3 : Hid (Below v.heap.size v v3) := K2.out.trans (hb.mono K2.out.size)
  clear hb hHeld
  have hHeld := HSV.out _ K3.out
  refine ⟨hHeld, ?_⟩
  refine wpAnyE_tk (i := 25) (d := some 55) (v := .string (A1 ++ ⟨#[44, 32]⟩ ++ P1 ++ ⟨#[32]⟩ ++ A2 ++ ⟨#[32]⟩ ++ P2 ++ ⟨#[32]⟩ ++ P3)) rfl (by kernel_rfl) (by kernel_rfl) (by kernel_rfl) rfl (fun _ _ _ h => h) rfl rfl ?hy (by assumption) ?_
  case hy => (intro w' hSw; (try dsimp only at hSw); go_simp <;> (first | with_reducible rfl | omega))
  simp only [Act.put, List.setIfInBounds_toArray, List.set_cons_zero, List.set_cons_succ]
  refine wpAnyE_tk (i := 26) (d := some 56) (v := .string (A1 ++ ⟨#[44, 32]⟩ ++ P1 ++ ⟨#[32]⟩ ++ A2 ++ ⟨#[32]⟩ ++ P2 ++ ⟨#[32]⟩ ++ P3 ++ ⟨#[58]⟩)) rfl (by kernel_rfl) (by kernel_rfl) (by kernel_rfl) rfl (fun _ _ _ h => h) rfl rfl ?hy (by assumption) ?_
  case hy => (intro w' hSw; (try dsimp only at hSw); go_simp <;> (first | with_reducible rfl | omega))
  simp only [Act.put, List.setIfInBounds_toArray, List.set_cons_zero, List.set_cons_succ]
  refine wpAnyE_on (i := 30) (by kernel_rfl) rfl rfl ?_
  go_simp
  refine Calls.mono (HP4.out _ (HPV.out.below K3.out)) ?_
  rintro e v4 ⟨rfl, hb⟩
  have K4 : Hid (Below v.heap.size v v4) := K3.out.trans (hb.mono K3.out.size)
  clear hb hHeld
  have hHeld := HSV.out _ K4.out
  refine ⟨hHeld, ?_⟩
  refine wpAnyE_tk (i := 31) (d := some 61) (v := .string (A1 ++ ⟨#[44, 32]⟩ ++ P1 ++ ⟨#[32]⟩ ++ A2 ++ ⟨#[32]⟩ ++ P2 ++ ⟨#[32]⟩ ++ P3 ++ ⟨#[58]⟩ ++ P4)) rfl (by kernel_rfl) (by kernel_rfl) (by kernel_rfl) rfl (fun _ _ _ h => h) rfl rfl ?hy (by assumption) ?_
  case hy => (intro w' hSw; (try dsimp only at hSw); go_simp <;> (first | with_reducible rfl | omega))
  simp only [Act.put, List.setIfInBounds_toArray, List.set_cons_zero, List.set_cons_succ]
  refine wpAnyE_tk (i := 32) (d := some 62) (v := .string (A1 ++ ⟨#[44, 32]⟩ ++ P1 ++ ⟨#[32]⟩ ++ A2 ++ ⟨#[32]⟩ ++ P2 ++ ⟨#[32]⟩ ++ P3 ++ ⟨#[58]⟩ ++ P4 ++ ⟨#[58]⟩)) rfl (by kernel_rfl) (by kernel_rfl) (by kernel_rfl) rfl (fun _ _ _ h => h) rfl rfl ?hy (by assumption) ?_
  case hy => (intro w' hSw; (try dsimp only at hSw); go_simp <;> (first | with_reducible rfl | omega))
  simp only [Act.put, List.setIfInBounds_toArray, List.set_cons_zero, List.set_cons_succ]
  refine wpAnyE_on (i := 36) (by kernel_rfl) rfl rfl ?_
  go_simp
  refine Calls.mono (HP5.out _ (HPV.out.below K4.out)) ?_
  rintro e v5 ⟨rfl, hb⟩
  have K5 : Hid (Below v.heap.size v v5) := K4.out.trans (hb.mono K4.out.size)
  clear hb hHeld
  have hHeld := HSV.out _ K5.out
  refine ⟨hHeld, ?_⟩
  refine wpAnyE_tk (i := 37) (d := some 67) (v := .string (A1 ++ ⟨#[44, 32]⟩ ++ P1 ++ ⟨#[32]⟩ ++ A2 ++ ⟨#[32]⟩ ++ P2 ++ ⟨#[32]⟩ ++ P3 ++ ⟨#[58]⟩ ++ P4 ++ ⟨#[58]⟩ ++ P5)) rfl (by kernel_rfl) (by kernel_rfl) (by kernel_rfl) rfl (fun _ _ _ h => h) rfl rfl ?hy (by assumption) ?_
  case hy => (intro w' hSw; (try dsimp only at hSw); go_simp <;> (first | with_reducible rfl | omega))
  simp only [Act.put, List.setIfInBounds_toArray, List.set_cons_zero, List.set_cons_succ]
  refine wpAnyE_tk (i := 38) (d := some 68) (v := .string (A1 ++ ⟨#[44, 32]⟩ ++ P1 ++ ⟨#[32]⟩ ++ A2 ++ ⟨#[32]⟩ ++ P2 ++ ⟨#[32]⟩ ++ P3 ++ ⟨#[58]⟩ ++ P4 ++ ⟨#[58]⟩ ++ P5 ++ ⟨#[32]⟩)) rfl (by kernel_rfl) (by kernel_rfl) (by kernel_rfl) rfl (fun _ _ _ h => h) rfl rfl ?hy (by assumption) ?_
  case hy => (intro w' hSw; (try dsimp only at hSw); go_simp <;> (first | with_reducible rfl | omega))
  simp only [Act.put, List.setIfInBounds_toArray, List.set_cons_zero, List.set_cons_succ]
  refine wpAnyE_tk (i := 40) (d := some 70) (v := .string (A1 ++ ⟨#[44, 32]⟩ ++ P1 ++ ⟨#[32]⟩ ++ A2 ++ ⟨#[32]⟩ ++ P2 ++ ⟨#[32]⟩ ++ P3 ++ ⟨#[58]⟩ ++ P4 ++ ⟨#[58]⟩ ++ P5 ++ ⟨#[32]⟩ ++ ⟨#[45]⟩)) rfl (by kernel_rfl) (by kernel_rfl) (by kernel_rfl) rfl (fun _ _ _ h => h) rfl rfl ?hy (by assumption) ?_
  case hy => (intro w' hSw; (try dsimp only at hSw); go_simp <;> (first | with_reducible rfl | omega))
  simp only [Act.put, List.setIfInBounds_toArray, List.set_cons_zero, List.set_cons_succ]
  refine wpAnyE_on (i := 43) (by kernel_rfl) rfl rfl ?_
  go_simp
  refine Calls.mono (HP6.out _ (HPV.out.below K5.out)) ?_
  rintro e v6 ⟨rfl, hb⟩
  have K6 : Hid (Below v.heap.size v v6) := K5.out.trans (hb.mono K5.out.size)
  clear hb hHeld
  have hHeld := HSV.out _ K6.out
  refine ⟨hHeld, ?_⟩
  refine wpAnyE_tk (i := 44) (d := some 74) (v := .string (A1 ++ ⟨#[44, 32]⟩ ++ P1 ++ ⟨#[32]⟩ ++ A2 ++ ⟨#[32]⟩ ++ P2 ++ ⟨#[32]⟩ ++ P3 ++ ⟨#[58]⟩ ++ P4 ++ ⟨#[58]⟩ ++ P5 ++ ⟨#[32]⟩ ++ ⟨#[45]⟩ ++ P6)) rfl (by kernel_rfl) (by kernel_rfl) (by kernel_rfl) rfl (fun _ _ _ h => h) rfl rfl ?hy (by assumption) ?_
  case hy => (intro w' hSw; (try dsimp only at hSw); go_simp <;> (first | with_reducible rfl | omega))
  simp only [Act.put, List.setIfInBounds_toArray, List.set_cons_zero, List.set_cons_succ]
  refine wpAnyE_on (i := 47) (by kernel_rfl) rfl rfl ?_
  go_simp
  refine Calls.mono (HP7.out _ (HPV.out.below K6.out)) ?_
  rintro e v7 ⟨rfl, hb⟩
  have K7 : Hid (Below v.heap.size v v7) := K6.out.trans (hb.mono K6.out.size)
  clear hb hHeld
  have hHeld := HSV.out _ K7.out
  refine ⟨hHeld, ?_⟩
  refine wpAnyE_tk (i := 48) (d := some 78) (v := .string (A1 ++ ⟨#[44, 32]⟩ ++ P1 ++ ⟨#[32]⟩ ++ A2 ++ ⟨#[32]⟩ ++ P2 ++ ⟨#[32]⟩ ++ P3 ++ ⟨#[58]⟩ ++ P4 ++ ⟨#[58]⟩ ++ P5 ++ ⟨#[32]⟩ ++ ⟨#[45]⟩ ++ P6 ++ P7)) rfl (by kernel_rfl) (by kernel_rfl) (by kernel_rfl) rfl (fun _ _ _ h => h) rfl rfl ?hy (by assumption) ?_
  case hy => (intro w' hSw; (try dsimp only at hSw); go_simp <;> (first | with_reducible rfl | omega))
  simp only [Act.put, List.setIfInBounds_toArray, List.set_cons_zero, List.set_cons_succ]
  refine wpAnyE_tk (i := 50) (d := some 2) (v := .string (A1 ++ ⟨#[44, 32]⟩ ++ P1 ++ ⟨#[32]⟩ ++ A2 ++ ⟨#[32]⟩ ++ P2 ++ ⟨#[32]⟩ ++ P3 ++ ⟨#[58]⟩ ++ P4 ++ ⟨#[58]⟩ ++ P5 ++ ⟨#[32]⟩ ++ ⟨#[45]⟩ ++ P6 ++ P7)) rfl (by kernel_rfl) (by kernel_rfl) (by kernel_rfl) rfl (fun _ _ _ h => h) rfl rfl ?hy (by assumption) ?_
  case hy => (intro w' hSw; (try dsimp only at hSw); go_simp <;> (first | with_reducible rfl | omega))
  simp only [Act.put, List.setIfInBounds_toArray, List.set_cons_zero, List.set_cons_succ]
  refine wpAnyE_tk (i := 51) (d := some 3) (v := .int .i64 0) rfl (by kernel_rfl) (by kernel_rfl) (by kernel_rfl) rfl (fun _ _ _ h => h) rfl rfl ?hy (by assumption) ?_
  case hy => (intro w' hSw; (try dsimp only at hSw); go_simp <;> (first | with_reducible rfl | omega))
  simp only [Act.put, List.setIfInBounds_toArray, List.set_cons_zero, List.set_cons_succ]
  refine wpAnyE_done (by kernel_rfl) ?_ _
  clear hHeld
  go_wp2
  go_ret2
  exact ⟨congrArg (fun x => Ending.returned (Value.tuple #[Value.string x, Value.int .i64 0])) HFIN.out, HBV.out.trans (K7.out.mono HBV.out.size)⟩
end Go.Proofs.YtedfnebadenmdabDoor
