/-
  The contract of the program's judge.
-/
import Derived.Test.YtedfnebadenmdabDoorCald
import Derived.Test.YtedfnebadenmdabDoorPar
namespace Go.Proofs.YtedfnebadenmdabDoor
open Go.RowKit

/-- What Parse and judge answer, as the program has it. -/
def ansV (a : Ans) : Value := .tuple #[dtV a.d, .agg #[.int .i64 a.e, .int .i64 a.p]]
theorem chk_day {x : Dt} (h : chk x ≠ 60) : IsDay x.y x.mo x.d := by
  unfold chk at h
  by_cases c : IsDay x.y x.mo x.d ∧ 0 ≤ x.h ∧ x.h ≤ 23 ∧ 0 ≤ x.mi ∧ x.mi ≤ 59 ∧ 0 ≤ x.s ∧ x.s ≤ 59
  · exact c.1
  · rw [if_neg c] at h
    exact absurd rfl h
theorem infoDt : (Tryd.prog.info? 34).map (·.size) = some 7 := by kernel_rfl
theorem infoSp : (Tryd.prog.info? 49).map (·.size) = some 2 := by kernel_rfl
theorem results_two {P : Program} {fn : Func} {p q : Tmp} {ty tz : TypeId} (h : fn.results = #[.cell p ty, .cell q tz]) (tmps : Array Value) (w : World) (g1 g2 : Nat) (t1 t2 : TypeId) (cs ds : Array Value) (f1 f2 : Nat × Nat) (d1 d2 : TypeDesc)
    (hp : tmps.getD p undef = .pointer (some ⟨g1, 0, none⟩)) (hq : tmps.getD q undef = .pointer (some ⟨g2, 0, none⟩)) (hg1 : w.heap[g1]? = some (.cells cs t1 f1)) (hg2 : w.heap[g2]? = some (.cells ds t2 f2))
    (hu1 : P.underlying ty = some d1) (hd1 : (match d1 with | .struct _ | .array _ _ => true | _ => false) = true) (hi1 : (P.info? ty).map (·.size) = some cs.size)
    (hu2 : P.underlying tz = some d2) (hd2 : (match d2 with | .struct _ | .array _ _ => true | _ => false) = true) (hi2 : (P.info? tz).map (·.size) = some ds.size) :
    (results fn tmps).run P w = .ok (.tuple #[.agg cs, .agg ds]) w := by
  have hp' : tmps[p]?.getD undef = .pointer (some ⟨g1, 0, none⟩) := by simpa using hp
  have hq' : tmps[q]?.getD undef = .pointer (some ⟨g2, 0, none⟩) := by simpa using hq
  simp [results, h, hp', hq', asAddr, run_loadVar_row w g1 t1 ty cs f1 d1 hg1 hu1 hd1 hi1, run_loadVar_row w g2 t2 tz ds f2 d2 hg2 hu2 hd2 hi2]
/-- A date and a spot laid into their blocks, cell by cell. -/
def twoW (w : World) (G H : Nat) (x : Dt) (e p : Int) : World := (((((((((w.setCell ⟨G, 0, none⟩ (.int .i16 x.y)).setCell ⟨G, 1, none⟩ (.int .i8 x.mo)).setCell ⟨G, 2, none⟩ (.int .i8 x.d)).setCell ⟨G, 3, none⟩ (.int .i8 x.h)).setCell ⟨G, 4, none⟩ (.int .i8 x.mi)).setCell ⟨G, 5, none⟩ (.int .i8 x.s)).setCell ⟨G, 6, none⟩ (.int .i16 x.z)).setCell ⟨H, 0, none⟩ (.int .i64 e)).setCell ⟨H, 1, none⟩ (.int .i64 p))
theorem two_set {w : World} {G H : Nat} {x0 : Dt} {a b : Int} (L1 : Lies w G (dtC x0) 34) (L2 : Lies w H #[.int .i64 a, .int .i64 b] 49) (hne : G ≠ H) (x : Dt) (e p : Int) : Lies (twoW w G H x e p) G (dtC x) 34 ∧ Lies (twoW w G H x e p) H #[.int .i64 e, .int .i64 p] 49 ∧ ∀ A w0, Below A w0 w → A ≤ G → A ≤ H → Below A w0 (twoW w G H x e p) := by
  have e1 : ((((((((dtC x0).setIfInBounds 0 (.int .i16 x.y)).setIfInBounds 1 (.int .i8 x.mo)).setIfInBounds 2 (.int .i8 x.d)).setIfInBounds 3 (.int .i8 x.h)).setIfInBounds 4 (.int .i8 x.mi)).setIfInBounds 5 (.int .i8 x.s)).setIfInBounds 6 (.int .i16 x.z)) = dtC x := by simp [dtC]
  have e2 : (((#[Value.int .i64 a, .int .i64 b] : Array Value).setIfInBounds 0 (.int .i64 e)).setIfInBounds 1 (.int .i64 p)) = #[.int .i64 e, .int .i64 p] := by simp
  have h1 := (((((((((L1.set 0 (.int .i16 x.y)).set 1 (.int .i8 x.mo)).set 2 (.int .i8 x.d)).set 3 (.int .i8 x.h)).set 4 (.int .i8 x.mi)).set 5 (.int .i8 x.s)).set 6 (.int .i16 x.z)).set_other (a := ⟨H, 0, none⟩) hne (.int .i64 e)).set_other (a := ⟨H, 1, none⟩) hne (.int .i64 p))
  have h2 := (((((((((L2.set_other (a := ⟨G, 0, none⟩) (Ne.symm hne) (.int .i16 x.y)).set_other (a := ⟨G, 1, none⟩) (Ne.symm hne) (.int .i8 x.mo)).set_other (a := ⟨G, 2, none⟩) (Ne.symm hne) (.int .i8 x.d)).set_other (a := ⟨G, 3, none⟩) (Ne.symm hne) (.int .i8 x.h)).set_other (a := ⟨G, 4, none⟩) (Ne.symm hne) (.int .i8 x.mi)).set_other (a := ⟨G, 5, none⟩) (Ne.symm hne) (.int .i8 x.s)).set_other (a := ⟨G, 6, none⟩) (Ne.symm hne) (.int .i16 x.z)).set 0 (.int .i64 e)).set 1 (.int .i64 p))
  rw [e1] at h1
  rw [e2] at h2
  exact ⟨h1, h2, fun A w0 hb hG hH => (((((((((hb.setCell (p := ⟨G, 0, none⟩) hG _).setCell (p := ⟨G, 1, none⟩) hG _).setCell (p := ⟨G, 2, none⟩) hG _).setCell (p := ⟨G, 3, none⟩) hG _).setCell (p := ⟨G, 4, none⟩) hG _).setCell (p := ⟨G, 5, none⟩) hG _).setCell (p := ⟨G, 6, none⟩) hG _).setCell (p := ⟨H, 0, none⟩) hH _).setCell (p := ⟨H, 1, none⟩) hH _)⟩
theorem ret_two {fn : Func} {p q : Tmp} (h : fn.results = #[.cell p 34, .cell q 49]) {R : Ending → World → Prop} {tmps : Array Value} {w : World} (G H : Nat) (x : Dt) (e s : Int) (hp : tmps.getD p undef = .pointer (some ⟨G, 0, none⟩)) (hq : tmps.getD q undef = .pointer (some ⟨H, 0, none⟩))
    (L1 : Lies w G (dtC x) 34) (L2 : Lies w H #[.int .i64 e, .int .i64 s] 49) (hR : R (.returned (ansV ⟨x, e, s⟩)) w) : bodyPost Tryd.prog fn R .ret { tmps := tmps, defers := [] } w :=
  bodyPost_ret (results_two h tmps w G H 34 49 (dtC x) #[.int .i64 e, .int .i64 s] (0, 0) (0, 0) _ _ hp hq L1 L2 Tryd.underlying34 rfl infoDt Tryd.underlying49 rfl infoSp) rfl hR
set_option maxHeartbeats 2000000 in
theorem judge_any (x : Dt) (wd da za : Int) (w : World) (ht : Ahd w) (hx : x.In) :
    Calls Tryd.prog 34 #[dtV x, .int .i8 wd, .int .i64 da, .int .i64 za] w fun e w' => e = .returned (ansV (judge x wd da za)) ∧ Below w.heap.size w w' := by
  have HT : Hid (Ahd w) := ht
  have HX : Hid x.In := hx
  have HB : Hid (Below w.heap.size w (((w.alloc (.cells (dtC x) 34)).alloc (.cells (dtC ⟨0, 0, 0, 0, 0, 0, 0⟩) 34)).alloc (.cells #[.int .i64 0, .int .i64 0] 49))) := (((Below.refl _ _).alloc (Nat.le_refl _) _).alloc (by simp) _).alloc (by simp; omega) _
  have HL0 : Hid (Lies (((w.alloc (.cells (dtC x) 34)).alloc (.cells (dtC ⟨0, 0, 0, 0, 0, 0, 0⟩) 34)).alloc (.cells #[.int .i64 0, .int .i64 0] 49)) w.heap.size (dtC x) 34) := ((Lies.new w _ _).alloc _).alloc _
  have HL1 : Hid (Lies (((w.alloc (.cells (dtC x) 34)).alloc (.cells (dtC ⟨0, 0, 0, 0, 0, 0, 0⟩) 34)).alloc (.cells #[.int .i64 0, .int .i64 0] 49)) (w.heap.size + 1) (dtC ⟨0, 0, 0, 0, 0, 0, 0⟩) 34) := (new_one w _ _ _).alloc _
  have HL2 : Hid (Lies (((w.alloc (.cells (dtC x) 34)).alloc (.cells (dtC ⟨0, 0, 0, 0, 0, 0, 0⟩) 34)).alloc (.cells #[.int .i64 0, .int .i64 0] 49)) (w.heap.size + 2) #[.int .i64 0, .int .i64 0] 49) := new_two w _ _ _ _
  have HC : Hid (∀ w, Ahd w → Calls Tryd.prog 21 #[dtV x] w fun e w' => e = .returned (.int .i64 (chk x)) ∧ Below w.heap.size w w') := fun w h => check_any x w h HX.out
  have HD : Hid (∀ w, Ahd w → Calls Tryd.prog 22 #[.int .i16 x.y, .int .i8 x.mo, .int .i8 x.d] w fun e w' => e = .returned (.tuple #[.int .i64 (if IsDay x.y x.mo x.d then numD x.y x.mo x.d else 0), .int .i64 (if IsDay x.y x.mo x.d then 0 else 60)]) ∧ w' = w) := fun w h => days_any _ _ _ w h HX.out.y0 HX.out.y1 HX.out.mo0 HX.out.mo1 HX.out.d0 HX.out.d1
  have HT1 := HT.out.below HB.out
  unfold dtC at HB HL0 HL1 HL2 HT1
  unfold dtV at HC
  have HT1 : Hid _ := HT1
  clear ht hx
  unfold dtV
  generalize hif : (if IsDay x.y x.mo x.d then (0 : Int) else 60) = ED at HD
  generalize hin : (if IsDay x.y x.mo x.d then numD x.y x.mo x.d else 0) = ND at HD
  have HIN : Hid ((if IsDay x.y x.mo x.d then numD x.y x.mo x.d else 0) = ND) := hin
  clear hif hin
  go_enter Tryd.func34, Tryd.ntmps34
  go_wp2_with fail
  refine (HD.out _ HT1.out).mono ?_
  rintro e w1 ⟨rfl, rfl⟩
  go_wp2_with fail
  refine (HC.out _ HT1.out).mono ?_
  rintro e w1 ⟨rfl, hb1⟩
  have l0 := HL0.out.below hb1 HL0.out.lt
  have l1 := HL1.out.below hb1 HL1.out.lt
  have l2 := HL2.out.below hb1 HL2.out.lt
  have HB1 : Hid (Below w.heap.size w w1) := HB.out.trans (hb1.mono HB.out.size)
  clear hb1 HL0 HL1 HL2 HB HT1 HD HC HT
  obtain ⟨B, hB⟩ : ∃ B, B = w.heap.size := ⟨_, rfl⟩
  have HBB : Hid (B = w.heap.size) := hB
  rw [← hB] at l0 l1 l2 ⊢
  clear hB
  have L0 : Hid (Lies w1 B #[.int .i16 x.y, .int .i8 x.mo, .int .i8 x.d, .int .i8 x.h, .int .i8 x.mi, .int .i8 x.s, .int .i16 x.z] 34) := l0
  have L1 : Hid (Lies w1 (B + 1) #[.int .i16 0, .int .i8 0, .int .i8 0, .int .i8 0, .int .i8 0, .int .i8 0, .int .i16 0] 34) := l1
  have L2 : Hid (Lies w1 (B + 1 + 1) #[.int .i64 0, .int .i64 0] 49) := l2
  clear l0 l1 l2
  have y0 := L1.out.cell 0
  have z0 := L1.out.frozen 0
  have y1 := L1.out.cell 1
  have z1 := L1.out.frozen 1
  have y2 := L1.out.cell 2
  have z2 := L1.out.frozen 2
  have y3 := L1.out.cell 3
  have z3 := L1.out.frozen 3
  have y4 := L1.out.cell 4
  have z4 := L1.out.frozen 4
  have y5 := L1.out.cell 5
  have z5 := L1.out.frozen 5
  have y6 := L1.out.cell 6
  have z6 := L1.out.frozen 6
  have u0 := L2.out.cell 0
  have v0 := L2.out.frozen 0
  have u1 := L2.out.cell 1
  have v1 := L2.out.frozen 1
  have x0 := L0.out.cell 0
  have x1 := L0.out.cell 1
  have x2 := L0.out.cell 2
  have x3 := L0.out.cell 3
  have x4 := L0.out.cell 4
  have x5 := L0.out.cell 5
  have x6 := L0.out.cell 6
  simp at y0 y1 y2 y3 y4 y5 y6 u0 u1 x0 x1 x2 x3 x4 x5 x6
  by_cases c60 : chk x = 60
  · have HJ : Hid (judge x wd da za = ⟨zeroD, 60, da⟩) := by show _ = _; unfold judge; rw [if_pos (.inl c60)]
    go_wp2_with (go_at_call 9; refine (wday_any _ _).mono ?_; rintro e w' ⟨rfl, rfl⟩)
    (try simp only [Exit.inBlock, Exit.then])
    obtain ⟨M1, M2, M3⟩ := two_set (x0 := ⟨0, 0, 0, 0, 0, 0, 0⟩) L1.out L2.out (by omega) ⟨0, 0, 0, 0, 0, 0, 0⟩ 60 da
    refine ret_two rfl (B + 1) (B + 1 + 1) ⟨0, 0, 0, 0, 0, 0, 0⟩ 60 da rfl rfl M1 M2 ⟨congrArg (fun a => Ending.returned (ansV a)) HJ.out.symm, M3 _ _ HB1.out (by rw [HBB.out]; omega) (by rw [HBB.out]; omega)⟩
  have c60' : (chk x == 60) = false := by simpa using c60
  have hday := chk_day c60
  have HN : Hid (numD x.y x.mo x.d = ND) := by
    have h := HIN.out
    rw [if_pos hday] at h
    exact h
  clear hday
  by_cases cw : 0 ≤ wd ∧ wd ≠ wdN ND
  · have HJ : Hid (judge x wd da za = ⟨zeroD, 60, da⟩) := by show _ = _; unfold judge; rw [HN.out, if_pos (.inr cw)]
    obtain ⟨cw1, cw2⟩ := cw
    have cw2' : (wd != wdN ND) = true := by simpa using cw2
    clear cw2 c60
    go_wp2_with (go_at_call 9; refine (wday_any _ _).mono ?_; rintro e w' ⟨rfl, rfl⟩)
    (try simp only [Exit.inBlock, Exit.then])
    obtain ⟨M1, M2, M3⟩ := two_set (x0 := ⟨0, 0, 0, 0, 0, 0, 0⟩) L1.out L2.out (by omega) ⟨0, 0, 0, 0, 0, 0, 0⟩ 60 da
    refine ret_two rfl (B + 1) (B + 1 + 1) ⟨0, 0, 0, 0, 0, 0, 0⟩ 60 da rfl rfl M1 M2 ⟨congrArg (fun a => Ending.returned (ansV a)) HJ.out.symm, M3 _ _ HB1.out (by rw [HBB.out]; omega) (by rw [HBB.out]; omega)⟩
  have hjn : ¬ (chk x = 60 ∨ (0 ≤ wd ∧ wd ≠ wdN (numD x.y x.mo x.d))) := by rw [HN.out]; omega
  by_cases cz : chk x = 0
  · have HJ : Hid (judge x wd da za = ⟨x, 0, 0⟩) := by show _ = _; unfold judge; rw [if_neg hjn, if_neg (by omega)]
    by_cases c0 : 0 ≤ wd
    · have cw2 : (wd != wdN ND) = false := by
        have : wd = wdN ND := by omega
        simpa using this
      clear cw c60 hjn
      go_wp2_with (go_at_call 9; refine (wday_any _ _).mono ?_; rintro e w' ⟨rfl, rfl⟩)
      (try simp only [Exit.inBlock, Exit.then])
      obtain ⟨M1, M2, M3⟩ := two_set (x0 := ⟨0, 0, 0, 0, 0, 0, 0⟩) L1.out L2.out (by omega) x 0 0
      refine ret_two rfl (B + 1) (B + 1 + 1) x 0 0 rfl rfl M1 M2 ⟨congrArg (fun a => Ending.returned (ansV a)) HJ.out.symm, M3 _ _ HB1.out (by rw [HBB.out]; omega) (by rw [HBB.out]; omega)⟩
    · clear cw c60 hjn
      go_wp2_with (go_at_call 9; refine (wday_any _ _).mono ?_; rintro e w' ⟨rfl, rfl⟩)
      (try simp only [Exit.inBlock, Exit.then])
      obtain ⟨M1, M2, M3⟩ := two_set (x0 := ⟨0, 0, 0, 0, 0, 0, 0⟩) L1.out L2.out (by omega) x 0 0
      refine ret_two rfl (B + 1) (B + 1 + 1) x 0 0 rfl rfl M1 M2 ⟨congrArg (fun a => Ending.returned (ansV a)) HJ.out.symm, M3 _ _ HB1.out (by rw [HBB.out]; omega) (by rw [HBB.out]; omega)⟩
  · have HJ : Hid (judge x wd da za = ⟨zeroD, chk x, za⟩) := by show _ = _; unfold judge; rw [if_neg hjn, if_pos cz]
    have cz' : (chk x != 0) = true := by simpa using cz
    by_cases c0 : 0 ≤ wd
    · have cw2 : (wd != wdN ND) = false := by
        have : wd = wdN ND := by omega
        simpa using this
      clear cw c60 cz hjn
      go_wp2_with (go_at_call 9; refine (wday_any _ _).mono ?_; rintro e w' ⟨rfl, rfl⟩)
      (try simp only [Exit.inBlock, Exit.then])
      obtain ⟨M1, M2, M3⟩ := two_set (x0 := ⟨0, 0, 0, 0, 0, 0, 0⟩) L1.out L2.out (by omega) ⟨0, 0, 0, 0, 0, 0, 0⟩ (chk x) za
      refine ret_two rfl (B + 1) (B + 1 + 1) ⟨0, 0, 0, 0, 0, 0, 0⟩ (chk x) za rfl rfl M1 M2 ⟨congrArg (fun a => Ending.returned (ansV a)) HJ.out.symm, M3 _ _ HB1.out (by rw [HBB.out]; omega) (by rw [HBB.out]; omega)⟩
    · clear cw c60 cz hjn
      go_wp2_with (go_at_call 9; refine (wday_any _ _).mono ?_; rintro e w' ⟨rfl, rfl⟩)
      (try simp only [Exit.inBlock, Exit.then])
      obtain ⟨M1, M2, M3⟩ := two_set (x0 := ⟨0, 0, 0, 0, 0, 0, 0⟩) L1.out L2.out (by omega) ⟨0, 0, 0, 0, 0, 0, 0⟩ (chk x) za
      refine ret_two rfl (B + 1) (B + 1 + 1) ⟨0, 0, 0, 0, 0, 0, 0⟩ (chk x) za rfl rfl M1 M2 ⟨congrArg (fun a => Ending.returned (ansV a)) HJ.out.symm, M3 _ _ HB1.out (by rw [HBB.out]; omega) (by rw [HBB.out]; omega)⟩
end Go.Proofs.YtedfnebadenmdabDoor
