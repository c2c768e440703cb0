/-
  The contract of the program's Parse: for every text it answers what the plain reading of the text says.
-/
import Derived.Test.YtedfnebadenmdabDoorRde
import Derived.Test.YtedfnebadenmdabDoorJdg
namespace Go.Proofs.YtedfnebadenmdabDoor
open Go.RowKit

theorem parse_bad {s : ByteArray} {e p : Int} {v : Int × Nat × Int × Unit × Int × Unit × Int × Unit × (Int × Int × Int) × Unit × Nat × Int × Unit} {k : Nat} (he : e ≠ 0) (h : Step s.size pAll (stOf s 0 0 0) (stOf s k e p) v) : parse s.data.toList = ⟨zeroD, e, p⟩ := by
  unfold stOf at h
  rw [if_pos rfl, if_neg he, List.drop_zero] at h
  rcases h with ⟨_, _, h1, _⟩ | ⟨_, _, _, _, _, h1, _⟩ | ⟨l, e', r, h1, h2, h3⟩
  · cases h1
  · cases h1
  · injection h1 with h1
    injection h3 with h3 h4
    subst h1 h3 h4
    unfold parse
    rw [h2]
    have : (s.data.toList.length : Int) = (s.size : Int) := by rw [Array.length_toList]; rfl
    simp only [this]
theorem parse_ok {s : ByteArray} {wd day mo y h mi sc z p : Int} {da za : Nat} {k : Nat} (hs : Step s.size pAll (stOf s 0 0 0) (stOf s k 0 p) (wd, da, day, (), mo, (), y, (), (h, mi, sc), (), za, z, ())) :
    parse s.data.toList = judge ⟨y, mo, day, h, mi, sc, z⟩ wd ((s.size : Int) - (da : Int)) ((s.size : Int) - (za : Int)) := by
  unfold stOf at hs
  rw [if_pos rfl, if_pos rfl, List.drop_zero] at hs
  rcases hs with ⟨_, _, h1, _⟩ | ⟨l, x, r, h1, h2, h3, h4⟩ | ⟨_, _, _, _, _, h1⟩
  · cases h1
  · injection h1 with h1
    subst h1 h4
    unfold parse
    rw [h2]
    have : (s.data.toList.length : Int) = (s.size : Int) := by rw [Array.length_toList]; rfl
    simp only [this]
  · cases h1
theorem here_at (s : ByteArray) (k : Nat) (hk : k ≤ s.size) : (s.size : Int) - ((s.data.toList.drop k).length : Int) = (k : Int) := by
  rw [List.length_drop, Array.length_toList]
  have : s.data.size = s.size := rfl
  omega
/-- What stands while a text is read. -/
structure Pv (w wk : World) (g : Nat) (s : ByteArray) (k : Nat) (e p : Int) : Prop where
  rd : Rd0 63 wk g s k e p
  l1 : Lies wk w.heap.size (dtC ⟨0, 0, 0, 0, 0, 0, 0⟩) 34
  l2 : Lies wk (w.heap.size + 1) #[.int .i64 0, .int .i64 0] 49
  bl : Below w.heap.size w wk
  tb : Tbl wk
  gg : g = w.heap.size + 1 + 1
theorem Pv.next {w wk w' : World} {g : Nat} {s : ByteArray} {k k' : Nat} {e p e' p' : Int} (h : Pv w wk g s k e p) (hb : But g wk w') (hr : Rd0 63 w' g s k' e' p') : Pv w w' g s k' e' p' :=
  ⟨hr, hb.lies h.l1 (by rw [h.gg]; omega), hb.lies h.l2 (by rw [h.gg]; omega), h.bl.trans (hb.below (by rw [h.gg]; omega) h.bl.size), h.tb.but h.rd.far hb, h.gg⟩
theorem Pv.alloc {w wk : World} {g : Nat} {s : ByteArray} {k : Nat} {e p : Int} (h : Pv w wk g s k e p) (o : Obj) : Pv w (wk.alloc o) g s k e p :=
  h.next (But.of_below ((Below.refl _ _).alloc (Nat.le_refl _) o)) (h.rd.below ((Below.refl _ _).alloc (Nat.le_refl _) o))
/-- A store into a block of another's. -/
theorem Pv.put {w wk : World} {g D : Nat} {s : ByteArray} {k : Nat} {e p : Int} (h : Pv w wk g s k e p) (hg : D ≠ g) (h1 : D ≠ w.heap.size) (h2 : D ≠ w.heap.size + 1) (hD : w.heap.size ≤ D) (i : Nat) (v : Value) (h3 : 2 < D) : Pv w (wk.setCell ⟨D, i, none⟩ v) g s k e p :=
  ⟨⟨h.rd.lies.set_other (a := ⟨D, i, none⟩) (Ne.symm hg) v, h.rd.le, h.rd.far⟩, h.l1.set_other (a := ⟨D, i, none⟩) (Ne.symm h1) v, h.l2.set_other (a := ⟨D, i, none⟩) (Ne.symm h2) v, h.bl.setCell (p := ⟨D, i, none⟩) hD v, h.tb.but (g := D) h3 ((But.refl D wk).set i v), h.gg⟩
/-- The date's block. -/
structure Dv (w wk : World) (g D : Nat) (x : Dt) : Prop where
  l : Lies wk D (dtC x) 34
  hg : D ≠ g
  h1 : D ≠ w.heap.size
  h2 : D ≠ w.heap.size + 1
  h3 : w.heap.size ≤ D
  h4 : 2 < D
theorem Dv.next {w wk w' : World} {g D : Nat} {x : Dt} (h : Dv w wk g D x) (hb : But g wk w') : Dv w w' g D x := ⟨hb.lies h.l h.hg, h.hg, h.h1, h.h2, h.h3, h.h4⟩
theorem Dv.new {w wk : World} {g : Nat} {s : ByteArray} {k : Nat} {e p : Int} (h : Pv w wk g s k e p) (x : Dt) : Dv w (wk.alloc (.cells (dtC x) 34)) g wk.heap.size x :=
  ⟨Lies.new wk _ _, Nat.ne_of_gt h.rd.lies.lt, Nat.ne_of_gt h.l1.lt, Nat.ne_of_gt h.l2.lt, Nat.le_of_lt h.l1.lt, h.tb.sz⟩

theorem Dv.h {w wk : World} {g D : Nat} {x : Dt} (k : Dv w wk g D x) (v : Int) : Dv w (wk.setCell ⟨D, 3, none⟩ (.int .i8 v)) g D { x with h := v } := ⟨k.l.set 3 _, k.hg, k.h1, k.h2, k.h3, k.h4⟩
theorem Dv.mi {w wk : World} {g D : Nat} {x : Dt} (k : Dv w wk g D x) (v : Int) : Dv w (wk.setCell ⟨D, 4, none⟩ (.int .i8 v)) g D { x with mi := v } := ⟨k.l.set 4 _, k.hg, k.h1, k.h2, k.h3, k.h4⟩
theorem Dv.s {w wk : World} {g D : Nat} {x : Dt} (k : Dv w wk g D x) (v : Int) : Dv w (wk.setCell ⟨D, 5, none⟩ (.int .i8 v)) g D { x with s := v } := ⟨k.l.set 5 _, k.hg, k.h1, k.h2, k.h3, k.h4⟩
theorem Dv.z {w wk : World} {g D : Nat} {x : Dt} (k : Dv w wk g D x) (v : Int) : Dv w (wk.setCell ⟨D, 6, none⟩ (.int .i16 v)) g D { x with z := v } := ⟨k.l.set 6 _, k.hg, k.h1, k.h2, k.h3, k.h4⟩

set_option maxHeartbeats 8000000 in
theorem parse_any (s : ByteArray) (w : World) (ht : Tbl w) (hs : s.size ≤ maxLen) :
    Calls Tryd.prog 16 #[.string s] w fun e w' => e = .returned (ansV (parse s.data.toList)) ∧ Below w.heap.size w w' := by
  have HS : Hid (s.size ≤ maxLen) := hs
  have HP0 : Hid (Pv w (((w.alloc (.cells (dtC ⟨0, 0, 0, 0, 0, 0, 0⟩) 34)).alloc (.cells #[.int .i64 0, .int .i64 0] 49)).alloc (.cells (rdC s 0 0 0) 63)) (w.heap.size + 1 + 1) s 0 0 0) := by
    have b : Below w.heap.size w (((w.alloc (.cells (dtC ⟨0, 0, 0, 0, 0, 0, 0⟩) 34)).alloc (.cells #[.int .i64 0, .int .i64 0] 49)).alloc (.cells (rdC s 0 0 0) 63)) := (((Below.refl _ _).alloc (Nat.le_refl _) _).alloc (by simp) _).alloc (by simp; omega) _
    exact ⟨⟨new_two w _ _ _ _, Nat.zero_le _, by have := ht.sz; omega⟩, ((Lies.new w _ _).alloc _).alloc _, (new_one w _ _ _).alloc _, b, ht.below b, rfl⟩
  clear ht
  unfold dtC rdC at HP0
  unfold maxLen at hs
  go_enter Tryd.func16, Tryd.ntmps16
  go_wp2_with fail
  have HW := weekd_any (w.heap.size + 1 + 1) s 0 0 0 _ HP0.out.tb HP0.out.rd HS.out
  refine Calls.mono HW ?_
  rintro x w1 ⟨wd, k1, e1, p1, rfl, wd0, wd1, hr, hst, hb⟩
  have P1 : Hid (Pv w w1 (w.heap.size + 1 + 1) s k1 e1 p1) := HP0.out.next hb hr
  have S1 : Hid (Step s.size pWd (stOf s 0 0 0) (stOf s k1 e1 p1) wd) := hst
  have S2 : Hid (Step s.size pHere (stOf s k1 e1 p1) (stOf s k1 e1 p1) (s.data.toList.drop k1).length) := Step.go (fun _ => rfl)
  have HK1 : Hid ((s.size : Int) - ((s.data.toList.drop k1).length : Int) = (k1 : Int)) := here_at s k1 hr.le
  clear hr hst hb HW HP0
  generalize (s.data.toList.drop k1).length = da at S2 HK1
  generalize hg : w.heap.size + 1 + 1 = g at P1 ⊢
  generalize hB2 : w.heap.size + 1 = B2
  generalize hB1 : w.heap.size = B1 at hB2 hg ⊢
  have HG : Hid (B1 + 1 + 1 = g ∧ B1 + 1 = B2 ∧ w.heap.size = B1) := ⟨hg, hB2, hB1⟩
  clear hg hB2 hB1
  have c1 := P1.out.rd.cells.2.1
  go_wp2_with fail
  clear c1
  refine Calls.mono (number_rd g s k1 e1 p1 1 2 (by omega) (by omega) w1 P1.out.tb P1.out.rd HS.out) ?_
  rintro x w2 ⟨day, k2, e2, p2, rfl, d0, _, d1, hr, hst, hb⟩
  have P2 : Hid (Pv w w2 g s k2 e2 p2) := P1.out.next hb hr
  have S3 : Hid (Step s.size (pNum 1 2) (stOf s k1 e1 p1) (stOf s k2 e2 p2) day) := hst
  have d1 := d1 (by omega)
  clear hr hst hb P1
  go_wp2_with fail
  refine Calls.mono (gap_any g s k2 e2 p2 w2 P2.out.rd HS.out) ?_
  rintro x w3 ⟨rfl, k3, e3, p3, hr, hst, hb⟩
  have P3 : Hid (Pv w w3 g s k3 e3 p3) := P2.out.next hb hr
  have S4 : Hid (Step s.size pGap (stOf s k2 e2 p2) (stOf s k3 e3 p3) ()) := hst
  clear hr hst hb P2
  go_wp2_with fail
  refine Calls.mono (month_any g s k3 e3 p3 w3 P3.out.tb P3.out.rd HS.out) ?_
  rintro x w4 ⟨mo, k4, e4, p4, rfl, mo0, mo1, hr, hst, hb⟩
  have P4 : Hid (Pv w w4 g s k4 e4 p4) := P3.out.next hb hr
  have S5 : Hid (Step s.size pMon (stOf s k3 e3 p3) (stOf s k4 e4 p4) mo) := hst
  clear hr hst hb P3
  go_wp2_with fail
  refine Calls.mono (gap_any g s k4 e4 p4 w4 P4.out.rd HS.out) ?_
  rintro x w5 ⟨rfl, k5, e5, p5, hr, hst, hb⟩
  have P5 : Hid (Pv w w5 g s k5 e5 p5) := P4.out.next hb hr
  have S6 : Hid (Step s.size pGap (stOf s k4 e4 p4) (stOf s k5 e5 p5) ()) := hst
  clear hr hst hb P4
  go_wp2_with fail
  refine Calls.mono (year_any g s k5 e5 p5 w5 P5.out.tb P5.out.rd HS.out) ?_
  rintro x w6 ⟨y, k6, e6, p6, rfl, y0, y1, hr, hst, hb⟩
  have P6 : Hid (Pv w w6 g s k6 e6 p6) := P5.out.next hb hr
  have S7 : Hid (Step s.size pYear (stOf s k5 e5 p5) (stOf s k6 e6 p6) y) := hst
  clear hr hst hb P5
  go_wp2_with fail
  refine Calls.mono (gap_any g s k6 e6 p6 w6 P6.out.rd HS.out) ?_
  rintro x w7 ⟨rfl, k7, e7, p7, hr, hst, hb⟩
  have P7 : Hid (Pv w w7 g s k7 e7 p7) := P6.out.next hb hr
  have S8 : Hid (Step s.size pGap (stOf s k6 e6 p6) (stOf s k7 e7 p7) ()) := hst
  clear hr hst hb P6
  have Q7 : Hid (Pv w (w7.alloc (.cells (dtC ⟨y, mo, day, 0, 0, 0, 0⟩) 34)) g s k7 e7 p7) := P7.out.alloc _
  have D7 : Hid (Dv w (w7.alloc (.cells (dtC ⟨y, mo, day, 0, 0, 0, 0⟩) 34)) g w7.heap.size ⟨y, mo, day, 0, 0, 0, 0⟩) := Dv.new P7.out _
  unfold dtC at Q7 D7
  go_wp2_with fail
  have HTM := time_rd g s k7 e7 p7 _ Q7.out.tb Q7.out.rd HS.out
  refine Calls.mono HTM ?_
  rintro x w8 ⟨h, mi, sc, k8, e8, p8, rfl, h0, h1, mi0, mi1, sc0, sc1, hr, hst, hb⟩
  have P8 : Hid (Pv w w8 g s k8 e8 p8) := Q7.out.next hb hr
  have S9 : Hid (Step s.size pTime (stOf s k7 e7 p7) (stOf s k8 e8 p8) (h, mi, sc)) := hst
  have D8 : Hid (Dv w w8 g w7.heap.size ⟨y, mo, day, 0, 0, 0, 0⟩) := D7.out.next hb
  clear hr hst hb HTM Q7 D7 P7
  generalize w7.heap.size = D at D8 ⊢
  have c3 := D8.out.l.cell 3
  have c4 := D8.out.l.cell 4
  have c5 := D8.out.l.cell 5
  have f3 := D8.out.l.frozen 3
  have f4 := D8.out.l.frozen 4
  have f5 := D8.out.l.frozen 5
  simp [dtC] at c3 c4 c5
  have Q8 : Hid (Pv w (((w8.setCell ⟨D, 3, none⟩ (.int .i8 h)).setCell ⟨D, 4, none⟩ (.int .i8 mi)).setCell ⟨D, 5, none⟩ (.int .i8 sc)) g s k8 e8 p8) := ((P8.out.put D8.out.hg D8.out.h1 D8.out.h2 D8.out.h3 3 _ D8.out.h4).put D8.out.hg D8.out.h1 D8.out.h2 D8.out.h3 4 _ D8.out.h4).put D8.out.hg D8.out.h1 D8.out.h2 D8.out.h3 5 _ D8.out.h4
  have E8 : Hid (Dv w (((w8.setCell ⟨D, 3, none⟩ (.int .i8 h)).setCell ⟨D, 4, none⟩ (.int .i8 mi)).setCell ⟨D, 5, none⟩ (.int .i8 sc)) g D ⟨y, mo, day, h, mi, sc, 0⟩) := ((D8.out.h h).mi mi).s sc
  go_wp2_with fail
  clear c3 c4 c5 f3 f4 f5 P8 D8
  generalize ((w8.setCell ⟨D, 3, none⟩ (.int .i8 h)).setCell ⟨D, 4, none⟩ (.int .i8 mi)).setCell ⟨D, 5, none⟩ (.int .i8 sc) = v8 at Q8 E8 ⊢
  refine Calls.mono (gap_any g s k8 e8 p8 v8 Q8.out.rd HS.out) ?_
  rintro x w9 ⟨rfl, k9, e9, p9, hr, hst, hb⟩
  have P9 : Hid (Pv w w9 g s k9 e9 p9) := Q8.out.next hb hr
  have S10 : Hid (Step s.size pGap (stOf s k8 e8 p8) (stOf s k9 e9 p9) ()) := hst
  have S11 : Hid (Step s.size pHere (stOf s k9 e9 p9) (stOf s k9 e9 p9) (s.data.toList.drop k9).length) := Step.go (fun _ => rfl)
  have HK9 : Hid ((s.size : Int) - ((s.data.toList.drop k9).length : Int) = (k9 : Int)) := here_at s k9 hr.le
  have D9 : Hid (Dv w w9 g D ⟨y, mo, day, h, mi, sc, 0⟩) := E8.out.next hb
  clear hr hst hb Q8 E8
  generalize (s.data.toList.drop k9).length = za at S11 HK9
  have c1 := P9.out.rd.cells.2.1
  go_wp2_with fail
  clear c1
  refine Calls.mono (zone_rd g s k9 e9 p9 w9 P9.out.tb P9.out.rd HS.out) ?_
  rintro x w10 ⟨z, k10, e10, p10, rfl, z0, z1, hr, hst, hb⟩
  have P10 : Hid (Pv w w10 g s k10 e10 p10) := P9.out.next hb hr
  have S12 : Hid (Step s.size pZone (stOf s k9 e9 p9) (stOf s k10 e10 p10) z) := hst
  have D10 : Hid (Dv w w10 g D ⟨y, mo, day, h, mi, sc, 0⟩) := D9.out.next hb
  clear hr hst hb P9 D9
  have c6 := D10.out.l.cell 6
  have f6 := D10.out.l.frozen 6
  simp [dtC] at c6
  have Q10 : Hid (Pv w (w10.setCell ⟨D, 6, none⟩ (.int .i16 z)) g s k10 e10 p10) := P10.out.put D10.out.hg D10.out.h1 D10.out.h2 D10.out.h3 6 _ D10.out.h4
  have E10 : Hid (Dv w (w10.setCell ⟨D, 6, none⟩ (.int .i16 z)) g D ⟨y, mo, day, h, mi, sc, z⟩) := D10.out.z z
  go_wp2_with fail
  clear c6 f6 P10 D10
  generalize w10.setCell ⟨D, 6, none⟩ (.int .i16 z) = v10 at Q10 E10 ⊢
  refine Calls.mono (end_any g s k10 e10 p10 v10 Q10.out.tb Q10.out.rd HS.out) ?_
  rintro x w11 ⟨rfl, k11, e11, p11, hr, hst, hb⟩
  have P11 : Hid (Pv w w11 g s k11 e11 p11) := Q10.out.next hb hr
  have D11 : Hid (Dv w w11 g D ⟨y, mo, day, h, mi, sc, z⟩) := E10.out.next hb
  have SA : Hid (Step s.size pAll (stOf s 0 0 0) (stOf s k11 e11 p11) (wd, da, day, (), mo, (), y, (), (h, mi, sc), (), za, z, ())) :=
    S1.out.both (S2.out.both (S3.out.both (S4.out.both (S5.out.both (S6.out.both (S7.out.both (S8.out.both (S9.out.both (S10.out.both (S11.out.both (S12.out.both hst)))))))))))
  clear hr hst hb Q10 E10 S1 S2 S3 S4 S5 S6 S7 S8 S9 S10 S11 S12
  obtain ⟨r0, r1, r2, r3⟩ := P11.out.rd.cells
  obtain ⟨hg, hB2, hB1⟩ := HG.out
  have L1 : Hid (Lies w11 B1 (dtC ⟨0, 0, 0, 0, 0, 0, 0⟩) 34) := by have h := P11.out.l1; rw [hB1] at h; exact h
  have L2 : Hid (Lies w11 B2 #[.int .i64 0, .int .i64 0] 49) := by have h := P11.out.l2; rw [hB1, hB2] at h; exact h
  have HN : Hid (B1 ≠ B2 ∧ w.heap.size ≤ B1 ∧ w.heap.size ≤ B2) := ⟨by omega, by omega, by omega⟩
  have hne : B1 ≠ B2 := HN.out.1
  have hne' : B2 ≠ B1 := Ne.symm HN.out.1
  have hgn : B1 ≠ g := by omega
  have hgn' : B2 ≠ g := by omega
  clear hg hB2 hB1
  by_cases he : e11 = 0
  · subst he
    have HA : Hid (parse s.data.toList = judge ⟨y, mo, day, h, mi, sc, z⟩ wd (k1 : Int) (k9 : Int)) := by
      have h := parse_ok SA.out
      rw [HK1.out, HK9.out] at h
      exact h
    have x0 := D11.out.l.cell 0
    have x1 := D11.out.l.cell 1
    have x2 := D11.out.l.cell 2
    have x3 := D11.out.l.cell 3
    have x4 := D11.out.l.cell 4
    have x5 := D11.out.l.cell 5
    have x6 := D11.out.l.cell 6
    simp [dtC] at x0 x1 x2 x3 x4 x5 x6
    have HJ := judge_any ⟨y, mo, day, h, mi, sc, z⟩ wd (k1 : Int) (k9 : Int) w11 P11.out.tb.ah ⟨by simp only []; omega, by simp only []; omega, by simp only []; omega, by simp only []; omega, by simp only []; omega, by simp only []; omega, by simp only []; omega, by simp only []; omega, by simp only []; omega, by simp only []; omega, by simp only []; omega, by simp only []; omega, by simp only []; omega, by simp only []; omega⟩
    generalize judge ⟨y, mo, day, h, mi, sc, z⟩ wd (k1 : Int) (k9 : Int) = a at HJ HA
    unfold ansV dtV at HJ
    go_wp2_with fail
    refine Calls.mono HJ ?_
    rintro x w12 ⟨rfl, hb⟩
    clear HJ x0 x1 x2 x3 x4 x5 x6 r0 r1 r2 r3
    have M1 : Hid (Lies w12 B1 (dtC ⟨0, 0, 0, 0, 0, 0, 0⟩) 34) := L1.out.below hb L1.out.lt
    have M2 : Hid (Lies w12 B2 #[.int .i64 0, .int .i64 0] 49) := L2.out.below hb L2.out.lt
    have HB : Hid (Below w.heap.size w w12) := P11.out.bl.trans (hb.mono P11.out.bl.size)
    clear hb
    have y0 := M1.out.cell 0
    have f0 := M1.out.frozen 0
    have y1 := M1.out.cell 1
    have f1 := M1.out.frozen 1
    have y2 := M1.out.cell 2
    have f2 := M1.out.frozen 2
    have y3 := M1.out.cell 3
    have f3 := M1.out.frozen 3
    have y4 := M1.out.cell 4
    have f4 := M1.out.frozen 4
    have y5 := M1.out.cell 5
    have f5 := M1.out.frozen 5
    have y6 := M1.out.cell 6
    have f6 := M1.out.frozen 6
    have u0 := M2.out.cell 0
    have v0 := M2.out.frozen 0
    have u1 := M2.out.cell 1
    have v1 := M2.out.frozen 1
    simp [dtC] at y0 y1 y2 y3 y4 y5 y6 u0 u1
    obtain ⟨N1, N2, N3⟩ := two_set M1.out M2.out HN.out.1 a.d a.e a.p
    have N3 := N3 _ _ HB.out HN.out.2.1 HN.out.2.2
    have HE : Hid (Lies (twoW w12 B1 B2 a.d a.e a.p) B1 (dtC a.d) 34 ∧ Lies (twoW w12 B1 B2 a.d a.e a.p) B2 #[.int .i64 a.e, .int .i64 a.p] 49 ∧ Below w.heap.size w (twoW w12 B1 B2 a.d a.e a.p)) := ⟨N1, N2, N3⟩
    clear N1 N2 N3
    go_wp2
    (try simp only [Exit.inBlock, Exit.then])
    refine ret_two rfl B1 B2 a.d a.e a.p rfl rfl HE.out.1 HE.out.2.1 ⟨congrArg (fun a => Ending.returned (ansV a)) HA.out.symm, HE.out.2.2⟩
  · have he' : (e11 != 0) = true := by simpa using he
    have HA : Hid (parse s.data.toList = ⟨zeroD, e11, p11⟩) := parse_bad he SA.out
    clear he
    have y0 := L1.out.cell 0
    have f0 := L1.out.frozen 0
    have y1 := L1.out.cell 1
    have f1 := L1.out.frozen 1
    have y2 := L1.out.cell 2
    have f2 := L1.out.frozen 2
    have y3 := L1.out.cell 3
    have f3 := L1.out.frozen 3
    have y4 := L1.out.cell 4
    have f4 := L1.out.frozen 4
    have y5 := L1.out.cell 5
    have f5 := L1.out.frozen 5
    have y6 := L1.out.cell 6
    have f6 := L1.out.frozen 6
    have u0 := L2.out.cell 0
    have v0 := L2.out.frozen 0
    have u1 := L2.out.cell 1
    have v1 := L2.out.frozen 1
    simp [dtC] at y0 y1 y2 y3 y4 y5 y6 u0 u1
    obtain ⟨N1, N2, N3⟩ := two_set L1.out L2.out HN.out.1 ⟨0, 0, 0, 0, 0, 0, 0⟩ e11 p11
    have N3 := N3 _ _ P11.out.bl HN.out.2.1 HN.out.2.2
    have HE : Hid (Lies (twoW w11 B1 B2 ⟨0, 0, 0, 0, 0, 0, 0⟩ e11 p11).drew B1 (dtC ⟨0, 0, 0, 0, 0, 0, 0⟩) 34 ∧ Lies (twoW w11 B1 B2 ⟨0, 0, 0, 0, 0, 0, 0⟩ e11 p11).drew B2 #[.int .i64 e11, .int .i64 p11] 49 ∧ Below w.heap.size w (twoW w11 B1 B2 ⟨0, 0, 0, 0, 0, 0, 0⟩ e11 p11).drew) := ⟨N1.drew, N2.drew, N3.drew⟩
    clear N1 N2 N3
    go_wp2
    go_region
    go_wp2
    (try simp only [Exit.inBlock, Exit.then])
    refine ret_two rfl B1 B2 ⟨0, 0, 0, 0, 0, 0, 0⟩ e11 p11 rfl rfl HE.out.1 HE.out.2.1 ⟨congrArg (fun a => Ending.returned (ansV a)) HA.out.symm, HE.out.2.2⟩
end Go.Proofs.YtedfnebadenmdabDoor
