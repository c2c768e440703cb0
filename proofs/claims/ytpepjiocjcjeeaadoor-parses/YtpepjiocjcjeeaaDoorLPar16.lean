/-
  For every text of bytes: Parse answers as the document asks, leaves the bytes as they were, and tells new memory (P16.1). Conditions: those of the statement in its first form.
-/
import Derived.Test.YtpepjiocjcjeeaaDoorLpP
import Derived.Test.YtpepjiocjcjeeaaDoorOb16
import Derived.ProofKit
import Derived.ChangeMaps5
import Derived.OpenShut
import Derived.ShutString
import Derived.ChangeOld
import Derived.SizedLaws
namespace Go.Proofs.YtpepjiocjcjeeaaDoor.fieldParses
open Go.ChangeShapes Go.WideShapes Go.ChangeAt Go.RowKit

theorem fds_own {w : World} {B c : Nat} {b : Option Addr} {F : List Fd} (h : w.ownsRow B 34 2 (.slice b F.length c) F.length (cellsF F)) : Fds b F w := by
  obtain ⟨a, cap, e, h1, _⟩ := own_fds h
  injection e with e
  rw [e]
  exact h1
theorem lit_fs : fsP litP (.ok ([⟨0, 1, 3⟩], 7)) = [⟨[65], [49]⟩] := rfl
set_option maxRecDepth 100000 in
set_option maxHeartbeats 16000000 in
theorem walk {w : World} (a0 : Option Addr) (l : List UInt8) (cap0 : Nat) (hr : Bts a0 l w) (hl : l.length ≤ 140737488351232) (_hcp : l.length ≤ cap0) (hn0 : a0 = none → cap0 = 0) (_hcm : cap0 ≤ 9223372036854775807) (hT : Table w) :
    Calls Tryd.prog 3 #[.slice a0 l.length cap0] w fun e w' => e = .returned (.bool true) ∧ Below w.heap.size w w' := by
  have HR : Hid (Bts a0 l w) := hr
  have HT : Hid (Table w) := hT
  have HLE : Hid (∀ wx, Bts a0 l wx → Calls Tryd.prog 7 #[.slice a0 l.length cap0] wx fun e w' => ∃ g c, e = .returned (.slice (some ⟨g, 0, none⟩) l.length c) ∧ LentB w' wx.heap.size g c l ∧ Below wx.heap.size wx w') := fun wx h => lent_any a0 l cap0 l.length wx rfl h (by omega) hn0
  have hFl := fsP_few l
  have HUP : Hid (∀ (wx : World), Bts a0 l wx → Calls Tryd.prog 8 #[.slice a0 l.length cap0] wx fun e w' => ∃ b c, e = .returned (.tuple #[.slice b (fsP l (prsF l)).length c, .int .i64 (btP (prsF l) : Int), .agg #[.int .i64 ((spP (prsF l)).1 : Int), .int .i64 ((spP (prsF l)).2 : Int)]]) ∧ Below wx.heap.size wx w' ∧ w'.ownsRow wx.heap.size 34 2 (.slice b (fsP l (prsF l)).length c) (fsP l (prsF l)).length (cellsF (fsP l (prsF l)))) := fun wx h => uparse_row a0 l cap0 hl wx h
  have HFP : Hid (∀ (B g c : Nat) (wx : World), LentB wx B g c l → Table wx → Calls Tryd.prog 9 #[.slice (some ⟨g, 0, none⟩) l.length c] wx fun e w' => ∃ b c, e = .returned (.tuple #[.slice b (fsP l (prsF l)).length c, .int .i64 (btP (prsF l) : Int), .agg #[.int .i64 ((spP (prsF l)).1 : Int), .int .i64 ((spP (prsF l)).2 : Int)]]) ∧ Below wx.heap.size wx w' ∧ w'.ownsRow wx.heap.size 34 2 (.slice b (fsP l (prsF l)).length c) (fsP l (prsF l)).length (cellsF (fsP l (prsF l)))) := fun B g c wx h h2 => by
    obtain ⟨k1, k2, k3, k4⟩ := h.cap
    exact fparse_row (some ⟨g, 0, none⟩) l c (by omega) k2 hl wx (fun a e => by cases e; exact k4) h.bts h2
  have hlI : (l.length : Int) ≤ 140737488351232 := by omega
  clear hr hn0 hT
  generalize fsP l (prsF l) = F at *
  generalize btP (prsF l) = A at *
  generalize (spP (prsF l)).1 = X at *
  generalize (spP (prsF l)).2 = Y at *
  go_enter Tryd.func3, Tryd.ntmps3
  go_wp2_with fail
  refine (HLE.out _ HR.out).mono ?_
  rintro e w1 ⟨g, c, rfl, hL1, hb1⟩
  have HL1 : Hid (LentB w1 w.heap.size g c l) := hL1
  have HB1 : Hid (Below w.heap.size w w1) := hb1
  have hz01 : w.heap.size ≤ w1.heap.size := hb1.size
  have hzg : w.heap.size ≤ g ∧ g < w1.heap.size := ⟨hL1.cap.2.2.1, hL1.cap.2.2.2⟩
  have hcc : c ≤ 9223372036854775807 := hL1.cap.2.1
  clear hL1 hb1
  go_wp2_with fail
  refine (HUP.out _ (HR.out.below HB1.out)).mono ?_
  rintro e w2 ⟨b2, c2, rfl, hb2, ho2⟩
  have HL2 : Hid (LentB w2 w.heap.size g c l) := HL1.out.below hb2
  have HO2 : Hid (w2.ownsRow w1.heap.size 34 2 (.slice b2 F.length c2) F.length (cellsF F)) := ho2
  have HB2 : Hid (Below w.heap.size w w2) := HB1.out.trans (hb2.mono hz01)
  have hz12 : w1.heap.size ≤ w2.heap.size := hb2.size
  have HZ2 : Hid (∀ j, (Value.slice b2 F.length c2).ownBlock = some j → w1.heap.size ≤ j ∧ j < w2.heap.size) := fun j hj => ho2.lt j hj
  clear ho2 hb2 HL1 HB1 HUP
  go_wp2_with fail
  obtain ⟨W2, hW2⟩ : ∃ W2, W2 = w2.alloc (.cells #[.int .i64 (X : Int), .int .i64 (Y : Int)] 27) := ⟨_, rfl⟩
  have HW2 : Hid (w2.alloc (.cells #[.int .i64 (X : Int), .int .i64 (Y : Int)] 27) = W2) := hW2.symm
  have hx2 : Below w2.heap.size w2 W2 := by rw [hW2]; exact (Below.refl _ _).alloc (Nat.le_refl _) _
  have hy2 : Lies W2 w2.heap.size #[.int .i64 (X : Int), .int .i64 (Y : Int)] 27 := by rw [hW2]; exact Lies.new w2 _ _
  have HLX2 : Hid (LentB W2 w.heap.size g c l) := HL2.out.below hx2
  have HOX2 : Hid (W2.ownsRow w1.heap.size 34 2 (.slice b2 F.length c2) F.length (cellsF F)) := ownT_below HO2.out hx2
  have HBX2 : Hid (Below w.heap.size w W2) := HB2.out.trans (hx2.mono HB2.out.size)
  have HS2 : Hid (Lies W2 w2.heap.size #[.int .i64 (X : Int), .int .i64 (Y : Int)] 27) := hy2
  have hz2x : w2.heap.size < W2.heap.size := hy2.lt
  rw [HW2.out]
  clear hW2 hx2 hy2 HL2 HO2 HB2 HW2
  refine (HFP.out _ _ _ _ HLX2.out (tab_below HT.out HBX2.out)).mono ?_
  rintro e w3 ⟨b3, c3, rfl, hb3, ho3⟩
  have HL3 : Hid (LentB w3 w.heap.size g c l) := HLX2.out.below hb3
  have HO23 : Hid (w3.ownsRow w1.heap.size 34 2 (.slice b2 F.length c2) F.length (cellsF F)) := ownT_below HOX2.out hb3
  have HO3 : Hid (w3.ownsRow W2.heap.size 34 2 (.slice b3 F.length c3) F.length (cellsF F)) := ho3
  have HB3 : Hid (Below w.heap.size w w3) := HBX2.out.trans (hb3.mono HBX2.out.size)
  have HS3 : Hid (Lies w3 w2.heap.size #[.int .i64 (X : Int), .int .i64 (Y : Int)] 27) := HS2.out.below hb3 HS2.out.lt
  have hz3 : W2.heap.size ≤ w3.heap.size := hb3.size
  have HZ3 : Hid (∀ j, (Value.slice b3 F.length c3).ownBlock = some j → W2.heap.size ≤ j ∧ j < w3.heap.size) := fun j hj => ho3.lt j hj
  clear ho3 hb3 HLX2 HOX2 HBX2 HS2
  go_wp2_with fail
  obtain ⟨W3, hW3⟩ : ∃ W3, W3 = w3.alloc (.cells #[.int .i64 (X : Int), .int .i64 (Y : Int)] 27) := ⟨_, rfl⟩
  have HW3 : Hid (w3.alloc (.cells #[.int .i64 (X : Int), .int .i64 (Y : Int)] 27) = W3) := hW3.symm
  have hx3 : Below w3.heap.size w3 W3 := by rw [hW3]; exact (Below.refl _ _).alloc (Nat.le_refl _) _
  have hy3 : Lies W3 w3.heap.size #[.int .i64 (X : Int), .int .i64 (Y : Int)] 27 := by rw [hW3]; exact Lies.new w3 _ _
  have HLX3 : Hid (LentB W3 w.heap.size g c l) := HL3.out.below hx3
  have HOX23 : Hid (W3.ownsRow w1.heap.size 34 2 (.slice b2 F.length c2) F.length (cellsF F)) := ownT_below HO23.out hx3
  have HOX3 : Hid (W3.ownsRow W2.heap.size 34 2 (.slice b3 F.length c3) F.length (cellsF F)) := ownT_below HO3.out hx3
  have HBX3 : Hid (Below w.heap.size w W3) := HB3.out.trans (hx3.mono HB3.out.size)
  have HSX2 : Hid (Lies W3 w2.heap.size #[.int .i64 (X : Int), .int .i64 (Y : Int)] 27) := HS3.out.below hx3 HS3.out.lt
  have HSX3 : Hid (Lies W3 w3.heap.size #[.int .i64 (X : Int), .int .i64 (Y : Int)] 27) := hy3
  have hz3x : w3.heap.size < W3.heap.size := hy3.lt
  rw [HW3.out]
  clear hW3 hx3 hy3 HL3 HO23 HO3 HB3 HW3 HS3
  refine (HFP.out _ _ _ _ HLX3.out (tab_below HT.out HBX3.out)).mono ?_
  rintro e w4 ⟨b4, c4, rfl, hb4, ho4⟩
  have HL4 : Hid (LentB w4 w.heap.size g c l) := HLX3.out.below hb4
  have HO24 : Hid (w4.ownsRow w1.heap.size 34 2 (.slice b2 F.length c2) F.length (cellsF F)) := ownT_below HOX23.out hb4
  have HO34 : Hid (w4.ownsRow W2.heap.size 34 2 (.slice b3 F.length c3) F.length (cellsF F)) := ownT_below HOX3.out hb4
  have HO4 : Hid (w4.ownsRow W3.heap.size 34 2 (.slice b4 F.length c4) F.length (cellsF F)) := ho4
  have HB4 : Hid (Below w.heap.size w w4) := HBX3.out.trans (hb4.mono HBX3.out.size)
  have HS24 : Hid (Lies w4 w2.heap.size #[.int .i64 (X : Int), .int .i64 (Y : Int)] 27) := HSX2.out.below hb4 HSX2.out.lt
  have HS34 : Hid (Lies w4 w3.heap.size #[.int .i64 (X : Int), .int .i64 (Y : Int)] 27) := HSX3.out.below hb4 HSX3.out.lt
  have hz4 : W3.heap.size ≤ w4.heap.size := hb4.size
  have HZ4 : Hid (∀ j, (Value.slice b4 F.length c4).ownBlock = some j → W3.heap.size ≤ j ∧ j < w4.heap.size) := fun j hj => ho4.lt j hj
  clear ho4 hb4 HLX3 HOX23 HOX3 HBX3 HSX2 HSX3
  obtain ⟨W4, hW4⟩ : ∃ W4, W4 = w4.alloc (.cells #[.int .i64 (X : Int), .int .i64 (Y : Int)] 27) := ⟨_, rfl⟩
  have HW4 : Hid (w4.alloc (.cells #[.int .i64 (X : Int), .int .i64 (Y : Int)] 27) = W4) := hW4.symm
  have hx4 : Below w4.heap.size w4 W4 := by rw [hW4]; exact (Below.refl _ _).alloc (Nat.le_refl _) _
  have hy4 : Lies W4 w4.heap.size #[.int .i64 (X : Int), .int .i64 (Y : Int)] 27 := by rw [hW4]; exact Lies.new w4 _ _
  have HLX4 : Hid (LentB W4 w.heap.size g c l) := HL4.out.below hx4
  have HOX24 : Hid (W4.ownsRow w1.heap.size 34 2 (.slice b2 F.length c2) F.length (cellsF F)) := ownT_below HO24.out hx4
  have HOX34 : Hid (W4.ownsRow W2.heap.size 34 2 (.slice b3 F.length c3) F.length (cellsF F)) := ownT_below HO34.out hx4
  have HOX4 : Hid (W4.ownsRow W3.heap.size 34 2 (.slice b4 F.length c4) F.length (cellsF F)) := ownT_below HO4.out hx4
  have HBX4 : Hid (Below w.heap.size w W4) := HB4.out.trans (hx4.mono HB4.out.size)
  have hs2 := HS24.out.below hx4 HS24.out.lt
  have hs3 := HS34.out.below hx4 HS34.out.lt
  have p0 := hs2.cell 0
  have p1 := hs2.cell 1
  have p2 := hs3.cell 0
  have p3 := hs3.cell 1
  have p4 := hy4.cell 0
  have p5 := hy4.cell 1
  simp only [List.getElem?_toArray, List.getElem?_cons_zero, List.getElem?_cons_succ] at p0 p1 p2 p3 p4 p5
  have hz4x : w4.heap.size < W4.heap.size := hy4.lt
  clear hW4 hx4 hy4 hs2 hs3 HL4 HO24 HO34 HO4 HB4 HS24 HS34
  go_wp2_with (rw [HW4.out])
  clear p0 p1 p2 p3 p4 p5 HW4
  have hc3 := own_capT HOX34.out
  have hc4 := own_capT HOX4.out
  refine (usame_eq _ _ _ _ F W4 (fds_own HOX34.out) (fds_own HOX24.out) (by omega)).mono ?_
  rintro e w5 ⟨rfl, hb5⟩
  have HL5 : Hid (LentB w5 w.heap.size g c l) := HLX4.out.below hb5
  have HO25 : Hid (w5.ownsRow w1.heap.size 34 2 (.slice b2 F.length c2) F.length (cellsF F)) := ownT_below HOX24.out hb5
  have HO35 : Hid (w5.ownsRow W2.heap.size 34 2 (.slice b3 F.length c3) F.length (cellsF F)) := ownT_below HOX34.out hb5
  have HO45 : Hid (w5.ownsRow W3.heap.size 34 2 (.slice b4 F.length c4) F.length (cellsF F)) := ownT_below HOX4.out hb5
  have HB5 : Hid (Below w.heap.size w w5) := HBX4.out.trans (hb5.mono HBX4.out.size)
  clear hb5 HLX4 HOX24 HOX34 HOX4 HBX4
  go_wp2_with fail
  refine (usame_eq _ _ _ _ F w5 (fds_own HO45.out) (fds_own HO25.out) (by omega)).mono ?_
  rintro e w6 ⟨rfl, hb6⟩
  have HL6 : Hid (LentB w6 w.heap.size g c l) := HL5.out.below hb6
  have HO26 : Hid (w6.ownsRow w1.heap.size 34 2 (.slice b2 F.length c2) F.length (cellsF F)) := ownT_below HO25.out hb6
  have HO36 : Hid (w6.ownsRow W2.heap.size 34 2 (.slice b3 F.length c3) F.length (cellsF F)) := ownT_below HO35.out hb6
  have HO46 : Hid (w6.ownsRow W3.heap.size 34 2 (.slice b4 F.length c4) F.length (cellsF F)) := ownT_below HO45.out hb6
  have HB6 : Hid (Below w.heap.size w w6) := HB5.out.trans (hb6.mono HB5.out.size)
  clear hb6 HL5 HO25 HO35 HO45 HB5
  go_wp2_with fail
  refine (kept_any w.heap.size g c l a0 cap0 l.length w6 rfl HL6.out (HR.out.below HB6.out) (by omega)).mono ?_
  rintro e w6' ⟨rfl, h6⟩
  rw [h6]
  clear h6 w6'
  go_wp2_with fail
  refine (spoilF_any _ b3 F.length c3 _ w6 HO36.out (by omega) hc3).mono ?_
  rintro e w7 ⟨rfl, hg7⟩
  have HL7 : Hid (LentB w7 w.heap.size g c l) := own_far HL6.out hg7 (fun j hj e => by have e2 : g = j := Option.some.inj hj; have := HZ3.out _ e; omega)
  have HO27 : Hid (w7.ownsRow w1.heap.size 34 2 (.slice b2 F.length c2) F.length (cellsF F)) := own_far HO26.out hg7 (fun j hj e => by have := HZ3.out _ e; have := HZ2.out _ hj; omega)
  have HO47 : Hid (w7.ownsRow W3.heap.size 34 2 (.slice b4 F.length c4) F.length (cellsF F)) := own_far HO46.out hg7 (fun j hj e => by have := HZ3.out _ e; have := HZ4.out _ hj; omega)
  have HB7 : Hid (Below w.heap.size w w7) := HB6.out.grown hg7 HB6.out.size (fun q hq => by have := HZ3.out _ hq; omega)
  clear hg7 HL6 HO26 HO36 HO46 HB6
  go_wp2_with fail
  refine (usame_eq _ _ _ _ F w7 (fds_own HO47.out) (fds_own HO27.out) (by omega)).mono ?_
  rintro e w8 ⟨rfl, hb8⟩
  have HL8 : Hid (LentB w8 w.heap.size g c l) := HL7.out.below hb8
  have HO28 : Hid (w8.ownsRow w1.heap.size 34 2 (.slice b2 F.length c2) F.length (cellsF F)) := ownT_below HO27.out hb8
  have HO48 : Hid (w8.ownsRow W3.heap.size 34 2 (.slice b4 F.length c4) F.length (cellsF F)) := ownT_below HO47.out hb8
  have HB8 : Hid (Below w.heap.size w w8) := HB7.out.trans (hb8.mono HB7.out.size)
  clear hb8 HL7 HO27 HO47 HB7
  go_wp2_with fail
  refine (spoilF_any _ b4 F.length c4 _ w8 HO48.out (by omega) hc4).mono ?_
  rintro e w9 ⟨rfl, hg9⟩
  have HL9 : Hid (LentB w9 w.heap.size g c l) := own_far HL8.out hg9 (fun j hj e => by have e2 : g = j := Option.some.inj hj; have := HZ4.out _ e; omega)
  have HO29 : Hid (w9.ownsRow w1.heap.size 34 2 (.slice b2 F.length c2) F.length (cellsF F)) := own_far HO28.out hg9 (fun j hj e => by have := HZ4.out _ e; have := HZ2.out _ hj; omega)
  have HB9 : Hid (Below w.heap.size w w9) := HB8.out.grown hg9 HB8.out.size (fun q hq => by have := HZ4.out _ hq; omega)
  clear hg9 HL8 HO28 HO48 HB8
  go_wp2_with fail
  go_loopw [13, 86] (fun _ iv wr => ∃ (k : Nat) (ys : List Value), k ≤ l.length ∧ iv = .int .i64 (k : Int) ∧ Hid (wr.ownsRow w.heap.size 5 1 (.slice (some ⟨g, 0, none⟩) l.length c) l.length ys) ∧ Hid (wr.ownsRow w1.heap.size 34 2 (.slice b2 F.length c2) F.length (cellsF F)) ∧ Hid (Below w.heap.size w wr)) (fun _ iv _ => l.length - (intOf iv).toNat)
  case atStart => exact ⟨0, _, Nat.zero_le _, rfl, HL9.out.own, HO29.out, HB9.out⟩
  case round =>
    obtain ⟨k, ys, hk, rfl, HO, HOW, HB⟩ := hrel
    by_cases hlt : k < l.length
    · have hki : (k : Int) < (l.length : Int) := by omega
      have y0 := HO.out.frozenAt (g := g) k
      have hyl : ys.length = l.length * 1 := HO.out.1
      obtain ⟨u, hu⟩ : ∃ u, wr.cell? ⟨g, k, none⟩ = some u := by
        rw [HO.out.cellAt k (by omega)]
        exact ⟨_, List.getElem?_eq_getElem (by omega)⟩
      have HO2 : Hid ((wr.setCell ⟨g, k, none⟩ (.int .u8 120)).ownsRow w.heap.size 5 1 (.slice (some ⟨g, 0, none⟩) l.length c) l.length (ys.set k (.int .u8 120))) := (HO.out.stored k (.int .u8 120)).1
      have HB2 : Hid (Below w.heap.size w (wr.setCell ⟨g, k, none⟩ (.int .u8 120))) := HB.out.setCell (p := ⟨g, k, none⟩) hzg.1 _
      have HOW2 : Hid ((wr.setCell ⟨g, k, none⟩ (.int .u8 120)).ownsRow w1.heap.size 34 2 (.slice b2 F.length c2) F.length (cellsF F)) := ownX_set HOW.out g k hzg.2 _
      clear hyl HL9 HO29 HB9
      go_wp2_with fail
      go_roundw
      case rel => exact ⟨k + 1, _, by omega, by go_num, HO2.out, HOW2.out, HB2.out⟩
      case measure => simp [intOf]; omega
    · obtain rfl : k = l.length := by omega
      clear HO HL9 HO29 HB9
      go_wp2_with fail
      refine (HLE.out _ (HR.out.below HB.out)).mono ?_
      rintro e wa ⟨ga, ca, rfl, hLa, hba⟩
      have HLa : Hid (LentB wa wr.heap.size ga ca l) := hLa
      have HOa : Hid (wa.ownsRow w1.heap.size 34 2 (.slice b2 F.length c2) F.length (cellsF F)) := ownT_below HOW.out hba
      have HBa : Hid (Below w.heap.size w wa) := HB.out.trans (hba.mono HB.out.size)
      clear hLa hba HOW HB
      go_wp2_with fail
      refine (HFP.out _ _ _ _ HLa.out (tab_below HT.out HBa.out)).mono ?_
      rintro e wb ⟨bb, cb, rfl, hbb, hob⟩
      have HOb : Hid (wb.ownsRow w1.heap.size 34 2 (.slice b2 F.length c2) F.length (cellsF F)) := ownT_below HOa.out hbb
      have HObb : Hid (wb.ownsRow wa.heap.size 34 2 (.slice bb F.length cb) F.length (cellsF F)) := hob
      have HBb : Hid (Below w.heap.size w wb) := HBa.out.trans (hbb.mono HBa.out.size)
      clear hbb hob HOa HBa HLa
      obtain ⟨Wb, hWb⟩ : ∃ Wb, Wb = wb.alloc (.cells #[.int .i64 (X : Int), .int .i64 (Y : Int)] 27) := ⟨_, rfl⟩
      have HWb : Hid (wb.alloc (.cells #[.int .i64 (X : Int), .int .i64 (Y : Int)] 27) = Wb) := hWb.symm
      have hxb : Below wb.heap.size wb Wb := by rw [hWb]; exact (Below.refl _ _).alloc (Nat.le_refl _) _
      have hsb : Wb.heap.size = wb.heap.size + 1 := by rw [hWb]; simp
      clear hWb
      obtain ⟨Wc, hWc⟩ : ∃ Wc, Wc = Wb.alloc (.cells #[.int .u8 65, .int .u8 58, .int .u8 49, .int .u8 13, .int .u8 10, .int .u8 13, .int .u8 10] 5 (7, 8)) := ⟨_, rfl⟩
      have hcc : (convert 22 22 (.slice (some ⟨Wb.heap.size, 0, none⟩) 7 7)).run Tryd.prog (Wb.alloc (.cells #[.int .u8 65, .int .u8 58, .int .u8 49, .int .u8 13, .int .u8 10, .int .u8 13, .int .u8 10] 5)) = .ok (.slice (some ⟨Wb.heap.size, 0, none⟩) 7 7) Wc := by subst hWc; exact Lib.run_convert_bytes_const Wb 22 5 _ 7 7 Tryd.underlying22 Tryd.underlying5
      have hxc : Below Wb.heap.size Wb Wc := by subst hWc; exact (Below.refl _ _).alloc (Nat.le_refl _) _
      have hLc : ∀ j, Wc.cell? ⟨Wb.heap.size, j, none⟩ = (cellsB litP)[j]? := fun j => by subst hWc; rw [cell_of_row _ Wb.heap.size j #[.int .u8 65, .int .u8 58, .int .u8 49, .int .u8 13, .int .u8 10, .int .u8 13, .int .u8 10] 5 (7, 8) (heap_alloc_new Wb _), show (#[.int .u8 65, .int .u8 58, .int .u8 49, .int .u8 13, .int .u8 10, .int .u8 13, .int .u8 10] : Array Value) = (cellsB litP).toArray from rfl, List.getElem?_toArray]
      have hltc : Wb.heap.size < Wc.heap.size := by subst hWc; simp
      clear hWc
      have HBc : Hid (Below w.heap.size w Wc) := (HBb.out.trans (hxb.mono HBb.out.size)).trans (hxc.mono (by have := HBb.out.size; have := hxb.size; omega))
      have HOc : Hid (Wc.ownsRow w1.heap.size 34 2 (.slice b2 F.length c2) F.length (cellsF F)) := ownT_below (ownT_below HOb.out hxb) hxc
      have HOcb : Hid (Wc.ownsRow wa.heap.size 34 2 (.slice bb F.length cb) F.length (cellsF F)) := ownT_below (ownT_below HObb.out hxb) hxc
      have HPL := fparse_row (some ⟨Wb.heap.size, 0, none⟩) litP 7 (by decide) (by decide) (by decide) Wc (fun a e => by cases e; exact hltc) (.inr ⟨Wb.heap.size, 0, rfl, hltc, fun j hj => by rw [Nat.zero_add, hLc]; exact cellsB_at _ _ hj⟩) (tab_below HT.out HBc.out)
      rw [lit_prs, lit_fs, show litP.length = 7 from rfl, show btP (Except.ok ([(⟨0, 1, 3⟩ : Plc)], 7)) = 7 from rfl, show spP (Except.ok ([(⟨0, 1, 3⟩ : Plc)], 7)) = (0, 0) from rfl] at HPL
      clear hLc hltc hxb hxc HOb HObb HBb
      rw [hsb] at hcc HPL
      go_wp2_with fail
      rw [HWb.out]
      simp only [hcc]
      go_wp2_with fail
      refine HPL.mono ?_
      rintro e wd ⟨bd, cd, rfl, hbd, hod⟩
      have HOd : Hid (wd.ownsRow w1.heap.size 34 2 (.slice b2 F.length c2) F.length (cellsF F)) := ownT_below HOc.out hbd
      have HOdb : Hid (wd.ownsRow wa.heap.size 34 2 (.slice bb F.length cb) F.length (cellsF F)) := ownT_below HOcb.out hbd
      have HBd : Hid (Below w.heap.size w wd) := HBc.out.trans (hbd.mono HBc.out.size)
      have HOl : Hid (wd.ownsRow Wc.heap.size 34 2 (.slice bd 1 cd) 1 (cellsF [⟨[65], [49]⟩])) := hod
      obtain ⟨gd, rfl⟩ : ∃ gd, bd = some ⟨gd, 0, none⟩ := by
        rcases HOl.out.2 with ⟨_, e2⟩ | ⟨g', cp, cur, e1, _⟩
        · cases e2
        · injection e1 with e1
          exact ⟨g', e1⟩
      clear hbd hod HOc HOcb HBc HPL hcc
      obtain ⟨We, hWe⟩ : ∃ We, We = wd.alloc (.cells #[.int .i64 0, .int .i64 0] 27) := ⟨_, rfl⟩
      have HWe : Hid (wd.alloc (.cells #[.int .i64 0, .int .i64 0] 27) = We) := hWe.symm
      have hxe : Below wd.heap.size wd We := by rw [hWe]; exact (Below.refl _ _).alloc (Nat.le_refl _) _
      have HSe : Hid (Lies We wd.heap.size #[.int .i64 0, .int .i64 0] 27) := by rw [hWe]; exact Lies.new wd _ _
      have HOe := ownT_below HOd.out hxe
      have HOeb := ownT_below HOdb.out hxe
      have HOel : Hid (We.ownsRow Wc.heap.size 34 2 (.slice (some ⟨gd, 0, none⟩) 1 cd) 1 (cellsF [⟨[65], [49]⟩])) := ownT_below HOl.out hxe
      have HBe : Hid (Below w.heap.size w We) := HBd.out.trans (hxe.mono HBd.out.size)
      have HQE := usame_eq _ _ cb c2 F We (fds_own HOeb) (fds_own HOe) (by omega)
      clear hWe hxe HOe HOeb HOd HOdb HOl HBd
      go_wp2_with fail
      rw [HWe.out]
      refine HQE.mono ?_
      rintro e wf ⟨rfl, hbf⟩
      have hSf := HSe.out.below hbf HSe.out.lt
      have hOf := ownT_below HOel.out hbf
      have HBf : Hid (Below w.heap.size w wf) := HBe.out.trans (hbf.mono HBe.out.size)
      have t0 := hSf.cell 0
      have t1 := hOf.cellAt 0 (by decide)
      have t2 := hOf.cellAt 1 (by decide)
      rw [show (cellsF [⟨[65], [49]⟩])[0]? = some (.string ⟨#[65]⟩) from rfl] at t1
      rw [show (cellsF [⟨[65], [49]⟩])[1]? = some (.string ⟨#[49]⟩) from rfl] at t2
      rw [show (#[Value.int .i64 0, .int .i64 0] : Array Value)[0]? = some (.int .i64 0) from rfl] at t0
      clear hbf hSf hOf HQE HOel HSe HBe
      go_wp2_with fail
      go_ret
      exact ⟨rfl, HBf.out⟩

set_option maxRecDepth 100000 in
theorem contract (H : Type) (enc : TypeId × Value → H) (W : World) (base : Nat) (args : Array Value) (ds gs : List (DataW H)) (before : List MemPlace)
    (hval : ∀ (j : Nat) t v, Tryd.f3.params[j]? = some t → args[j]? = some v → Value.okWide Tryd.prog W .any base t v)
    (hW : DataW.Whole enc Tryd.prog Tryd.f3.params.toList Rows.fieldParsesSpec.vars false W args.toList ds gs before)
    (hsz : (DataW.weightsEach Tryd.prog (Tryd.f3.params.toList ++ (OpenSpec.ofChange Rows.fieldParsesSpec).bare.plain.varTypes Tryd.prog) (ds ++ gs)).all (· ≤ reachBytes) = true)
    (hL : laidMetH Tryd.prog Rows.fieldParsesRow.laid W) (hsh : W.ShapedOpen Tryd.prog) :
    Calls Tryd.prog 3 args W fun e W' => ∃ v, e = .returned v ∧ Rows.fieldParsesSpec.post enc Tryd.prog Tryd.f3 false true false false W args v W' := by
  have hW' := hW
  obtain ⟨p, q, hA0, hV, rfl, hfz, hnd⟩ := hW
  have hA : DataW.TrodAll enc Tryd.prog W 0 (fun _ => true) true Tryd.f3.params.toList args.toList ds p := hA0
  rw [Tryd.params3] at hA hval hsz
  obtain ⟨v0, vs0, d0, ds0, p0, q0, hargs, rfl, rfl, h0, r0⟩ := trodAll_cons hA
  obtain ⟨rfl, rfl, rfl⟩ := trodAll_nil r0
  obtain rfl : args = #[v0] := by cases args; simp_all
  obtain ⟨rfl, rfl⟩ := trodVars_none hV
  have k0 := h0
  have lt0 : ∀ x ∈ p0, x.block < W.heap.size := by obtain ⟨m, hm⟩ := k0; exact DataW.trod_lt m _ _ _ hm
  obtain ⟨a0, len0, cap0, rfl⟩ := okWide_slice Tryd.underlying22 (hval 0 22 v0 rfl rfl)
  obtain ⟨l0, e0, row0, cp0, bd0⟩ := open_bytes h0
  have nn0 := open_none k0
  clear hA0
  have s0 : l0.length ≤ 140737488351232 := by
    rcases bd0 with ⟨el, sp, rfl, hl⟩ | ⟨rfl, hl⟩
    · have := sized_slice hsz (j := 0) (t := 22) (e := 5) rfl rfl Tryd.underlying22
      rw [bytes5] at this
      simp only [reachBytes] at this
      omega
    · omega
  subst e0
  refine (walk a0 l0 cap0 row0 s0 cp0 nn0 (open_cap k0) (tabsX_of hL hsh)).mono fun e W' ⟨he, bel⟩ => ?_
  subst he
  exact ⟨_, rfl, _, _, _, [], _, [], hW', trodAll_mk1 (shut_bool Tryd.underlying4 _), trodAll_cons_mk (Below.trod laidOut (by kernel_rfl) (of_decide_eq_true (by kernel_rfl)) k0 bel lt0) trodAll_mk0, rfl, bel.frame _, fun h => by cases h⟩

set_option maxRecDepth 100000 in
theorem laid_met (os : Os) : laidMet Tryd.prog Rows.fieldParsesRow.laid ((laidWorld os).forCall (fun _ _ => 0) ⟨#[], #[.slice none 0 0], []⟩).memory :=
  laidMet_of_run' 8 (by kernel_rfl) (by kernel_rfl)
set_option maxRecDepth 100000 in
theorem reads (os : Os) {H : Type} (enc : TypeId × Value → H) : ∃ places, DataW.whole enc Tryd.prog ((laidWorld os).forCall (fun _ _ => 0) ⟨#[], #[.slice none 0 0], []⟩).memory Tryd.f3.params.toList Rows.fieldParsesSpec.vars false #[Value.slice none 0 0].toList 8 = some ([.nil], [], places) :=
  ⟨[], by kernel_rfl⟩

set_option maxRecDepth 100000 in
theorem lifted (os : Os) (started : os.Started) (H : Type) (enc : TypeId × Value → H) (F : Stop.Interp) :
    ReturnsInHanded {} Tryd.checked os 3 .any ((OpenSpec.ofChange Rows.fieldParsesSpec).preRow enc Tryd.prog Tryd.f3 Rows.fieldParsesRow.domain false Rows.fieldParsesRow.laid) (((OpenSpec.ofChange Rows.fieldParsesSpec).at F).post enc Tryd.prog Tryd.f3 false true false false) := by
  obtain ⟨places, hx⟩ := reads os enc
  refine returnsInHanded_of_row (C := Tryd.checked) (s := OpenSpec.ofChange Rows.fieldParsesSpec) own started (by kernel_rfl) Tryd.func3
    (witness_row_at (enc := enc) (C := Tryd.checked) false (laidWorld os) #[.slice none 0 0] rfl (by kernel_rfl) (by kernel_rfl) (by kernel_rfl)
      (OpenSpec.preRow_of_cond 8 hx (by kernel_rfl) (fun k hk => by cases hk) (by kernel_rfl) (laid_met os))) ?_
  intro W base args ds gs before hval hW _ _ hsz hL hsh _
  exact contract H enc W base args ds gs before hval hW hsz hL hsh

theorem said : Rows.FieldParsesSaid :=
  OpenClaim.holds_of_cond 3 Tryd.f3 rfl rfl rfl rfl rfl rfl rfl ⟨rfl, rfl, rfl, rfl, rfl⟩ rfl rfl rfl rfl rfl (by kernel_rfl) Tryd.func3 (by kernel_rfl)
    (of_decide_eq_true (by kernel_rfl)) (by unfold Func.isWrapper; first | (rw [if_pos (by decide +kernel)]; kernel_rfl) | (rw [if_neg (by decide +kernel)]; exact ⟨rfl, rfl⟩))
    (fun os started H enc _ F => by rw [OpenClaim.pre_eq_preRow]; exact lifted os started H enc F)

/-- No parameter wants a stand-in; the program's own looks are off. -/
theorem plain (f : FuncId) (fn : Func) (hf : Tryd.pinned.checked.prog.funcNamed "posthorn/posthornlaw16.FieldParses" = some f) (hfn : Tryd.pinned.checked.prog.funcs[f]? = some fn) :
    false = Tryd.pinned.checked.prog.looks [] ∧ ∀ (j : Nat) t, fn.params[j]? = some t → Tryd.pinned.checked.prog.wantsStandIn t = false := by
  obtain rfl : f = 3 := Option.some.inj ((show Tryd.prog.funcNamed "posthorn/posthornlaw16.FieldParses" = some 3 by kernel_rfl).symm.trans hf) |>.symm
  obtain rfl : fn = Tryd.f3 := (Option.some.inj (Tryd.func3.symm.trans hfn)).symm
  refine ⟨by kernel_rfl, fun j t ht => ?_⟩
  rw [Tryd.params3] at ht
  have hm : t ∈ [22] := by simpa using Array.mem_of_getElem? ht
  have hall : ([22].all fun u => !Tryd.prog.wantsStandIn u) = true := by kernel_rfl
  exact (show Tryd.prog.wantsStandIn t = false by simpa using List.all_eq_true.1 hall t hm)

/-- The card. -/
theorem card : Rows.FieldParsesCardSaid :=
  Claim7.holds_tied_plain_at .later [] _ _ _ _ said (fun _ h => by cases h) (by kernel_rfl) (fun _ h => by cases h) fieldParses_row_tie rfl ⟨rfl, rfl⟩ (by kernel_rfl) rfl plain (by kernel_rfl)
end Go.Proofs.YtpepjiocjcjeeaaDoor.fieldParses
namespace Go.Proofs.YtpepjiocjcjeeaaDoor
theorem fieldParses_card : Rows.FieldParsesCardSaid := fieldParses.card
#print axioms fieldParses_card
end Go.Proofs.YtpepjiocjcjeeaaDoor
