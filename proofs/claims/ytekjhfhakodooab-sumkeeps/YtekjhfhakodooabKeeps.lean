/-
  R3, R2: what is handed in stays, with the room behind it, and is not kept; proved with no condition on the input.
-/
import Derived.Test.YtekjhfhakodooabKeepSt
import Derived.Test.YtekjhfhakodooabOpenn
import Derived.Test.YtekjhfhakodooabRows
import Derived.ProofKit
import Derived.OpenShut
import Derived.ChangeOld
import Derived.SizedLaws
namespace Go.Proofs.Ytekjhfhakodooab.sumKeeps
open Go.ChangeShapes Go.WideShapes Go.ChangeAt Go.RowKit

set_option maxRecDepth 100000 in
set_option maxHeartbeats 1000000 in
theorem walkE (a : Option Addr) (b : List UInt8) (ca : Nat) {w : World} (ha : Bts a b w) (sa : b.length ≤ 140737488351232) (na : a = none → ca = 0)
    (c : Option Addr) (o : List UInt8) (cc : Nat) (hc : Bts c o w) (from' : BitVec 32) (h0 : b.length = 0) :
    Calls Try.prog 5 #[.slice a b.length ca, .slice c o.length cc, .int .u32 from'.toNat] w fun e w' => e = .returned (.bool true) ∧ Below w.heap.size w w' := by
  have H0 : Hid (b.length = 0) := h0
  clear h0
  have HA : Hid (Bts a b w) := ha
  have HC : Hid (Bts c o w) := hc
  have HN : Hid (a = none → ca = 0) := na
  have MB : Hid (b.length ≤ maxLen) := by show _ ≤ _; unfold maxLen; omega
  have MR : Hid (b.length + 80 ≤ maxLen) := by show _ ≤ _; unfold maxLen; omega
  clear ha hc na
  go_enter Try.func5, Try.ntmps5
  go_wp2_with fail
  refine (roomy_len a b b.length ca w HA.out rfl sa HN.out).mono ?_
  rintro e w1 ⟨g, cp, rfl, hcp, ho1, hb1⟩
  have i1 : (b.length : Int) ≤ (cp : Int) := by omega
  have i2 : (0 : Int) ≤ (b.length : Int) := by omega
  have HO1 : Hid (OwnB w1 w.heap.size g (b.length + 80) cp (room b)) := ho1
  have HB1 : Hid (Below w.heap.size w w1) := hb1
  clear ho1 hb1
  go_wp2_with fail
  refine (new_any _).mono ?_
  rintro e w2 ⟨rfl, hw2⟩
  have HB2 : Hid (Below w.heap.size w w2) := by rw [hw2]; exact HB1.out.alloc HB1.out.size _
  have HO2 : Hid (OwnB w2 w.heap.size g (b.length + 80) cp (room b)) := by rw [hw2]; exact HO1.out.below ((Below.refl _ _).alloc (Nat.le_refl _) _)
  have HS2 : Hid (Lies w2 w1.heap.size (strm true 0#32 0) 42) := by rw [hw2]; exact Lies.new _ _ _
  have NE : Hid (g ≠ w1.heap.size) := by have := HO1.out.lt; show _ ≠ _; omega
  have GS : Hid (w.heap.size ≤ w1.heap.size) := HB1.out.size
  clear hw2 HO1 HB1
  generalize w1.heap.size = gs at HS2 NE GS ⊢
  go_wp2_with fail
  refine (of_len (some ⟨g, 0, none⟩) b b.length cp w2 (bts_pre HO2.out) rfl MB.out).mono ?_
  rintro e w3 ⟨rfl, hw⟩
  rw [hw]
  clear hw
  go_wp2_with fail
  refine (rof_len a b b.length ca w2 (HA.out.below HB2.out) rfl MB.out).mono ?_
  rintro e w3 ⟨rfl, hw⟩
  rw [hw]
  clear hw
  go_wp2_with fail
  refine (more_len from' (some ⟨g, 0, none⟩) b b.length cp w2 (bts_pre HO2.out) rfl MB.out).mono ?_
  rintro e w3 ⟨rfl, hw⟩
  rw [hw]
  clear hw
  go_wp2_with fail
  refine (rmore_len from' a b b.length ca w2 (HA.out.below HB2.out) rfl MB.out).mono ?_
  rintro e w3 ⟨rfl, hw⟩
  rw [hw]
  clear hw
  go_wp2_with fail
  refine (write_len gs 0#32 0 (some ⟨g, 0, none⟩) b b.length cp w2 HS2.out (bts_pre HO2.out) rfl MB.out (by omega) (by omega)).mono ?_
  rintro e w3 ⟨rfl, hs3, hbut⟩
  have HS3 : Hid (Lies w3 gs (strm true (more 0#32 b) b.length) 42) := by rw [Int.zero_add] at hs3; exact hs3
  have HO3 : Hid (OwnB w3 w.heap.size g (b.length + 80) cp (room b)) := HO2.out.but hbut NE.out
  have HB3 : Hid (Below w.heap.size w w3) := HB2.out.trans (hbut.below GS.out HB2.out.size)
  clear hs3 hbut HS2 HO2 HB2
  go_wp2_with fail
  refine (roomy_len a b b.length ca w3 (HA.out.below HB3.out) rfl sa HN.out).mono ?_
  rintro e w4 ⟨g2, cp2, rfl, _, ho4, hb4⟩
  have HR4 : Hid (Bts (some ⟨g2, 0, none⟩) (room b) w4) := ho4.bts
  have HS4 : Hid (Lies w4 gs (strm true (more 0#32 b) b.length) 42) := HS3.out.below hb4 HS3.out.lt
  have HO4 : Hid (OwnB w4 w.heap.size g (b.length + 80) cp (room b)) := HO3.out.below hb4
  have HB4 : Hid (Below w.heap.size w w4) := HB3.out.trans (hb4.mono HB3.out.size)
  clear ho4 hb4 HS3 HO3 HB3
  go_wp2_with fail
  refine (equal_len (some ⟨g, 0, none⟩) (some ⟨g2, 0, none⟩) (room b) (b.length + 80) cp cp2 w4 HO4.out.bts HR4.out (room_length b) MR.out).mono ?_
  rintro e w5 ⟨rfl, hb5⟩
  have HS5 : Hid (Lies w5 gs (strm true (more 0#32 b) b.length) 42) := HS4.out.below hb5 HS4.out.lt
  have HO5 : Hid (OwnB w5 w.heap.size g (b.length + 80) cp (room b)) := HO4.out.below hb5
  have HB5 : Hid (Below w.heap.size w w5) := HB4.out.trans (hb5.mono HB4.out.size)
  clear hb5 HS4 HO4 HB4 HR4
  go_wp2_with fail
  refine (clone_any a b ca w5 (HA.out.below HB5.out) (by omega) HN.out).mono ?_
  rintro e w6 ⟨v3, rfl, ho6, hb6⟩
  have HS6 : Hid (Lies w6 gs (strm true (more 0#32 b) b.length) 42) := HS5.out.below hb6 HS5.out.lt
  have HO6 : Hid (OwnB w6 w.heap.size g (b.length + 80) cp (room b)) := HO5.out.below hb6
  have HB6 : Hid (Below w.heap.size w w6) := HB5.out.trans (hb6.mono HB5.out.size)
  have G5 : Hid (g < w5.heap.size ∧ gs < w5.heap.size) := ⟨HO5.out.lt, HS5.out.lt⟩
  clear hb6 HS5 HO5
  obtain ⟨an, cn, rfl, hz, hbn, hfar⟩ := own_slice ho6
  have ZN : Hid (an = none → cn = 0) := hz
  have NS : Hid (∀ ad, an = some ad → ad.block ≠ gs) := fun ad e => by have := (hfar ad e).1; have := G5.out.2; omega
  obtain ⟨nl, hnl⟩ : ∃ nl, nl = b := ⟨_, rfl⟩
  have BN7 : Hid (Bts an nl w6) := by rw [hnl]; exact hbn
  have HO7 : Hid (OwnB w6 w.heap.size g (b.length + 80) cp (room nl)) := by rw [hnl]; exact HO6.out
  have NL : Hid (nl.length = b.length) := by show _ = _; rw [hnl]
  have HS7 := HS6
  have HB7 := HB6
  clear ho6 hz hbn hfar HB5 G5 hnl HO6 HS6 HB6
  go_wp2_with (refine wpList_copy_nothing rfl _ _ 22 22 rfl 5 Try.underlying22 (by kernel_rfl) _ _ _ _ _ _ rfl rfl (by rw [H0.out]; exact Nat.min_zero _) ?_)
  · exfalso
    have := H0.out
    omega
  · exfalso
    have := H0.out
    omega
  obtain ⟨w7, hw7⟩ : ∃ w7, w7 = w6 := ⟨_, rfl⟩
  rw [← hw7]
  rw [← hw7] at BN7 HO7 HS7 HB7
  clear hw7
  refine (sum_any gs (more 0#32 b) b.length w7 HS7.out).mono ?_
  rintro e w8 ⟨rfl, hw⟩
  rw [hw]
  clear hw
  go_wp2_with fail
  refine (rof_len a b b.length ca w7 (HA.out.below HB7.out) rfl MB.out).mono ?_
  rintro e w8 ⟨rfl, hw⟩
  rw [hw]
  clear hw
  go_wp2_with fail
  refine (of_len (some ⟨g, 0, none⟩) nl b.length cp w7 (bts_pre HO7.out) NL.out MB.out).mono ?_
  rintro e w8 ⟨rfl, hw⟩
  rw [hw]
  clear hw
  go_wp2_with fail
  refine (rof_len _ nl b.length cn w7 BN7.out NL.out MB.out).mono ?_
  rintro e w8 ⟨rfl, hw⟩
  rw [hw]
  clear hw
  go_wp2_with fail
  refine (more_len from' (some ⟨g, 0, none⟩) nl b.length cp w7 (bts_pre HO7.out) NL.out MB.out).mono ?_
  rintro e w8 ⟨rfl, hw⟩
  rw [hw]
  clear hw
  go_wp2_with fail
  refine (rmore_len from' _ nl b.length cn w7 BN7.out NL.out MB.out).mono ?_
  rintro e w8 ⟨rfl, hw⟩
  rw [hw]
  clear hw
  go_wp2_with fail
  refine (write_len gs (more 0#32 b) b.length (some ⟨g, 0, none⟩) nl b.length cp w7 HS7.out (bts_pre HO7.out) NL.out MB.out (by omega) (by omega)).mono ?_
  rintro e w8 ⟨rfl, hs8, hbut⟩
  have HS8 : Hid (Lies w8 gs (strm true (more (more 0#32 b) nl) (b.length + b.length)) 42) := hs8
  have HO8 : Hid (OwnB w8 w.heap.size g (b.length + 80) cp (room nl)) := HO7.out.but hbut NE.out
  have HB8 : Hid (Below w.heap.size w w8) := HB7.out.trans (hbut.below GS.out HB7.out.size)
  have BN8 := hbut.bts BN7.out NS.out
  have HN8 : Hid (Bts _ nl w8) := BN8
  clear hs8 hbut HS7 HO7 HB7 BN7 BN8
  go_wp2_with fail
  refine (sum_any gs (more (more 0#32 b) nl) (b.length + b.length) w8 HS8.out).mono ?_
  rintro e w9 ⟨rfl, hw⟩
  rw [hw]
  clear hw
  go_wp2_with fail
  refine (rof_len a b b.length ca w8 (HA.out.below HB8.out) rfl MB.out).mono ?_
  rintro e w9 ⟨rfl, hw⟩
  rw [hw]
  clear hw
  go_wp2_with fail
  refine (rmore_len (more 0#32 b) _ nl b.length cn w8 HN8.out NL.out MB.out).mono ?_
  rintro e w9 ⟨rfl, hw⟩
  rw [hw]
  clear hw
  go_wp2_with fail
  refine (roomy_len _ nl b.length cn w8 HN8.out NL.out sa ZN.out).mono ?_
  rintro e w9 ⟨g3, cp3, rfl, _, ho9, hb9⟩
  have HR9 : Hid (Bts (some ⟨g3, 0, none⟩) (room nl) w9) := ho9.bts
  have HO9 : Hid (Bts (some ⟨g, 0, none⟩) (room nl) w9) := (HO8.out.below hb9).bts
  have HB9 : Hid (Below w.heap.size w w9) := HB8.out.trans (hb9.mono HB8.out.size)
  clear ho9 hb9
  go_wp2_with fail
  refine (equal_len (some ⟨g, 0, none⟩) (some ⟨g3, 0, none⟩) (room nl) (b.length + 80) cp cp3 w9 HO9.out HR9.out (by rw [room_length, NL.out]) MR.out).mono ?_
  rintro e w10 ⟨rfl, hb10⟩
  have HB10 : Hid (Below w.heap.size w w10) := HB9.out.trans (hb10.mono HB9.out.size)
  clear hb10
  go_wp2_with fail
  refine (wakes_any _).mono ?_
  rintro e w11 ⟨rfl, hb11⟩
  go_wp2
  go_ret
  exact ⟨rfl, HB10.out.trans (hb11.mono HB10.out.size)⟩

set_option maxRecDepth 100000 in
set_option maxHeartbeats 1000000 in
theorem walkF (a : Option Addr) (b : List UInt8) (ca : Nat) {w : World} (ha : Bts a b w) (sa : b.length ≤ 140737488351232) (na : a = none → ca = 0)
    (c : Option Addr) (o : List UInt8) (cc : Nat) (hc : Bts c o w) (from' : BitVec 32) (h0 : ¬ b.length = 0) (h1 : o.length = 0) :
    Calls Try.prog 5 #[.slice a b.length ca, .slice c o.length cc, .int .u32 from'.toNat] w fun e w' => e = .returned (.bool true) ∧ Below w.heap.size w w' := by
  have H1 : Hid (o.length = 0) := h1
  clear h1
  have HA : Hid (Bts a b w) := ha
  have HC : Hid (Bts c o w) := hc
  have HN : Hid (a = none → ca = 0) := na
  have MB : Hid (b.length ≤ maxLen) := by show _ ≤ _; unfold maxLen; omega
  have MR : Hid (b.length + 80 ≤ maxLen) := by show _ ≤ _; unfold maxLen; omega
  clear ha hc na
  go_enter Try.func5, Try.ntmps5
  go_wp2_with fail
  refine (roomy_len a b b.length ca w HA.out rfl sa HN.out).mono ?_
  rintro e w1 ⟨g, cp, rfl, hcp, ho1, hb1⟩
  have i1 : (b.length : Int) ≤ (cp : Int) := by omega
  have i2 : (0 : Int) ≤ (b.length : Int) := by omega
  have HO1 : Hid (OwnB w1 w.heap.size g (b.length + 80) cp (room b)) := ho1
  have HB1 : Hid (Below w.heap.size w w1) := hb1
  clear ho1 hb1
  go_wp2_with fail
  refine (new_any _).mono ?_
  rintro e w2 ⟨rfl, hw2⟩
  have HB2 : Hid (Below w.heap.size w w2) := by rw [hw2]; exact HB1.out.alloc HB1.out.size _
  have HO2 : Hid (OwnB w2 w.heap.size g (b.length + 80) cp (room b)) := by rw [hw2]; exact HO1.out.below ((Below.refl _ _).alloc (Nat.le_refl _) _)
  have HS2 : Hid (Lies w2 w1.heap.size (strm true 0#32 0) 42) := by rw [hw2]; exact Lies.new _ _ _
  have NE : Hid (g ≠ w1.heap.size) := by have := HO1.out.lt; show _ ≠ _; omega
  have GS : Hid (w.heap.size ≤ w1.heap.size) := HB1.out.size
  clear hw2 HO1 HB1
  generalize w1.heap.size = gs at HS2 NE GS ⊢
  go_wp2_with fail
  refine (of_len (some ⟨g, 0, none⟩) b b.length cp w2 (bts_pre HO2.out) rfl MB.out).mono ?_
  rintro e w3 ⟨rfl, hw⟩
  rw [hw]
  clear hw
  go_wp2_with fail
  refine (rof_len a b b.length ca w2 (HA.out.below HB2.out) rfl MB.out).mono ?_
  rintro e w3 ⟨rfl, hw⟩
  rw [hw]
  clear hw
  go_wp2_with fail
  refine (more_len from' (some ⟨g, 0, none⟩) b b.length cp w2 (bts_pre HO2.out) rfl MB.out).mono ?_
  rintro e w3 ⟨rfl, hw⟩
  rw [hw]
  clear hw
  go_wp2_with fail
  refine (rmore_len from' a b b.length ca w2 (HA.out.below HB2.out) rfl MB.out).mono ?_
  rintro e w3 ⟨rfl, hw⟩
  rw [hw]
  clear hw
  go_wp2_with fail
  refine (write_len gs 0#32 0 (some ⟨g, 0, none⟩) b b.length cp w2 HS2.out (bts_pre HO2.out) rfl MB.out (by omega) (by omega)).mono ?_
  rintro e w3 ⟨rfl, hs3, hbut⟩
  have HS3 : Hid (Lies w3 gs (strm true (more 0#32 b) b.length) 42) := by rw [Int.zero_add] at hs3; exact hs3
  have HO3 : Hid (OwnB w3 w.heap.size g (b.length + 80) cp (room b)) := HO2.out.but hbut NE.out
  have HB3 : Hid (Below w.heap.size w w3) := HB2.out.trans (hbut.below GS.out HB2.out.size)
  clear hs3 hbut HS2 HO2 HB2
  go_wp2_with fail
  refine (roomy_len a b b.length ca w3 (HA.out.below HB3.out) rfl sa HN.out).mono ?_
  rintro e w4 ⟨g2, cp2, rfl, _, ho4, hb4⟩
  have HR4 : Hid (Bts (some ⟨g2, 0, none⟩) (room b) w4) := ho4.bts
  have HS4 : Hid (Lies w4 gs (strm true (more 0#32 b) b.length) 42) := HS3.out.below hb4 HS3.out.lt
  have HO4 : Hid (OwnB w4 w.heap.size g (b.length + 80) cp (room b)) := HO3.out.below hb4
  have HB4 : Hid (Below w.heap.size w w4) := HB3.out.trans (hb4.mono HB3.out.size)
  clear ho4 hb4 HS3 HO3 HB3
  go_wp2_with fail
  refine (equal_len (some ⟨g, 0, none⟩) (some ⟨g2, 0, none⟩) (room b) (b.length + 80) cp cp2 w4 HO4.out.bts HR4.out (room_length b) MR.out).mono ?_
  rintro e w5 ⟨rfl, hb5⟩
  have HS5 : Hid (Lies w5 gs (strm true (more 0#32 b) b.length) 42) := HS4.out.below hb5 HS4.out.lt
  have HO5 : Hid (OwnB w5 w.heap.size g (b.length + 80) cp (room b)) := HO4.out.below hb5
  have HB5 : Hid (Below w.heap.size w w5) := HB4.out.trans (hb5.mono HB4.out.size)
  clear hb5 HS4 HO4 HB4 HR4
  go_wp2_with fail
  refine (clone_any a b ca w5 (HA.out.below HB5.out) (by omega) HN.out).mono ?_
  rintro e w6 ⟨v3, rfl, ho6, hb6⟩
  have HS6 : Hid (Lies w6 gs (strm true (more 0#32 b) b.length) 42) := HS5.out.below hb6 HS5.out.lt
  have HO6 : Hid (OwnB w6 w.heap.size g (b.length + 80) cp (room b)) := HO5.out.below hb6
  have HB6 : Hid (Below w.heap.size w w6) := HB5.out.trans (hb6.mono HB5.out.size)
  have G5 : Hid (g < w5.heap.size ∧ gs < w5.heap.size) := ⟨HO5.out.lt, HS5.out.lt⟩
  clear hb6 HS5 HO5
  obtain ⟨gn, cn, rfl, hcn, hon⟩ := own_new ho6 (by omega)
  have hgn : w5.heap.size ≤ gn := hon.ge
  have n1 : gn ≠ gs := by have := G5.out.2; omega
  have n2 : gn ≠ g := by have := G5.out.1; omega
  have n3 : g ≠ gn := fun e => n2 e.symm
  have n4 : gs ≠ gn := fun e => n1 e.symm
  have lb : 0 < b.length := by omega
  have lr : 0 < (room b).length := by rw [room_length]; omega
  have c1 : w6.cell? ⟨gn, 0, none⟩ = some (.int .u8 (b[0].toNat : Int)) := (World.ownsRow.cellAt hon 0 (by omega)).trans (cellsB_at b 0 lb)
  have f1 : w6.frozen? ⟨gn, 0, none⟩ = false := World.ownsRow.frozenAt hon 0
  have er : (room b)[0] = b[0] := List.getElem_append_left lb
  have c2 : w6.cell? ⟨g, 0, none⟩ = some (.int .u8 (b[0].toNat : Int)) := by
    have := (World.ownsRow.cellAt HO6.out 0 (by omega)).trans (cellsB_at (room b) 0 lr)
    rw [er] at this
    exact this
  have f2 : w6.frozen? ⟨g, 0, none⟩ = false := World.ownsRow.frozenAt HO6.out 0
  obtain ⟨x, hx⟩ : ∃ x, x = b[0] := ⟨_, rfl⟩
  rw [← hx] at c1 c2
  obtain ⟨y, hy⟩ : ∃ y, y = x ^^^ 1 := ⟨_, rfl⟩
  have b1 : bits .xor .u8 (x.toNat : Int) 1 = (y.toNat : Int) := by rw [hy]; exact bits_xor8 x 1
  obtain ⟨nl, hnl⟩ : ∃ nl, nl = b.set 0 y := ⟨_, rfl⟩
  have NL : Hid (nl.length = b.length) := by show _ = _; rw [hnl, List.length_set]
  have RM : Hid ((room b).set 0 y = room nl) := by show _ = _; rw [hnl]; unfold room; rw [List.set_append_left _ _ lb]
  have ZN : Hid ((some ⟨gn, 0, none⟩ : Option Addr) = none → cn = 0) := fun e => by cases e
  have NS : Hid (∀ ad, (some ⟨gn, 0, none⟩ : Option Addr) = some ad → ad.block ≠ gs) := fun ad e => by injection e with e; subst e; exact n1
  have W : Hid (∀ w7, w7 = (w6.setCell ⟨gn, 0, none⟩ (.int .u8 (y.toNat : Int))).setCell ⟨g, 0, none⟩ (.int .u8 (y.toNat : Int)) →
      Bts (some ⟨gn, 0, none⟩) nl w7 ∧ OwnB w7 w.heap.size g (b.length + 80) cp (room nl) ∧ Lies w7 gs (strm true (more 0#32 b) b.length) 42 ∧ Below w.heap.size w w7) := fun w7 e => by
    subst e
    refine ⟨?_, ?_, (HS6.out.set_other n4 _).set_other NE.out.symm _, (HB6.out.setCell (by have := HB5.out.size; show w.heap.size ≤ gn; omega) _).setCell HO6.out.ge _⟩
    · rw [hnl]
      exact ((hon.stored 0 y).of (Below.heap_setCell _ _ _ _ n2)).bts
    · rw [← RM.out]
      exact (HO6.out.of (Below.heap_setCell _ _ _ _ n3)).stored 0 y
  clear ho6 hon hgn n1 n4 lb lr er hx hy hnl G5 HB5 RM
  go_wp2_with (refine wpList_copy_nothing rfl _ _ 22 22 rfl 5 Try.underlying22 (by kernel_rfl) _ _ _ _ _ _ rfl rfl (by rw [H1.out]; exact Nat.zero_min _) ?_)
  rotate_left
  · exfalso
    have hq : ((o.length : Int) == 0) = false := by assumption
    rw [H1.out] at hq
    cases hq
  obtain ⟨w7, hw7⟩ : ∃ w7, w7 = (w6.setCell ⟨gn, 0, none⟩ (.int .u8 (y.toNat : Int))).setCell ⟨g, 0, none⟩ (.int .u8 (y.toNat : Int)) := ⟨_, rfl⟩
  rw [← hw7]
  have BN7 : Hid (Bts (some ⟨gn, 0, none⟩) nl w7) := (W.out w7 hw7).1
  have HO7 : Hid (OwnB w7 w.heap.size g (b.length + 80) cp (room nl)) := (W.out w7 hw7).2.1
  have HS7 : Hid (Lies w7 gs (strm true (more 0#32 b) b.length) 42) := (W.out w7 hw7).2.2.1
  have HB7 : Hid (Below w.heap.size w w7) := (W.out w7 hw7).2.2.2
  clear W hw7 c1 c2 f1 f2 b1 HO6 HS6 HB6
  refine (sum_any gs (more 0#32 b) b.length w7 HS7.out).mono ?_
  rintro e w8 ⟨rfl, hw⟩
  rw [hw]
  clear hw
  go_wp2_with fail
  refine (rof_len a b b.length ca w7 (HA.out.below HB7.out) rfl MB.out).mono ?_
  rintro e w8 ⟨rfl, hw⟩
  rw [hw]
  clear hw
  go_wp2_with fail
  refine (of_len (some ⟨g, 0, none⟩) nl b.length cp w7 (bts_pre HO7.out) NL.out MB.out).mono ?_
  rintro e w8 ⟨rfl, hw⟩
  rw [hw]
  clear hw
  go_wp2_with fail
  refine (rof_len _ nl b.length cn w7 BN7.out NL.out MB.out).mono ?_
  rintro e w8 ⟨rfl, hw⟩
  rw [hw]
  clear hw
  go_wp2_with fail
  refine (more_len from' (some ⟨g, 0, none⟩) nl b.length cp w7 (bts_pre HO7.out) NL.out MB.out).mono ?_
  rintro e w8 ⟨rfl, hw⟩
  rw [hw]
  clear hw
  go_wp2_with fail
  refine (rmore_len from' _ nl b.length cn w7 BN7.out NL.out MB.out).mono ?_
  rintro e w8 ⟨rfl, hw⟩
  rw [hw]
  clear hw
  go_wp2_with fail
  refine (write_len gs (more 0#32 b) b.length (some ⟨g, 0, none⟩) nl b.length cp w7 HS7.out (bts_pre HO7.out) NL.out MB.out (by omega) (by omega)).mono ?_
  rintro e w8 ⟨rfl, hs8, hbut⟩
  have HS8 : Hid (Lies w8 gs (strm true (more (more 0#32 b) nl) (b.length + b.length)) 42) := hs8
  have HO8 : Hid (OwnB w8 w.heap.size g (b.length + 80) cp (room nl)) := HO7.out.but hbut NE.out
  have HB8 : Hid (Below w.heap.size w w8) := HB7.out.trans (hbut.below GS.out HB7.out.size)
  have BN8 := hbut.bts BN7.out NS.out
  have HN8 : Hid (Bts _ nl w8) := BN8
  clear hs8 hbut HS7 HO7 HB7 BN7 BN8
  go_wp2_with fail
  refine (sum_any gs (more (more 0#32 b) nl) (b.length + b.length) w8 HS8.out).mono ?_
  rintro e w9 ⟨rfl, hw⟩
  rw [hw]
  clear hw
  go_wp2_with fail
  refine (rof_len a b b.length ca w8 (HA.out.below HB8.out) rfl MB.out).mono ?_
  rintro e w9 ⟨rfl, hw⟩
  rw [hw]
  clear hw
  go_wp2_with fail
  refine (rmore_len (more 0#32 b) _ nl b.length cn w8 HN8.out NL.out MB.out).mono ?_
  rintro e w9 ⟨rfl, hw⟩
  rw [hw]
  clear hw
  go_wp2_with fail
  refine (roomy_len _ nl b.length cn w8 HN8.out NL.out sa ZN.out).mono ?_
  rintro e w9 ⟨g3, cp3, rfl, _, ho9, hb9⟩
  have HR9 : Hid (Bts (some ⟨g3, 0, none⟩) (room nl) w9) := ho9.bts
  have HO9 : Hid (Bts (some ⟨g, 0, none⟩) (room nl) w9) := (HO8.out.below hb9).bts
  have HB9 : Hid (Below w.heap.size w w9) := HB8.out.trans (hb9.mono HB8.out.size)
  clear ho9 hb9
  go_wp2_with fail
  refine (equal_len (some ⟨g, 0, none⟩) (some ⟨g3, 0, none⟩) (room nl) (b.length + 80) cp cp3 w9 HO9.out HR9.out (by rw [room_length, NL.out]) MR.out).mono ?_
  rintro e w10 ⟨rfl, hb10⟩
  have HB10 : Hid (Below w.heap.size w w10) := HB9.out.trans (hb10.mono HB9.out.size)
  clear hb10
  go_wp2_with fail
  refine (wakes_any _).mono ?_
  rintro e w11 ⟨rfl, hb11⟩
  go_wp2
  go_ret
  exact ⟨rfl, HB10.out.trans (hb11.mono HB10.out.size)⟩

set_option maxRecDepth 100000 in
set_option maxHeartbeats 1000000 in
theorem walkG (a : Option Addr) (b : List UInt8) (ca : Nat) {w : World} (ha : Bts a b w) (sa : b.length ≤ 140737488351232) (na : a = none → ca = 0)
    (c : Option Addr) (o : List UInt8) (cc : Nat) (hc : Bts c o w) (from' : BitVec 32) (h0 : ¬ b.length = 0) (h1 : ¬ o = []) :
    Calls Try.prog 5 #[.slice a b.length ca, .slice c o.length cc, .int .u32 from'.toNat] w fun e w' => e = .returned (.bool true) ∧ Below w.heap.size w w' := by
  have HA : Hid (Bts a b w) := ha
  have HC : Hid (Bts c o w) := hc
  have HN : Hid (a = none → ca = 0) := na
  have MB : Hid (b.length ≤ maxLen) := by show _ ≤ _; unfold maxLen; omega
  have MR : Hid (b.length + 80 ≤ maxLen) := by show _ ≤ _; unfold maxLen; omega
  clear ha hc na
  go_enter Try.func5, Try.ntmps5
  go_wp2_with fail
  refine (roomy_len a b b.length ca w HA.out rfl sa HN.out).mono ?_
  rintro e w1 ⟨g, cp, rfl, hcp, ho1, hb1⟩
  have i1 : (b.length : Int) ≤ (cp : Int) := by omega
  have i2 : (0 : Int) ≤ (b.length : Int) := by omega
  have HO1 : Hid (OwnB w1 w.heap.size g (b.length + 80) cp (room b)) := ho1
  have HB1 : Hid (Below w.heap.size w w1) := hb1
  clear ho1 hb1
  go_wp2_with fail
  refine (new_any _).mono ?_
  rintro e w2 ⟨rfl, hw2⟩
  have HB2 : Hid (Below w.heap.size w w2) := by rw [hw2]; exact HB1.out.alloc HB1.out.size _
  have HO2 : Hid (OwnB w2 w.heap.size g (b.length + 80) cp (room b)) := by rw [hw2]; exact HO1.out.below ((Below.refl _ _).alloc (Nat.le_refl _) _)
  have HS2 : Hid (Lies w2 w1.heap.size (strm true 0#32 0) 42) := by rw [hw2]; exact Lies.new _ _ _
  have NE : Hid (g ≠ w1.heap.size) := by have := HO1.out.lt; show _ ≠ _; omega
  have GS : Hid (w.heap.size ≤ w1.heap.size) := HB1.out.size
  clear hw2 HO1 HB1
  generalize w1.heap.size = gs at HS2 NE GS ⊢
  go_wp2_with fail
  refine (of_len (some ⟨g, 0, none⟩) b b.length cp w2 (bts_pre HO2.out) rfl MB.out).mono ?_
  rintro e w3 ⟨rfl, hw⟩
  rw [hw]
  clear hw
  go_wp2_with fail
  refine (rof_len a b b.length ca w2 (HA.out.below HB2.out) rfl MB.out).mono ?_
  rintro e w3 ⟨rfl, hw⟩
  rw [hw]
  clear hw
  go_wp2_with fail
  refine (more_len from' (some ⟨g, 0, none⟩) b b.length cp w2 (bts_pre HO2.out) rfl MB.out).mono ?_
  rintro e w3 ⟨rfl, hw⟩
  rw [hw]
  clear hw
  go_wp2_with fail
  refine (rmore_len from' a b b.length ca w2 (HA.out.below HB2.out) rfl MB.out).mono ?_
  rintro e w3 ⟨rfl, hw⟩
  rw [hw]
  clear hw
  go_wp2_with fail
  refine (write_len gs 0#32 0 (some ⟨g, 0, none⟩) b b.length cp w2 HS2.out (bts_pre HO2.out) rfl MB.out (by omega) (by omega)).mono ?_
  rintro e w3 ⟨rfl, hs3, hbut⟩
  have HS3 : Hid (Lies w3 gs (strm true (more 0#32 b) b.length) 42) := by rw [Int.zero_add] at hs3; exact hs3
  have HO3 : Hid (OwnB w3 w.heap.size g (b.length + 80) cp (room b)) := HO2.out.but hbut NE.out
  have HB3 : Hid (Below w.heap.size w w3) := HB2.out.trans (hbut.below GS.out HB2.out.size)
  clear hs3 hbut HS2 HO2 HB2
  go_wp2_with fail
  refine (roomy_len a b b.length ca w3 (HA.out.below HB3.out) rfl sa HN.out).mono ?_
  rintro e w4 ⟨g2, cp2, rfl, _, ho4, hb4⟩
  have HR4 : Hid (Bts (some ⟨g2, 0, none⟩) (room b) w4) := ho4.bts
  have HS4 : Hid (Lies w4 gs (strm true (more 0#32 b) b.length) 42) := HS3.out.below hb4 HS3.out.lt
  have HO4 : Hid (OwnB w4 w.heap.size g (b.length + 80) cp (room b)) := HO3.out.below hb4
  have HB4 : Hid (Below w.heap.size w w4) := HB3.out.trans (hb4.mono HB3.out.size)
  clear ho4 hb4 HS3 HO3 HB3
  go_wp2_with fail
  refine (equal_len (some ⟨g, 0, none⟩) (some ⟨g2, 0, none⟩) (room b) (b.length + 80) cp cp2 w4 HO4.out.bts HR4.out (room_length b) MR.out).mono ?_
  rintro e w5 ⟨rfl, hb5⟩
  have HS5 : Hid (Lies w5 gs (strm true (more 0#32 b) b.length) 42) := HS4.out.below hb5 HS4.out.lt
  have HO5 : Hid (OwnB w5 w.heap.size g (b.length + 80) cp (room b)) := HO4.out.below hb5
  have HB5 : Hid (Below w.heap.size w w5) := HB4.out.trans (hb5.mono HB4.out.size)
  clear hb5 HS4 HO4 HB4 HR4
  go_wp2_with fail
  refine (clone_any a b ca w5 (HA.out.below HB5.out) (by omega) HN.out).mono ?_
  rintro e w6 ⟨v3, rfl, ho6, hb6⟩
  have HS6 : Hid (Lies w6 gs (strm true (more 0#32 b) b.length) 42) := HS5.out.below hb6 HS5.out.lt
  have HO6 : Hid (OwnB w6 w.heap.size g (b.length + 80) cp (room b)) := HO5.out.below hb6
  have HB6 : Hid (Below w.heap.size w w6) := HB5.out.trans (hb6.mono HB5.out.size)
  have G5 : Hid (g < w5.heap.size ∧ gs < w5.heap.size) := ⟨HO5.out.lt, HS5.out.lt⟩
  clear hb6 HS5 HO5
  obtain ⟨gn, cn, rfl, hcn, hon⟩ := own_new ho6 (by omega)
  have hgn : w5.heap.size ≤ gn := hon.ge
  have n1 : gn ≠ gs := by have := G5.out.2; omega
  have n2 : gn ≠ g := by have := G5.out.1; omega
  have n3 : g ≠ gn := fun e => n2 e.symm
  have n4 : gs ≠ gn := fun e => n1 e.symm
  obtain ⟨ad, rfl⟩ : ∃ ad, c = some ad := by
    rcases HC.out with h | ⟨g', o', e, _⟩
    · rw [h] at h1
      exact absurd rfl h1
    · exact ⟨_, e⟩
  obtain ⟨cs, hcs⟩ : ∃ cs, cs = o.take b.length := ⟨_, rfl⟩
  have lcs : cs.length = Nat.min o.length b.length := by rw [hcs, List.length_take]; exact Nat.min_comm _ _
  have lcb : cs.length ≤ b.length := by rw [lcs]; exact Nat.min_le_right _ _
  have BC : Hid (∀ w', Below w.heap.size w w' → Bts (some ad) cs w') := fun w' hb => by rw [hcs]; exact (HC.out.below hb).take _
  obtain ⟨curn, lien, szn, hnn, _⟩ := hon.cells
  obtain ⟨cura, liea, sza, hna, _⟩ := HO6.out.cells
  obtain ⟨X, hX⟩ : ∃ X, X = (curn.toList.take 0 ++ (cellsB cs ++ curn.toList.drop (0 + (cellsB cs).length))).toArray := ⟨_, rfl⟩
  obtain ⟨Y, hY⟩ : ∃ Y, Y = (cura.toList.take 0 ++ (cellsB cs ++ cura.toList.drop (0 + (cellsB cs).length))).toArray := ⟨_, rfl⟩
  have liea2 : Lies (w6.setRow gn X) g cura 5 := liea.row_other n3 _
  have HB62 : Below w.heap.size w (w6.setRow gn X) := below_row HB6.out (by have := HB5.out.size; omega) _
  obtain ⟨nl, hnl⟩ : ∃ nl, nl = cs ++ b.drop cs.length := ⟨_, rfl⟩
  have NL : Hid (nl.length = b.length) := by show _ = _; rw [hnl, List.length_append, List.length_drop]; omega
  have RM : Hid (cs ++ (room b).drop cs.length = room nl) := by show _ = _; rw [hnl]; unfold room; rw [List.drop_append_of_le_length lcb, List.append_assoc]
  have ZN : Hid ((some ⟨gn, 0, none⟩ : Option Addr) = none → cn = 0) := fun e => by cases e
  have NS : Hid (∀ ad, (some ⟨gn, 0, none⟩ : Option Addr) = some ad → ad.block ≠ gs) := fun ad e => by injection e with e; subst e; exact n1
  have W : Hid (∀ w7, w7 = (w6.setRow gn X).setRow g Y →
      Bts (some ⟨gn, 0, none⟩) nl w7 ∧ OwnB w7 w.heap.size g (b.length + 80) cp (room nl) ∧ Lies w7 gs (strm true (more 0#32 b) b.length) 42 ∧ Below w.heap.size w w7) := fun w7 e => by
    subst e
    refine ⟨?_, ?_, (HS6.out.row_other n4 _).row_other NE.out.symm _, below_row HB62 HO6.out.ge _⟩
    · have := hon.copied curn lien cs lcb
      rw [← hX] at this
      rw [hnl]
      exact (this.of (setRow_other _ _ _ _ n2)).bts
    · have := (HO6.out.of (setRow_other w6 gn g X n3)).copied cura liea2 cs (by omega)
      rw [← hY] at this
      rw [← RM.out]
      exact this
  have A1 : Hid ((cellsB cs).length = Nat.min o.length b.length) := by show _ = _; rw [cellsB_length]; exact lcs
  have A2 : Hid (∀ j v, (cellsB cs)[j]? = some v → w6.cell? (ad.add j) = some v) := bts_news (BC.out w6 HB6.out)
  have A3 : Hid (∀ j v, (cellsB cs)[j]? = some v → (w6.setRow gn X).cell? (ad.add j) = some v) := bts_news (BC.out _ HB62)
  have A4 : Hid (0 + (cellsB cs).length ≤ curn.size) := by show _ ≤ _; rw [cellsB_length]; omega
  have A5 : Hid (0 + (cellsB cs).length ≤ cura.size) := by show _ ≤ _; rw [cellsB_length]; omega
  have A6 : Hid (Lies w6 gn curn 5) := lien
  have A7 : Hid (Lies (w6.setRow gn X) g cura 5) := liea2
  have HX : Hid (X = (curn.toList.take 0 ++ (cellsB cs ++ curn.toList.drop (0 + (cellsB cs).length))).toArray) := hX
  have HY : Hid (Y = (cura.toList.take 0 ++ (cellsB cs ++ cura.toList.drop (0 + (cellsB cs).length))).toArray) := hY
  have lo' : ((o.length : Int) == 0) = false := by
    rw [beq_eq_false_iff_ne]
    intro e
    apply h1
    exact List.eq_nil_of_length_eq_zero (by omega)
  clear ho6 hon hgn n1 n2 n3 n4 hcs lcs lcb lien szn hnn liea sza hna hX hY liea2 HB62 hnl RM G5 HB5 BC
  go_wp2_with (first
    | (refine wpList_copy_own rfl _ _ 22 22 rfl 5 Try.underlying22 (by kernel_rfl) gn 0 b.length cn ad o.length cc rfl rfl curn 5 A6.out (cellsB cs) A1.out A2.out A4.out (cellsB_one cs) ?_; rw [← HX.out])
    | (refine wpList_copy_own rfl _ _ 22 22 rfl 5 Try.underlying22 (by kernel_rfl) g 0 b.length cp ad o.length cc rfl rfl cura 5 A7.out (cellsB cs) A1.out A3.out A5.out (cellsB_one cs) ?_; rw [← HY.out]))
  obtain ⟨w7, hw7⟩ : ∃ w7, w7 = (w6.setRow gn X).setRow g Y := ⟨_, rfl⟩
  rw [← hw7]
  have BN7 : Hid (Bts (some ⟨gn, 0, none⟩) nl w7) := (W.out w7 hw7).1
  have HO7 : Hid (OwnB w7 w.heap.size g (b.length + 80) cp (room nl)) := (W.out w7 hw7).2.1
  have HS7 : Hid (Lies w7 gs (strm true (more 0#32 b) b.length) 42) := (W.out w7 hw7).2.2.1
  have HB7 : Hid (Below w.heap.size w w7) := (W.out w7 hw7).2.2.2
  clear W hw7 HO6 HS6 HB6 A1 A2 A3 A4 A5 A6 A7 HX HY
  refine (sum_any gs (more 0#32 b) b.length w7 HS7.out).mono ?_
  rintro e w8 ⟨rfl, hw⟩
  rw [hw]
  clear hw
  go_wp2_with fail
  refine (rof_len a b b.length ca w7 (HA.out.below HB7.out) rfl MB.out).mono ?_
  rintro e w8 ⟨rfl, hw⟩
  rw [hw]
  clear hw
  go_wp2_with fail
  refine (of_len (some ⟨g, 0, none⟩) nl b.length cp w7 (bts_pre HO7.out) NL.out MB.out).mono ?_
  rintro e w8 ⟨rfl, hw⟩
  rw [hw]
  clear hw
  go_wp2_with fail
  refine (rof_len _ nl b.length cn w7 BN7.out NL.out MB.out).mono ?_
  rintro e w8 ⟨rfl, hw⟩
  rw [hw]
  clear hw
  go_wp2_with fail
  refine (more_len from' (some ⟨g, 0, none⟩) nl b.length cp w7 (bts_pre HO7.out) NL.out MB.out).mono ?_
  rintro e w8 ⟨rfl, hw⟩
  rw [hw]
  clear hw
  go_wp2_with fail
  refine (rmore_len from' _ nl b.length cn w7 BN7.out NL.out MB.out).mono ?_
  rintro e w8 ⟨rfl, hw⟩
  rw [hw]
  clear hw
  go_wp2_with fail
  refine (write_len gs (more 0#32 b) b.length (some ⟨g, 0, none⟩) nl b.length cp w7 HS7.out (bts_pre HO7.out) NL.out MB.out (by omega) (by omega)).mono ?_
  rintro e w8 ⟨rfl, hs8, hbut⟩
  have HS8 : Hid (Lies w8 gs (strm true (more (more 0#32 b) nl) (b.length + b.length)) 42) := hs8
  have HO8 : Hid (OwnB w8 w.heap.size g (b.length + 80) cp (room nl)) := HO7.out.but hbut NE.out
  have HB8 : Hid (Below w.heap.size w w8) := HB7.out.trans (hbut.below GS.out HB7.out.size)
  have BN8 := hbut.bts BN7.out NS.out
  have HN8 : Hid (Bts _ nl w8) := BN8
  clear hs8 hbut HS7 HO7 HB7 BN7 BN8
  go_wp2_with fail
  refine (sum_any gs (more (more 0#32 b) nl) (b.length + b.length) w8 HS8.out).mono ?_
  rintro e w9 ⟨rfl, hw⟩
  rw [hw]
  clear hw
  go_wp2_with fail
  refine (rof_len a b b.length ca w8 (HA.out.below HB8.out) rfl MB.out).mono ?_
  rintro e w9 ⟨rfl, hw⟩
  rw [hw]
  clear hw
  go_wp2_with fail
  refine (rmore_len (more 0#32 b) _ nl b.length cn w8 HN8.out NL.out MB.out).mono ?_
  rintro e w9 ⟨rfl, hw⟩
  rw [hw]
  clear hw
  go_wp2_with fail
  refine (roomy_len _ nl b.length cn w8 HN8.out NL.out sa ZN.out).mono ?_
  rintro e w9 ⟨g3, cp3, rfl, _, ho9, hb9⟩
  have HR9 : Hid (Bts (some ⟨g3, 0, none⟩) (room nl) w9) := ho9.bts
  have HO9 : Hid (Bts (some ⟨g, 0, none⟩) (room nl) w9) := (HO8.out.below hb9).bts
  have HB9 : Hid (Below w.heap.size w w9) := HB8.out.trans (hb9.mono HB8.out.size)
  clear ho9 hb9
  go_wp2_with fail
  refine (equal_len (some ⟨g, 0, none⟩) (some ⟨g3, 0, none⟩) (room nl) (b.length + 80) cp cp3 w9 HO9.out HR9.out (by rw [room_length, NL.out]) MR.out).mono ?_
  rintro e w10 ⟨rfl, hb10⟩
  have HB10 : Hid (Below w.heap.size w w10) := HB9.out.trans (hb10.mono HB9.out.size)
  clear hb10
  go_wp2_with fail
  refine (wakes_any _).mono ?_
  rintro e w11 ⟨rfl, hb11⟩
  go_wp2
  go_ret
  exact ⟨rfl, HB10.out.trans (hb11.mono HB10.out.size)⟩

theorem walk (a : Option Addr) (b : List UInt8) (ca : Nat) {w : World} (ha : Bts a b w) (sa : b.length ≤ 140737488351232) (_ : b.length ≤ ca) (na : a = none → ca = 0)
    (c : Option Addr) (o : List UInt8) (cc : Nat) (hc : Bts c o w) (_ : o.length ≤ 140737488351232) (_ : o.length ≤ cc) (_ : c = none → cc = 0) (from' : BitVec 32) :
    Calls Try.prog 5 #[.slice a b.length ca, .slice c o.length cc, .int .u32 from'.toNat] w fun e w' => e = .returned (.bool true) ∧ Below w.heap.size w w' := by
  by_cases h0 : b.length = 0
  · exact walkE a b ca ha sa na c o cc hc from' h0
  · by_cases h1 : o = []
    · exact walkF a b ca ha sa na c o cc hc from' h0 (by rw [h1]; rfl)
    · exact walkG a b ca ha sa na c o cc hc from' h0 h1
theorem own : ownKnob Try.prog.godebug = none := by kernel_rfl
theorem laidOut : laidOutB Try.prog = true := by kernel_rfl

set_option maxRecDepth 100000 in
theorem lifted (os : Os) (started : os.Started) (H : Type) (enc : TypeId × Value → H) :
    ReturnsInHanded {} Try.checked os 5 .any (Rows.sumKeepsSpec.pre6 enc Try.prog Try.f5 Rows.sumKeepsRow.domain false) (Rows.sumKeepsSpec.post enc Try.prog Try.f5 false true false false) := by
  refine returnsInHanded_of_change_sized (C := Try.checked) own started (by kernel_rfl) Try.func5
    (ChangeSpec.witness6 (enc := enc) (C := Try.checked) false ⟨#[], #[.slice none 0 0, .slice none 0 0, .int .u32 0], []⟩ 8 (by kernel_rfl) (by kernel_rfl) (by kernel_rfl) (by kernel_rfl)) ?_
  intro W base args ds gs before hval0 hW hcnd hsz0 _
  have hval : ∀ (j : Nat) t v, Try.f5.params[j]? = some t → args[j]? = some v → Value.okWide Try.prog W .any base t v := hval0
  have hW' := hW
  obtain ⟨p, q, hA0, hV, rfl, hfz, hnd⟩ := hW
  have hA : DataW.TrodAll enc Try.prog W 0 (fun _ => true) true Try.f5.params.toList args.toList ds p := hA0
  have hsz : (DataW.weightsEach Try.prog (Try.f5.params.toList ++ Rows.sumKeepsSpec.plain.varTypes Try.prog) (ds ++ gs)).all (· ≤ reachBytes) = true := hsz0
  rw [Try.params5] at hA hval hsz
  obtain ⟨v0, vs0, d0, ds0, p0, q0, hargs, rfl, rfl, h0, r0⟩ := trodAll_cons hA
  obtain ⟨v1, vs1, d1, ds1, p1, q1, rfl, rfl, rfl, h1, r1⟩ := trodAll_cons r0
  obtain ⟨v2, vs2, d2, ds2, p2, q2, rfl, rfl, rfl, h2, r2⟩ := trodAll_cons r1
  obtain ⟨rfl, rfl, rfl⟩ := trodAll_nil r2
  obtain rfl : args = #[v0, v1, v2] := by cases args; simp_all
  obtain ⟨rfl, rfl⟩ := trodVars_none hV
  obtain ⟨a0, len0, cap0, rfl⟩ := okWide_slice Try.underlying22 (hval 0 22 v0 rfl rfl)
  have k0 := h0
  have lt0 : ∀ x ∈ p0, x.block < W.heap.size := by obtain ⟨m, hm⟩ := k0; exact DataW.trod_lt m _ _ _ hm
  obtain ⟨l0, e0, row0, cp0, bd0⟩ := open_bytes h0
  have nn0 := open_none k0
  obtain ⟨a1, len1, cap1, rfl⟩ := okWide_slice Try.underlying22 (hval 1 22 v1 rfl rfl)
  have k1 := h1
  have lt1 : ∀ x ∈ p1, x.block < W.heap.size := by obtain ⟨m, hm⟩ := k1; exact DataW.trod_lt m _ _ _ hm
  obtain ⟨l1, e1, row1, cp1, bd1⟩ := open_bytes h1
  have nn1 := open_none k1
  obtain ⟨a2, rfl, rfl, rfl, w2⟩ := open_int Try.underlying23 (hval 2 23 v2 rfl rfl) h2
  obtain ⟨x2, rfl⟩ := u32_of w2
  clear hA0 hval0
  have s0 : l0.length ≤ 140737488351232 := by
    rcases bd0 with ⟨el, sp, rfl, hl⟩ | ⟨rfl, hl⟩
    · have := sized_slice hsz (j := 0) (t := 22) (e := 5) rfl rfl Try.underlying22
      rw [bytes5] at this
      simp only [reachBytes] at this
      omega
    · omega
  subst e0
  have s1 : l1.length ≤ 140737488351232 := by
    rcases bd1 with ⟨el, sp, rfl, hl⟩ | ⟨rfl, hl⟩
    · have := sized_slice hsz (j := 1) (t := 22) (e := 5) rfl rfl Try.underlying22
      rw [bytes5] at this
      simp only [reachBytes] at this
      omega
    · omega
  subst e1
  refine (walk a0 l0 cap0 row0 s0 cp0 nn0 a1 l1 cap1 row1 s1 cp1 nn1 x2).mono fun e W' ⟨he, bel⟩ => ?_
  subst he
  exact ⟨_, rfl, _, _, _, [], _, [], hW', trodAll_mk1 (shut_bool Try.underlying4 _), trodAll_cons_mk (Below.trod laidOut (by kernel_rfl) (of_decide_eq_true (by kernel_rfl)) k0 bel lt0) (trodAll_cons_mk (Below.trod laidOut (by kernel_rfl) (of_decide_eq_true (by kernel_rfl)) k1 bel lt1) (trodAll_cons_mk (shut_int Try.underlying23 w2) trodAll_mk0)), rfl, bel.frame _, fun h => by cases h⟩

theorem over : Rows.sumKeepsRow.holds Try.pinned (OpenSpec.ofChange Rows.sumKeepsSpec) :=
  OpenClaim.holds_of_wide 5 Try.f5 rfl rfl rfl rfl rfl rfl rfl ⟨rfl, rfl, rfl, rfl, rfl⟩ rfl rfl rfl rfl rfl (by kernel_rfl) Try.func5 (by kernel_rfl)
    (of_decide_eq_true (by kernel_rfl)) (by unfold Func.isWrapper; first | (rw [if_pos (by decide +kernel)]; kernel_rfl) | (rw [if_neg (by decide +kernel)]; exact ⟨rfl, rfl⟩))
    (fun os started H enc _ => lifted os started H enc)
end Go.Proofs.Ytekjhfhakodooab.sumKeeps
namespace Go.Proofs.Ytekjhfhakodooab
theorem sumKeeps_said : Rows.SumKeepsSaid := sumKeeps.over
#print axioms sumKeeps_said
end Go.Proofs.Ytekjhfhakodooab
