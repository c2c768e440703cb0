/-
  For all texts the statement ParamAgain returns true.
-/
import Derived.Test.YtjpmfgmoekpcpabGreatDoorAgP
import Derived.Test.YtjpmfgmoekpcpabGreatDoorYp10
import Derived.Test.YtjpmfgmoekpcpabGreatDoorPw10
import Derived.Test.YtjpmfgmoekpcpabGreatDoorShc
import Derived.Test.YtjpmfgmoekpcpabGreatDoorCardW10
import Derived.ProofKit
import Derived.ChangeMaps5
import Derived.OpenShut
import Derived.ShutString
import Derived.ChangeOld
import Derived.SizedLaws
namespace Go.Proofs.YtjpmfgmoekpcpabGreatDoor.paramAgain
open Go.ChangeShapes Go.WideShapes Go.ChangeAt Go.RowKit
open Go.ChangeMaps (open_string shut_string)

theorem same_of (t : List UInt8) (s : ByteArray) (h : upL t = upL s.data.toList) : sameB (tx t) s = true := by
  have e : upS (tx t) = upS s := by
    unfold upS
    rw [tx_list, h]
  unfold sameB
  rw [e]
  simp
set_option maxHeartbeats 16000000 in
set_option maxRecDepth 100000 in
theorem again_ok (s : ByteArray) (hs : s.size ≤ 140737488351232) (wide : Bool) (w : World) (ht : Tw w) (ps : List Pm) (hps : prs wide 16 s.data.toList = .ok ps) :
    Calls Tryz.prog 4 #[.string s, .bool wide] w fun e w' => e = .returned (.bool true) ∧ Below w.heap.size w w' := by
  obtain ⟨h16, ⟨t, htp, htl, htu⟩, hlow⟩ := prs_again 16 _ ps hps
  have hts : (tx t).size = s.size := by rw [tx_size, htl, len_list]
  have hwa : (wrA ps).length ≤ 140737488351232 := by rw [← prtL_is ps t htp, htl, len_list]; exact hs
  have hmm : ∀ p ∈ ps, p.name.length ≤ 140737488351232 ∧ p.val.length ≤ 140737488351232 := fun p hp => by
    obtain ⟨h1, h2⟩ := wrA_part ps p hp
    refine ⟨by omega, ?_⟩
    cases hh : p.has with
    | true => have := h2 hh; omega
    | false => rw [prtL_vals ps t htp p hp hh]; exact Nat.zero_le _
  have hpt : prt ps = .ok t := by unfold prt; rw [if_neg (by omega)]; exact htp
  have HT : Hid (∀ wx, Below w.heap.size w wx → Tw wx) := fun wx hx => ht.below hx
  have HW : Hid (Calls Tryz.prog 8 #[] w fun e w' => e = .returned (.bool true) ∧ Below w.heap.size w w') := wakes_any w ht
  have HP : Hid (∀ wx, Below w.heap.size w wx → Calls Tryz.prog 11 #[.string s, .bool wide] wx fun e w' => ∃ v, e = .returned v ∧ PsA wx.heap.size (.ok ps) v w' ∧ Below wx.heap.size wx w') := fun wx hx => by
    have := pparse_any s wide (by omega) wx (HT.out wx hx).cls (HT.out wx hx).fst
    rw [hps] at this
    exact this
  have HY : Hid (∀ wx, Calls Tryz.prog 14 #[.string s, .bool wide] wx fun e w' => ∃ v, e = .returned v ∧ PsA wx.heap.size (.ok ps) v w' ∧ Below wx.heap.size wx w') := fun wx => by
    have := yparse_any s wide hs wx
    rw [hps] at this
    exact this
  have HR : Hid (∀ a cap wx, Below w.heap.size w wx → Pms a ps wx → Calls Tryz.prog 9 #[.slice a ps.length cap] wx fun e w' => e = .returned (.tuple #[.string (tx t), .int .i64 0]) ∧ Below wx.heap.size wx w') := fun a cap wx hx ha => by
    have := pprint_big a cap ps wx ha (by omega) hwa hmm (HT.out wx hx).cls (HT.out wx hx).fst
    rw [hpt] at this
    exact this
  have HQ : Hid (∀ wx, Below w.heap.size w wx → Calls Tryz.prog 11 #[.string (tx t), .bool wide] wx fun e w' => ∃ v, e = .returned v ∧ PsA wx.heap.size (.ok ps) v w' ∧ Below wx.heap.size wx w') := fun wx hx => by
    have := pparse_any (tx t) wide (by omega) wx (HT.out wx hx).cls (HT.out wx hx).fst
    rw [tx_list, prs_prt ps 16 t h16 htp hlow] at this
    exact this
  have HS : Hid (∀ wx, Calls Tryz.prog 15 #[.string (tx t), .string s] wx fun e w' => e = .returned (.bool true) ∧ Below wx.heap.size wx w') := fun wx => by
    have := same_any (tx t) s wx (by unfold maxLen; omega) (by unfold maxLen; omega)
    rw [same_of t s htu] at this
    exact this
  have HSM : Hid (∀ a b ca cb wx, Pms a ps wx → Pms b ps wx → Calls Tryz.prog 13 #[.slice b ps.length cb, .slice a ps.length ca] wx fun e w' => e = .returned (.bool true) ∧ Below wx.heap.size wx w') := fun a b ca cb wx ha hb => lsame_eq b a cb ca ps wx hb ha (by omega)
  have hn16 : ((ps.length : Int) ≤ 16) := by omega
  have hn : ps.length ≤ 16 := h16
  generalize tx t = T at HR HQ HS hts
  clear hps htp htl htu hlow hwa hmm hpt ht h16
  go_enter Tryz.func4, Tryz.ntmps4
  go_wp2_with fail
  refine HW.out.mono ?_
  rintro e w1 ⟨rfl, hb1⟩
  have HB1 : Hid (Below w.heap.size w w1) := hb1
  clear hb1 HW
  go_wp2_with fail
  refine (HP.out w1 HB1.out).mono ?_
  rintro e w2 ⟨v, rfl, ⟨sl, rfl, hown⟩, hb2⟩
  obtain ⟨a, ca, rfl, hpm⟩ := own_pms hown
  have HB2 : Hid (Below w.heap.size w w2) := HB1.out.trans (hb2.mono HB1.out.size)
  have HA2 : Hid (Pms a ps w2) := hpm
  clear hb2 hpm hown HB1 HP
  go_wp2_with fail
  refine (HY.out _).mono ?_
  rintro e w3 ⟨v, rfl, ⟨sl, rfl, hown⟩, hb3⟩
  obtain ⟨b, cb, rfl, _⟩ := own_pms hown
  have L3 : Lies w3 w2.heap.size #[.int .i64 0, .int .i64 0] 28 := (Lies.new w2 _ _).below hb3 (Lies.new w2 _ _).lt
  have HL3 : Hid (Lies w3 w2.heap.size #[.int .i64 0, .int .i64 0] 28) := L3
  have HA3 : Hid (Pms a ps w3) := (HA2.out.below ((Below.refl _ _).alloc (Nat.le_refl _) _)).below hb3
  have HB3 : Hid (Below w.heap.size w w3) := (HB2.out.alloc HB2.out.size _).trans (hb3.mono (by simp; have := HB2.out.size; omega))
  have q0 : w3.cell? ⟨w2.heap.size, 0, none⟩ = some (.int .i64 0) := L3.cell 0
  have q1 : w3.cell? ⟨w2.heap.size, 1, none⟩ = some (.int .i64 0) := L3.cell 1
  have hz3 := L3.lt
  clear L3 hown hb3 HA2 HB2 HY
  go_wp2_with fail
  have HB4 : Hid (Below w.heap.size w (w3.alloc (.cells #[.int .i64 0, .int .i64 0] 28))) := HB3.out.alloc HB3.out.size _
  have HA4 : Hid (Pms a ps (w3.alloc (.cells #[.int .i64 0, .int .i64 0] 28))) := HA3.out.below ((Below.refl _ _).alloc (Nat.le_refl _) _)
  refine (HR.out a ca _ HB4.out HA4.out).mono ?_
  rintro e w5 ⟨rfl, hb5⟩
  have HL5 : Hid (Lies w5 w2.heap.size #[.int .i64 0, .int .i64 0] 28) := (HL3.out.alloc _).below hb5 (HL3.out.alloc _).lt
  have HA5 : Hid (Pms a ps w5) := HA4.out.below hb5
  have HB5 : Hid (Below w.heap.size w w5) := HB4.out.trans (hb5.mono HB4.out.size)
  clear hb5 HB4 HA4 HA3 HB3 HL3 q0 q1 hz3 HR
  go_wp2_with fail
  refine (HQ.out w5 HB5.out).mono ?_
  rintro e w6 ⟨v, rfl, ⟨sl, rfl, hown⟩, hb6⟩
  obtain ⟨c, cc, rfl, hpm⟩ := own_pms hown
  have L6 : Lies w6 w2.heap.size #[.int .i64 0, .int .i64 0] 28 := HL5.out.below hb6 HL5.out.lt
  have HL6 : Hid (Lies w6 w2.heap.size #[.int .i64 0, .int .i64 0] 28) := L6
  have HA6 : Hid (Pms a ps w6) := HA5.out.below hb6
  have HC6 : Hid (Pms c ps w6) := hpm
  have HB6 : Hid (Below w.heap.size w w6) := HB5.out.trans (hb6.mono HB5.out.size)
  have q0 : w6.cell? ⟨w2.heap.size, 0, none⟩ = some (.int .i64 0) := L6.cell 0
  have q1 : w6.cell? ⟨w2.heap.size, 1, none⟩ = some (.int .i64 0) := L6.cell 1
  have hz6 := L6.lt
  clear L6 hb6 hown hpm HB5 HA5 HL5 HQ
  go_wp2_with fail
  refine (HS.out _).mono ?_
  rintro e w7 ⟨rfl, hb7⟩
  have L7 : Lies w7 w2.heap.size #[.int .i64 0, .int .i64 0] 28 := (HL6.out.alloc _).below hb7 (HL6.out.alloc _).lt
  have M7 : Lies w7 w6.heap.size #[.int .i64 0, .int .i64 0] 28 := (Lies.new w6 _ _).below hb7 (Lies.new w6 _ _).lt
  have HA7 : Hid (Pms a ps w7) := (HA6.out.below ((Below.refl _ _).alloc (Nat.le_refl _) _)).below hb7
  have HC7 : Hid (Pms c ps w7) := (HC6.out.below ((Below.refl _ _).alloc (Nat.le_refl _) _)).below hb7
  have HB7 : Hid (Below w.heap.size w w7) := (HB6.out.alloc HB6.out.size _).trans (hb7.mono (by simp; have := HB6.out.size; omega))
  have r0 : w7.cell? ⟨w2.heap.size, 0, none⟩ = some (.int .i64 0) := L7.cell 0
  have r1 : w7.cell? ⟨w2.heap.size, 1, none⟩ = some (.int .i64 0) := L7.cell 1
  have m0 : w7.cell? ⟨w6.heap.size, 0, none⟩ = some (.int .i64 0) := M7.cell 0
  have m1 : w7.cell? ⟨w6.heap.size, 1, none⟩ = some (.int .i64 0) := M7.cell 1
  clear L7 M7 hb7 HA6 HC6 HB6 HL6 HS
  go_wp2_with fail
  refine (HSM.out a c ca cc w7 HA7.out HC7.out).mono ?_
  rintro e w8 ⟨rfl, hb8⟩
  have HB8 : Hid (Below w.heap.size w w8) := HB7.out.trans (hb8.mono HB7.out.size)
  clear hb8
  go_wp2_with fail
  go_ret
  exact ⟨rfl, HB8.out⟩

set_option maxHeartbeats 16000000 in
set_option maxRecDepth 100000 in
theorem bad1 (s : ByteArray) (wide : Bool) (w : World) (HW : Hid (Calls Tryz.prog 8 #[] w fun e w' => e = .returned (.bool true) ∧ Below w.heap.size w w')) (q : Nat) (hq : q ≤ s.size) (hs : s.size ≤ 140737488351232)
    (HP : Hid (∀ wx, Below w.heap.size w wx → Calls Tryz.prog 11 #[.string s, .bool wide] wx fun x w' => x = .returned (.tuple #[.slice none 0 0, .agg #[.int .i64 100, .int .i64 (q : Int)]]) ∧ Below wx.heap.size wx w'))
    (HY : Hid (∀ wx, Calls Tryz.prog 14 #[.string s, .bool wide] wx fun x w' => x = .returned (.tuple #[.slice none 0 0, .agg #[.int .i64 100, .int .i64 (q : Int)]]) ∧ Below wx.heap.size wx w'))
    (HL : Hid (∀ wx, Below w.heap.size w wx → Calls Tryz.prog 11 #[.string (⟨#[32, 88]⟩ ++ s), .bool wide] wx fun x w' => ∃ sl, x = .returned (.tuple #[sl, .agg #[.int .i64 100, .int .i64 ((q : Int) + 2)]]) ∧ Below wx.heap.size wx w')) :
    Calls Tryz.prog 4 #[.string s, .bool wide] w fun e w' => e = .returned (.bool true) ∧ Below w.heap.size w w' := by
  have hq1 : ¬ ((q : Int) < 0) := by omega
  have hq2 : ¬ ((s.size : Int) < (q : Int)) := by omega
  go_enter Tryz.func4, Tryz.ntmps4
  go_wp2_with fail
  refine HW.out.mono ?_
  rintro x w1 ⟨rfl, hb1⟩
  have HB1 : Hid (Below w.heap.size w w1) := hb1
  clear hb1 HW
  go_wp2_with fail
  refine (HP.out w1 HB1.out).mono ?_
  rintro x w2 ⟨rfl, hb2⟩
  have HB2 : Hid (Below w.heap.size w w2) := HB1.out.trans (hb2.mono HB1.out.size)
  clear hb2 HB1 HP
  go_wp2_with fail
  refine (HY.out _).mono ?_
  rintro x w3 ⟨rfl, hb3⟩
  have L3 : Lies w3 w2.heap.size #[.int .i64 100, .int .i64 (q : Int)] 28 := (Lies.new w2 _ _).below hb3 (Lies.new w2 _ _).lt
  have HL3 : Hid (Lies w3 w2.heap.size #[.int .i64 100, .int .i64 (q : Int)] 28) := L3
  have HB3 : Hid (Below w.heap.size w w3) := (HB2.out.alloc HB2.out.size _).trans (hb3.mono (by simp; have := HB2.out.size; omega))
  have q0 : w3.cell? ⟨w2.heap.size, 0, none⟩ = some (.int .i64 100) := L3.cell 0
  have q1 : w3.cell? ⟨w2.heap.size, 1, none⟩ = some (.int .i64 (q : Int)) := L3.cell 1
  have hz3 := L3.lt
  clear L3 hb3 HB2 HY
  go_wp2_with fail
  have HB5 : Hid (Below w.heap.size w (w3.alloc (.cells #[.int .i64 100, .int .i64 (q : Int)] 28))) := HB3.out.alloc HB3.out.size _
  refine (HL.out _ HB5.out).mono ?_
  rintro x w4 ⟨sl, rfl, hb4⟩
  have L4 : Lies w4 w2.heap.size #[.int .i64 100, .int .i64 (q : Int)] 28 := (HL3.out.alloc _).below hb4 (HL3.out.alloc _).lt
  have HB4 : Hid (Below w.heap.size w w4) := HB5.out.trans (hb4.mono HB5.out.size)
  have r0 : w4.cell? ⟨w2.heap.size, 0, none⟩ = some (.int .i64 100) := L4.cell 0
  have r1 : w4.cell? ⟨w2.heap.size, 1, none⟩ = some (.int .i64 (q : Int)) := L4.cell 1
  have hz4 := L4.lt
  clear L4 hb4 HB3 HL3 q0 q1 hz3 HL HB5
  go_wp2_with fail
  all_goals go_ret
  all_goals exact ⟨by simp, HB4.out.alloc HB4.out.size _⟩

set_option maxHeartbeats 16000000 in
set_option maxRecDepth 100000 in
theorem bad2 (s : ByteArray) (wide : Bool) (w : World) (HW : Hid (Calls Tryz.prog 8 #[] w fun e w' => e = .returned (.bool true) ∧ Below w.heap.size w w')) (q : Nat) (q2 : Int) (hq : q ≤ s.size) (hs : s.size ≤ 140737488351232)
    (HP : Hid (∀ wx, Below w.heap.size w wx → Calls Tryz.prog 11 #[.string s, .bool wide] wx fun x w' => x = .returned (.tuple #[.slice none 0 0, .agg #[.int .i64 100, .int .i64 (q : Int)]]) ∧ Below wx.heap.size wx w'))
    (HY : Hid (∀ wx, Calls Tryz.prog 14 #[.string s, .bool wide] wx fun x w' => x = .returned (.tuple #[.slice none 0 0, .agg #[.int .i64 100, .int .i64 (q : Int)]]) ∧ Below wx.heap.size wx w'))
    (HL : Hid (∀ wx, Below w.heap.size w wx → Calls Tryz.prog 11 #[.string (⟨#[32, 88]⟩ ++ s), .bool wide] wx fun x w' => ∃ sl, x = .returned (.tuple #[sl, .agg #[.int .i64 4, .int .i64 q2]]) ∧ Below wx.heap.size wx w')) :
    Calls Tryz.prog 4 #[.string s, .bool wide] w fun e w' => e = .returned (.bool true) ∧ Below w.heap.size w w' := by
  have hq1 : ¬ ((q : Int) < 0) := by omega
  have hq2 : ¬ ((s.size : Int) < (q : Int)) := by omega
  go_enter Tryz.func4, Tryz.ntmps4
  go_wp2_with fail
  refine HW.out.mono ?_
  rintro x w1 ⟨rfl, hb1⟩
  have HB1 : Hid (Below w.heap.size w w1) := hb1
  clear hb1 HW
  go_wp2_with fail
  refine (HP.out w1 HB1.out).mono ?_
  rintro x w2 ⟨rfl, hb2⟩
  have HB2 : Hid (Below w.heap.size w w2) := HB1.out.trans (hb2.mono HB1.out.size)
  clear hb2 HB1 HP
  go_wp2_with fail
  refine (HY.out _).mono ?_
  rintro x w3 ⟨rfl, hb3⟩
  have L3 : Lies w3 w2.heap.size #[.int .i64 100, .int .i64 (q : Int)] 28 := (Lies.new w2 _ _).below hb3 (Lies.new w2 _ _).lt
  have HL3 : Hid (Lies w3 w2.heap.size #[.int .i64 100, .int .i64 (q : Int)] 28) := L3
  have HB3 : Hid (Below w.heap.size w w3) := (HB2.out.alloc HB2.out.size _).trans (hb3.mono (by simp; have := HB2.out.size; omega))
  have q0 : w3.cell? ⟨w2.heap.size, 0, none⟩ = some (.int .i64 100) := L3.cell 0
  have q1 : w3.cell? ⟨w2.heap.size, 1, none⟩ = some (.int .i64 (q : Int)) := L3.cell 1
  have hz3 := L3.lt
  clear L3 hb3 HB2 HY
  go_wp2_with fail
  have HB5 : Hid (Below w.heap.size w (w3.alloc (.cells #[.int .i64 100, .int .i64 (q : Int)] 28))) := HB3.out.alloc HB3.out.size _
  refine (HL.out _ HB5.out).mono ?_
  rintro x w4 ⟨sl, rfl, hb4⟩
  have L4 : Lies w4 w2.heap.size #[.int .i64 100, .int .i64 (q : Int)] 28 := (HL3.out.alloc _).below hb4 (HL3.out.alloc _).lt
  have HB4 : Hid (Below w.heap.size w w4) := HB5.out.trans (hb4.mono HB5.out.size)
  have r0 : w4.cell? ⟨w2.heap.size, 0, none⟩ = some (.int .i64 100) := L4.cell 0
  have r1 : w4.cell? ⟨w2.heap.size, 1, none⟩ = some (.int .i64 (q : Int)) := L4.cell 1
  have hz4 := L4.lt
  clear L4 hb4 HB3 HL3 q0 q1 hz3 HL HB5
  go_wp2_with fail
  all_goals go_ret
  all_goals exact ⟨by simp, HB4.out.alloc HB4.out.size _⟩

set_option maxHeartbeats 16000000 in
set_option maxRecDepth 100000 in
theorem bad3 (s : ByteArray) (wide : Bool) (w : World) (HW : Hid (Calls Tryz.prog 8 #[] w fun e w' => e = .returned (.bool true) ∧ Below w.heap.size w w')) (e2 q2 : Int) (hs : s.size ≤ 140737488351232)
    (HP : Hid (∀ wx, Below w.heap.size w wx → Calls Tryz.prog 11 #[.string s, .bool wide] wx fun x w' => x = .returned (.tuple #[.slice none 0 0, .agg #[.int .i64 100, .int .i64 0]]) ∧ Below wx.heap.size wx w'))
    (HY : Hid (∀ wx, Calls Tryz.prog 14 #[.string s, .bool wide] wx fun x w' => x = .returned (.tuple #[.slice none 0 0, .agg #[.int .i64 100, .int .i64 0]]) ∧ Below wx.heap.size wx w'))
    (HL : Hid (∀ wx, Below w.heap.size w wx → Calls Tryz.prog 11 #[.string (⟨#[32, 88]⟩ ++ s), .bool wide] wx fun x w' => ∃ sl, x = .returned (.tuple #[sl, .agg #[.int .i64 e2, .int .i64 q2]]) ∧ Below wx.heap.size wx w')) :
    Calls Tryz.prog 4 #[.string s, .bool wide] w fun e w' => e = .returned (.bool true) ∧ Below w.heap.size w w' := by
  have hq2 : ¬ ((s.size : Int) < 0) := by omega
  go_enter Tryz.func4, Tryz.ntmps4
  go_wp2_with fail
  refine HW.out.mono ?_
  rintro x w1 ⟨rfl, hb1⟩
  have HB1 : Hid (Below w.heap.size w w1) := hb1
  clear hb1 HW
  go_wp2_with fail
  refine (HP.out w1 HB1.out).mono ?_
  rintro x w2 ⟨rfl, hb2⟩
  have HB2 : Hid (Below w.heap.size w w2) := HB1.out.trans (hb2.mono HB1.out.size)
  clear hb2 HB1 HP
  go_wp2_with fail
  refine (HY.out _).mono ?_
  rintro x w3 ⟨rfl, hb3⟩
  have L3 : Lies w3 w2.heap.size #[.int .i64 100, .int .i64 0] 28 := (Lies.new w2 _ _).below hb3 (Lies.new w2 _ _).lt
  have HL3 : Hid (Lies w3 w2.heap.size #[.int .i64 100, .int .i64 0] 28) := L3
  have HB3 : Hid (Below w.heap.size w w3) := (HB2.out.alloc HB2.out.size _).trans (hb3.mono (by simp; have := HB2.out.size; omega))
  have q0 : w3.cell? ⟨w2.heap.size, 0, none⟩ = some (.int .i64 100) := L3.cell 0
  have q1 : w3.cell? ⟨w2.heap.size, 1, none⟩ = some (.int .i64 0) := L3.cell 1
  have hz3 := L3.lt
  clear L3 hb3 HB2 HY
  go_wp2_with fail
  have HB5 : Hid (Below w.heap.size w (w3.alloc (.cells #[.int .i64 100, .int .i64 0] 28))) := HB3.out.alloc HB3.out.size _
  refine (HL.out _ HB5.out).mono ?_
  rintro x w4 ⟨sl, rfl, hb4⟩
  have L4 : Lies w4 w2.heap.size #[.int .i64 100, .int .i64 0] 28 := (HL3.out.alloc _).below hb4 (HL3.out.alloc _).lt
  have HB4 : Hid (Below w.heap.size w w4) := HB5.out.trans (hb4.mono HB5.out.size)
  have r0 : w4.cell? ⟨w2.heap.size, 0, none⟩ = some (.int .i64 100) := L4.cell 0
  have r1 : w4.cell? ⟨w2.heap.size, 1, none⟩ = some (.int .i64 0) := L4.cell 1
  have hz4 := L4.lt
  clear L4 hb4 HB3 HL3 q0 q1 hz3 HL HB5
  go_wp2_with fail
  all_goals go_ret
  all_goals exact ⟨by simp, HB4.out.alloc HB4.out.size _⟩

set_option maxHeartbeats 16000000 in
set_option maxRecDepth 100000 in
theorem bad4 (s : ByteArray) (wide : Bool) (w : World) (HW : Hid (Calls Tryz.prog 8 #[] w fun e w' => e = .returned (.bool true) ∧ Below w.heap.size w w')) (q : Nat) (hq : q ≤ s.size) (hs : s.size ≤ 140737488351232)
    (HP : Hid (∀ wx, Below w.heap.size w wx → Calls Tryz.prog 11 #[.string s, .bool wide] wx fun x w' => x = .returned (.tuple #[.slice none 0 0, .agg #[.int .i64 101, .int .i64 (q : Int)]]) ∧ Below wx.heap.size wx w'))
    (HY : Hid (∀ wx, Calls Tryz.prog 14 #[.string s, .bool wide] wx fun x w' => x = .returned (.tuple #[.slice none 0 0, .agg #[.int .i64 101, .int .i64 (q : Int)]]) ∧ Below wx.heap.size wx w'))
    (HL : Hid (∀ wx, Below w.heap.size w wx → Calls Tryz.prog 11 #[.string (⟨#[32, 88]⟩ ++ s), .bool wide] wx fun x w' => ∃ sl, x = .returned (.tuple #[sl, .agg #[.int .i64 101, .int .i64 ((q : Int) + 2)]]) ∧ Below wx.heap.size wx w')) :
    Calls Tryz.prog 4 #[.string s, .bool wide] w fun e w' => e = .returned (.bool true) ∧ Below w.heap.size w w' := by
  have hq1 : ¬ ((q : Int) < 0) := by omega
  have hq2 : ¬ ((s.size : Int) < (q : Int)) := by omega
  go_enter Tryz.func4, Tryz.ntmps4
  go_wp2_with fail
  refine HW.out.mono ?_
  rintro x w1 ⟨rfl, hb1⟩
  have HB1 : Hid (Below w.heap.size w w1) := hb1
  clear hb1 HW
  go_wp2_with fail
  refine (HP.out w1 HB1.out).mono ?_
  rintro x w2 ⟨rfl, hb2⟩
  have HB2 : Hid (Below w.heap.size w w2) := HB1.out.trans (hb2.mono HB1.out.size)
  clear hb2 HB1 HP
  go_wp2_with fail
  refine (HY.out _).mono ?_
  rintro x w3 ⟨rfl, hb3⟩
  have L3 : Lies w3 w2.heap.size #[.int .i64 101, .int .i64 (q : Int)] 28 := (Lies.new w2 _ _).below hb3 (Lies.new w2 _ _).lt
  have HL3 : Hid (Lies w3 w2.heap.size #[.int .i64 101, .int .i64 (q : Int)] 28) := L3
  have HB3 : Hid (Below w.heap.size w w3) := (HB2.out.alloc HB2.out.size _).trans (hb3.mono (by simp; have := HB2.out.size; omega))
  have q0 : w3.cell? ⟨w2.heap.size, 0, none⟩ = some (.int .i64 101) := L3.cell 0
  have q1 : w3.cell? ⟨w2.heap.size, 1, none⟩ = some (.int .i64 (q : Int)) := L3.cell 1
  have hz3 := L3.lt
  clear L3 hb3 HB2 HY
  go_wp2_with fail
  have HB5 : Hid (Below w.heap.size w (w3.alloc (.cells #[.int .i64 101, .int .i64 (q : Int)] 28))) := HB3.out.alloc HB3.out.size _
  refine (HL.out _ HB5.out).mono ?_
  rintro x w4 ⟨sl, rfl, hb4⟩
  have L4 : Lies w4 w2.heap.size #[.int .i64 101, .int .i64 (q : Int)] 28 := (HL3.out.alloc _).below hb4 (HL3.out.alloc _).lt
  have HB4 : Hid (Below w.heap.size w w4) := HB5.out.trans (hb4.mono HB5.out.size)
  have r0 : w4.cell? ⟨w2.heap.size, 0, none⟩ = some (.int .i64 101) := L4.cell 0
  have r1 : w4.cell? ⟨w2.heap.size, 1, none⟩ = some (.int .i64 (q : Int)) := L4.cell 1
  have hz4 := L4.lt
  clear L4 hb4 HB3 HL3 q0 q1 hz3 HL HB5
  go_wp2_with fail
  all_goals go_ret
  all_goals exact ⟨by simp, HB4.out.alloc HB4.out.size _⟩

set_option maxHeartbeats 16000000 in
set_option maxRecDepth 100000 in
theorem bad5 (s : ByteArray) (wide : Bool) (w : World) (HW : Hid (Calls Tryz.prog 8 #[] w fun e w' => e = .returned (.bool true) ∧ Below w.heap.size w w')) (q : Nat) (q2 : Int) (hq : q ≤ s.size) (hs : s.size ≤ 140737488351232)
    (HP : Hid (∀ wx, Below w.heap.size w wx → Calls Tryz.prog 11 #[.string s, .bool wide] wx fun x w' => x = .returned (.tuple #[.slice none 0 0, .agg #[.int .i64 101, .int .i64 (q : Int)]]) ∧ Below wx.heap.size wx w'))
    (HY : Hid (∀ wx, Calls Tryz.prog 14 #[.string s, .bool wide] wx fun x w' => x = .returned (.tuple #[.slice none 0 0, .agg #[.int .i64 101, .int .i64 (q : Int)]]) ∧ Below wx.heap.size wx w'))
    (HL : Hid (∀ wx, Below w.heap.size w wx → Calls Tryz.prog 11 #[.string (⟨#[32, 88]⟩ ++ s), .bool wide] wx fun x w' => ∃ sl, x = .returned (.tuple #[sl, .agg #[.int .i64 4, .int .i64 q2]]) ∧ Below wx.heap.size wx w')) :
    Calls Tryz.prog 4 #[.string s, .bool wide] w fun e w' => e = .returned (.bool true) ∧ Below w.heap.size w w' := by
  have hq1 : ¬ ((q : Int) < 0) := by omega
  have hq2 : ¬ ((s.size : Int) < (q : Int)) := by omega
  go_enter Tryz.func4, Tryz.ntmps4
  go_wp2_with fail
  refine HW.out.mono ?_
  rintro x w1 ⟨rfl, hb1⟩
  have HB1 : Hid (Below w.heap.size w w1) := hb1
  clear hb1 HW
  go_wp2_with fail
  refine (HP.out w1 HB1.out).mono ?_
  rintro x w2 ⟨rfl, hb2⟩
  have HB2 : Hid (Below w.heap.size w w2) := HB1.out.trans (hb2.mono HB1.out.size)
  clear hb2 HB1 HP
  go_wp2_with fail
  refine (HY.out _).mono ?_
  rintro x w3 ⟨rfl, hb3⟩
  have L3 : Lies w3 w2.heap.size #[.int .i64 101, .int .i64 (q : Int)] 28 := (Lies.new w2 _ _).below hb3 (Lies.new w2 _ _).lt
  have HL3 : Hid (Lies w3 w2.heap.size #[.int .i64 101, .int .i64 (q : Int)] 28) := L3
  have HB3 : Hid (Below w.heap.size w w3) := (HB2.out.alloc HB2.out.size _).trans (hb3.mono (by simp; have := HB2.out.size; omega))
  have q0 : w3.cell? ⟨w2.heap.size, 0, none⟩ = some (.int .i64 101) := L3.cell 0
  have q1 : w3.cell? ⟨w2.heap.size, 1, none⟩ = some (.int .i64 (q : Int)) := L3.cell 1
  have hz3 := L3.lt
  clear L3 hb3 HB2 HY
  go_wp2_with fail
  have HB5 : Hid (Below w.heap.size w (w3.alloc (.cells #[.int .i64 101, .int .i64 (q : Int)] 28))) := HB3.out.alloc HB3.out.size _
  refine (HL.out _ HB5.out).mono ?_
  rintro x w4 ⟨sl, rfl, hb4⟩
  have L4 : Lies w4 w2.heap.size #[.int .i64 101, .int .i64 (q : Int)] 28 := (HL3.out.alloc _).below hb4 (HL3.out.alloc _).lt
  have HB4 : Hid (Below w.heap.size w w4) := HB5.out.trans (hb4.mono HB5.out.size)
  have r0 : w4.cell? ⟨w2.heap.size, 0, none⟩ = some (.int .i64 101) := L4.cell 0
  have r1 : w4.cell? ⟨w2.heap.size, 1, none⟩ = some (.int .i64 (q : Int)) := L4.cell 1
  have hz4 := L4.lt
  clear L4 hb4 HB3 HL3 q0 q1 hz3 HL HB5
  go_wp2_with fail
  all_goals go_ret
  all_goals exact ⟨by simp, HB4.out.alloc HB4.out.size _⟩

set_option maxHeartbeats 16000000 in
set_option maxRecDepth 100000 in
theorem bad6 (s : ByteArray) (wide : Bool) (w : World) (HW : Hid (Calls Tryz.prog 8 #[] w fun e w' => e = .returned (.bool true) ∧ Below w.heap.size w w')) (q : Nat) (e2 q2 : Int) (hq : q ≤ s.size) (hs : s.size ≤ 140737488351232)
    (HP : Hid (∀ wx, Below w.heap.size w wx → Calls Tryz.prog 11 #[.string s, .bool wide] wx fun x w' => x = .returned (.tuple #[.slice none 0 0, .agg #[.int .i64 4, .int .i64 (q : Int)]]) ∧ Below wx.heap.size wx w'))
    (HY : Hid (∀ wx, Calls Tryz.prog 14 #[.string s, .bool wide] wx fun x w' => x = .returned (.tuple #[.slice none 0 0, .agg #[.int .i64 4, .int .i64 (q : Int)]]) ∧ Below wx.heap.size wx w'))
    (HL : Hid (∀ wx, Below w.heap.size w wx → Calls Tryz.prog 11 #[.string (⟨#[32, 88]⟩ ++ s), .bool wide] wx fun x w' => ∃ sl, x = .returned (.tuple #[sl, .agg #[.int .i64 e2, .int .i64 q2]]) ∧ Below wx.heap.size wx w')) :
    Calls Tryz.prog 4 #[.string s, .bool wide] w fun e w' => e = .returned (.bool true) ∧ Below w.heap.size w w' := by
  have hq1 : ¬ ((q : Int) < 0) := by omega
  have hq2 : ¬ ((s.size : Int) < (q : Int)) := by omega
  go_enter Tryz.func4, Tryz.ntmps4
  go_wp2_with fail
  refine HW.out.mono ?_
  rintro x w1 ⟨rfl, hb1⟩
  have HB1 : Hid (Below w.heap.size w w1) := hb1
  clear hb1 HW
  go_wp2_with fail
  refine (HP.out w1 HB1.out).mono ?_
  rintro x w2 ⟨rfl, hb2⟩
  have HB2 : Hid (Below w.heap.size w w2) := HB1.out.trans (hb2.mono HB1.out.size)
  clear hb2 HB1 HP
  go_wp2_with fail
  refine (HY.out _).mono ?_
  rintro x w3 ⟨rfl, hb3⟩
  have L3 : Lies w3 w2.heap.size #[.int .i64 4, .int .i64 (q : Int)] 28 := (Lies.new w2 _ _).below hb3 (Lies.new w2 _ _).lt
  have HL3 : Hid (Lies w3 w2.heap.size #[.int .i64 4, .int .i64 (q : Int)] 28) := L3
  have HB3 : Hid (Below w.heap.size w w3) := (HB2.out.alloc HB2.out.size _).trans (hb3.mono (by simp; have := HB2.out.size; omega))
  have q0 : w3.cell? ⟨w2.heap.size, 0, none⟩ = some (.int .i64 4) := L3.cell 0
  have q1 : w3.cell? ⟨w2.heap.size, 1, none⟩ = some (.int .i64 (q : Int)) := L3.cell 1
  have hz3 := L3.lt
  clear L3 hb3 HB2 HY
  go_wp2_with fail
  have HB5 : Hid (Below w.heap.size w (w3.alloc (.cells #[.int .i64 4, .int .i64 (q : Int)] 28))) := HB3.out.alloc HB3.out.size _
  refine (HL.out _ HB5.out).mono ?_
  rintro x w4 ⟨sl, rfl, hb4⟩
  have L4 : Lies w4 w2.heap.size #[.int .i64 4, .int .i64 (q : Int)] 28 := (HL3.out.alloc _).below hb4 (HL3.out.alloc _).lt
  have HB4 : Hid (Below w.heap.size w w4) := HB5.out.trans (hb4.mono HB5.out.size)
  have r0 : w4.cell? ⟨w2.heap.size, 0, none⟩ = some (.int .i64 4) := L4.cell 0
  have r1 : w4.cell? ⟨w2.heap.size, 1, none⟩ = some (.int .i64 (q : Int)) := L4.cell 1
  have hz4 := L4.lt
  clear L4 hb4 HB3 HL3 q0 q1 hz3 HL HB5
  go_wp2_with fail
  all_goals go_ret
  all_goals exact ⟨by simp, HB4.out.alloc HB4.out.size _⟩

set_option maxHeartbeats 4000000 in
set_option maxRecDepth 100000 in
theorem walk (s : ByteArray) (hs : s.size ≤ 140737488351232) (wide : Bool) (w : World) (ht : Tw w) :
    Calls Tryz.prog 4 #[.string s, .bool wide] w fun e w' => e = .returned (.bool true) ∧ Below w.heap.size w w' := by
  rcases hps : prs wide 16 s.data.toList with ⟨e, q⟩ | ps
  · have HW : Hid (Calls Tryz.prog 8 #[] w fun e w' => e = .returned (.bool true) ∧ Below w.heap.size w w') := wakes_any w ht
    obtain ⟨hq, he⟩ := prs_bad 16 _ e q hps
    rw [len_list] at hq
    have HP : ∀ wx, Below w.heap.size w wx → Calls Tryz.prog 11 #[.string s, .bool wide] wx fun x w' => x = .returned (.tuple #[.slice none 0 0, .agg #[.int .i64 (e : Nat), .int .i64 (q : Nat)]]) ∧ Below wx.heap.size wx w' := fun wx hx => by
      have := pparse_any s wide (by omega) wx (ht.below hx).cls (ht.below hx).fst
      rw [hps] at this
      refine this.mono ?_
      rintro x w' ⟨v, rfl, hv, hb⟩
      exact ⟨congrArg Ending.returned hv, hb⟩
    have HY : ∀ wx, Calls Tryz.prog 14 #[.string s, .bool wide] wx fun x w' => x = .returned (.tuple #[.slice none 0 0, .agg #[.int .i64 (e : Nat), .int .i64 (q : Nat)]]) ∧ Below wx.heap.size wx w' := fun wx => by
      have := yparse_any s wide hs wx
      rw [hps] at this
      refine this.mono ?_
      rintro x w' ⟨v, rfl, hv, hb⟩
      exact ⟨congrArg Ending.returned hv, hb⟩
    have ex : (⟨#[32, 88]⟩ : ByteArray) ++ s = tx (32 :: 88 :: s.data.toList) := by
      have := tx_cat [32, 88] s.data.toList
      rw [tx_back] at this
      exact this
    have HX : ∀ wx, Below w.heap.size w wx → Calls Tryz.prog 11 #[.string (⟨#[32, 88]⟩ ++ s), .bool wide] wx fun x w' => ∃ v, x = .returned v ∧ PsA wx.heap.size (prs wide 16 (32 :: 88 :: s.data.toList)) v w' ∧ Below wx.heap.size wx w' := fun wx hx => by
      have := pparse_any (tx (32 :: 88 :: s.data.toList)) wide (by rw [tx_size]; simp; have := len_list s; simp at this; omega) wx (ht.below hx).cls (ht.below hx).fst
      rw [tx_list] at this
      rw [ex]
      exact this
    have HE : ∀ e2 q2 : Nat, prs wide 16 (32 :: 88 :: s.data.toList) = .error (e2, q2) → ∀ wx, Below w.heap.size w wx → Calls Tryz.prog 11 #[.string (⟨#[32, 88]⟩ ++ s), .bool wide] wx fun x w' => ∃ sl, x = .returned (.tuple #[sl, .agg #[.int .i64 (e2 : Nat), .int .i64 (q2 : Nat)]]) ∧ Below wx.heap.size wx w' := fun e2 q2 h wx hx => by
      have := HX wx hx
      rw [h] at this
      refine this.mono ?_
      rintro x w' ⟨v, rfl, hv, hb⟩
      exact ⟨_, congrArg Ending.returned hv, hb⟩
    have HA : ∃ e2 q2 : Int, ∀ wx, Below w.heap.size w wx → Calls Tryz.prog 11 #[.string (⟨#[32, 88]⟩ ++ s), .bool wide] wx fun x w' => ∃ sl, x = .returned (.tuple #[sl, .agg #[.int .i64 e2, .int .i64 q2]]) ∧ Below wx.heap.size wx w' := by
      rcases hX : prs wide 16 (32 :: 88 :: s.data.toList) with ⟨e2, q2⟩ | qs
      · exact ⟨_, _, HE e2 q2 hX⟩
      · refine ⟨0, 0, fun wx hx => ?_⟩
        have := HX wx hx
        rw [hX] at this
        refine this.mono ?_
        rintro x w' ⟨v, rfl, ⟨sl, hv, _⟩, hb⟩
        exact ⟨sl, congrArg Ending.returned hv, hb⟩
    have HC : prs wide 16 (32 :: 88 :: s.data.toList) = .error (e, q + 2) → ∀ wx, Below w.heap.size w wx → Calls Tryz.prog 11 #[.string (⟨#[32, 88]⟩ ++ s), .bool wide] wx fun x w' => ∃ sl, x = .returned (.tuple #[sl, .agg #[.int .i64 (e : Nat), .int .i64 ((q : Int) + 2)]]) ∧ Below wx.heap.size wx w' := fun h wx hx => HE e (q + 2) h wx hx
    obtain ⟨e2, q2, HA⟩ := HA
    rcases prs_later _ e q hps with ⟨h1, h2⟩ | ⟨q', h⟩ | h
    · subst h1
      subst h2
      exact bad3 s wide w HW e2 q2 hs HP HY HA
    · rcases he with rfl | rfl | rfl
      · exact bad2 s wide w HW q _ hq hs HP HY (HE 4 q' h)
      · exact bad5 s wide w HW q _ hq hs HP HY (HE 4 q' h)
      · exact bad6 s wide w HW q e2 q2 hq hs HP HY HA
    · rcases he with rfl | rfl | rfl
      · exact bad1 s wide w HW q hq hs HP HY (HC h)
      · exact bad4 s wide w HW q hq hs HP HY (HC h)
      · exact bad6 s wide w HW q e2 q2 hq hs HP HY HA
  · exact again_ok s hs wide w ht ps hps

set_option maxRecDepth 100000 in
theorem contract (H : Type) (enc : TypeId × Value → H) (W : World) (base : Nat) (args : Array Value) (ds gs : List (DataW H)) (before : List MemPlace)
    (hval : ∀ (j : Nat) t v, Tryz.f4.params[j]? = some t → args[j]? = some v → Value.okWide Tryz.prog W .any base t v)
    (hW : DataW.Whole enc Tryz.prog Tryz.f4.params.toList Rows.paramAgainSpec.vars false W args.toList ds gs before)
    (hsz : (DataW.weightsEach Tryz.prog (Tryz.f4.params.toList ++ (OpenSpec.ofChange Rows.paramAgainSpec).bare.plain.varTypes Tryz.prog) (ds ++ gs)).all (· ≤ reachBytes) = true)
    (hL : laidMetH Tryz.prog Rows.paramAgainRow.laid W) (hsh : W.ShapedOpen Tryz.prog) :
    Calls Tryz.prog 4 args W fun e W' => ∃ v, e = .returned v ∧ Rows.paramAgainSpec.post enc Tryz.prog Tryz.f4 false true false false W args v W' := by
  have hW' := hW
  obtain ⟨p, q, hA0, hV, rfl, hfz, hnd⟩ := hW
  have hA : DataW.TrodAll enc Tryz.prog W 0 (fun _ => true) true Tryz.f4.params.toList args.toList ds p := hA0
  rw [Tryz.params4] at hA hval hsz
  obtain ⟨v0, vs0, d0, ds0, p0, q0, hargs, rfl, rfl, h0, r0⟩ := trodAll_cons hA
  obtain ⟨v1, vs1, d1, ds1, p1, q1, rfl, rfl, rfl, h1, r1⟩ := trodAll_cons r0
  obtain ⟨rfl, rfl, rfl⟩ := trodAll_nil r1
  obtain rfl : args = #[v0, v1] := by cases args; simp_all
  obtain ⟨rfl, rfl⟩ := trodVars_none hV
  obtain ⟨a0, rfl, rfl, rfl, w0⟩ := open_string Tryz.underlying9 (hval 0 9 v0 rfl rfl) h0
  obtain ⟨a1, rfl, rfl, rfl⟩ := open_bool Tryz.underlying4 (hval 1 4 v1 rfl rfl) h1
  clear hA0
  have s0 := sized_string hsz (j := 0) (t := 9) rfl rfl
  simp only [reachBytes, Array.length_toList] at s0
  simp only [List.append_nil] at hW'
  refine (walk a0 s0 a1 W (tabsW_of hL hsh)).mono fun e W' ⟨he, bel⟩ => ?_
  subst he
  exact ⟨_, rfl, _, _, _, [], [], [], hW', trodAll_mk1 (shut_bool Tryz.underlying4 _), trodAll_cons_mk (shut_string Tryz.underlying9 w0) (trodAll_cons_mk (shut_bool Tryz.underlying4 _) trodAll_mk0), rfl, bel.frame _, fun h => by cases h⟩

set_option maxRecDepth 100000 in
theorem laid_met (os : Os) : laidMet Tryz.prog Rows.paramAgainRow.laid ((laidWorldW os).forCall (fun _ _ => 0) ⟨#[], #[.string ByteArray.empty, .bool false], []⟩).memory :=
  laidMet_of_run' 8 (by kernel_rfl) (by kernel_rfl)
set_option maxRecDepth 100000 in
theorem reads (os : Os) {H : Type} (enc : TypeId × Value → H) : ∃ places, DataW.whole enc Tryz.prog ((laidWorldW os).forCall (fun _ _ => 0) ⟨#[], #[.string ByteArray.empty, .bool false], []⟩).memory Tryz.f4.params.toList Rows.paramAgainSpec.vars false #[Value.string ByteArray.empty, Value.bool false].toList 8 = some ([.lit (.string []), .lit (.bool false)], [], places) :=
  ⟨[], by kernel_rfl⟩

set_option maxRecDepth 100000 in
theorem lifted (os : Os) (started : os.Started) (H : Type) (enc : TypeId × Value → H) (F : Stop.Interp) :
    ReturnsInHanded {} Tryz.checked os 4 .any ((OpenSpec.ofChange Rows.paramAgainSpec).preRow enc Tryz.prog Tryz.f4 Rows.paramAgainRow.domain false Rows.paramAgainRow.laid) (((OpenSpec.ofChange Rows.paramAgainSpec).at F).post enc Tryz.prog Tryz.f4 false true false false) := by
  obtain ⟨places, hx⟩ := reads os enc
  refine returnsInHanded_of_row (C := Tryz.checked) (s := OpenSpec.ofChange Rows.paramAgainSpec) own started (by kernel_rfl) Tryz.func4
    (witness_row_at (enc := enc) (C := Tryz.checked) false (laidWorldW os) #[.string ByteArray.empty, .bool false] rfl (by kernel_rfl) (by kernel_rfl) (by kernel_rfl)
      (OpenSpec.preRow_of_cond 8 hx (by kernel_rfl) (fun k hk => by cases hk) (by kernel_rfl) (laid_met os))) ?_
  intro W base args ds gs before hval hW _ _ hsz hL hsh _
  exact contract H enc W base args ds gs before hval hW hsz hL hsh

theorem said : Rows.ParamAgainSaid :=
  OpenClaim.holds_of_cond 4 Tryz.f4 rfl rfl rfl rfl rfl rfl rfl ⟨rfl, rfl, rfl, rfl, rfl⟩ rfl rfl rfl rfl rfl (by kernel_rfl) Tryz.func4 (by kernel_rfl)
    (of_decide_eq_true (by kernel_rfl)) (by unfold Func.isWrapper; first | (rw [if_pos (by decide +kernel)]; kernel_rfl) | (rw [if_neg (by decide +kernel)]; exact ⟨rfl, rfl⟩))
    (fun os started H enc _ F => by rw [OpenClaim.pre_eq_preRow]; exact lifted os started H enc F)

/-- No parameter wants a stand-in; the program's own looks are off. -/
theorem plain (f : FuncId) (fn : Func) (hf : Tryz.pinned.checked.prog.funcNamed "posthorn/posthornlaw10.ParamAgain" = some f) (hfn : Tryz.pinned.checked.prog.funcs[f]? = some fn) :
    true = Tryz.pinned.checked.prog.looks [] ∧ ∀ (j : Nat) t, fn.params[j]? = some t → Tryz.pinned.checked.prog.wantsStandIn t = false := by
  obtain rfl : f = 4 := Option.some.inj ((show Tryz.prog.funcNamed "posthorn/posthornlaw10.ParamAgain" = some 4 by kernel_rfl).symm.trans hf) |>.symm
  obtain rfl : fn = Tryz.f4 := (Option.some.inj (Tryz.func4.symm.trans hfn)).symm
  refine ⟨by kernel_rfl, fun j t ht => ?_⟩
  rw [Tryz.params4] at ht
  have hm : t ∈ [9, 4] := by simpa using Array.mem_of_getElem? ht
  have hall : ([9, 4].all fun u => !Tryz.prog.wantsStandIn u) = true := by kernel_rfl
  exact (show Tryz.prog.wantsStandIn t = false by simpa using List.all_eq_true.1 hall t hm)

/-- The card. -/
theorem card : Rows.ParamAgainCardSaid :=
  Claim7.holds_tied_plain_at .later [] _ _ _ _ said (fun _ h => by cases h) (by kernel_rfl) (fun _ h => by cases h) paramAgain_row_tie rfl ⟨rfl, rfl⟩ (by kernel_rfl) rfl plain (by kernel_rfl)
end Go.Proofs.YtjpmfgmoekpcpabGreatDoor.paramAgain
namespace Go.Proofs.YtjpmfgmoekpcpabGreatDoor
theorem paramAgain_card : Rows.ParamAgainCardSaid := paramAgain.card
#print axioms paramAgain_card
end Go.Proofs.YtjpmfgmoekpcpabGreatDoor
